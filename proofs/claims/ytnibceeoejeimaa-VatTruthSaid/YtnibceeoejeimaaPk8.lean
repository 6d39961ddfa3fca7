/- Texts of the proofs of this seat, put together: VatShort, VatSpPure, VatSpPut, VatNeeds2, VatNeeds3, VatNeeded, VatNoBetter, VatCloser, VatLeftA, VatWiderP, VatTruthL, VatTruth, VatWordsL, VatTruth2. -/
import Derived.Test.YtnibceeoejeimaaPk7

namespace Go.Vm
variable {P : Program} {N : Nat} {f : Fr} {h : AHeap}
end Go.Vm
namespace Go.Vm.Vat
open Go.Proofs
set_option linter.unusedSimpArgs false
set_option linter.unusedVariables false
set_option maxRecDepth 10000
variable {n : Nat} {h : AHeap}
open Classical in
/-- those below k that are so -/
noncomputable def pickL (p : Nat → Prop) : Nat → List Int
  | 0 => []
  | k + 1 => if p k then pickL p k ++ [(k : Int)] else pickL p k
theorem pick_yes {p : Nat → Prop} {k : Nat} (h : p k) : pickL p (k + 1) = pickL p k ++ [(k : Int)] := by rw [pickL, if_pos h]
theorem pick_no {p : Nat → Prop} {k : Nat} (h : ¬ p k) : pickL p (k + 1) = pickL p k := by rw [pickL, if_neg h]
theorem wrong_pick {Y : MY} {c : Nat → Int} : ∀ k, wrongTo Y c k = pickL (fun j => ¬ RightB Y c j) k
  | 0 => rfl
  | k + 1 => by
    by_cases hR : RightB Y c k
    · rw [wrongTo_yes hR, pick_no (fun e => e hR), wrong_pick k]
    · rw [wrongTo_no hR, pick_yes hR, wrong_pick k]
theorem upTo_pick : ∀ k, upTo k = pickL (fun _ => True) k
  | 0 => rfl
  | k + 1 => by rw [pick_yes trivial, ← upTo_pick k]; unfold upTo; rw [List.range_succ, List.map_append]; rfl
theorem lex_irr {a : Nat → Int} {m : Nat} : ¬ LexLt a a m := fun ⟨j, _, _, h⟩ => by omega
theorem lex_trans {a b c : Nat → Int} {m : Nat} (h1 : LexLt a b m) (h2 : LexLt b c m) : LexLt a c m := by
  obtain ⟨i, i1, i2, i3⟩ := h1
  obtain ⟨j, j1, j2, j3⟩ := h2
  by_cases e : i < j
  · exact ⟨i, i1, fun x hx => by rw [i2 x hx, j2 x (by omega)], by rw [← j2 i e]; exact i3⟩
  · by_cases e2 : i = j
    · subst e2; exact ⟨i, i1, fun x hx => by rw [i2 x hx, j2 x hx], by omega⟩
    · exact ⟨j, j1, fun x hx => by rw [i2 x (by omega), j2 x hx], by rw [i2 j (by omega)]; exact j3⟩
def SL (a b : List Int) : Prop := Shortlex (atL a) a.length (atL b) b.length
theorem sl_irr {a : List Int} : ¬ SL a a := fun h => by
  rcases h with h | h
  · omega
  · exact lex_irr h.2
theorem sl_trans {a b c : List Int} (h1 : SL a b) (h2 : SL b c) : SL a c := by
  unfold SL Shortlex at *
  rcases h1 with h1 | ⟨e1, h1⟩ <;> rcases h2 with h2 | ⟨e2, h2⟩
  · exact .inl (by omega)
  · exact .inl (by omega)
  · exact .inl (by omega)
  · exact .inr ⟨by omega, lex_trans h1 (by rw [e1]; exact h2)⟩
theorem run_leave {Y : MY} : ∀ (L : List (Nat → Int)) (s : List Int),
    ((runL (leaveStep Y) s L).1 = s ∨ SL (runL (leaveStep Y) s L).1 s) ∧ ((runL (leaveStep Y) s L).1 = s ∨ ∃ c, c ∈ L ∧ (runL (leaveStep Y) s L).1 = wrongTo Y c Y.ns) ∧ ∀ c, c ∈ L → ¬ SL (wrongTo Y c Y.ns) (runL (leaveStep Y) s L).1
  | [], s => ⟨.inl rfl, .inl rfl, fun c hc => (List.not_mem_nil hc).elim⟩
  | x :: L, s => by
    by_cases hL : Shortlex (atL (wrongTo Y x Y.ns)) (wrongTo Y x Y.ns).length (atL s) s.length
    · have e : runL (leaveStep Y) s (x :: L) = runL (leaveStep Y) (wrongTo Y x Y.ns) L := by simp only [runL, leaveStep, if_pos hL, if_true]
      rw [e]
      obtain ⟨h1, h2, h3⟩ := run_leave (Y := Y) L (wrongTo Y x Y.ns)
      generalize (runL (leaveStep Y) (wrongTo Y x Y.ns) L).1 = r at h1 h2 h3
      refine ⟨.inr ?_, .inr ?_, fun c hc => ?_⟩
      · rcases h1 with h1 | h1
        · rw [h1]; exact hL
        · exact sl_trans h1 hL
      · rcases h2 with h2 | ⟨c, h2, h4⟩
        · exact ⟨x, List.mem_cons_self, h2⟩
        · exact ⟨c, List.mem_cons_of_mem _ h2, h4⟩
      · rcases List.mem_cons.1 hc with rfl | hc
        · rcases h1 with h1 | h1
          · rw [h1]; exact sl_irr
          · exact fun e => sl_irr (sl_trans h1 e)
        · exact h3 c hc
    · have e : runL (leaveStep Y) s (x :: L) = runL (leaveStep Y) s L := by simp only [runL, leaveStep, if_neg hL, if_true]
      rw [e]
      obtain ⟨h1, h2, h3⟩ := run_leave (Y := Y) L s
      generalize (runL (leaveStep Y) s L).1 = r at h1 h2 h3
      refine ⟨h1, ?_, fun c hc => ?_⟩
      · rcases h2 with h2 | ⟨c, h2, h4⟩
        · exact .inl h2
        · exact .inr ⟨c, List.mem_cons_of_mem _ h2, h4⟩
      · rcases List.mem_cons.1 hc with rfl | hc
        · rcases h1 with h1 | h1
          · rw [h1]; exact hL
          · exact fun e => hL (sl_trans e h1)
        · exact h3 c hc
/-- the smallest set: it is that of some blues, or all; none of any blues is before it -/
theorem leave_is {Y : MY} : (leaveRun Y = pickL (fun _ => True) Y.ns ∨ ∃ c, c ∈ enumB Y.lo Y.hi Y.nf 0 (fun _ => 0) ∧ leaveRun Y = pickL (fun j => ¬ RightB Y c j) Y.ns) ∧
    ∀ c, c ∈ enumB Y.lo Y.hi Y.nf 0 (fun _ => 0) → ¬ SL (pickL (fun j => ¬ RightB Y c j) Y.ns) (leaveRun Y) := by
  obtain ⟨_, h2, h3⟩ := run_leave (Y := Y) (enumB Y.lo Y.hi Y.nf 0 fun _ => 0) (upTo Y.ns)
  change leaveRun Y = upTo Y.ns ∨ ∃ c, c ∈ enumB Y.lo Y.hi Y.nf 0 (fun _ => 0) ∧ leaveRun Y = wrongTo Y c Y.ns at h2
  change ∀ c, c ∈ enumB Y.lo Y.hi Y.nf 0 (fun _ => 0) → ¬ SL (wrongTo Y c Y.ns) (leaveRun Y) at h3
  refine ⟨?_, fun c hc => by rw [← wrong_pick]; exact h3 c hc⟩
  rcases h2 with h2 | ⟨c, h2, h4⟩
  · exact .inl (by rw [h2, upTo_pick])
  · exact .inr ⟨c, h2, by rw [h4, wrong_pick]⟩
end Go.Vm.Vat

namespace Go.Vm.Vat
open Go.Proofs
set_option linter.unusedSimpArgs false
set_option linter.unusedVariables false
set_option maxRecDepth 10000
variable {n : Nat} {h : AHeap}
/-! ### What the best spread is -/
def sumF (x : Nat → Int) : Nat → Nat → Int
  | _, 0 => 0
  | i, d + 1 => x i + sumF x (i + 1) d
theorem sumF_nonneg {x : Nat → Int} : ∀ (d i : Nat), (∀ j, i ≤ j → j < i + d → 0 ≤ x j) → 0 ≤ sumF x i d
  | 0, _, _ => by simp [sumF]
  | d + 1, i, h => by
    simp only [sumF]
    have h1 := h i (by omega) (by omega)
    have h2 := sumF_nonneg d (i + 1) fun j h1 h2 => h j (by omega) (by omega)
    omega
theorem sumF_le {x : Nat → Int} : ∀ (d i k : Nat), (∀ j, i ≤ j → j < i + d → 0 ≤ x j) → i ≤ k → k < i + d → x k ≤ sumF x i d
  | 0, _, _, _, _, _ => by omega
  | d + 1, i, k, h, h1, h2 => by
    simp only [sumF]
    have h3 := sumF_nonneg d (i + 1) fun j h1 h2 => h j (by omega) (by omega)
    by_cases e : k = i
    · subst e; omega
    · have h4 := sumF_le d (i + 1) k (fun j h1 h2 => h j (by omega) (by omega)) (by omega) (by omega)
      have h5 := h i (by omega) (by omega)
      omega
theorem enumS_mem : ∀ (d i r : Nat) (c x : Nat → Int), x ∈ enumS d i r c ↔ ((∀ j, j < i ∨ i + d < j → x j = c j) ∧ (∀ j, i ≤ j → j ≤ i + d → 0 ≤ x j) ∧ sumF x i (d + 1) = (r : Int))
  | 0, i, r, c, x => by
    simp only [enumS, List.mem_singleton, sumF]
    constructor
    · rintro rfl
      refine ⟨fun j hj => ?_, fun j h1 h2 => ?_, ?_⟩
      · have e : ¬ j = i := by omega
        simp [e]
      · have e : j = i := by omega
        simp [e]
      · simp
    · rintro ⟨h1, h2, h3⟩
      funext j
      by_cases e : j = i
      · subst e; simp; omega
      · simp only [e, if_false]; exact h1 j (by omega)
  | d + 1, i, r, c, x => by
    simp only [enumS, List.mem_flatMap, List.mem_range]
    constructor
    · rintro ⟨k, hk, hx⟩
      obtain ⟨h1, h2, h3⟩ := (enumS_mem d (i + 1) (r - k) _ x).1 hx
      have hxi : x i = (k : Int) := by have := h1 i (by omega); simpa using this
      refine ⟨fun j hj => ?_, fun j a1 a2 => ?_, ?_⟩
      · have := h1 j (by omega)
        have e : ¬ j = i := by omega
        simpa [e] using this
      · by_cases e : j = i
        · subst e; omega
        · exact h2 j (by omega) (by omega)
      · simp only [sumF] at h3 ⊢; omega
    · rintro ⟨h1, h2, h3⟩
      have h4 : sumF x i (d + 1 + 1) = x i + sumF x (i + 1) (d + 1) := rfl
      have h5 := h2 i (by omega) (by omega)
      have h6 := sumF_nonneg (x := x) (d + 1) (i + 1) fun j a1 a2 => h2 j (by omega) (by omega)
      refine ⟨(x i).toNat, by omega, (enumS_mem d (i + 1) _ _ x).2 ⟨fun j hj => ?_, fun j a1 a2 => h2 j (by omega) (by omega), by omega⟩⟩
      by_cases e : j = i
      · subst e; simp; omega
      · simp only [e, if_false]; exact h1 j (by omega)
theorem enumS_sorted : ∀ (d i r : Nat) (c : Nat → Int), (enumS d i r c).Pairwise fun a b => LexLt a b (i + d + 1)
  | 0, _, _, _ => by simp [enumS]
  | d + 1, i, r, c => by
    simp only [enumS]
    rw [List.pairwise_flatMap]
    refine ⟨fun k _ => ?_, ?_⟩
    · have := enumS_sorted d (i + 1) (r - k) fun j => if j = i then (k : Int) else c j
      rw [show i + (d + 1) + 1 = i + 1 + d + 1 by omega]
      exact this
    · refine List.Pairwise.imp (R := fun a b : Nat => a < b) (fun {a b} hab x hx y hy => ?_) List.pairwise_lt_range
      obtain ⟨h1, _, _⟩ := (enumS_mem _ _ _ _ _).1 hx
      obtain ⟨h2, _, _⟩ := (enumS_mem _ _ _ _ _).1 hy
      refine ⟨i, by omega, fun j hj => ?_, ?_⟩
      · have e : ¬ j = i := by omega
        rw [h1 j (by omega), h2 j (by omega)]; simp [e]
      · have e1 := h1 i (by omega)
        have e2 := h2 i (by omega)
        simp only [if_true] at e1 e2
        omega
theorem spStep_go {S : Nat → Nat → Int} {nv : Nat} {s : (Nat → Int) × Int} {c : Nat → Int} : (spStep S nv s c).2 = true := rfl
theorem run_sp {S : Nat → Nat → Int} {nv : Nat} : ∀ (L : List (Nat → Int)) (s : (Nat → Int) × Int),
    ((runL (spStep S nv) s L).1 = s ∧ ∀ c, c ∈ L → lowS S nv c ≤ s.2) ∨
      ∃ l1 b l2, L = l1 ++ b :: l2 ∧ (runL (spStep S nv) s L).1 = (b, lowS S nv b) ∧ s.2 < lowS S nv b ∧ (∀ c, c ∈ l1 → lowS S nv c < lowS S nv b) ∧ ∀ c, c ∈ l2 → lowS S nv c ≤ lowS S nv b
  | [], s => .inl ⟨rfl, fun c hc => by simp at hc⟩
  | x :: L, s => by
    have hr : runL (spStep S nv) s (x :: L) = runL (spStep S nv) (spStep S nv s x).1 L := by simp [runL, spStep_go]
    rw [hr]
    by_cases hx : s.2 < lowS S nv x
    · have hs : (spStep S nv s x).1 = (x, lowS S nv x) := by unfold spStep; rw [if_pos hx]
      rw [hs]
      rcases run_sp L (x, lowS S nv x) with ⟨e, hc⟩ | ⟨l1, b, l2, e, e2, h1, h2, h3⟩
      · exact .inr ⟨[], x, L, rfl, e, hx, fun c hc => by simp at hc, hc⟩
      · have h1 : lowS S nv x < lowS S nv b := h1
        refine .inr ⟨x :: l1, b, l2, by rw [e]; rfl, e2, by omega, fun c hc => ?_, h3⟩
        rcases List.mem_cons.1 hc with rfl | hc
        · exact h1
        · exact h2 c hc
    · have hs : (spStep S nv s x).1 = s := by unfold spStep; rw [if_neg hx]
      rw [hs]
      rcases run_sp L s with ⟨e, hc⟩ | ⟨l1, b, l2, e, e2, h1, h2, h3⟩
      · refine .inl ⟨e, fun c hcm => ?_⟩
        rcases List.mem_cons.1 hcm with rfl | hcm
        · omega
        · exact hc c hcm
      · refine .inr ⟨x :: l1, b, l2, by rw [e]; rfl, e2, h1, fun c hc => ?_, h3⟩
        rcases List.mem_cons.1 hc with rfl | hc
        · omega
        · exact h2 c hc
theorem le_lowS {S : Nat → Nat → Int} {nv : Nat} (hv : 0 < nv) {c : Nat → Int} {b : Int} : b ≤ lowS S nv c ↔ ∀ v, v < nv → b ≤ S v (c v).toNat := by
  unfold lowS
  rw [le_minN]
  exact ⟨fun h => h.2, fun h => ⟨h 0 hv, h⟩⟩
/-- a spread of so many bundles -/
def IsPut (nv many : Nat) (c : Nat → Int) : Prop := (∀ j, nv ≤ j → c j = 0) ∧ (∀ j, j < nv → 0 ≤ c j) ∧ sumF c 0 nv = (many : Int)
theorem put_mem {nv many : Nat} (hv : 0 < nv) {c : Nat → Int} : c ∈ enumS (nv - 1) 0 many (fun _ => 0) ↔ IsPut nv many c := by
  rw [enumS_mem, show nv - 1 + 1 = nv by omega]
  exact ⟨fun ⟨a, b, e⟩ => ⟨fun j hj => a j (by omega), fun j hj => b j (by omega) (by omega), e⟩, fun ⟨a, b, e⟩ => ⟨fun j hj => a j (by omega), fun j _ hj => b j (by omega), e⟩⟩
theorem first_put {nv many : Nat} (hv : 0 < nv) : IsPut nv many fun j => if j = 0 then (many : Int) else 0 := by
  have h0 : ∀ d i, 0 < i → sumF (fun j => if j = 0 then (many : Int) else 0) i d = 0 := by
    intro d
    induction d with
    | zero => intro i _; rfl
    | succ d ih => intro i hi; simp only [sumF]; rw [ih (i + 1) (by omega), if_neg (by omega)]; rfl
  refine ⟨fun j hj => ?_, fun j hj => ?_, ?_⟩
  · have e : ¬ j = 0 := by omega
    simp [e]
  · by_cases e : j = 0 <;> simp [e]
  · obtain ⟨k, rfl⟩ : ∃ k, nv = k + 1 := ⟨nv - 1, by omega⟩
    simp only [sumF]; rw [h0 k 1 (by omega)]; simp
/-- what the best spread is: it has the greatest least blue; of several with this one it is the first -/
theorem spRun_is {S : Nat → Nat → Int} {nv many : Nat} (hv : 0 < nv) (hS : ∀ v k, v < nv → k ≤ many → 0 ≤ S v k) :
    IsPut nv many (spRun S nv many).1 ∧ (spRun S nv many).2 = lowS S nv (spRun S nv many).1 ∧ (∀ c, IsPut nv many c → lowS S nv c ≤ (spRun S nv many).2) ∧
      ∀ c, IsPut nv many c → lowS S nv c = (spRun S nv many).2 → ¬ LexLt c (spRun S nv many).1 nv := by
  have hle : ∀ c, IsPut nv many c → ∀ v, v < nv → (c v).toNat ≤ many := fun c hc v hv => by
    have h1 := sumF_le nv 0 v (fun j _ h => hc.2.1 j (by omega)) (by omega) (by omega)
    have h2 := hc.2.2
    omega
  have hpos : ∀ c, IsPut nv many c → 0 ≤ lowS S nv c := fun c hc => (le_lowS hv).2 fun v hvv => hS v _ hvv (hle c hc v hvv)
  have hsort := enumS_sorted (nv - 1) 0 many fun _ => 0
  rw [show 0 + (nv - 1) + 1 = nv by omega] at hsort
  unfold spRun
  rcases run_sp (S := S) (nv := nv) (enumS (nv - 1) 0 many fun _ => 0) ((fun _ => 0), -1) with ⟨_, hc⟩ | ⟨l1, b, l2, e, e2, h1, h2, h3⟩
  · have h1 := hc _ ((put_mem hv).2 (first_put hv))
    have h2 := hpos _ (first_put (many := many) hv)
    have h1 : lowS S nv _ ≤ -1 := h1
    omega
  · rw [e2]
    refine ⟨(put_mem hv).1 (by rw [e]; simp), rfl, fun c hc => ?_, fun c hc heq hlt => ?_⟩
    · have hm := (put_mem hv).2 hc
      rw [e, List.mem_append, List.mem_cons] at hm
      rcases hm with hm | rfl | hm
      · have := h2 c hm; show lowS S nv c ≤ lowS S nv b; omega
      · exact Int.le_refl _
      · exact h3 c hm
    · have heq : lowS S nv c = lowS S nv b := heq
      have hm := (put_mem hv).2 hc
      rw [e, List.mem_append, List.mem_cons] at hm
      rw [e, List.pairwise_append] at hsort
      rcases hm with hm | rfl | hm
      · have := h2 c hm; omega
      · exact lex_irr hlt
      · have := (List.pairwise_cons.1 hsort.2.1).1 c hm
        exact lex_irr (lex_trans this hlt)
/-! ### In a yard -/
theorem sureN_pos {Y : MY} (hf : faultN Y = 0) (he : truths Y ≠ []) {v f k : Nat} (hv : v < Y.nv) (hff : f < Y.nf) : 0 ≤ sureN Y v f k (truths Y) := by
  have hG := good_of hf
  obtain ⟨v1, v2⟩ := hG.v v hv
  obtain ⟨z1, z2, z3⟩ := hG.sz
  rw [le_sureN he]
  intro t ht
  have hrg := truths_range hf ht
  have b1 := (blueN_bound (b := t) (q := Y.q v) (n := Y.nf) (by omega) hrg (fun j hj => v2 j (by omega)) Y.nf (Nat.le_refl _)).1
  have m1 : (0 : Int) ≤ (k : Int) * t f := Int.mul_nonneg (by omega) (hrg f hff).1
  unfold blueWith
  omega
end Go.Vm.Vat

namespace Go.Vm.Vat
open Go.Proofs
set_option linter.unusedSimpArgs false
set_option linter.unusedVariables false
set_option maxRecDepth 10000
variable {n : Nat} {h : AHeap}
/-! ### Words -/
def Words (h : AHeap) (v : Value) (m : Nat) (a : Nat → Nat) : Prop := Cells h v 1 m (fun k _ => .int .u16 (a k : Int)) ∧ ∀ k, k < m → a k < 65536
theorem Words.mono {g : AHeap} {v : Value} {m : Nat} {a : Nat → Nat} (hw : Words h v m a) (hs : Sub All h g) : Words g v m a := ⟨Cells.mono hw.1 hs, hw.2⟩
def run16 (other : AHeap → Option (Value × AHeap)) (a : Value) (h : AHeap) : Option (Value × AHeap) :=
  match a with
  | .int .u16 a => some (.int .i64 (IntKind.wrap .i64 a), h)
  | _ => other h
theorem p_conv16 {N : Nat} {f : Fr} {x : Operand} {ty : TypeId} : plainF Try.prog N (.convert 86 3 x) ty f h = run16 (plainF Try.prog N (.convert 86 3 x) ty f) (valN N f x) h := by
  unfold run16
  split
  · rename_i a e1
    unfold plainF
    have : allB (fun x => plainV (valN N f x)) (Op.convert 86 3 x).operands.toList = true := by simp [Op.operands, allB, e1, plainV, plainE, plainCell]
    rw [this]
    have e : pureRun Try.prog (execOp (valN N f) (bare (.convert 86 3 x) ty)) = some (.value (.int .i64 (IntKind.wrap .i64 a))) := by
      show pureRun Try.prog (convert 86 3 (valN N f x) >>= fun a => pure (Next.value a)) = _
      rw [pureRun_bind, e1]
      have hc : pureRun Try.prog (convert 86 3 (.int .u16 a)) = some (.int .i64 (IntKind.wrap .i64 a)) := by
        unfold convert
        rw [pureRun_bind, pr_under Try.underlying86, Option.bind_some, pureRun_bind, pr_under Try.underlying3]
        rfl
      rw [hc]; rfl
    rw [e]
    rfl
  · rfl
theorem r_16 {other : AHeap → Option (Value × AHeap)} {k : Nat} (hk : k < 65536) : run16 other (.int .u16 (k : Int)) h = some (.int .i64 (k : Int), h) := by
  simp only [run16]
  rw [IntWalk.i64_in _ (by omega)]
end Go.Vm.Vat

namespace Go.Vm.Vat
open Go.Proofs
set_option linter.unusedSimpArgs false
set_option linter.unusedVariables false
set_option maxRecDepth 10000
variable {n : Nat} {h : AHeap}
/-- with so many further bundles the vat surely has the blue -/
def Enough (Y : MY) (v f : Nat) (blue : Int) (L : List (Nat → Int)) (k : Nat) : Prop := ∀ t, t ∈ L → blue ≤ blueWith Y v f k t
/-- the arguments are right -/
def NeedsArgs (Y : MY) (one field blue : Int) : Prop := (0 ≤ one ∧ one ≤ (Y.nv : Int) - 1) ∧ (0 ≤ field ∧ field ≤ (Y.nf : Int) - 1) ∧ 0 ≤ blue ∧ blue ≤ 999
open Classical in
/-- what Needs answers -/
noncomputable def needsV (Y : MY) (one field blue : Int) : Int × Int :=
  if faultN Y ≠ 0 then (0, faultN Y) else if ¬ NeedsArgs Y one field blue then (0, 2) else if truths Y = [] then (0, 11)
  else if 0 ≤ findFrom (Enough Y one.toNat field.toNat blue (truths Y)) 10 0 then (findFrom (Enough Y one.toNat field.toNat blue (truths Y)) 10 0, 0) else (0, 10)
def s46 : SCode := (.seq (.ops [⟨(some 4), none, .box (T 0)⟩, ⟨(some 8), none, .mov (.const (.int .i64 (0)))⟩, ⟨(some 9), none, .mov (.const (.int .i64 (0)))⟩]) (.seq (.ops [⟨(some 14), none, .loadN 3 (T 4)⟩, ⟨(some 15), none, .call (.func 78) [(T 14)]⟩, ⟨(some 13), none, .mov (T 15)⟩, ⟨(some 16), none, .extract 0 (T 13)⟩, ⟨(some 17), none, .extract 1 (T 13)⟩, ⟨(some 10), none, .alloc [(.slice none 0 0), (.slice none 0 0), (.slice none 0 0), (.slice none 0 0)]⟩, ⟨none, none, .store 4 (T 10) (T 16)⟩, ⟨(some 11), none, .mov (T 17)⟩]) (.seq (.block 0 (.seq (.ops [⟨(some 19), none, .mov (T 11)⟩, ⟨(some 20), none, .int2 .neq (T 19) (.const (.int .i64 (0)))⟩, ⟨(some 18), none, .mov (T 20)⟩]) (.cond (T 18) (.seq (.ops [⟨(some 21), none, .mov (T 11)⟩, ⟨(some 8), none, .mov (.const (.int .i64 (0)))⟩, ⟨(some 9), none, .mov (T 21)⟩]) .ret) (.seq (.ops [⟨(some 23), none, .loadN 4 (T 10)⟩, ⟨(some 24), none, .mov (T 1)⟩, ⟨(some 25), none, .call (.func 92) [(T 23), (T 24)]⟩, ⟨(some 26), none, .not (T 25)⟩, ⟨(some 27), none, .mov (T 26)⟩, ⟨(some 28), (some (27, false)), .loadN 4 (T 10)⟩, ⟨(some 29), (some (27, false)), .mov (T 2)⟩, ⟨(some 30), (some (27, false)), .call (.func 98) [(T 28), (T 29)]⟩, ⟨(some 31), (some (27, false)), .not (T 30)⟩, ⟨(some 32), none, .pick (T 27) (.const (.bool true)) (T 31)⟩, ⟨(some 33), none, .mov (T 32)⟩, ⟨(some 34), (some (33, false)), .mov (T 3)⟩, ⟨(some 35), (some (33, false)), .int2 .lss (T 34) (.const (.int .i64 (0)))⟩, ⟨(some 36), none, .pick (T 33) (.const (.bool true)) (T 35)⟩, ⟨(some 37), none, .mov (T 36)⟩, ⟨(some 38), (some (37, false)), .mov (T 3)⟩, ⟨(some 39), (some (37, false)), .int2 .gtr (T 38) (.const (.int .i64 (999)))⟩, ⟨(some 40), none, .pick (T 37) (.const (.bool true)) (T 39)⟩, ⟨(some 22), none, .mov (T 40)⟩]) (.cond (T 22) (.seq (.ops [⟨(some 8), none, .mov (.const (.int .i64 (0)))⟩, ⟨(some 9), none, .mov (.const (.int .i64 (2)))⟩]) .ret) (.seq (.ops [⟨(some 42), none, .fieldAddr 3 (T 10)⟩, ⟨(some 43), none, .load1 (T 42)⟩, ⟨(some 44), none, .len (T 43)⟩, ⟨(some 45), none, .int2 .eql (T 44) (.const (.int .i64 (0)))⟩, ⟨(some 41), none, .mov (T 45)⟩]) (.cond (T 41) (.seq (.ops [⟨(some 8), none, .mov (.const (.int .i64 (0)))⟩, ⟨(some 9), none, .mov (.const (.int .i64 (11)))⟩]) .ret) .skip))))))) (.seq (.ops [⟨(some 12), none, .mov (.const (.int .i64 (0)))⟩]) (.seq .skip (.seq (.block 1 (.loop (.block 2 (.seq (.block 3 (.seq (.ops [⟨(some 47), none, .loadN 4 (T 10)⟩, ⟨(some 48), none, .mov (T 1)⟩, ⟨(some 49), none, .mov (T 2)⟩, ⟨(some 50), none, .mov (T 12)⟩, ⟨(some 51), none, .call (.func 99) [(T 47), (T 48), (T 49), (T 50)]⟩, ⟨(some 52), none, .mov (T 3)⟩, ⟨(some 53), none, .int2 .geq (T 51) (T 52)⟩, ⟨(some 46), none, .mov (T 53)⟩]) (.cond (T 46) (.exit 1) (.seq (.ops [⟨(some 55), none, .mov (T 12)⟩, ⟨(some 56), none, .int2 .eql (T 55) (.const (.int .i64 (9)))⟩, ⟨(some 54), none, .mov (T 56)⟩]) (.cond (T 54) (.seq (.ops [⟨(some 8), none, .mov (.const (.int .i64 (0)))⟩, ⟨(some 9), none, .mov (.const (.int .i64 (10)))⟩]) .ret) .skip))))) (.ops [⟨(some 57), none, .mov (T 12)⟩, ⟨(some 58), none, .int2 .add (T 57) (.const (.int .i64 (1)))⟩, ⟨(some 12), none, .mov (T 58)⟩]))))) (.seq (.ops [⟨(some 59), none, .mov (T 12)⟩, ⟨(some 8), none, .mov (T 59)⟩, ⟨(some 9), none, .mov (.const (.int .i64 (0)))⟩]) .ret)))))))
theorem fok46 : FnOk Try.prog 46 60 s46 [.tmp 8, .tmp 9] := ⟨Try.f46, _, Try.func46, rfl, Try.ntmps46, by kernel_rfl, by kernel_rfl⟩
open Classical in
theorem needs_c (hn : 10060 ≤ n) (hr : h.next + 500000 < far) {F V S : Value} {Y : MY} (hy : YardR h F V S Y) (hY : Thin Y) (one field blue : Int) :
    call n (.func (.func 46) #[] #[]) [.agg ⟨[F, V, S]⟩, .int .i64 one, .int .i64 field, .int .i64 blue] h = some (.tuple ⟨[.int .i64 (needsV Y one field blue).1, .int .i64 (needsV Y one field blue).2]⟩, h) := by
  obtain ⟨n, rfl⟩ : ∃ p, n = p + 1 := ⟨n - 1, by omega⟩
  refine call_plain0 fok46 rfl rfl (by simp) rfl ?_
  have hy := hy.shut
  have hr : h.shutAll.next + 500000 < far := hr
  have hfl : h.shutAll.floor ≤ h.shutAll.next := Nat.le_refl _
  generalize h.shutAll = h at hy hr hfl
  generalize hres : needsV Y one field blue = res
  simp only [s46, W_seq, W_ops]
  refine ops_box (cs := [F, V, S]) (by omega) rfl hy.one fun g1 hx1 => ?_
  have n1 := hx1.next
  have f1 := hx1.floor
  have w1 := hx1.row.whole (n := 3) rfl
  obtain ⟨v, g2, eo, hm, ho⟩ := open_c (n := n) (h := g1) (by omega) (by omega) (by omega) (hy.mono hx1.sub) hY
  have n2 := hm.next
  have u2 := hm.up
  have f2 := hm.floor
  rcases ho with ⟨hf, rfl⟩ | ⟨hf, tv, rfl, htr, hlong⟩
  · have hrr : res = (0, faultN Y) := by rw [← hres]; unfold needsV; rw [if_pos hf]
    rw [hrr]
    simp only [rn0, rn1, rn2, rn3, rn4, rn5, rn6, rn7, rn8, if_true, if_false, Nat.le_refl, true_and, and_true, decide_true, decide_false, Bool.not_true, Bool.not_false, reduceIte, Nat.reduceEqDiff, Nat.reduceAdd, Nat.reduceMul, Nat.reduceSub, Nat.reduceLeDiff, Nat.reduceLT, w1, eo, ex0, ex1]
    refine step_new (vs := [nilS, nilS, nilS, nilS]) (by omega) (by omega) rfl (by simp only [rn0, rn1, rn2, rn3, rn4, rn5, rn6, rn7, rn8, if_true, if_false, Nat.le_refl, true_and, and_true, decide_true, decide_false, Bool.not_true, Bool.not_false, reduceIte, Nat.reduceEqDiff, Nat.reduceAdd, Nat.reduceMul, Nat.reduceSub, Nat.reduceLeDiff, Nat.reduceLT]; rfl) rfl rfl rfl fun g3 hx3 => ?_
    simp only [rn0, rn1, rn2, rn3, rn4, rn5, rn6, rn7, rn8, if_true, if_false, Nat.le_refl, true_and, and_true, decide_true, decide_false, Bool.not_true, Bool.not_false, reduceIte, Nat.reduceEqDiff, Nat.reduceAdd, Nat.reduceMul, Nat.reduceSub, Nat.reduceLeDiff, Nat.reduceLT, hf, ret_tt]
  have hG := good_of hf
  have ho4 : allB oneCell [F, V, S, tv] = true := by have h1 := hy.one; have h2 := Cells.one htr; simp [allB] at h1 ⊢; simp [h1, h2]
  have hrr : res = if ¬ NeedsArgs Y one field blue then (0, 2) else if truths Y = [] then (0, 11)
      else (if 0 ≤ findFrom (Enough Y one.toNat field.toNat blue (truths Y)) 10 0 then (findFrom (Enough Y one.toNat field.toNat blue (truths Y)) 10 0, 0) else (0, 10)) := by rw [← hres]; unfold needsV; rw [if_neg (by simpa using hf)]
  clear hres
  simp only [rn0, rn1, rn2, rn3, rn4, rn5, rn6, rn7, rn8, if_true, if_false, Nat.le_refl, true_and, and_true, decide_true, decide_false, Bool.not_true, Bool.not_false, reduceIte, Nat.reduceEqDiff, Nat.reduceAdd, Nat.reduceMul, Nat.reduceSub, Nat.reduceLeDiff, Nat.reduceLT, w1, eo, ex0, ex1, hf]
  refine step_new (vs := [F, V, S, tv]) (by omega) (by omega) rfl (by simp only [rn0, rn1, rn2, rn3, rn4, rn5, rn6, rn7, rn8, if_true, if_false, Nat.le_refl, true_and, and_true, decide_true, decide_false, Bool.not_true, Bool.not_false, reduceIte, Nat.reduceEqDiff, Nat.reduceAdd, Nat.reduceMul, Nat.reduceSub, Nat.reduceLeDiff, Nat.reduceLT]; rfl) ho4 rfl rfl fun g3 hx3 => ?_
  have n3 := hx3.next
  have f3 := hx3.floor
  have hs3 : Sub All h g3 := hx1.sub.trans (hm.sub.trans hx3.sub)
  have hy3 := hy.mono hs3
  have w3 := hx3.row.whole (n := 4) rfl
  have htr3 : TruthsR g3 tv (truths Y) := Cells.mono htr hx3.sub
  obtain ⟨rr, hrw, hq⟩ := hy3.v
  have ev := hasVat_c (n := n) (h := g3) (by omega) (by omega) hrw ho4 one
  have eg := hasField_c (n := n) (h := g3) (by omega) (by omega) hy3.f ho4 field
  have bad : ∀ P : Prop, ¬ NeedsArgs Y one field blue → res = (0, 2) := fun _ h => by rw [hrr, if_pos h]
  by_cases a1 : 0 ≤ one ∧ one ≤ (Y.nv : Int) - 1
  case neg =>
    rw [bad True fun h => a1 h.1]
    simp only [rn0, rn1, rn2, rn3, rn4, rn5, rn6, rn7, rn8, if_true, if_false, Nat.le_refl, true_and, and_true, decide_true, decide_false, Bool.not_true, Bool.not_false, reduceIte, Nat.reduceEqDiff, Nat.reduceAdd, Nat.reduceMul, Nat.reduceSub, Nat.reduceLeDiff, Nat.reduceLT, w3, ev, a1, ret_tt]
  by_cases a2 : 0 ≤ field ∧ field ≤ (Y.nf : Int) - 1
  case neg =>
    rw [bad True fun h => a2 h.2.1]
    simp only [rn0, rn1, rn2, rn3, rn4, rn5, rn6, rn7, rn8, if_true, if_false, Nat.le_refl, true_and, and_true, decide_true, decide_false, Bool.not_true, Bool.not_false, reduceIte, Nat.reduceEqDiff, Nat.reduceAdd, Nat.reduceMul, Nat.reduceSub, Nat.reduceLeDiff, Nat.reduceLT, w3, ev, a1, eg, a2, and_self, ret_tt]
  by_cases a3 : blue < 0
  · rw [bad True fun h => by have := h.2.2.1; omega]
    simp only [rn0, rn1, rn2, rn3, rn4, rn5, rn6, rn7, rn8, if_true, if_false, Nat.le_refl, true_and, and_true, decide_true, decide_false, Bool.not_true, Bool.not_false, reduceIte, Nat.reduceEqDiff, Nat.reduceAdd, Nat.reduceMul, Nat.reduceSub, Nat.reduceLeDiff, Nat.reduceLT, w3, ev, a1, eg, a2, and_self, a3, ret_tt]
  by_cases a4 : (999 : Int) < blue
  · rw [bad True fun h => by have := h.2.2.2; omega]
    simp only [rn0, rn1, rn2, rn3, rn4, rn5, rn6, rn7, rn8, if_true, if_false, Nat.le_refl, true_and, and_true, decide_true, decide_false, Bool.not_true, Bool.not_false, reduceIte, Nat.reduceEqDiff, Nat.reduceAdd, Nat.reduceMul, Nat.reduceSub, Nat.reduceLeDiff, Nat.reduceLT, w3, ev, a1, eg, a2, and_self, a3, a4, ret_tt]
  have hargs : NeedsArgs Y one field blue := ⟨a1, a2, by omega, by omega⟩
  rw [if_neg (by simpa using hargs)] at hrr
  by_cases he : truths Y = []
  · rw [if_pos he] at hrr
    rw [hrr]
    have hl : (truths Y).length = 0 := by rw [he]; rfl
    simp only [rn0, rn1, rn2, rn3, rn4, rn5, rn6, rn7, rn8, if_true, if_false, Nat.le_refl, true_and, and_true, decide_true, decide_false, Bool.not_true, Bool.not_false, reduceIte, Nat.reduceEqDiff, Nat.reduceAdd, Nat.reduceMul, Nat.reduceSub, Nat.reduceLeDiff, Nat.reduceLT, w3, ev, a1, eg, a2, and_self, a3, a4, hx3.row.ld, Nat.zero_add, List.getElem?_cons_zero, List.getElem?_cons_succ, Cells.len htr3, hl, Int.natCast_zero, ret_tt]
  rw [if_neg he] at hrr
  have hl : ¬ ((truths Y).length : Int) = 0 := fun e => he (List.eq_nil_of_length_eq_zero (by omega))
  obtain ⟨vN, rfl⟩ : ∃ k : Nat, one = k := ⟨one.toNat, by omega⟩
  obtain ⟨fN, rfl⟩ : ∃ k : Nat, field = k := ⟨field.toNat, by omega⟩
  simp only [Int.toNat_natCast] at hrr
  simp only [rn0, rn1, rn2, rn3, rn4, rn5, rn6, rn7, rn8, if_true, if_false, Nat.le_refl, true_and, and_true, decide_true, decide_false, Bool.not_true, Bool.not_false, reduceIte, Nat.reduceEqDiff, Nat.reduceAdd, Nat.reduceMul, Nat.reduceSub, Nat.reduceLeDiff, Nat.reduceLT, w3, ev, a1, eg, a2, and_self, a3, a4, hx3.row.ld, Nat.zero_add, List.getElem?_cons_zero, List.getElem?_cons_succ, Cells.len htr3, hl]
  have esure : ∀ k : Nat, k ≤ 9 → call n (.func (.func 99) #[] #[]) [.agg ⟨[F, V, S, tv]⟩, .int .i64 (vN : Int), .int .i64 (fN : Int), .int .i64 (k : Int)] g3 = some (.int .i64 (sureN Y vN fN k (truths Y)), g3) := fun k hk =>
    sureBlue_c (n := n) (h := g3) (by omega) (by omega) hy3 hf he htr3 hlong (by omega) (by omega) (by omega)
  have hiff : ∀ k : Nat, blue ≤ sureN Y vN fN k (truths Y) ↔ Enough Y vN fN blue (truths Y) k := fun k => le_sureN he
  refine W_loop 9 (fun k f g ms => g = g3 ∧ ms = [] ∧ f 1 = .int .i64 (vN : Int) ∧ f 2 = .int .i64 (fN : Int) ∧ f 3 = .int .i64 blue ∧ f 10 = .pointer (some ⟨g2.next, 0, none⟩) ∧ f 12 = .int .i64 (k : Int) ∧ ∀ j, j < k → ¬ Enough Y vN fN blue (truths Y) j) (by simp; omega) ?_ ?_ ?_
  · simp only [rn0, rn1, rn2, rn3, rn4, rn5, rn6, rn7, rn8, if_true, if_false, Nat.le_refl, true_and, and_true, decide_true, decide_false, Bool.not_true, Bool.not_false, reduceIte, Nat.reduceEqDiff, Nat.reduceAdd, Nat.reduceMul, Nat.reduceSub, Nat.reduceLeDiff, Nat.reduceLT, Nat.not_lt_zero, false_implies, implies_true]
    trivial
  · rintro k f g ms hk ⟨rfl, rfl, q1, q2, q3, q10, q12, hlt⟩
    have e9 : ¬ (k : Int) = 9 := by omega
    have hw : wrapF .i64 ((k : Int) + 1) = ((k + 1 : Nat) : Int) := by rw [wrap_in (by omega) (by omega)]; rfl
    by_cases hE : Enough Y vN fN blue (truths Y) k
    · have hle := (hiff k).2 hE
      have hff := findFrom_at (m := 10) (by omega) hlt hE
      have hres2 : res = ((k : Int), 0) := by rw [hrr, hff, if_pos (by omega)]
      rw [hres2]
      simp only [rn0, rn1, rn2, rn3, rn4, rn5, rn6, rn7, rn8, if_true, if_false, Nat.le_refl, true_and, and_true, decide_true, decide_false, Bool.not_true, Bool.not_false, reduceIte, Nat.reduceEqDiff, Nat.reduceAdd, Nat.reduceMul, Nat.reduceSub, Nat.reduceLeDiff, Nat.reduceLT, q1, q2, q3, q10, q12, w3, esure k (by omega), hle, ret_tt]
    · have hle : ¬ blue ≤ sureN Y vN fN k (truths Y) := fun h => hE ((hiff k).1 h)
      simp only [rn0, rn1, rn2, rn3, rn4, rn5, rn6, rn7, rn8, if_true, if_false, Nat.le_refl, true_and, and_true, decide_true, decide_false, Bool.not_true, Bool.not_false, reduceIte, Nat.reduceEqDiff, Nat.reduceAdd, Nat.reduceMul, Nat.reduceSub, Nat.reduceLeDiff, Nat.reduceLT, q1, q2, q3, q10, q12, w3, esure k (by omega), hle, e9, hw]
      intro j hj
      by_cases e : j = k
      · subst e; exact hE
      · exact hlt j (by omega)
  · rintro f g ms ⟨rfl, rfl, q1, q2, q3, q10, q12, hlt⟩
    by_cases hE : Enough Y vN fN blue (truths Y) 9
    · have hle := (hiff 9).2 hE
      have hff := findFrom_at (m := 10) (by omega) hlt hE
      have hres2 : res = (((9 : Nat) : Int), 0) := by rw [hrr, hff, if_pos (by omega)]
      rw [hres2]
      simp only [rn0, rn1, rn2, rn3, rn4, rn5, rn6, rn7, rn8, if_true, if_false, Nat.le_refl, true_and, and_true, decide_true, decide_false, Bool.not_true, Bool.not_false, reduceIte, Nat.reduceEqDiff, Nat.reduceAdd, Nat.reduceMul, Nat.reduceSub, Nat.reduceLeDiff, Nat.reduceLT, q1, q2, q3, q10, q12, w3, esure 9 (by omega), hle, ret_tt]
    · have hle : ¬ blue ≤ sureN Y vN fN 9 (truths Y) := fun h => hE ((hiff 9).1 h)
      have hff := findFrom_none (p := Enough Y vN fN blue (truths Y)) (m := 10) fun j hj => by
        by_cases e : j = 9
        · subst e; exact hE
        · exact hlt j (by omega)
      have hres2 : res = (0, 10) := by rw [hrr, hff, if_neg (by omega)]
      rw [hres2]
      have e9 : ((9 : Nat) : Int) = 9 := rfl
      have es : call n (.func (.func 99) #[] #[]) [.agg ⟨[F, V, S, tv]⟩, .int .i64 (vN : Int), .int .i64 (fN : Int), .int .i64 9] g = some (.int .i64 (sureN Y vN fN 9 (truths Y)), g) := esure 9 (by omega)
      simp only [rn0, rn1, rn2, rn3, rn4, rn5, rn6, rn7, rn8, if_true, if_false, Nat.le_refl, true_and, and_true, decide_true, decide_false, Bool.not_true, Bool.not_false, reduceIte, Nat.reduceEqDiff, Nat.reduceAdd, Nat.reduceMul, Nat.reduceSub, Nat.reduceLeDiff, Nat.reduceLT, q1, q2, q3, q10, q12, w3, es, hle, e9, ret_tt]
end Go.Vm.Vat

namespace Go.Vm.Vat
open Go.Proofs
set_option linter.unusedSimpArgs false
set_option linter.unusedVariables false
set_option maxRecDepth 10000
variable {n : Nat} {h : AHeap}
def s6 : SCode := (.seq (.ops [⟨(some 4), none, .box (T 0)⟩, ⟨(some 8), none, .mov (.const (.bool false))⟩]) (.seq (.seq (.ops [⟨(some 15), none, .loadN 3 (T 4)⟩, ⟨(some 16), none, .call (.func 23) [(T 15)]⟩, ⟨(some 17), none, .not (T 16)⟩]) (.cond (T 17) (.seq (.ops [⟨(some 18), none, .call (.func 24) []⟩, ⟨(some 8), none, .mov (T 18)⟩]) .ret) .skip)) (.seq (.ops [⟨(some 20), none, .loadN 3 (T 4)⟩, ⟨(some 21), none, .call (.func 26) [(T 20)]⟩, ⟨(some 22), none, .mov (T 1)⟩, ⟨(some 23), none, .mov (T 2)⟩, ⟨(some 24), none, .mov (T 3)⟩, ⟨(some 25), none, .call (.func 46) [(T 21), (T 22), (T 23), (T 24)]⟩, ⟨(some 19), none, .mov (T 25)⟩, ⟨(some 26), none, .extract 0 (T 19)⟩, ⟨(some 27), none, .extract 1 (T 19)⟩, ⟨(some 9), none, .mov (T 26)⟩, ⟨(some 10), none, .mov (T 27)⟩]) (.seq (.ops [⟨(some 11), none, .mov (.const (.int .i64 (0)))⟩]) (.seq (.seq (.ops [⟨(some 28), none, .mov (T 1)⟩, ⟨(some 29), none, .fieldAddr 1 (T 4)⟩, ⟨(some 30), none, .load1 (T 29)⟩, ⟨(some 31), none, .len (T 30)⟩, ⟨(some 32), none, .int2 .sub (T 31) (.const (.int .i64 (1)))⟩, ⟨(some 33), none, .call (.func 42) [(T 28), (.const (.int .i64 (0))), (T 32)]⟩, ⟨(some 34), none, .not (T 33)⟩, ⟨(some 35), none, .mov (T 34)⟩, ⟨(some 36), (some (35, false)), .mov (T 2)⟩, ⟨(some 37), (some (35, false)), .fieldAddr 0 (T 4)⟩, ⟨(some 38), (some (35, false)), .load1 (T 37)⟩, ⟨(some 39), (some (35, false)), .len (T 38)⟩, ⟨(some 40), (some (35, false)), .int2 .sub (T 39) (.const (.int .i64 (1)))⟩, ⟨(some 41), (some (35, false)), .call (.func 42) [(T 36), (.const (.int .i64 (0))), (T 40)]⟩, ⟨(some 42), (some (35, false)), .not (T 41)⟩, ⟨(some 43), none, .pick (T 35) (.const (.bool true)) (T 42)⟩, ⟨(some 44), none, .mov (T 43)⟩, ⟨(some 45), (some (44, false)), .mov (T 3)⟩, ⟨(some 46), (some (44, false)), .call (.func 42) [(T 45), (.const (.int .i64 (0))), (.const (.int .i64 (999)))]⟩, ⟨(some 47), (some (44, false)), .not (T 46)⟩, ⟨(some 48), none, .pick (T 44) (.const (.bool true)) (T 47)⟩]) (.cond (T 48) (.ops [⟨(some 11), none, .mov (.const (.int .i64 (2)))⟩]) .skip)) (.seq (.ops [⟨(some 50), none, .loadN 3 (T 4)⟩, ⟨(some 51), none, .mov (T 11)⟩, ⟨(some 52), none, .call (.func 43) [(T 50), (T 51)]⟩, ⟨(some 49), none, .mov (T 52)⟩, ⟨(some 53), none, .extract 0 (T 49)⟩, ⟨(some 54), none, .extract 1 (T 49)⟩, ⟨(some 12), none, .mov (T 53)⟩, ⟨(some 13), none, .mov (T 54)⟩]) (.seq (.seq (.ops [⟨(some 55), none, .mov (T 13)⟩, ⟨(some 56), none, .int2 .neq (T 55) (.const (.int .i64 (0)))⟩]) (.cond (T 56) (.seq (.ops [⟨(some 57), none, .mov (T 10)⟩, ⟨(some 58), none, .mov (T 13)⟩, ⟨(some 59), none, .int2 .eql (T 57) (T 58)⟩, ⟨(some 60), none, .mov (T 59)⟩, ⟨(some 61), (some (60, true)), .mov (T 9)⟩, ⟨(some 62), (some (60, true)), .int2 .eql (T 61) (.const (.int .i64 (0)))⟩, ⟨(some 63), none, .pick (T 60) (T 62) (.const (.bool false))⟩, ⟨(some 64), none, .mov (T 63)⟩, ⟨(some 65), (some (64, true)), .call (.func 24) []⟩, ⟨(some 66), none, .pick (T 64) (T 65) (.const (.bool false))⟩, ⟨(some 8), none, .mov (T 66)⟩]) .ret) .skip)) (.seq (.seq (.ops [⟨(some 67), none, .loadN 3 (T 4)⟩, ⟨(some 68), none, .mov (T 12)⟩, ⟨(some 69), none, .mov (T 1)⟩, ⟨(some 70), none, .mov (T 2)⟩, ⟨(some 71), none, .mov (T 3)⟩, ⟨(some 72), none, .call (.func 47) [(T 67), (T 68), (T 69), (T 70), (T 71)]⟩, ⟨(some 14), none, .mov (T 72)⟩]) (.seq (.ops [⟨(some 73), none, .mov (T 14)⟩, ⟨(some 74), none, .int2 .geq (T 73) (.const (.int .i64 (0)))⟩]) (.cond (T 74) (.seq (.ops [⟨(some 75), none, .mov (T 10)⟩, ⟨(some 76), none, .int2 .eql (T 75) (.const (.int .i64 (0)))⟩, ⟨(some 77), none, .mov (T 76)⟩, ⟨(some 78), (some (77, true)), .mov (T 9)⟩, ⟨(some 79), (some (77, true)), .mov (T 14)⟩, ⟨(some 80), (some (77, true)), .int2 .eql (T 78) (T 79)⟩, ⟨(some 81), none, .pick (T 77) (T 80) (.const (.bool false))⟩, ⟨(some 82), none, .mov (T 81)⟩, ⟨(some 83), (some (82, true)), .call (.func 24) []⟩, ⟨(some 84), none, .pick (T 82) (T 83) (.const (.bool false))⟩, ⟨(some 8), none, .mov (T 84)⟩]) .ret) .skip))) (.seq (.ops [⟨(some 85), none, .mov (T 10)⟩, ⟨(some 86), none, .int2 .eql (T 85) (.const (.int .i64 (10)))⟩, ⟨(some 87), none, .mov (T 86)⟩, ⟨(some 88), (some (87, true)), .mov (T 9)⟩, ⟨(some 89), (some (87, true)), .int2 .eql (T 88) (.const (.int .i64 (0)))⟩, ⟨(some 90), none, .pick (T 87) (T 89) (.const (.bool false))⟩, ⟨(some 91), none, .mov (T 90)⟩, ⟨(some 92), (some (91, true)), .call (.func 24) []⟩, ⟨(some 93), none, .pick (T 91) (T 92) (.const (.bool false))⟩, ⟨(some 8), none, .mov (T 93)⟩]) .ret)))))))))
end Go.Vm.Vat

namespace Go.Vm.Vat
open Go.Proofs
set_option linter.unusedSimpArgs false
set_option linter.unusedVariables false
set_option maxRecDepth 10000
variable {n : Nat} {h : AHeap}
open Classical in
theorem needsV_in {Y : MY} (hf : faultN Y = 0) {one fld : Nat} (ho : one < Y.nv) (hl : fld < Y.nf) {b : Int} (hb : 0 ≤ b ∧ b ≤ 999) :
    needsV Y (one : Int) (fld : Int) b = if truths Y = [] then (0, 11) else if 0 ≤ findFrom (Enough Y one fld b (truths Y)) 10 0 then (findFrom (Enough Y one fld b (truths Y)) 10 0, 0) else (0, 10) := by
  unfold needsV
  rw [if_neg (by simpa using hf), if_neg (fun e => e ⟨⟨by omega, by omega⟩, ⟨by omega, by omega⟩, hb⟩), Int.toNat_natCast, Int.toNat_natCast]
theorem findFrom_get {p : Nat → Prop} {m : Nat} (h : 0 ≤ findFrom p m 0) : ∃ k, k < m ∧ p k ∧ (∀ j, j < k → ¬ p j) ∧ findFrom p m 0 = k := by
  obtain ⟨k, h1, h2⟩ := findFrom_iff.1 h
  have : ∀ k, k < m → p k → ∃ k, k < m ∧ p k ∧ (∀ j, j < k → ¬ p j) := by
    intro k
    induction k using Nat.strongRecOn with
    | ind k ih =>
      intro hk hp
      by_cases e : ∃ j, j < k ∧ p j
      · obtain ⟨j, e1, e2⟩ := e
        exact ih j e1 (by omega) e2
      · exact ⟨k, hk, hp, fun j hj hp => e ⟨j, hj, hp⟩⟩
  obtain ⟨k, h1, h2, h3⟩ := this k h1 h2
  exact ⟨k, h1, h2, h3, findFrom_at h1 h3 h2⟩
end Go.Vm.Vat

namespace Go.Vm.Vat
open Go.Proofs
set_option linter.unusedSimpArgs false
set_option linter.unusedVariables false
set_option maxRecDepth 10000
variable {n : Nat} {h : AHeap}
theorem ex30 {x y z : Value} : extractA 0 (.tuple ⟨[x, y, z]⟩) h = some (x, h) := id rfl
theorem ex31 {x y z : Value} : extractA 1 (.tuple ⟨[x, y, z]⟩) h = some (y, h) := id rfl
theorem ex32 {x y z : Value} : extractA 2 (.tuple ⟨[x, y, z]⟩) h = some (z, h) := id rfl
open Classical in
theorem spreadE_in {Y : MY} (hf : faultN Y = 0) {f k : Nat} (hff : f < Y.nf) (hk : k ≤ 9) (hv : 0 < Y.nv) : spreadE Y (f : Int) (k : Int) = if truths Y = [] then 11 else 0 := by
  unfold spreadE
  have h1 : SpreadArgs Y (f : Int) (k : Int) := ⟨⟨by omega, by omega⟩, by omega, by omega⟩
  have h2 : ¬ Y.nv = 0 := by omega
  rw [if_neg (by simpa using hf), if_neg (fun e => e h1), if_neg h2]
end Go.Vm.Vat

namespace Go.Vm.Vat
open Go.Proofs
set_option linter.unusedSimpArgs false
set_option linter.unusedVariables false
set_option maxRecDepth 10000
variable {n : Nat} {h : AHeap}
/-! ### Of two yards with the same vats, one with no other truths than the other one -/
structure Inner (X Y : MY) : Prop where
  nf : X.nf = Y.nf
  nv : X.nv = Y.nv
  q : X.q = Y.q
  fx : faultN X = 0
  fy : faultN Y = 0
  ne : truths X ≠ []
  sub : ∀ t, t ∈ truths X → t ∈ truths Y
theorem Inner.ney {X Y : MY} (hi : Inner X Y) : truths Y ≠ [] := by
  obtain ⟨t, ht⟩ := List.exists_mem_of_ne_nil _ hi.ne
  exact List.ne_nil_of_mem (hi.sub t ht)
theorem Inner.lo {X Y : MY} (hi : Inner X Y) (val : (Nat → Int) → Int) : loN val (truths Y) ≤ loN val (truths X) := (le_loN hi.ne).2 fun t ht => (le_loN hi.ney).1 (Int.le_refl _) t (hi.sub t ht)
theorem Inner.hi {X Y : MY} (hi : Inner X Y) (val : (Nat → Int) → Int) : hiN val (truths X) ≤ hiN val (truths Y) := (hiN_le hi.ne).2 fun t ht => (hiN_le hi.ney).1 (Int.le_refl _) t (hi.sub t ht)
open Classical in
theorem moreV_in {Y : MY} (hf : faultN Y = 0) (he : truths Y ≠ []) {a b : Nat} (ha : a < Y.nv) (hb : b < Y.nv) (hab : a ≠ b) : moreV Y (a : Int) (b : Int) = (verdictV Y a b, 0) := by
  unfold moreV
  have h1 : MoreArgs Y (a : Int) (b : Int) := ⟨⟨by omega, by omega⟩, by omega, by omega⟩
  rw [if_neg (by simpa using hf), if_neg (fun e => e h1), if_neg (by omega), if_neg he, Int.toNat_natCast, Int.toNat_natCast]
theorem Inner.with_ {X Y : MY} (hi : Inner X Y) (v f k : Nat) (t : Nat → Int) : blueWith X v f k t = blueWith Y v f k t := by unfold blueWith; rw [hi.nf, hi.q]
theorem Inner.enough {X Y : MY} (hi : Inner X Y) {v f : Nat} {b : Int} {k : Nat} (h : Enough Y v f b (truths Y) k) : Enough X v f b (truths X) k := fun t ht => by rw [hi.with_]; exact h t (hi.sub t ht)
theorem Inner.sure {X Y : MY} (hi : Inner X Y) (v f k : Nat) : sureN Y v f k (truths Y) ≤ sureN X v f k (truths X) := by
  rw [le_sureN hi.ne]
  intro t ht
  rw [hi.with_]
  exact (le_sureN hi.ney).1 (Int.le_refl _) t (hi.sub t ht)
theorem Inner.best {X Y : MY} (hi : Inner X Y) {f k : Nat} (hf : f < Y.nf) (hv : 0 < Y.nv) : (bestS Y f k).2 ≤ (bestS X f k).2 := by
  have hvx : 0 < X.nv := by rw [hi.nv]; exact hv
  obtain ⟨b1, b2, _, _⟩ := spRun_is (S := fun v k => sureN Y v f k (truths Y)) (nv := Y.nv) (many := k) hv fun v k h _ => sureN_pos hi.fy hi.ney h hf
  obtain ⟨_, _, c3, _⟩ := spRun_is (S := fun v k => sureN X v f k (truths X)) (nv := X.nv) (many := k) hvx fun v k h _ => sureN_pos hi.fx hi.ne h (by rw [hi.nf]; exact hf)
  have h1 := c3 (bestS Y f k).1 (by rw [hi.nv]; exact b1)
  refine Int.le_trans ?_ h1
  show (spRun _ Y.nv k).2 ≤ _
  rw [b2, hi.nv]
  exact (le_lowS hv).2 fun v hvv => Int.le_trans ((le_lowS hv).1 (Int.le_refl _) v hvv) (hi.sure v f _)
end Go.Vm.Vat

namespace Go.Vm.Vat
open Go.Proofs
set_option linter.unusedSimpArgs false
set_option linter.unusedVariables false
set_option maxRecDepth 10000
variable {n : Nat} {h : AHeap}
end Go.Vm.Vat

namespace Go.Vm.Vat
open Go.Proofs
set_option linter.unusedSimpArgs false
set_option linter.unusedVariables false
set_option maxRecDepth 10000
variable {n : Nat} {h : AHeap}
/-! ### A yard of which another one is a wider one -/
structure Wid (Y X : MY) : Prop where
  nf : Y.nf = X.nf
  nv : Y.nv = X.nv
  q : Y.q = X.q
  ns : Y.ns = X.ns
  lo : ∀ k, k < Y.nf → X.lo k ≤ Y.lo k ∧ Y.hi k ≤ X.hi k
  right : ∀ c k, k < Y.ns → RightB Y c k → RightB X c k
theorem Wid.truth {Y X : MY} (hw : Wid Y X) {t : Nat → Int} (h : t ∈ truths Y) : t ∈ truths X := by
  rw [truths_mem] at h ⊢
  obtain ⟨⟨h1, h2⟩, h3⟩ := h
  have e := hw.nf
  have e2 := hw.ns
  refine ⟨⟨fun j hj => ?_, fun j hj => h2 j (by omega)⟩, fun k hk => hw.right t k (by omega) (h3 k (by omega))⟩
  have h4 := h1 j (by omega)
  have h5 := hw.lo j (by omega)
  omega
theorem sl_len {a b : List Int} (h : ¬ SL a b) : b.length ≤ a.length := by
  apply Classical.byContradiction
  intro hc
  exact h (.inl (by omega))
theorem leave_min {Y : MY} {c : Nat → Int} (hc : c ∈ enumB Y.lo Y.hi Y.nf 0 fun _ => 0) : (leaveRun Y).length ≤ (pickL (fun j => ¬ RightB Y c j) Y.ns).length := sl_len ((leave_is (Y := Y)).2 c hc)
/-- what a slice holds, as a list -/
def flatL (s m : Nat) (c : Nat → Nat → Value) : List Value := (List.range (m * s)).map fun i => c (i / s) (i % s)
theorem flatL_len {s m : Nat} {c : Nat → Nat → Value} : (flatL s m c).length = m * s := by simp [flatL]
theorem flatL_get {s m k j : Nat} {c : Nat → Nat → Value} (hk : k < m) (hj : j < s) : (flatL s m c)[k * s + j]? = some (c k j) := by
  have hlt : k * s + j < m * s := by
    have : (k + 1) * s ≤ m * s := Nat.mul_le_mul_right s hk
    rw [Nat.add_mul] at this
    omega
  unfold flatL
  rw [List.getElem?_map, List.getElem?_range hlt, Option.map_some, Nat.mul_comm k s, Nat.mul_add_div (by omega), Nat.div_eq_of_lt hj, Nat.mul_add_mod, Nat.mod_eq_of_lt hj, Nat.add_zero]
theorem Cells.list {v : Value} {s m : Nat} {c : Nat → Nat → Value} (hs : 0 < s) (hi : Cells h v s m c) : ∃ x k, v = .slice x m k ∧ cellsOfSlice h s v = some (flatL s m c) := by
  obtain ⟨x, cap, rfl, _, h0 | ⟨b, o, cs, w, gr, rfl, h1, h2⟩⟩ := hi
  · subst h0
    refine ⟨x, cap, rfl, ?_⟩
    cases x <;> simp [cellsOfSlice, flatL]
  · refine ⟨_, cap, rfl, ?_⟩
    by_cases hm : m = 0
    · subst hm; simp [cellsOfSlice, flatL]
    have hb : Nat.beq m 0 = false := by
      cases hb : Nat.beq m 0 with
      | false => rfl
      | true => exact absurd (beq_iff.1 hb) hm
    show (bif Nat.beq m 0 then some [] else match h.get b with
      | some (.row cs _ _) => dropK cs o fun r => takeK r (m * s) fun l => some l
      | _ => none) = _
    have hl := (List.getElem?_eq_some_iff.1 (h2 (m - 1) (s - 1) (by omega) (by omega))).1
    have hms : (m - 1) * s + s = m * s := by
      obtain ⟨p, rfl⟩ : ∃ p, m = p + 1 := ⟨m - 1, by omega⟩
      rw [Nat.add_sub_cancel, Nat.add_mul, Nat.one_mul]
    rw [hb, cond_false, h1]
    simp only [dropK_eq, takeK_eq]
    rw [if_pos (by omega), if_pos (by rw [List.length_drop]; omega)]
    congr 1
    apply List.ext_getElem?
    intro i
    simp only [List.getElem?_take, List.getElem?_drop]
    by_cases hi : i < m * s
    · rw [if_pos hi]
      have hd : i / s < m := (Nat.div_lt_iff_lt_mul hs).2 hi
      have hr : i % s < s := Nat.mod_lt _ hs
      have e : i / s * s + i % s = i := by have := Nat.div_add_mod i s; rw [Nat.mul_comm] at this; exact this
      have h3 := h2 (i / s) (i % s) hd hr
      have h4 := flatL_get (c := c) hd hr
      rw [e] at h4
      rw [h4, ← h3]
      congr 1
      omega
    · rw [if_neg hi, List.getElem?_eq_none (by rw [flatL_len]; omega)]
end Go.Vm.Vat

namespace Go.Vm.Vat
open Go.Proofs
set_option linter.unusedSimpArgs false
set_option linter.unusedVariables false
set_option maxRecDepth 10000
variable {n : Nat} {h : AHeap}
def wordN (m : Nat) (a : Nat → Nat) (i : Nat) : Nat := if m = 0 then 0 else a (i % m)
theorem wordN_lt {ws : Value} {m : Nat} {a : Nat → Nat} (hw : Words h ws m a) (i : Nat) : wordN m a i < 65536 := by
  unfold wordN
  by_cases e : m = 0
  · rw [if_pos e]; omega
  · rw [if_neg e]; exact hw.2 _ (Nat.mod_lt _ (by omega))
def s111 : SCode := (.seq (.ops [⟨(some 4), none, .mov (.const (.int .i64 (0)))⟩]) (.seq (.seq (.ops [⟨(some 5), none, .mov (T 0)⟩, ⟨(some 6), none, .len (T 5)⟩, ⟨(some 7), none, .int2 .eql (T 6) (.const (.int .i64 (0)))⟩]) (.cond (T 7) (.seq (.ops [⟨(some 4), none, .mov (.const (.int .i64 (0)))⟩]) .ret) .skip)) (.seq (.ops [⟨(some 8), none, .mov (T 0)⟩, ⟨(some 9), none, .mov (T 1)⟩, ⟨(some 10), none, .mov (T 0)⟩, ⟨(some 11), none, .len (T 10)⟩, ⟨(some 12), none, .plain (.binOp .rem 3 (T 9) (T 11) 3) 3⟩, ⟨(some 13), none, .idxSl 1 (T 8) (T 12)⟩, ⟨(some 14), none, .load1 (T 13)⟩, ⟨(some 15), none, .plain (.convert 86 3 (T 14)) 3⟩, ⟨(some 4), none, .mov (T 15)⟩]) .ret)))
theorem fok111 : FnOk Try.prog 111 16 s111 [.tmp 4] := ⟨Try.f111, _, Try.func111, rfl, Try.ntmps111, by kernel_rfl, by kernel_rfl⟩
theorem word_c (hn : 1 ≤ n) {ws : Value} {m : Nat} {a : Nat → Nat} (hw : Words h ws m a) (i : Nat) :
    call n (.func (.func 111) #[] #[]) [ws, .int .i64 (i : Int)] h = some (.int .i64 ((wordN m a i : Nat) : Int), h) := by
  obtain ⟨n, rfl⟩ : ∃ p, n = p + 1 := ⟨n - 1, by omega⟩
  suffices hs : ∃ v g1, call (n + 1) (.func (.func 111) #[] #[]) [ws, .int .i64 (i : Int)] h = some (v, g1) ∧ v = .int .i64 ((wordN m a i : Nat) : Int) ∧ g1 = h by
    obtain ⟨v, g1, e, rfl, rfl⟩ := hs
    exact e
  refine call_any0 fok111 rfl rfl (by simp) ?_
  by_cases hm : m = 0
  · have hm' : (m : Int) = 0 := by omega
    have hz : wordN m a i = 0 := by unfold wordN; rw [if_pos hm]
    rw [hz]
    simp only [rn0, rn1, rn2, rn3, rn4, rn5, rn6, rn7, rn8, if_true, if_false, Nat.le_refl, true_and, and_true, decide_true, decide_false, Bool.not_true, Bool.not_false, reduceIte, Nat.reduceEqDiff, Nat.reduceAdd, Nat.reduceMul, Nat.reduceSub, Nat.reduceLeDiff, Nat.reduceLT, s111, Cells.len hw.1, hm', Int.natCast_zero]
  · have hm' : ¬ (m : Int) = 0 := by omega
    have hlt : i % m < m := Nat.mod_lt _ (by omega)
    have hz : wordN m a i = a (i % m) := by unfold wordN; rw [if_neg hm]
    have m1 : (i : Int).tmod (m : Int) = ((i % m : Nat) : Int) := rfl
    rw [hz]
    simp only [rn0, rn1, rn2, rn3, rn4, rn5, rn6, rn7, rn8, if_true, if_false, Nat.le_refl, true_and, and_true, decide_true, decide_false, Bool.not_true, Bool.not_false, reduceIte, Nat.reduceEqDiff, Nat.reduceAdd, Nat.reduceMul, Nat.reduceSub, Nat.reduceLeDiff, Nat.reduceLT, s111, Cells.len hw.1, hm', valN_tmp, valN_const, Nat.reduceLT, r_rem hm', m1, Cells.idx hw.1 hlt, Cells.ld hw.1 hlt Nat.zero_lt_one, p_conv16, r_16 (hw.2 _ hlt)]
/-! ### Sampled -/
section
variable (Y : MY) (m : Nat) (a : Nat → Nat) (b : Nat → Int)
def spV (i : Nat) : Nat := wordN m a (2 * i + 1) % Y.nv
def spB (i : Nat) : Int := blueN b (Y.q (spV Y m a i)) Y.nf
def spLo (i : Nat) : Int := max 0 (spB Y m a b i - ((wordN m a (2 * i + 2) % 3 : Nat) : Int))
def spHi (i : Nat) : Int := spB Y m a b i + ((wordN m a (2 * i + 2) / 3 % 3 : Nat) : Int)
def sampled : MY := { Y with ns := wordN m a 0 % 6, sv := fun i => (spV Y m a i : Int), slo := spLo Y m a b, shi := spHi Y m a b }
def spC (i j : Nat) : Value := .int .i64 (if j = 0 then (spV Y m a i : Int) else if j = 1 then spLo Y m a b i else spHi Y m a b i)
end
theorem spB_range {Y : MY} (hf : faultN Y = 0) (hv : 0 < Y.nv) {m : Nat} {a : Nat → Nat} {b : Nat → Int} (hb : ∀ k, k < Y.nf → 0 ≤ b k ∧ b k ≤ 20) (i : Nat) : 0 ≤ spB Y m a b i ∧ spB Y m a b i ≤ 900 := by
  have hG := good_of hf
  obtain ⟨z1, z2, z3⟩ := hG.sz
  have hlt : spV Y m a i < Y.nv := Nat.mod_lt _ hv
  obtain ⟨v1, v2⟩ := hG.v _ hlt
  obtain ⟨h1, h2⟩ := blueN_bound (b := b) (q := Y.q (spV Y m a i)) (n := Y.nf) (by omega) hb (fun j hj => v2 j (by omega)) Y.nf (Nat.le_refl _)
  exact ⟨h1, by have : (180 : Int) * Y.nf ≤ 900 := by omega
                unfold spB; omega⟩
theorem sampled_ok {Y : MY} (hf : faultN Y = 0) (hv : 0 < Y.nv) {m : Nat} {a : Nat → Nat} {b : Nat → Int} (hb : ∀ k, k < Y.nf → Y.lo k ≤ b k ∧ b k ≤ Y.hi k) (hz : ∀ k, Y.nf ≤ k → b k = 0) : faultN (sampled Y m a b) = 0 ∧ b ∈ truths (sampled Y m a b) := by
  have hG := good_of hf
  have hb' : ∀ k, k < Y.nf → 0 ≤ b k ∧ b k ≤ 20 := fun k hk => by have := hb k hk; have := hG.f k hk; omega
  have hlt : ∀ i, spV Y m a i < Y.nv := fun i => Nat.mod_lt _ hv
  have h1 : SizesOk (sampled Y m a b) := ⟨hG.sz.1, hG.sz.2.1, by show wordN m a 0 % 6 ≤ 5; omega⟩
  have h2 : FieldsOk (sampled Y m a b) := hG.f
  have h3 : VatsOk (sampled Y m a b) := hG.v
  have h4 : SampsOk (sampled Y m a b) := fun k hk => by
    have h5 := spB_range (m := m) (a := a) hf hv hb' k
    have h6 := hlt k
    refine ⟨⟨?_, ?_⟩, ?_, ?_, ?_⟩
    · show (0 : Int) ≤ (spV Y m a k : Int); omega
    · show (spV Y m a k : Int) ≤ (Y.nv : Int) - 1; omega
    · show 0 ≤ spLo Y m a b k; unfold spLo; omega
    · show spLo Y m a b k ≤ spHi Y m a b k; unfold spLo spHi; omega
    · show spHi Y m a b k ≤ 999; unfold spHi; omega
  refine ⟨?_, ?_⟩
  · unfold faultN at hf ⊢
    rw [if_neg (by simpa using hG.sz), if_pos ⟨hG.f, hG.v, hG.s⟩] at hf
    rw [if_neg (by simpa using h1), if_pos ⟨h2, h3, h4⟩]
    exact hf
  · rw [truths_mem]
    refine ⟨⟨hb, hz⟩, fun k hk => ?_⟩
    have e : ((sampled Y m a b).sv k).toNat = spV Y m a k := by show ((spV Y m a k : Int)).toNat = _; omega
    have h5 := spB_range (m := m) (a := a) hf hv hb' k
    unfold RightB
    rw [e]
    constructor
    · show spLo Y m a b k ≤ spB Y m a b k
      unfold spLo; omega
    · show spB Y m a b k ≤ spHi Y m a b k
      unfold spHi; omega
theorem res_31 {a b : Nat} {f : Fr} {x : Value} (h1 : loadAgg 3 h (f a) = some x) : resV f h [.cellN a 3, .tmp b] = some (.tuple ⟨[x, f b]⟩) := by
  simp [resV, resL, res1, h1]
def s63 : SCode := (.seq (.ops [⟨(some 3), none, .box (T 0)⟩, ⟨(some 6), none, .alloc [(.slice none 0 0), (.slice none 0 0), (.slice none 0 0)]⟩, ⟨(some 7), none, .mov (.const (.slice none 0 0))⟩]) (.seq (.draw [⟨.rd, ⟨(some 14), none, .loadN 3 (T 3)⟩⟩, ⟨.free, ⟨(some 15), none, .mov (T 1)⟩⟩, ⟨.free, ⟨(some 16), none, .plain (.convert 86 3 (T 15)) 3⟩⟩, ⟨.rd1, ⟨(some 17), none, .loadN 3 (T 3)⟩⟩, ⟨.up, ⟨(some 18), none, .call (.func 108) [(T 17)]⟩⟩, ⟨.free, ⟨(some 19), none, .plain (.binOp .rem 3 (T 16) (T 18) 3) 3⟩⟩, ⟨.any, ⟨(some 20), none, .call (.func 109) [(T 14), (T 19)]⟩⟩, ⟨.free, ⟨(some 8), none, .mov (T 20)⟩⟩]) (.seq (.ops [⟨(some 21), none, .loadN 3 (T 3)⟩, ⟨(some 9), none, .alloc [(.slice none 0 0), (.slice none 0 0), (.slice none 0 0)]⟩, ⟨none, none, .store 3 (T 9) (T 21)⟩]) (.seq (.ops [⟨(some 22), none, .fieldAddr 2 (T 9)⟩, ⟨none, none, .store 1 (T 22) (.const (.slice none 0 0))⟩]) (.seq (.seq (.ops [⟨(some 10), none, .mov (.const (.int .i64 (0)))⟩]) (.block 0 (.loop (.seq (.seq (.ops [⟨(some 23), none, .mov (T 10)⟩, ⟨(some 24), none, .mov (T 2)⟩, ⟨(some 25), none, .call (.func 111) [(T 24), (.const (.int .i64 (0)))]⟩, ⟨(some 26), none, .plain (.binOp .rem 3 (T 25) (.const (.int .i64 (6))) 3) 3⟩, ⟨(some 27), none, .int2 .lss (T 23) (T 26)⟩, ⟨(some 28), none, .mov (T 27)⟩, ⟨(some 29), (some (28, true)), .fieldAddr 1 (T 3)⟩, ⟨(some 30), (some (28, true)), .load1 (T 29)⟩, ⟨(some 31), (some (28, true)), .len (T 30)⟩, ⟨(some 32), (some (28, true)), .int2 .gtr (T 31) (.const (.int .i64 (0)))⟩, ⟨(some 33), none, .pick (T 28) (T 32) (.const (.bool false))⟩]) (.cond (T 33) .skip (.exit 0))) (.seq (.block 1 (.seq (.draw [⟨.free, ⟨(some 36), none, .mov (T 2)⟩⟩, ⟨.free, ⟨(some 37), none, .mov (T 10)⟩⟩, ⟨.free, ⟨(some 38), none, .int2 .mul (.const (.int .i64 (2))) (T 37)⟩⟩, ⟨.free, ⟨(some 39), none, .int2 .add (T 38) (.const (.int .i64 (1)))⟩⟩, ⟨.up, ⟨(some 40), none, .call (.func 111) [(T 36), (T 39)]⟩⟩, ⟨.free, ⟨(some 41), none, .fieldAddr 1 (T 3)⟩⟩, ⟨.rd, ⟨(some 42), none, .load1 (T 41)⟩⟩, ⟨.free, ⟨(some 43), none, .len (T 42)⟩⟩, ⟨.free, ⟨(some 44), none, .plain (.binOp .rem 3 (T 40) (T 43) 3) 3⟩⟩, ⟨.free, ⟨(some 45), none, .mov (T 2)⟩⟩, ⟨.free, ⟨(some 46), none, .mov (T 10)⟩⟩, ⟨.free, ⟨(some 47), none, .int2 .mul (.const (.int .i64 (2))) (T 46)⟩⟩, ⟨.free, ⟨(some 48), none, .int2 .add (T 47) (.const (.int .i64 (2)))⟩⟩, ⟨.up, ⟨(some 49), none, .call (.func 111) [(T 45), (T 48)]⟩⟩, ⟨.free, ⟨(some 11), none, .mov (T 44)⟩⟩, ⟨.free, ⟨(some 12), none, .mov (T 49)⟩⟩]) (.seq (.ops [⟨(some 50), none, .loadN 3 (T 3)⟩, ⟨(some 51), none, .mov (T 8)⟩, ⟨(some 52), none, .mov (T 11)⟩, ⟨(some 53), none, .call (.func 33) [(T 50), (T 51), (T 52)]⟩, ⟨(some 13), none, .mov (T 53)⟩]) (.ops [⟨(some 54), none, .fieldAddr 2 (T 9)⟩, ⟨(some 55), none, .load1 (T 54)⟩, ⟨(some 56), none, .mov (T 11)⟩, ⟨(some 57), none, .mov (T 13)⟩, ⟨(some 58), none, .mov (T 12)⟩, ⟨(some 59), none, .plain (.binOp .rem 3 (T 58) (.const (.int .i64 (3))) 3) 3⟩, ⟨(some 60), none, .int2 .sub (T 57) (T 59)⟩, ⟨(some 61), none, .plain (.call { callee := .builtin .max, args := #[(.const (.int .i64 (0))), (T 60)], argTypes := #[3, 3] }) 3⟩, ⟨(some 62), none, .mov (T 13)⟩, ⟨(some 63), none, .mov (T 12)⟩, ⟨(some 64), none, .plain (.binOp .quo 3 (T 63) (.const (.int .i64 (3))) 3) 3⟩, ⟨(some 65), none, .plain (.binOp .rem 3 (T 64) (.const (.int .i64 (3))) 3) 3⟩, ⟨(some 66), none, .int2 .add (T 62) (T 65)⟩, ⟨(some 67), none, .build #[(0, 1), (1, 1)] [(.int .i64 (0)), (.int .i64 (0))] [0, 1] [(T 61), (T 66)]⟩, ⟨(some 68), none, .build #[(0, 1), (1, 2)] [(.int .i64 (0)), (.int .i64 (0)), (.int .i64 (0))] [0, 1] [(T 56), (T 67)]⟩, ⟨(some 69), none, .bslice 3 1 [(.int .i64 (0)), (.int .i64 (0)), (.int .i64 (0))] [0] [(T 68)]⟩, ⟨(some 70), none, .append 3 24 (T 55) (T 69)⟩, ⟨(some 71), none, .fieldAddr 2 (T 9)⟩, ⟨none, none, .store 1 (T 71) (T 70)⟩])))) (.ops [⟨(some 34), none, .mov (T 10)⟩, ⟨(some 35), none, .int2 .add (T 34) (.const (.int .i64 (1)))⟩, ⟨(some 10), none, .mov (T 35)⟩])))))) (.seq (.ops [⟨(some 72), none, .loadN 3 (T 9)⟩, ⟨(some 73), none, .mov (T 8)⟩, ⟨none, none, .store 3 (T 6) (T 72)⟩, ⟨(some 7), none, .mov (T 73)⟩]) .ret))))))
theorem fok63 : FnOk Try.prog 63 74 s63 [.cellN 6 3, .tmp 7] := ⟨Try.f63, _, Try.func63, rfl, Try.ntmps63, by kernel_rfl, by kernel_rfl⟩
theorem sampled_c (hn : 10020 ≤ n) (hr : h.next + 300 < far) (hfl : h.floor ≤ h.next) {fv vv sv ws : Value} {Y : MY} (hy : YardR h fv vv sv Y) (hf : faultN Y = 0) (hnv : 0 < Y.nv) {w0 m : Nat} (hw0 : w0 < 65536) {a : Nat → Nat} (hw : Words h ws m a) :
    ∃ v h', call n (.func (.func 63) #[] #[]) [.agg ⟨[fv, vv, sv]⟩, .int .u16 (w0 : Int), ws] h = some (v, h') ∧ Made h h' 100 ∧ ∃ S bl b, v = .tuple ⟨[.agg ⟨[fv, vv, S]⟩, bl]⟩ ∧ YardR h' fv vv S (sampled Y m a b) ∧ Ints h' bl Y.nf b ∧ (∀ k, k < Y.nf → Y.lo k ≤ b k ∧ b k ≤ Y.hi k) ∧ ∀ k, Y.nf ≤ k → b k = 0 := by
  obtain ⟨n, rfl⟩ : ∃ p, n = p + 1 := ⟨n - 1, by omega⟩
  have hG := good_of hf
  obtain ⟨z1, z2, z3⟩ := hG.sz
  refine call_any0 fok63 rfl rfl (by simp) ?_
  simp only [s63, W_seq, W_ops]
  refine ops_box (cs := [fv, vv, sv]) (by omega) rfl hy.one fun g1 hx1 => ?_
  have n1 := hx1.next
  have f1' := hx1.floor
  have e1 : g1.next = h.next + 1 := n1
  simp only [rn0, rn1, rn2, rn3, rn4, rn5, rn6, rn7, rn8, if_true, if_false, Nat.le_refl, true_and, and_true, decide_true, decide_false, Bool.not_true, Bool.not_false, reduceIte, Nat.reduceEqDiff, Nat.reduceAdd, Nat.reduceMul, Nat.reduceSub, Nat.reduceLeDiff, Nat.reduceLT]
  refine step_row (cs := [nilS, nilS, nilS]) (by omega) rfl rfl fun g2 hx2 => ?_
  have n2 := hx2.next
  have f2' := hx2.floor
  have e2 : g2.next = h.next + 2 := by omega
  have w2 := (hx1.row.mono hx2.sub).whole (n := 3) rfl
  have s2 : Sub All h g2 := hx1.sub.trans hx2.sub
  have hy2 := hy.mono s2
  obtain ⟨b1, b2⟩ := manyN_bound (lo := Y.lo) (hi := Y.hi) (n := Y.nf) hG.f Y.nf (Nat.le_refl _)
  have emany := many_c (n := n) (h := g2) (by omega) (by omega) hy2 (by omega) hG.f
  obtain ⟨M, hM⟩ : ∃ M : Nat, (M : Int) = manyN Y.lo Y.hi Y.nf := ⟨(manyN Y.lo Y.hi Y.nf).toNat, by omega⟩
  rw [← hM] at emany
  have zM : ¬ (M : Int) = 0 := by omega
  obtain ⟨k, hk⟩ : ∃ k, k = w0 % M := ⟨_, rfl⟩
  have m1 : (w0 : Int).tmod (M : Int) = (k : Int) := by rw [hk]; rfl
  have hkM : k < M := by rw [hk]; exact Nat.mod_lt _ (by omega)
  obtain ⟨bl, g3, enth, hbl, mg3, bo, bb⟩ := nth_c (n := n) (h := g2) (m := k) (by omega) (by omega) (by omega) hy2 z1 hG.f (by omega)
  have n3 := mg3.next
  have u3 := mg3.up
  have f3' := mg3.floor
  obtain ⟨b, hb⟩ : ∃ b, b = nthB Y.lo Y.hi Y.nf k := ⟨_, rfl⟩
  rw [← hb] at hbl
  have hbr : ∀ k, k < Y.nf → Y.lo k ≤ b k ∧ b k ≤ Y.hi k := by rw [hb]; exact (nthB_are hG.f).2
  have hbz : ∀ k, Y.nf ≤ k → b k = 0 := fun j hj => by rw [hb]; unfold nthB; rw [if_neg (by omega)]
  have hb' : ∀ k, k < Y.nf → 0 ≤ b k ∧ b k ≤ 20 := fun k hk => by have := hbr k hk; have := hG.f k hk; omega
  simp only [rn0, rn1, rn2, rn3, rn4, rn5, rn6, rn7, rn8, if_true, if_false, Nat.le_refl, true_and, and_true, decide_true, decide_false, Bool.not_true, Bool.not_false, reduceIte, Nat.reduceEqDiff, Nat.reduceAdd, Nat.reduceMul, Nat.reduceSub, Nat.reduceLeDiff, Nat.reduceLT]
  refine W_draw All ?_
  simp only [rn0, rn1, rn2, rn3, rn4, rn5, rn6, rn7, rn8, if_true, if_false, Nat.le_refl, true_and, and_true, decide_true, decide_false, Bool.not_true, Bool.not_false, reduceIte, Nat.reduceEqDiff, Nat.reduceAdd, Nat.reduceMul, Nat.reduceSub, Nat.reduceLeDiff, Nat.reduceLT, w2, hy2.self, p_conv16, r_16 hw0, valN_tmp, valN_const, Nat.reduceLT, emany, zM, r_rem zM, m1, enth]
  refine ⟨by omega, ?_⟩
  have s3 : Sub All h g3 := s2.trans mg3.sub
  have r1 : Row g3 h.next [fv, vv, sv] := (hx1.row.mono hx2.sub).mono mg3.sub
  have w3 := r1.whole (n := 3) rfl
  have hres3 : g3.get (h.next + 1) = some (.row [nilS, nilS, nilS] true 0) := by have := mg3.sub _ _ _ _ trivial hx2.get; rw [e1] at this; exact this
  simp only [rn0, rn1, rn2, rn3, rn4, rn5, rn6, rn7, rn8, if_true, if_false, Nat.le_refl, true_and, and_true, decide_true, decide_false, Bool.not_true, Bool.not_false, reduceIte, Nat.reduceEqDiff, Nat.reduceAdd, Nat.reduceMul, Nat.reduceSub, Nat.reduceLeDiff, Nat.reduceLT, w3]
  refine step_new (vs := [fv, vv, sv]) (by omega) (by omega) rfl (by simp only [rn0, rn1, rn2, rn3, rn4, rn5, rn6, rn7, rn8, if_true, if_false, Nat.le_refl, true_and, and_true, decide_true, decide_false, Bool.not_true, Bool.not_false, reduceIte, Nat.reduceEqDiff, Nat.reduceAdd, Nat.reduceMul, Nat.reduceSub, Nat.reduceLeDiff, Nat.reduceLT]; rfl) hy.one rfl rfl fun g4 hx4 => ?_
  have n4 := hx4.next
  have f4' := hx4.floor
  obtain ⟨q, hqq⟩ : ∃ q, q = g3.next := ⟨_, rfl⟩
  have hg4 := hx4.get
  rw [← hqq] at hg4
  rw [e1, ← hqq]
  simp only [rn0, rn1, rn2, rn3, rn4, rn5, rn6, rn7, rn8, if_true, if_false, Nat.le_refl, true_and, and_true, decide_true, decide_false, Bool.not_true, Bool.not_false, reduceIte, Nat.reduceEqDiff, Nat.reduceAdd, Nat.reduceMul, Nat.reduceSub, Nat.reduceLeDiff, Nat.reduceLT, Nat.zero_add]
  refine step_store (b := q) (off := 2) (vs := [nilS]) rfl hg4 (by omega) (by omega) rfl rfl rfl (by simp) fun g5 hs5 => ?_
  rw [spliceN2] at hs5
  have n5 := hs5.next
  have f5' := hs5.floor
  have o5 : ∀ i, i < q → g5.get i = g3.get i := fun i hi => by rw [hs5.old i (by omega), hx4.old i (by omega)]
  have s5 : Sub All h g5 := fun i cs w gr t hg => by rw [o5 i (by have := AHeap.lt_of_get (s3 _ _ _ _ t hg); omega)]; exact s3 _ _ _ _ t hg
  have hbox : Row g5 h.next [fv, vv, sv] := by
    obtain ⟨w, gr, e⟩ := r1
    exact ⟨w, gr, by rw [o5 _ (by omega)]; exact e⟩
  have hres : g5.get (h.next + 1) = some (.row [nilS, nilS, nilS] true 0) := by rw [o5 _ (by omega)]; exact hres3
  have hout : g5.get q = some (.row [fv, vv, nilS] true 0) := hs5.get
  have hbl5 : Ints g5 bl Y.nf b := by
    obtain ⟨a, cap, e, hsp, h0 | ⟨bb', o, cs, w, gr, q1, q2, q3⟩⟩ := hbl
    · exact ⟨a, cap, e, hsp, .inl h0⟩
    · exact ⟨a, cap, e, hsp, .inr ⟨bb', o, cs, w, gr, q1, by rw [o5 _ (by have := AHeap.lt_of_get q2; omega)]; exact q2, q3⟩⟩
  clear hs5 hx4 hg4
  have hall : ∀ {g : AHeap}, Keep q g5 g → Sub All h g := fun st i cs w gr _ hg => st.sub i cs w gr (by have := AHeap.lt_of_get hg; omega) (s5 _ _ _ _ trivial hg)
  have hblk : ∀ {g : AHeap}, Keep q g5 g → Ints g bl Y.nf b := fun {g} st => by
    obtain ⟨a, cap, e, hsp, h0 | ⟨bb', o, cs, w, gr, q1, q2, q3⟩⟩ := hbl5
    · exact ⟨a, cap, e, hsp, .inl h0⟩
    · refine ⟨a, cap, e, hsp, .inr ⟨bb', o, cs, w, gr, q1, st.sub _ _ _ _ ?_ q2, q3⟩⟩
      subst q1
      have := (bb _ _ _ e).2
      show bb' ≠ q
      have h2 : bb' < g3.next := this
      omega
  obtain ⟨K, hK⟩ : ∃ K, K = wordN m a 0 % 6 := ⟨_, rfl⟩
  have mK : ((wordN m a 0 : Nat) : Int).tmod 6 = (K : Int) := by rw [hK]; rfl
  have z6 : ¬ (6 : Int) = 0 := by decide
  have z3' : ¬ (3 : Int) = 0 := by decide
  have zv : ¬ (Y.nv : Int) = 0 := by omega
  have hv0 : (0 : Int) < (Y.nv : Int) := by omega
  have ew0 : ∀ g, Sub All h g → call n (.func (.func 111) #[] #[]) [ws, .int .i64 0] g = some (.int .i64 ((wordN m a 0 : Nat) : Int), g) := fun g hs => word_c (n := n) (by omega) (hw.mono hs) 0
  simp only [rn0, rn1, rn2, rn3, rn4, rn5, rn6, rn7, rn8, if_true, if_false, Nat.le_refl, true_and, and_true, decide_true, decide_false, Bool.not_true, Bool.not_false, reduceIte, Nat.reduceEqDiff, Nat.reduceAdd, Nat.reduceMul, Nat.reduceSub, Nat.reduceLeDiff, Nat.reduceLT]
  refine W_loop K (fun i f g ms => (∃ S, Keep q g5 g ∧ g.get q = some (.row [fv, vv, S] true 0) ∧ GrowC g5.next g S 3 i (spC Y m a b) ∧ g.next ≤ g5.next + 2 * i) ∧ ms = [] ∧ f 2 = ws ∧ f 3 = .pointer (some ⟨h.next, 0, none⟩) ∧ f 6 = .pointer (some ⟨h.next + 1, 0, none⟩) ∧ f 8 = bl ∧ f 9 = .pointer (some ⟨q, 0, none⟩) ∧ f 10 = .int .i64 (i : Int)) (by simp; omega) ?_ ?_ ?_
  · simp only [rn0, rn1, rn2, rn3, rn4, rn5, rn6, rn7, rn8, if_true, if_false, Nat.le_refl, true_and, and_true, decide_true, decide_false, Bool.not_true, Bool.not_false, reduceIte, Nat.reduceEqDiff, Nat.reduceAdd, Nat.reduceMul, Nat.reduceSub, Nat.reduceLeDiff, Nat.reduceLT]
    exact ⟨⟨_, Keep.refl, hout, .nil, by omega⟩, rfl⟩
  · rintro i f g ms hi ⟨⟨S, st, go, gS, hgn⟩, rfl, p2, p3, p6, p8, p9, p10⟩
    have hi' : (i : Int) < (K : Int) := by omega
    have hwi : wrapF .i64 ((i : Int) + 1) = ((i + 1 : Nat) : Int) := by rw [wrap_in (by omega) (by omega)]; rfl
    have hrow : Row g q [fv, vv, S] := ⟨_, _, go⟩
    have hbx := hbox.keep st (by omega)
    have hyg := hy.mono (hall st)
    obtain ⟨rr, hrw, hq⟩ := hyg.v
    have hup := st.up
    have hfg := st.floor
    have hw2i : wrapF .i64 (2 * (i : Int)) = ((2 * i : Nat) : Int) := by rw [wrap_in (by omega) (by omega)]; omega
    have hw2i1 : wrapF .i64 (((2 * i : Nat) : Int) + 1) = ((2 * i + 1 : Nat) : Int) := by rw [wrap_in (by omega) (by omega)]; omega
    have hw2i2 : wrapF .i64 (((2 * i : Nat) : Int) + 2) = ((2 * i + 2 : Nat) : Int) := by rw [wrap_in (by omega) (by omega)]; omega
    have ew1 := word_c (n := n) (by omega) (hw.mono (hall st)) (2 * i + 1)
    have ew2 := word_c (n := n) (by omega) (hw.mono (hall st)) (2 * i + 2)
    have mv : ((wordN m a (2 * i + 1) : Nat) : Int).tmod (Y.nv : Int) = (spV Y m a i : Int) := rfl
    have hvl : spV Y m a i < Y.nv := Nat.mod_lt _ hnv
    obtain ⟨v1, v2⟩ := hG.v _ hvl
    have ebl := blue_c (n := n) (h := g) (at_ := spV Y m a i) (by omega) (by omega) hyg (hblk st) (by omega) hvl (by omega) hb' (fun k hk => v2 k (by omega))
    change _ = some (Value.int .i64 (spB Y m a b i), g) at ebl
    have hbr2 := spB_range (m := m) (a := a) hf hnv hb' i
    obtain ⟨k2, hk2⟩ : ∃ k2, k2 = wordN m a (2 * i + 2) := ⟨_, rfl⟩
    have hk2l : k2 < 65536 := by rw [hk2]; exact wordN_lt hw _
    have t1 : (k2 : Int).tmod 3 = ((k2 % 3 : Nat) : Int) := rfl
    have t2 : IntKind.wrap .i64 ((k2 : Int).tdiv 3) = ((k2 / 3 : Nat) : Int) := by
      have e : (k2 : Int).tdiv 3 = ((k2 / 3 : Nat) : Int) := rfl
      rw [e]; exact IntWalk.i64_in _ (by omega)
    have t3 : ((k2 / 3 : Nat) : Int).tmod 3 = ((k2 / 3 % 3 : Nat) : Int) := rfl
    have hq1 : wrapF .i64 (spB Y m a b i - ((k2 % 3 : Nat) : Int)) = spB Y m a b i - ((k2 % 3 : Nat) : Int) := wrap_in (by omega) (by omega)
    have hq2 : wrapF .i64 (spB Y m a b i + ((k2 / 3 % 3 : Nat) : Int)) = spHi Y m a b i := by rw [wrap_in (by omega) (by omega)]; unfold spHi; rw [hk2]
    have hq3 : max 0 (spB Y m a b i - ((k2 % 3 : Nat) : Int)) = spLo Y m a b i := by unfold spLo; rw [hk2]
    rw [← hk2] at ew2
    simp only [rn0, rn1, rn2, rn3, rn4, rn5, rn6, rn7, rn8, if_true, if_false, Nat.le_refl, true_and, and_true, decide_true, decide_false, Bool.not_true, Bool.not_false, reduceIte, Nat.reduceEqDiff, Nat.reduceAdd, Nat.reduceMul, Nat.reduceSub, Nat.reduceLeDiff, Nat.reduceLT, p2, p3, p6, p8, p9, p10, ew0 _ (hall st), valN_tmp, valN_const, Nat.reduceLT, z6, r_rem z6, mK, hi', hbx.ld, Nat.zero_add, List.getElem?_cons_zero, List.getElem?_cons_succ, Cells.len hrw, hv0]
    refine W_draw All ?_
    simp only [rn0, rn1, rn2, rn3, rn4, rn5, rn6, rn7, rn8, if_true, if_false, Nat.le_refl, true_and, and_true, decide_true, decide_false, Bool.not_true, Bool.not_false, reduceIte, Nat.reduceEqDiff, Nat.reduceAdd, Nat.reduceMul, Nat.reduceSub, Nat.reduceLeDiff, Nat.reduceLT, p2, p3, p6, p8, p9, p10, hw2i, hw2i1, hw2i2, ew1, ew2, hbx.ld, Nat.zero_add, List.getElem?_cons_zero, List.getElem?_cons_succ, Cells.self hrw, Cells.len hrw, valN_tmp, valN_const, Nat.reduceLT, zv, r_rem zv, mv]
    simp only [rn0, rn1, rn2, rn3, rn4, rn5, rn6, rn7, rn8, if_true, if_false, Nat.le_refl, true_and, and_true, decide_true, decide_false, Bool.not_true, Bool.not_false, reduceIte, Nat.reduceEqDiff, Nat.reduceAdd, Nat.reduceMul, Nat.reduceSub, Nat.reduceLeDiff, Nat.reduceLT, p2, p3, p6, p8, p9, p10, hbx.whole (n := 3) rfl, ebl, hrow.ld, Nat.zero_add, List.getElem?_cons_zero, List.getElem?_cons_succ, valN_tmp, valN_const, Nat.reduceLT, z3', r_rem z3', r_quo z3', t1, t2, t3, hq1, hq2, hq3, build_range, build_samp, sl_samp]
    refine step_slice (by omega) rfl fun g6 hx => ?_
    have hgx := hx.next
    have hgf := hx.floor
    have gS1 := gS.keep (hx.keep (o := q)) (by omega)
    obtain ⟨S', g7, e, e', gS', hk7⟩ := gS1.append (bytes := 24) (cap := 1) (by omega) (by omega) (by omega) hx.get rfl rfl (fun j hj => by
      unfold spC
      obtain rfl | rfl | rfl : j = 0 ∨ j = 1 ∨ j = 2 := by omega
      all_goals rfl) (by simp [maxBytes]; omega) (by simp [maxBytes]; omega)
    obtain ⟨st2, go2⟩ := grew (st.trans hx.keep) hk7 (fun a k c e => (gS1.block e).1) (by omega) (hx.sub _ _ _ _ trivial go)
    have hgx2 := hk7.next
    have hgf2 := hk7.floor
    simp only [rn0, rn1, rn2, rn3, rn4, rn5, rn6, rn7, rn8, if_true, if_false, Nat.le_refl, true_and, and_true, decide_true, decide_false, Bool.not_true, Bool.not_false, reduceIte, Nat.reduceEqDiff, Nat.reduceAdd, Nat.reduceMul, Nat.reduceSub, Nat.reduceLeDiff, Nat.reduceLT, p2, p3, p6, p8, p9, p10, e, Nat.add_zero, Nat.zero_add]
    refine step_store (b := q) (off := 2) (vs := [S']) rfl go2 (by omega) (by omega) (by rw [e']; rfl) (by simp [allB, gS'.one]) rfl (by simp) fun g8 hs => ?_
    have hgx3 := hs.next
    simp only [rn0, rn1, rn2, rn3, rn4, rn5, rn6, rn7, rn8, if_true, if_false, Nat.le_refl, true_and, and_true, decide_true, decide_false, Bool.not_true, Bool.not_false, reduceIte, Nat.reduceEqDiff, Nat.reduceAdd, Nat.reduceMul, Nat.reduceSub, Nat.reduceLeDiff, Nat.reduceLT, p2, p3, p6, p8, p9, p10, hwi]
    exact ⟨_, set_keep st2 hs, hs.get, gS'.keep hs.keep (by omega), by omega⟩
  · rintro f g ms ⟨⟨S, st, go, gS, hgn⟩, rfl, p2, p3, p6, p8, p9, p10⟩
    have hbx := hbox.keep st (by omega)
    have hyg := hy.mono (hall st)
    have hup := st.up
    have hfg := st.floor
    have w5 := (show Row g q [fv, vv, S] from ⟨_, _, go⟩).whole (n := 3) rfl
    have hone : allB oneCell [fv, vv, S] = true := by have h1 := hy.one; simp [allB] at h1 ⊢; simp [h1, gS.one]
    simp only [rn0, rn1, rn2, rn3, rn4, rn5, rn6, rn7, rn8, if_true, if_false, Nat.le_refl, true_and, and_true, decide_true, decide_false, Bool.not_true, Bool.not_false, reduceIte, Nat.reduceEqDiff, Nat.reduceAdd, Nat.reduceMul, Nat.reduceSub, Nat.reduceLeDiff, Nat.reduceLT, p2, p3, p6, p8, p9, p10, ew0 _ (hall st), valN_tmp, valN_const, Nat.reduceLT, z6, r_rem z6, mK, Int.lt_irrefl, w5]
    refine step_store (b := h.next + 1) (off := 0) (vs := [fv, vv, S]) rfl (st.sub _ _ _ _ (by omega) hres) (by omega) (by omega) rfl hone rfl (by simp) fun g6 hs6 => ?_
    rw [show splice [nilS, nilS, nilS] 0 [fv, vv, S] = [fv, vv, S] from rfl] at hs6
    have n6 := hs6.next
    have f6' := hs6.floor
    have w6 := hs6.row.whole (n := 3) rfl
    simp only [rn0, rn1, rn2, rn3, rn4, rn5, rn6, rn7, rn8, if_true, if_false, Nat.le_refl, true_and, and_true, decide_true, decide_false, Bool.not_true, Bool.not_false, reduceIte, Nat.reduceEqDiff, Nat.reduceAdd, Nat.reduceMul, Nat.reduceSub, Nat.reduceLeDiff, Nat.reduceLT, p6, p8]
    have k6 : Sub All h g6 := fun i cs w gr _ hg => by
      have hlt := AHeap.lt_of_get hg
      exact hs6.keep.sub _ _ _ _ (by omega) (hall st _ _ _ _ trivial hg)
    have hy6 := hy.mono k6
    refine ⟨_, res_31 (x := .agg ⟨[fv, vv, S]⟩) (by simp only [rn0, rn1, rn2, rn3, rn4, rn5, rn6, rn7, rn8, if_true, if_false, Nat.le_refl, true_and, and_true, decide_true, decide_false, Bool.not_true, Bool.not_false, reduceIte, Nat.reduceEqDiff, Nat.reduceAdd, Nat.reduceMul, Nat.reduceSub, Nat.reduceLeDiff, Nat.reduceLT, p6, w6]), ⟨k6, by omega, by omega, by omega⟩, S, bl, b, rfl, ⟨hy6.f, hy6.v, ?_⟩, ?_, hbr, hbz⟩
    · have := (gS.keep hs6.keep (by omega)).cells
      rw [hK] at this
      exact this
    · obtain ⟨a, cap, e, hsp, h0 | ⟨bb', o, cs, w, gr, q1, q2, q3⟩⟩ := hblk st
      · exact ⟨a, cap, e, hsp, .inl h0⟩
      · refine ⟨a, cap, e, hsp, .inr ⟨bb', o, cs, w, gr, q1, ?_, q3⟩⟩
        subst q1
        have h9 := bb _ _ _ e
        rw [hs6.old _ ?_]
        · exact q2
        · have h8 : g2.next ≤ bb' := h9.1
          omega
end Go.Vm.Vat

namespace Go.Vm.Vat
open Go.Proofs
set_option linter.unusedSimpArgs false
set_option linter.unusedVariables false
set_option maxRecDepth 10000
variable {n : Nat} {h : AHeap}
theorem quoM {a d : Nat} (h : a < 65536) : IntKind.wrap .i64 ((a : Int).tdiv (d : Int)) = ((a / d : Nat) : Int) := by
  have e : (a : Int).tdiv (d : Int) = ((a / d : Nat) : Int) := rfl
  have : a / d ≤ a := Nat.div_le_self _ _
  rw [e]
  generalize a / d = q at this
  exact IntWalk.i64_in _ (by omega)
theorem verdict_in {Y : MY} {a b : Nat} : verdictV Y a b = 1 ∨ verdictV Y a b = 2 ∨ verdictV Y a b = 3 := by
  unfold verdictV
  by_cases c1 : ∀ t, t ∈ truths Y → ¬ Above Y a b t
  · rw [if_pos c1]; omega
  · rw [if_neg c1]
    by_cases c2 : ∀ t, t ∈ truths Y → Above Y a b t
    · rw [if_pos c2]; omega
    · rw [if_neg c2]; omega
theorem verdict_one {Y : MY} {a b : Nat} (h : verdictV Y a b = 1) {t : Nat → Int} (ht : t ∈ truths Y) : Above Y a b t := by
  unfold verdictV at h
  by_cases c1 : ∀ t, t ∈ truths Y → ¬ Above Y a b t
  · rw [if_pos c1] at h; cases h
  · rw [if_neg c1] at h
    by_cases c2 : ∀ t, t ∈ truths Y → Above Y a b t
    · exact c2 t ht
    · rw [if_neg c2] at h; cases h
theorem verdict_two {Y : MY} {a b : Nat} (h : verdictV Y a b = 2) {t : Nat → Int} (ht : t ∈ truths Y) : ¬ Above Y a b t := by
  unfold verdictV at h
  by_cases c1 : ∀ t, t ∈ truths Y → ¬ Above Y a b t
  · exact c1 t ht
  · rw [if_neg c1] at h
    by_cases c2 : ∀ t, t ∈ truths Y → Above Y a b t
    · rw [if_pos c2] at h; cases h
    · rw [if_neg c2] at h; cases h
/-- if some blues are a truth nothing need be left out -/
theorem leave_none {Y : MY} {b : Nat → Int} (hb : b ∈ truths Y) : leaveRun Y = [] := by
  rw [truths_mem] at hb
  obtain ⟨⟨h1, h2⟩, h3⟩ := hb
  have hm : b ∈ enumB Y.lo Y.hi Y.nf 0 fun _ => 0 := by rw [enumB_ok]; exact ⟨fun j _ hj => h1 j (by omega), fun j hj => h2 j (by omega)⟩
  have hl := leave_min hm
  have he : ∀ k, k ≤ Y.ns → pickL (fun j => ¬ RightB Y b j) k = [] := by
    intro k
    induction k with
    | zero => intro _; rfl
    | succ k ih => intro hk; rw [pick_no (p := fun j => ¬ RightB Y b j) (fun hn => hn (h3 k (by omega))), ih (by omega)]
  rw [he _ (Nat.le_refl _)] at hl
  exact List.eq_nil_of_length_eq_zero (by simpa using hl)
def s10 : SCode := (.seq (.ops [⟨(some 5), none, .box (T 0)⟩, ⟨(some 10), none, .mov (.const (.bool false))⟩]) (.seq (.seq (.ops [⟨(some 34), none, .loadN 3 (T 5)⟩, ⟨(some 35), none, .call (.func 62) [(T 34)]⟩, ⟨(some 36), none, .not (T 35)⟩, ⟨(some 37), none, .mov (T 36)⟩, ⟨(some 38), (some (37, false)), .fieldAddr 0 (T 5)⟩, ⟨(some 39), (some (37, false)), .load1 (T 38)⟩, ⟨(some 40), (some (37, false)), .len (T 39)⟩, ⟨(some 41), (some (37, false)), .int2 .eql (T 40) (.const (.int .i64 (0)))⟩, ⟨(some 42), none, .pick (T 37) (.const (.bool true)) (T 41)⟩, ⟨(some 43), none, .mov (T 42)⟩, ⟨(some 44), (some (43, false)), .fieldAddr 1 (T 5)⟩, ⟨(some 45), (some (43, false)), .load1 (T 44)⟩, ⟨(some 46), (some (43, false)), .len (T 45)⟩, ⟨(some 47), (some (43, false)), .int2 .lss (T 46) (.const (.int .i64 (2)))⟩, ⟨(some 48), none, .pick (T 43) (.const (.bool true)) (T 47)⟩]) (.cond (T 48) (.seq (.ops [⟨(some 49), none, .call (.func 24) []⟩, ⟨(some 10), none, .mov (T 49)⟩]) .ret) .skip)) (.seq (.ops [⟨(some 51), none, .loadN 3 (T 5)⟩, ⟨(some 52), none, .mov (T 1)⟩, ⟨(some 53), none, .mov (T 2)⟩, ⟨(some 54), none, .call (.func 63) [(T 51), (T 52), (T 53)]⟩, ⟨(some 50), none, .mov (T 54)⟩, ⟨(some 55), none, .extract 0 (T 50)⟩, ⟨(some 56), none, .extract 1 (T 50)⟩, ⟨(some 11), none, .alloc [(.slice none 0 0), (.slice none 0 0), (.slice none 0 0)]⟩, ⟨none, none, .store 3 (T 11) (T 55)⟩, ⟨(some 12), none, .mov (T 56)⟩]) (.seq (.draw [⟨.free, ⟨(some 57), none, .mov (T 3)⟩⟩, ⟨.free, ⟨(some 58), none, .plain (.convert 5 3 (T 57)) 3⟩⟩, ⟨.free, ⟨(some 59), none, .fieldAddr 1 (T 5)⟩⟩, ⟨.rd1, ⟨(some 60), none, .load1 (T 59)⟩⟩, ⟨.free, ⟨(some 61), none, .len (T 60)⟩⟩, ⟨.free, ⟨(some 62), none, .plain (.binOp .rem 3 (T 58) (T 61) 3) 3⟩⟩, ⟨.free, ⟨(some 63), none, .mov (T 3)⟩⟩, ⟨.free, ⟨(some 64), none, .plain (.convert 5 3 (T 63)) 3⟩⟩, ⟨.free, ⟨(some 65), none, .plain (.binOp .quo 3 (T 64) (.const (.int .i64 (8))) 3) 3⟩⟩, ⟨.free, ⟨(some 66), none, .fieldAddr 0 (T 5)⟩⟩, ⟨.rd1, ⟨(some 67), none, .load1 (T 66)⟩⟩, ⟨.free, ⟨(some 68), none, .len (T 67)⟩⟩, ⟨.free, ⟨(some 69), none, .plain (.binOp .rem 3 (T 65) (T 68) 3) 3⟩⟩, ⟨.free, ⟨(some 13), none, .mov (T 62)⟩⟩, ⟨.free, ⟨(some 14), none, .mov (T 69)⟩⟩]) (.seq (.draw [⟨.free, ⟨(some 70), none, .mov (T 13)⟩⟩, ⟨.free, ⟨(some 71), none, .int2 .add (T 70) (.const (.int .i64 (1)))⟩⟩, ⟨.free, ⟨(some 72), none, .mov (T 3)⟩⟩, ⟨.free, ⟨(some 73), none, .plain (.convert 5 3 (T 72)) 3⟩⟩, ⟨.free, ⟨(some 74), none, .plain (.binOp .quo 3 (T 73) (.const (.int .i64 (64))) 3) 3⟩⟩, ⟨.free, ⟨(some 75), none, .fieldAddr 1 (T 5)⟩⟩, ⟨.rd1, ⟨(some 76), none, .load1 (T 75)⟩⟩, ⟨.free, ⟨(some 77), none, .len (T 76)⟩⟩, ⟨.free, ⟨(some 78), none, .int2 .sub (T 77) (.const (.int .i64 (1)))⟩⟩, ⟨.free, ⟨(some 79), none, .plain (.binOp .rem 3 (T 74) (T 78) 3) 3⟩⟩, ⟨.free, ⟨(some 80), none, .int2 .add (T 71) (T 79)⟩⟩, ⟨.free, ⟨(some 81), none, .fieldAddr 1 (T 5)⟩⟩, ⟨.rd1, ⟨(some 82), none, .load1 (T 81)⟩⟩, ⟨.free, ⟨(some 83), none, .len (T 82)⟩⟩, ⟨.free, ⟨(some 84), none, .plain (.binOp .rem 3 (T 80) (T 83) 3) 3⟩⟩, ⟨.free, ⟨(some 15), none, .mov (T 84)⟩⟩]) (.seq (.ops [⟨(some 86), none, .loadN 3 (T 11)⟩, ⟨(some 87), none, .call (.func 26) [(T 86)]⟩, ⟨(some 88), none, .call (.func 34) [(T 87)]⟩, ⟨(some 85), none, .mov (T 88)⟩, ⟨(some 89), none, .extract 0 (T 85)⟩, ⟨(some 90), none, .extract 1 (T 85)⟩, ⟨(some 16), none, .mov (T 89)⟩, ⟨(some 17), none, .mov (T 90)⟩]) (.seq (.ops [⟨(some 92), none, .loadN 3 (T 11)⟩, ⟨(some 93), none, .call (.func 26) [(T 92)]⟩, ⟨(some 94), none, .call (.func 35) [(T 93)]⟩, ⟨(some 91), none, .mov (T 94)⟩, ⟨(some 95), none, .extract 0 (T 91)⟩, ⟨(some 96), none, .extract 1 (T 91)⟩, ⟨(some 18), none, .mov (T 95)⟩, ⟨(some 19), none, .mov (T 96)⟩]) (.seq (.ops [⟨(some 98), none, .loadN 3 (T 11)⟩, ⟨(some 99), none, .call (.func 26) [(T 98)]⟩, ⟨(some 100), none, .mov (T 12)⟩, ⟨(some 101), none, .call (.func 27) [(T 100)]⟩, ⟨(some 102), none, .call (.func 25) [(T 99), (T 101)]⟩, ⟨(some 97), none, .mov (T 102)⟩, ⟨(some 103), none, .extract 0 (T 97)⟩, ⟨(some 104), none, .extract 1 (T 97)⟩, ⟨(some 20), none, .mov (T 103)⟩, ⟨(some 21), none, .mov (T 104)⟩]) (.seq (.ops [⟨(some 106), none, .loadN 3 (T 11)⟩, ⟨(some 107), none, .call (.func 26) [(T 106)]⟩, ⟨(some 108), none, .mov (T 13)⟩, ⟨(some 109), none, .mov (T 15)⟩, ⟨(some 110), none, .call (.func 40) [(T 107), (T 108), (T 109)]⟩, ⟨(some 105), none, .mov (T 110)⟩, ⟨(some 111), none, .extract 0 (T 105)⟩, ⟨(some 112), none, .extract 1 (T 105)⟩, ⟨(some 22), none, .mov (T 111)⟩, ⟨(some 23), none, .mov (T 112)⟩]) (.seq (.ops [⟨(some 114), none, .loadN 3 (T 11)⟩, ⟨(some 115), none, .call (.func 26) [(T 114)]⟩, ⟨(some 116), none, .mov (T 13)⟩, ⟨(some 117), none, .mov (T 14)⟩, ⟨(some 118), none, .mov (T 4)⟩, ⟨(some 119), none, .plain (.convert 5 3 (T 118)) 3⟩, ⟨(some 120), none, .plain (.binOp .rem 3 (T 119) (.const (.int .i64 (60))) 3) 3⟩, ⟨(some 121), none, .call (.func 46) [(T 115), (T 116), (T 117), (T 120)]⟩, ⟨(some 113), none, .mov (T 121)⟩, ⟨(some 122), none, .extract 0 (T 113)⟩, ⟨(some 123), none, .extract 1 (T 113)⟩, ⟨(some 24), none, .mov (T 122)⟩, ⟨(some 25), none, .mov (T 123)⟩]) (.seq (.ops [⟨(some 125), none, .loadN 3 (T 11)⟩, ⟨(some 126), none, .call (.func 26) [(T 125)]⟩, ⟨(some 127), none, .mov (T 14)⟩, ⟨(some 128), none, .mov (T 4)⟩, ⟨(some 129), none, .plain (.convert 5 3 (T 128)) 3⟩, ⟨(some 130), none, .plain (.binOp .rem 3 (T 129) (.const (.int .i64 (10))) 3) 3⟩, ⟨(some 131), none, .call (.func 48) [(T 126), (T 127), (T 130)]⟩, ⟨(some 124), none, .mov (T 131)⟩, ⟨(some 132), none, .extract 0 (T 124)⟩, ⟨(some 133), none, .extract 1 (T 124)⟩, ⟨(some 134), none, .extract 2 (T 124)⟩, ⟨(some 26), none, .mov (T 132)⟩, ⟨(some 27), none, .mov (T 133)⟩, ⟨(some 28), none, .mov (T 134)⟩]) (.seq (.ops [⟨(some 136), none, .loadN 3 (T 11)⟩, ⟨(some 137), none, .call (.func 26) [(T 136)]⟩, ⟨(some 138), none, .call (.func 54) [(T 137)]⟩, ⟨(some 135), none, .mov (T 138)⟩, ⟨(some 139), none, .extract 0 (T 135)⟩, ⟨(some 140), none, .extract 1 (T 135)⟩, ⟨(some 29), none, .mov (T 139)⟩, ⟨(some 30), none, .mov (T 140)⟩]) (.seq (.seq (.ops [⟨(some 141), none, .mov (T 17)⟩, ⟨(some 142), none, .int2 .neq (T 141) (.const (.int .i64 (0)))⟩, ⟨(some 143), none, .mov (T 142)⟩, ⟨(some 144), (some (143, false)), .mov (T 19)⟩, ⟨(some 145), (some (143, false)), .int2 .neq (T 144) (.const (.int .i64 (0)))⟩, ⟨(some 146), none, .pick (T 143) (.const (.bool true)) (T 145)⟩, ⟨(some 147), none, .mov (T 146)⟩, ⟨(some 148), (some (147, false)), .mov (T 21)⟩, ⟨(some 149), (some (147, false)), .int2 .neq (T 148) (.const (.int .i64 (0)))⟩, ⟨(some 150), none, .pick (T 147) (.const (.bool true)) (T 149)⟩, ⟨(some 151), none, .mov (T 150)⟩, ⟨(some 152), (some (151, false)), .mov (T 23)⟩, ⟨(some 153), (some (151, false)), .int2 .neq (T 152) (.const (.int .i64 (0)))⟩, ⟨(some 154), none, .pick (T 151) (.const (.bool true)) (T 153)⟩, ⟨(some 155), none, .mov (T 154)⟩, ⟨(some 156), (some (155, false)), .mov (T 25)⟩, ⟨(some 157), (some (155, false)), .int2 .neq (T 156) (.const (.int .i64 (0)))⟩, ⟨(some 158), (some (155, false)), .mov (T 157)⟩, ⟨(some 159), (some (158, true)), .mov (T 25)⟩, ⟨(some 160), (some (158, true)), .int2 .neq (T 159) (.const (.int .i64 (10)))⟩, ⟨(some 161), (some (155, false)), .pick (T 158) (T 160) (.const (.bool false))⟩, ⟨(some 162), none, .pick (T 155) (.const (.bool true)) (T 161)⟩, ⟨(some 163), none, .mov (T 162)⟩, ⟨(some 164), (some (163, false)), .mov (T 28)⟩, ⟨(some 165), (some (163, false)), .int2 .neq (T 164) (.const (.int .i64 (0)))⟩, ⟨(some 166), none, .pick (T 163) (.const (.bool true)) (T 165)⟩, ⟨(some 167), none, .mov (T 166)⟩, ⟨(some 168), (some (167, false)), .mov (T 30)⟩, ⟨(some 169), (some (167, false)), .int2 .neq (T 168) (.const (.int .i64 (0)))⟩, ⟨(some 170), none, .pick (T 167) (.const (.bool true)) (T 169)⟩, ⟨(some 171), none, .mov (T 170)⟩, ⟨(some 172), (some (171, false)), .mov (T 29)⟩, ⟨(some 173), (some (171, false)), .len (T 172)⟩, ⟨(some 174), (some (171, false)), .int2 .neq (T 173) (.const (.int .i64 (0)))⟩, ⟨(some 175), none, .pick (T 171) (.const (.bool true)) (T 174)⟩, ⟨(some 176), none, .mov (T 175)⟩, ⟨(some 177), (some (176, false)), .mov (T 16)⟩, ⟨(some 178), (some (176, false)), .len (T 177)⟩, ⟨(some 179), (some (176, false)), .fieldAddr 1 (T 5)⟩, ⟨(some 180), (some (176, false)), .load1 (T 179)⟩, ⟨(some 181), (some (176, false)), .len (T 180)⟩, ⟨(some 182), (some (176, false)), .int2 .neq (T 178) (T 181)⟩, ⟨(some 183), none, .pick (T 176) (.const (.bool true)) (T 182)⟩, ⟨(some 184), none, .mov (T 183)⟩, ⟨(some 185), (some (184, false)), .mov (T 18)⟩, ⟨(some 186), (some (184, false)), .len (T 185)⟩, ⟨(some 187), (some (184, false)), .mov (T 12)⟩, ⟨(some 188), (some (184, false)), .len (T 187)⟩, ⟨(some 189), (some (184, false)), .int2 .neq (T 186) (T 188)⟩, ⟨(some 190), none, .pick (T 184) (.const (.bool true)) (T 189)⟩, ⟨(some 191), none, .mov (T 190)⟩, ⟨(some 192), (some (191, false)), .mov (T 20)⟩, ⟨(some 193), (some (191, false)), .len (T 192)⟩, ⟨(some 194), (some (191, false)), .mov (T 16)⟩, ⟨(some 195), (some (191, false)), .len (T 194)⟩, ⟨(some 196), (some (191, false)), .int2 .neq (T 193) (T 195)⟩, ⟨(some 197), none, .pick (T 191) (.const (.bool true)) (T 196)⟩, ⟨(some 198), none, .mov (T 197)⟩, ⟨(some 199), (some (198, false)), .mov (T 26)⟩, ⟨(some 200), (some (198, false)), .len (T 199)⟩, ⟨(some 201), (some (198, false)), .mov (T 16)⟩, ⟨(some 202), (some (198, false)), .len (T 201)⟩, ⟨(some 203), (some (198, false)), .int2 .neq (T 200) (T 202)⟩, ⟨(some 204), none, .pick (T 198) (.const (.bool true)) (T 203)⟩, ⟨(some 205), none, .mov (T 204)⟩, ⟨(some 206), (some (205, false)), .mov (T 22)⟩, ⟨(some 207), (some (205, false)), .call (.func 42) [(T 206), (.const (.int .i64 (1))), (.const (.int .i64 (3)))]⟩, ⟨(some 208), (some (205, false)), .not (T 207)⟩, ⟨(some 209), none, .pick (T 205) (.const (.bool true)) (T 208)⟩, ⟨(some 210), none, .mov (T 209)⟩, ⟨(some 211), (some (210, false)), .loadN 3 (T 11)⟩, ⟨(some 212), (some (210, false)), .call (.func 26) [(T 211)]⟩, ⟨(some 213), (some (210, false)), .mov (T 12)⟩, ⟨(some 214), (some (210, false)), .call (.func 27) [(T 213)]⟩, ⟨(some 215), (some (210, false)), .call (.func 28) [(T 212), (T 214)]⟩, ⟨(some 216), (some (210, false)), .not (T 215)⟩, ⟨(some 217), none, .pick (T 210) (.const (.bool true)) (T 216)⟩]) (.cond (T 217) (.seq (.ops [⟨(some 10), none, .mov (.const (.bool false))⟩]) .ret) .skip)) (.seq (.seq (.ops [⟨(some 31), none, .mov (.const (.int .i64 (0)))⟩]) (.block 0 (.loop (.seq (.seq (.ops [⟨(some 218), none, .mov (T 31)⟩, ⟨(some 219), none, .mov (T 16)⟩, ⟨(some 220), none, .len (T 219)⟩, ⟨(some 221), none, .int2 .lss (T 218) (T 220)⟩]) (.cond (T 221) .skip (.exit 0))) (.seq (.block 1 (.seq (.draw [⟨.free, ⟨(some 224), none, .mov (T 20)⟩⟩, ⟨.free, ⟨(some 225), none, .mov (T 31)⟩⟩, ⟨.free, ⟨(some 226), none, .idxSl 1 (T 224) (T 225)⟩⟩, ⟨.rd1, ⟨(some 227), none, .load1 (T 226)⟩⟩, ⟨.free, ⟨(some 228), none, .mov (T 16)⟩⟩, ⟨.free, ⟨(some 229), none, .mov (T 31)⟩⟩, ⟨.free, ⟨(some 230), none, .idxSl 2 (T 228) (T 229)⟩⟩, ⟨.free, ⟨(some 231), none, .fieldAddr 0 (T 230)⟩⟩, ⟨.rd1, ⟨(some 232), none, .load1 (T 231)⟩⟩, ⟨.free, ⟨(some 233), none, .int2 .lss (T 227) (T 232)⟩⟩, ⟨.free, ⟨(some 234), none, .mov (T 233)⟩⟩, ⟨.free, ⟨(some 235), (some (234, false)), .mov (T 20)⟩⟩, ⟨.free, ⟨(some 236), (some (234, false)), .mov (T 31)⟩⟩, ⟨.free, ⟨(some 237), (some (234, false)), .idxSl 1 (T 235) (T 236)⟩⟩, ⟨.rd1, ⟨(some 238), (some (234, false)), .load1 (T 237)⟩⟩, ⟨.free, ⟨(some 239), (some (234, false)), .mov (T 16)⟩⟩, ⟨.free, ⟨(some 240), (some (234, false)), .mov (T 31)⟩⟩, ⟨.free, ⟨(some 241), (some (234, false)), .idxSl 2 (T 239) (T 240)⟩⟩, ⟨.free, ⟨(some 242), (some (234, false)), .fieldAddr 1 (T 241)⟩⟩, ⟨.rd1, ⟨(some 243), (some (234, false)), .load1 (T 242)⟩⟩, ⟨.free, ⟨(some 244), (some (234, false)), .int2 .gtr (T 238) (T 243)⟩⟩, ⟨.free, ⟨(some 245), none, .pick (T 234) (.const (.bool true)) (T 244)⟩⟩, ⟨.free, ⟨(some 246), none, .mov (T 245)⟩⟩, ⟨.free, ⟨(some 247), (some (246, false)), .mov (T 20)⟩⟩, ⟨.free, ⟨(some 248), (some (246, false)), .mov (T 31)⟩⟩, ⟨.free, ⟨(some 249), (some (246, false)), .idxSl 1 (T 247) (T 248)⟩⟩, ⟨.rd1, ⟨(some 250), (some (246, false)), .load1 (T 249)⟩⟩, ⟨.free, ⟨(some 251), (some (246, false)), .mov (T 26)⟩⟩, ⟨.free, ⟨(some 252), (some (246, false)), .mov (T 31)⟩⟩, ⟨.free, ⟨(some 253), (some (246, false)), .idxSl 1 (T 251) (T 252)⟩⟩, ⟨.rd1, ⟨(some 254), (some (246, false)), .load1 (T 253)⟩⟩, ⟨.free, ⟨(some 255), (some (246, false)), .mov (T 12)⟩⟩, ⟨.free, ⟨(some 256), (some (246, false)), .mov (T 14)⟩⟩, ⟨.free, ⟨(some 257), (some (246, false)), .idxSl 1 (T 255) (T 256)⟩⟩, ⟨.rd1, ⟨(some 258), (some (246, false)), .load1 (T 257)⟩⟩, ⟨.free, ⟨(some 259), (some (246, false)), .int2 .mul (T 254) (T 258)⟩⟩, ⟨.free, ⟨(some 260), (some (246, false)), .int2 .add (T 250) (T 259)⟩⟩, ⟨.free, ⟨(some 261), (some (246, false)), .mov (T 27)⟩⟩, ⟨.free, ⟨(some 262), (some (246, false)), .int2 .lss (T 260) (T 261)⟩⟩, ⟨.free, ⟨(some 263), none, .pick (T 246) (.const (.bool true)) (T 262)⟩⟩]) (.cond (T 263) (.seq (.ops [⟨(some 10), none, .mov (.const (.bool false))⟩]) .ret) .skip))) (.ops [⟨(some 222), none, .mov (T 31)⟩, ⟨(some 223), none, .int2 .add (T 222) (.const (.int .i64 (1)))⟩, ⟨(some 31), none, .mov (T 223)⟩])))))) (.seq (.seq (.ops [⟨(some 32), none, .mov (.const (.int .i64 (0)))⟩]) (.block 2 (.loop (.seq (.seq (.ops [⟨(some 264), none, .mov (T 32)⟩, ⟨(some 265), none, .mov (T 18)⟩, ⟨(some 266), none, .len (T 265)⟩, ⟨(some 267), none, .int2 .lss (T 264) (T 266)⟩]) (.cond (T 267) .skip (.exit 2))) (.seq (.block 3 (.seq (.draw [⟨.free, ⟨(some 270), none, .mov (T 12)⟩⟩, ⟨.free, ⟨(some 271), none, .mov (T 32)⟩⟩, ⟨.free, ⟨(some 272), none, .idxSl 1 (T 270) (T 271)⟩⟩, ⟨.rd1, ⟨(some 273), none, .load1 (T 272)⟩⟩, ⟨.free, ⟨(some 274), none, .mov (T 18)⟩⟩, ⟨.free, ⟨(some 275), none, .mov (T 32)⟩⟩, ⟨.free, ⟨(some 276), none, .idxSl 2 (T 274) (T 275)⟩⟩, ⟨.free, ⟨(some 277), none, .fieldAddr 0 (T 276)⟩⟩, ⟨.rd1, ⟨(some 278), none, .load1 (T 277)⟩⟩, ⟨.free, ⟨(some 279), none, .int2 .lss (T 273) (T 278)⟩⟩, ⟨.free, ⟨(some 280), none, .mov (T 279)⟩⟩, ⟨.free, ⟨(some 281), (some (280, false)), .mov (T 12)⟩⟩, ⟨.free, ⟨(some 282), (some (280, false)), .mov (T 32)⟩⟩, ⟨.free, ⟨(some 283), (some (280, false)), .idxSl 1 (T 281) (T 282)⟩⟩, ⟨.rd1, ⟨(some 284), (some (280, false)), .load1 (T 283)⟩⟩, ⟨.free, ⟨(some 285), (some (280, false)), .mov (T 18)⟩⟩, ⟨.free, ⟨(some 286), (some (280, false)), .mov (T 32)⟩⟩, ⟨.free, ⟨(some 287), (some (280, false)), .idxSl 2 (T 285) (T 286)⟩⟩, ⟨.free, ⟨(some 288), (some (280, false)), .fieldAddr 1 (T 287)⟩⟩, ⟨.rd1, ⟨(some 289), (some (280, false)), .load1 (T 288)⟩⟩, ⟨.free, ⟨(some 290), (some (280, false)), .int2 .gtr (T 284) (T 289)⟩⟩, ⟨.free, ⟨(some 291), none, .pick (T 280) (.const (.bool true)) (T 290)⟩⟩]) (.cond (T 291) (.seq (.ops [⟨(some 10), none, .mov (.const (.bool false))⟩]) .ret) .skip))) (.ops [⟨(some 268), none, .mov (T 32)⟩, ⟨(some 269), none, .int2 .add (T 268) (.const (.int .i64 (1)))⟩, ⟨(some 32), none, .mov (T 269)⟩])))))) (.seq (.draw [⟨.free, ⟨(some 292), none, .mov (T 20)⟩⟩, ⟨.free, ⟨(some 293), none, .mov (T 13)⟩⟩, ⟨.free, ⟨(some 294), none, .idxSl 1 (T 292) (T 293)⟩⟩, ⟨.rd1, ⟨(some 295), none, .load1 (T 294)⟩⟩, ⟨.free, ⟨(some 296), none, .mov (T 20)⟩⟩, ⟨.free, ⟨(some 297), none, .mov (T 15)⟩⟩, ⟨.free, ⟨(some 298), none, .idxSl 1 (T 296) (T 297)⟩⟩, ⟨.rd1, ⟨(some 299), none, .load1 (T 298)⟩⟩, ⟨.free, ⟨(some 300), none, .int2 .gtr (T 295) (T 299)⟩⟩, ⟨.free, ⟨(some 33), none, .mov (T 300)⟩⟩]) (.seq (.draw [⟨.free, ⟨(some 301), none, .mov (T 22)⟩⟩, ⟨.free, ⟨(some 302), none, .int2 .neq (T 301) (.const (.int .i64 (1)))⟩⟩, ⟨.free, ⟨(some 303), none, .mov (T 302)⟩⟩, ⟨.free, ⟨(some 304), (some (303, false)), .mov (T 33)⟩⟩, ⟨.free, ⟨(some 305), none, .pick (T 303) (.const (.bool true)) (T 304)⟩⟩, ⟨.free, ⟨(some 306), none, .mov (T 305)⟩⟩, ⟨.free, ⟨(some 307), (some (306, true)), .mov (T 22)⟩⟩, ⟨.free, ⟨(some 308), (some (306, true)), .int2 .neq (T 307) (.const (.int .i64 (2)))⟩⟩, ⟨.free, ⟨(some 309), (some (306, true)), .mov (T 308)⟩⟩, ⟨.free, ⟨(some 310), (some (309, false)), .mov (T 33)⟩⟩, ⟨.free, ⟨(some 311), (some (309, false)), .not (T 310)⟩⟩, ⟨.free, ⟨(some 312), (some (306, true)), .pick (T 309) (.const (.bool true)) (T 311)⟩⟩, ⟨.free, ⟨(some 313), none, .pick (T 306) (T 312) (.const (.bool false))⟩⟩, ⟨.free, ⟨(some 314), none, .mov (T 313)⟩⟩, ⟨.free, ⟨(some 315), (some (314, true)), .mov (T 25)⟩⟩, ⟨.free, ⟨(some 316), (some (314, true)), .int2 .neq (T 315) (.const (.int .i64 (0)))⟩⟩, ⟨.free, ⟨(some 317), (some (314, true)), .mov (T 316)⟩⟩, ⟨.free, ⟨(some 318), (some (317, false)), .mov (T 20)⟩⟩, ⟨.free, ⟨(some 319), (some (317, false)), .mov (T 13)⟩⟩, ⟨.free, ⟨(some 320), (some (317, false)), .idxSl 1 (T 318) (T 319)⟩⟩, ⟨.rd1, ⟨(some 321), (some (317, false)), .load1 (T 320)⟩⟩, ⟨.free, ⟨(some 322), (some (317, false)), .mov (T 24)⟩⟩, ⟨.free, ⟨(some 323), (some (317, false)), .mov (T 12)⟩⟩, ⟨.free, ⟨(some 324), (some (317, false)), .mov (T 14)⟩⟩, ⟨.free, ⟨(some 325), (some (317, false)), .idxSl 1 (T 323) (T 324)⟩⟩, ⟨.rd1, ⟨(some 326), (some (317, false)), .load1 (T 325)⟩⟩, ⟨.free, ⟨(some 327), (some (317, false)), .int2 .mul (T 322) (T 326)⟩⟩, ⟨.free, ⟨(some 328), (some (317, false)), .int2 .add (T 321) (T 327)⟩⟩, ⟨.free, ⟨(some 329), (some (317, false)), .mov (T 4)⟩⟩, ⟨.free, ⟨(some 330), (some (317, false)), .plain (.convert 5 3 (T 329)) 3⟩⟩, ⟨.free, ⟨(some 331), (some (317, false)), .plain (.binOp .rem 3 (T 330) (.const (.int .i64 (60))) 3) 3⟩⟩, ⟨.free, ⟨(some 332), (some (317, false)), .int2 .geq (T 328) (T 331)⟩⟩, ⟨.free, ⟨(some 333), (some (314, true)), .pick (T 317) (.const (.bool true)) (T 332)⟩⟩, ⟨.free, ⟨(some 334), none, .pick (T 314) (T 333) (.const (.bool false))⟩⟩, ⟨.free, ⟨(some 335), none, .mov (T 334)⟩⟩, ⟨.any, ⟨(some 336), (some (335, true)), .call (.func 24) []⟩⟩, ⟨.free, ⟨(some 337), none, .pick (T 335) (T 336) (.const (.bool false))⟩⟩, ⟨.free, ⟨(some 10), none, .mov (T 337)⟩⟩]) .ret)))))))))))))))))
theorem fok10 : FnOk Try.prog 10 338 s10 [.tmp 10] := ⟨Try.f10, _, Try.func10, rfl, Try.ntmps10, by kernel_rfl, by kernel_rfl⟩
set_option maxHeartbeats 4000000 in
theorem truth_m (hn : 11100 ≤ n) (hr : h.next + 9000000 < far) (hfl : h.floor ≤ h.next) {fv vv sv ws : Value} {Y : MY} (hy : YardR h fv vv sv Y) (hT : Thin Y) (hf : faultN Y = 0) (hnf : 0 < Y.nf) (hnv : 2 ≤ Y.nv) {a0 a1 a2 m : Nat} {wa : Nat → Nat} (w0 : a0 < 65536) (w1 : a1 < 256) (w2 : a2 < 256) (hw : Words h ws m wa) :
    ∃ v h', call n (.func (.func 10) #[] #[]) [.agg ⟨[fv, vv, sv]⟩, .int .u16 (a0 : Int), ws, .int .u8 (a1 : Int), .int .u8 (a2 : Int)] h = some (v, h') ∧ v = .bool true := by
  obtain ⟨n, rfl⟩ : ∃ p, n = p + 1 := ⟨n - 1, by omega⟩
  refine call_any0 fok10 rfl rfl (by simp) ?_
  simp only [s10, W_seq, W_ops]
  refine ops_box (cs := [fv, vv, sv]) (by omega) rfl hy.one fun g1 hx1 => ?_
  have n1 := hx1.next
  have f1 := hx1.floor
  have e1 : g1.next = h.next + 1 := n1
  have hy1 := hy.mono hx1.sub
  have x1 := hx1.row.whole (n := 3) rfl
  have r1 := hx1.row
  have hrd := ready_c (n := n) (h := g1) (by omega) (by omega) hy1
  have hrd' : decide (Thin Y ∧ faultN Y = 0) = true := decide_eq_true ⟨hT, hf⟩
  rw [hrd'] at hrd
  obtain ⟨rr, hrw, hq⟩ := hy1.v
  have hG := good_of hf
  obtain ⟨s1, s2, s3⟩ := hG.sz
  have z1 : ¬ (Y.nf : Int) = 0 := by omega
  have z2 : ¬ (Y.nv : Int) < 2 := by omega
  obtain ⟨sv2, g2, esm, mg2, S, bl, b, rfl, hX2, hbl2, hbr, hbz⟩ := sampled_c (n := n) (h := g1) (by omega) (by omega) (by omega) hy1 hf (by omega) w0 (hw.mono hx1.sub)
  have ng2 := mg2.next
  have ug2 := mg2.up
  have fg2 := mg2.floor
  obtain ⟨hfX, hbX⟩ := sampled_ok (m := m) (a := wa) hf (show 0 < Y.nv by omega) hbr hbz
  obtain ⟨X, hXe⟩ : ∃ X, X = sampled Y m wa b := ⟨_, rfl⟩
  rw [← hXe] at hX2 hfX hbX
  have xnf : X.nf = Y.nf := by rw [hXe]; rfl
  have xnv : X.nv = Y.nv := by rw [hXe]; rfl
  have hTX : Thin X := by rw [hXe]; exact ⟨hT.1, hT.2.1, by show wordN m wa 0 % 6 ≤ 30; omega, hT.2.2.2⟩
  clear hXe
  rw [← xnf] at hbl2 hbr hbz
  have hGX := good_of hfX
  obtain ⟨p1, p2, p3⟩ := hGX.sz
  have hneX : truths X ≠ [] := List.ne_nil_of_mem hbX
  have hbr20 := truths_range hfX hbX
  have oneX : allB oneCell [fv, vv, S] = true := hX2.one
  obtain ⟨one, hone⟩ : ∃ x, x = a1 % X.nv := ⟨_, rfl⟩
  obtain ⟨fld, hfld⟩ : ∃ x, x = a1 / 8 % X.nf := ⟨_, rfl⟩
  obtain ⟨dd, hdd⟩ : ∃ x, x = a1 / 64 % (X.nv - 1) := ⟨_, rfl⟩
  obtain ⟨oth, hoth⟩ : ∃ x, x = (one + 1 + dd) % X.nv := ⟨_, rfl⟩
  have hov : one < X.nv := by rw [hone]; exact Nat.mod_lt _ (by omega)
  have hof : fld < X.nf := by rw [hfld]; exact Nat.mod_lt _ (by omega)
  have hdl : dd < X.nv - 1 := by rw [hdd]; exact Nat.mod_lt _ (by omega)
  have hol : oth < X.nv := by rw [hoth]; exact Nat.mod_lt _ (by omega)
  have hoo : one ≠ oth := by
    rw [hoth]
    rcases Nat.lt_or_ge (one + 1 + dd) X.nv with h1 | h1
    · rw [Nat.mod_eq_of_lt h1]; omega
    · rw [Nat.mod_eq_sub_mod h1, Nat.mod_eq_of_lt (by omega)]; omega
  have q8 : ¬ (8 : Int) = 0 := by decide
  have q64 : ¬ (64 : Int) = 0 := by decide
  have q60 : ¬ (60 : Int) = 0 := by decide
  have q10 : ¬ (10 : Int) = 0 := by decide
  have zf : ¬ (X.nf : Int) = 0 := by omega
  have zv : ¬ (X.nv : Int) = 0 := by omega
  have zw : ¬ ((X.nv - 1 : Nat) : Int) = 0 := by omega
  have t1 : (a1 : Int).tmod (X.nv : Int) = (one : Int) := by rw [hone]; rfl
  have t2 : IntKind.wrap .i64 ((a1 : Int).tdiv 8) = ((a1 / 8 : Nat) : Int) := quoM (d := 8) (by omega)
  have t3 : ((a1 / 8 : Nat) : Int).tmod (X.nf : Int) = (fld : Int) := by rw [hfld]; rfl
  have t4 : IntKind.wrap .i64 ((a1 : Int).tdiv 64) = ((a1 / 64 : Nat) : Int) := quoM (d := 64) (by omega)
  have t5 : ((a1 / 64 : Nat) : Int).tmod ((X.nv - 1 : Nat) : Int) = (dd : Int) := by rw [hdd]; rfl
  have t6 : ((one + 1 + dd : Nat) : Int).tmod (X.nv : Int) = (oth : Int) := by rw [hoth]; rfl
  have wn1 : wrapF .i64 ((X.nv : Int) - 1) = ((X.nv - 1 : Nat) : Int) := by rw [wrap_in (by omega) (by omega)]; omega
  have wo1 : wrapF .i64 ((one : Int) + 1) = ((one + 1 : Nat) : Int) := by rw [wrap_in (by omega) (by omega)]; rfl
  have wo2 : wrapF .i64 (((one + 1 : Nat) : Int) + (dd : Int)) = ((one + 1 + dd : Nat) : Int) := by rw [wrap_in (by omega) (by omega)]; omega
  obtain ⟨bd, hbd⟩ : ∃ x, x = a2 % 60 := ⟨_, rfl⟩
  obtain ⟨bm, hbm⟩ : ∃ x, x = a2 % 10 := ⟨_, rfl⟩
  have t7 : (a2 : Int).tmod 60 = (bd : Int) := by rw [hbd]; rfl
  have t8 : (a2 : Int).tmod 10 = (bm : Int) := by rw [hbm]; rfl
  simp only [rn0, rn1, rn2, rn3, rn4, rn5, rn6, rn7, rn8, if_true, if_false, Nat.le_refl, true_and, and_true, decide_true, decide_false, Bool.not_true, Bool.not_false, reduceIte, Nat.reduceEqDiff, Nat.reduceAdd, Nat.reduceMul, Nat.reduceSub, Nat.reduceLeDiff, Nat.reduceLT, x1, hrd, r1.ld, Nat.zero_add, List.getElem?_cons_zero, List.getElem?_cons_succ, Cells.len hy1.f, Cells.len hrw, z1, z2, esm, ex0, ex1]
  rw [← xnf] at z1
  refine step_new (vs := [fv, vv, S]) (by omega) (by omega) rfl (by simp only [rn0, rn1, rn2, rn3, rn4, rn5, rn6, rn7, rn8, if_true, if_false, Nat.le_refl, true_and, and_true, decide_true, decide_false, Bool.not_true, Bool.not_false, reduceIte, Nat.reduceEqDiff, Nat.reduceAdd, Nat.reduceMul, Nat.reduceSub, Nat.reduceLeDiff, Nat.reduceLT]; rfl) oneX rfl rfl fun g3 hx3 => ?_
  have n3 := hx3.next
  have f3 := hx3.floor
  have sub13 : Sub All g1 g3 := mg2.sub.trans hx3.sub
  have r3 := r1.mono sub13
  have rx3 := hx3.row
  have hX3 := hX2.mono hx3.sub
  have hbl3 : Ints g3 bl X.nf b := Cells.mono hbl2 hx3.sub
  have hy3 := hy1.mono sub13
  obtain ⟨rr3, hrw3, _⟩ := hy3.v
  have hF3 := hy3.f
  rw [← xnv] at hrw3
  rw [← xnf] at hF3
  simp only [rn0, rn1, rn2, rn3, rn4, rn5, rn6, rn7, rn8, if_true, if_false, Nat.le_refl, true_and, and_true, decide_true, decide_false, Bool.not_true, Bool.not_false, reduceIte, Nat.reduceEqDiff, Nat.reduceAdd, Nat.reduceMul, Nat.reduceSub, Nat.reduceLeDiff, Nat.reduceLT]
  refine W_draw All ?_
  simp only [rn0, rn1, rn2, rn3, rn4, rn5, rn6, rn7, rn8, if_true, if_false, Nat.le_refl, true_and, and_true, decide_true, decide_false, Bool.not_true, Bool.not_false, reduceIte, Nat.reduceEqDiff, Nat.reduceAdd, Nat.reduceMul, Nat.reduceSub, Nat.reduceLeDiff, Nat.reduceLT, p_conv8, r_8 w1, valN_tmp, valN_const, Nat.reduceLT, r3.ld, Nat.zero_add, List.getElem?_cons_zero, List.getElem?_cons_succ, Cells.len hrw3, Cells.len hF3, zf, zv, r_rem zf, r_rem zv, q8, r_quo q8, t1, t2, t3]
  refine W_draw All ?_
  simp only [rn0, rn1, rn2, rn3, rn4, rn5, rn6, rn7, rn8, if_true, if_false, Nat.le_refl, true_and, and_true, decide_true, decide_false, Bool.not_true, Bool.not_false, reduceIte, Nat.reduceEqDiff, Nat.reduceAdd, Nat.reduceMul, Nat.reduceSub, Nat.reduceLeDiff, Nat.reduceLT, p_conv8, r_8 w1, valN_tmp, valN_const, Nat.reduceLT, r3.ld, Nat.zero_add, List.getElem?_cons_zero, List.getElem?_cons_succ, Cells.len hrw3, zw, zv, r_rem zw, r_rem zv, q64, r_quo q64, t4, t5, wn1, wo1, wo2, t6]
  have s_g3 : Sub All g3 g3 := Sub.refl
  have wx1 := (rx3.mono s_g3).whole (n := 3) rfl
  obtain ⟨F1, V1, S1, g4, ey1, hy1y, mg4⟩ := yard_c (n := n) (h := g3) (by omega) (by omega) (by omega) (hX3.mono s_g3) hTX
  have ng4 := mg4.next
  have ug4 := mg4.up
  have fg4 := mg4.floor
  have s_g4 : Sub All g3 g4 := s_g3.trans mg4.sub
  obtain ⟨vb, g5, eb, mg5, hB⟩ := boundsV_c (n := n) (h := g4) (by omega) (by omega) (by omega) hy1y hTX
  have ng5 := mg5.next
  have ug5 := mg5.up
  have fg5 := mg5.floor
  have s_g5 : Sub All g3 g5 := s_g4.trans mg5.sub
  have wx2 := (rx3.mono s_g5).whole (n := 3) rfl
  obtain ⟨F2, V2, S2, g6, ey2, hy2y, mg6⟩ := yard_c (n := n) (h := g5) (by omega) (by omega) (by omega) (hX3.mono s_g5) hTX
  have ng6 := mg6.next
  have ug6 := mg6.up
  have fg6 := mg6.floor
  have s_g6 : Sub All g3 g6 := s_g5.trans mg6.sub
  obtain ⟨vf, g7, ef, mg7, hFd⟩ := fieldsV_c (n := n) (h := g6) (by omega) (by omega) (by omega) hy2y hTX
  have ng7 := mg7.next
  have ug7 := mg7.up
  have fg7 := mg7.floor
  have s_g7 : Sub All g3 g7 := s_g6.trans mg7.sub
  have wx3 := (rx3.mono s_g7).whole (n := 3) rfl
  obtain ⟨F3, V3, S3, g8, ey3, hy3y, mg8⟩ := yard_c (n := n) (h := g7) (by omega) (by omega) (by omega) (hX3.mono s_g7) hTX
  have ng8 := mg8.next
  have ug8 := mg8.up
  have fg8 := mg8.floor
  have s_g8 : Sub All g3 g8 := s_g7.trans mg8.sub
  obtain ⟨lb, g9, el, lbi, mg9, _, _⟩ := list_c (n := n) (h := g8) (by omega) (by omega) (Cells.mono hbl3 s_g8) (by omega)
  have ng9 := mg9.next
  have ug9 := mg9.up
  have fg9 := mg9.floor
  have s_g9 : Sub All g3 g9 := s_g8.trans mg9.sub
  obtain ⟨vp, g10, ep, mg10, hP⟩ := play_c (n := n) (h := g9) (by omega) (by omega) (by omega) (hy3y.mono mg9.sub) hTX lbi (by omega)
  have ng10 := mg10.next
  have ug10 := mg10.up
  have fg10 := mg10.floor
  have s_g10 : Sub All g3 g10 := s_g9.trans mg10.sub
  have wx4 := (rx3.mono s_g10).whole (n := 3) rfl
  obtain ⟨F4, V4, S4, g11, ey4, hy4y, mg11⟩ := yard_c (n := n) (h := g10) (by omega) (by omega) (by omega) (hX3.mono s_g10) hTX
  have ng11 := mg11.next
  have ug11 := mg11.up
  have fg11 := mg11.floor
  have s_g11 : Sub All g3 g11 := s_g10.trans mg11.sub
  have em := more_c (n := n) (h := g11) (by omega) (by omega) hy4y hTX (one : Int) (oth : Int)
  rw [moreV_in hfX hneX hov hol hoo] at em
  have wx5 := (rx3.mono s_g11).whole (n := 3) rfl
  obtain ⟨F5, V5, S5, g12, ey5, hy5y, mg12⟩ := yard_c (n := n) (h := g11) (by omega) (by omega) (by omega) (hX3.mono s_g11) hTX
  have ng12 := mg12.next
  have ug12 := mg12.up
  have fg12 := mg12.floor
  have s_g12 : Sub All g3 g12 := s_g11.trans mg12.sub
  have end_ := needs_c (n := n) (h := g12) (by omega) (by omega) hy5y hTX (one : Int) (fld : Int) (bd : Int)
  have wx6 := (rx3.mono s_g12).whole (n := 3) rfl
  obtain ⟨F6, V6, S6, g13, ey6, hy6y, mg13⟩ := yard_c (n := n) (h := g12) (by omega) (by omega) (by omega) (hX3.mono s_g12) hTX
  have ng13 := mg13.next
  have ug13 := mg13.up
  have fg13 := mg13.floor
  have s_g13 : Sub All g3 g13 := s_g12.trans mg13.sub
  obtain ⟨vs, g14, es, mg14, hS⟩ := spread_c (n := n) (h := g13) (by omega) (by omega) (by omega) hy6y hTX (fld : Int) (bm : Int)
  have ng14 := mg14.next
  have ug14 := mg14.up
  have fg14 := mg14.floor
  have s_g14 : Sub All g3 g14 := s_g13.trans mg14.sub
  have wx7 := (rx3.mono s_g14).whole (n := 3) rfl
  obtain ⟨F7, V7, S7, g15, ey7, hy7y, mg15⟩ := yard_c (n := n) (h := g14) (by omega) (by omega) (by omega) (hX3.mono s_g14) hTX
  have ng15 := mg15.next
  have ug15 := mg15.up
  have fg15 := mg15.floor
  have s_g15 : Sub All g3 g15 := s_g14.trans mg15.sub
  obtain ⟨vl, g16, elv, mg16, hL⟩ := leave_c (n := n) (h := g15) (by omega) (by omega) (by omega) hy7y hTX
  have ng16 := mg16.next
  have ug16 := mg16.up
  have fg16 := mg16.floor
  have s_g16 : Sub All g3 g16 := s_g15.trans mg16.sub
  have wx8 := (rx3.mono s_g16).whole (n := 3) rfl
  obtain ⟨F8, V8, S8, g17, ey8, hy8y, mg17⟩ := yard_c (n := n) (h := g16) (by omega) (by omega) (by omega) (hX3.mono s_g16) hTX
  have ng17 := mg17.next
  have ug17 := mg17.up
  have fg17 := mg17.floor
  have s_g17 : Sub All g3 g17 := s_g16.trans mg17.sub
  obtain ⟨lb2, g18, el2, lbi2, mg18, _, _⟩ := list_c (n := n) (h := g17) (by omega) (by omega) (Cells.mono hbl3 s_g17) (by omega)
  have ng18 := mg18.next
  have ug18 := mg18.up
  have fg18 := mg18.floor
  have s_g18 : Sub All g3 g18 := s_g17.trans mg18.sub
  have ept := proveTruth_c (n := n) (h := g18) (by omega) (by omega) (hy8y.mono mg18.sub) hTX lbi2 (by omega)
  rw [@decide_eq_true _ (_) ⟨hfX, ⟨rfl, (truths_mem.1 hbX).1.1⟩, fun k hk => (truths_mem.1 hbX).2 k hk⟩] at ept
  rcases hB with ⟨h0, _⟩ | ⟨_, h0, _⟩ | ⟨_, _, lB, rfl, hB⟩
  · exact absurd hfX h0
  · exact absurd h0 hneX
  rcases hFd with ⟨h0, _⟩ | ⟨_, h0, _⟩ | ⟨_, _, lF, rfl, hFd⟩
  · exact absurd hfX h0
  · exact absurd h0 hneX
  rcases hP with ⟨h0, _⟩ | ⟨_, h0, _⟩ | ⟨_, _, lP, rfl, hP⟩
  · exact absurd hfX h0
  · exact absurd ⟨rfl, (truths_mem.1 hbX).1.1⟩ h0
  have hE := spreadE_in hfX hof (k := bm) (by omega) (by omega)
  rw [if_neg hneX] at hE
  rcases hS with ⟨h0, _⟩ | ⟨_, lS, rfl, hS, _, _⟩
  · exact absurd hE h0
  rcases hL with ⟨h0, _⟩ | ⟨_, lL, rfl, hL, _⟩
  · exact absurd hfX h0
  have hL0 : (leaveRun X).length = 0 := by rw [leave_none hbX]; rfl
  rw [hL0] at hL
  simp only [Int.toNat_natCast] at es hS
  have hB' : Ranges g18 lB X.nv _ _ := Cells.mono hB (mg6.sub.trans (mg7.sub.trans (mg8.sub.trans (mg9.sub.trans (mg10.sub.trans (mg11.sub.trans (mg12.sub.trans (mg13.sub.trans (mg14.sub.trans (mg15.sub.trans (mg16.sub.trans (mg17.sub.trans (mg18.sub)))))))))))))
  have hF' : Ranges g18 lF X.nf _ _ := Cells.mono hFd (mg8.sub.trans (mg9.sub.trans (mg10.sub.trans (mg11.sub.trans (mg12.sub.trans (mg13.sub.trans (mg14.sub.trans (mg15.sub.trans (mg16.sub.trans (mg17.sub.trans (mg18.sub)))))))))))
  have hP' : Ints g18 lP X.nv _ := Cells.mono hP (mg11.sub.trans (mg12.sub.trans (mg13.sub.trans (mg14.sub.trans (mg15.sub.trans (mg16.sub.trans (mg17.sub.trans (mg18.sub))))))))
  have hS' : Ints g18 lS X.nv _ := Cells.mono hS (mg15.sub.trans (mg16.sub.trans (mg17.sub.trans (mg18.sub))))
  have hbl' : Ints g18 bl X.nf b := Cells.mono hbl3 s_g18
  have rE := r3.mono s_g16
  obtain ⟨rrE, hrwE, _⟩ := (hy3.mono s_g18).v
  rw [← xnv] at hrwE
  obtain ⟨b1, b2, _, _⟩ := spRun_is (S := fun v k => sureN X v fld k (truths X)) (nv := X.nv) (many := bm) (by omega) fun v k hv _ => sureN_pos hfX hneX hv hof
  change IsPut X.nv bm (bestS X fld bm).1 at b1
  change (bestS X fld bm).2 = lowS _ X.nv (bestS X fld bm).1 at b2
  obtain ⟨pm, hpm⟩ : ∃ x, x = (bestS X fld bm).1 := ⟨_, rfl⟩
  obtain ⟨pn, hpn⟩ : ∃ x, x = (bestS X fld bm).2 := ⟨_, rfl⟩
  rw [← hpn] at es b2
  rw [← hpm] at hS' b1 b2
  have bb := hbr20 fld hof
  have hlow : ∀ c, c < X.nv → pn ≤ blueN b (X.q c) X.nf + pm c * b fld := fun c hc => by
    have h1 := (le_lowS (S := fun v k => sureN X v fld k (truths X)) (c := pm) (by omega)).1 (Int.le_of_eq b2) c hc
    have h2 := (le_sureN hneX).1 h1 b hbX
    unfold blueWith at h2
    have h3 := b1.2.1 c hc
    rw [Int.toNat_of_nonneg h3] at h2
    exact h2
  have hpr : ∀ c, c < X.nv → 0 ≤ pm c ∧ pm c ≤ 9 := fun c hc => by
    have h1 := sumF_le X.nv 0 c (fun j _ h => b1.2.1 j (by omega)) (by omega) (by omega)
    have h2 := b1.2.2
    have h3 := b1.2.1 c hc
    omega
  have hlr : ∀ c, c < X.nv → 0 ≤ blueN b (X.q c) X.nf ∧ blueN b (X.q c) X.nf ≤ 900 := fun c hc => by
    obtain ⟨v1, v2⟩ := hGX.v c hc
    obtain ⟨h1, h2⟩ := blueN_bound (b := b) (q := X.q c) (n := X.nf) (by omega) hbr20 (fun j hj => v2 j (by omega)) X.nf (Nat.le_refl _)
    exact ⟨h1, by have : (180 : Int) * X.nf ≤ 900 := by omega
                  omega⟩
  obtain ⟨vv1, hvv1⟩ : ∃ x, x = verdictV X one oth := ⟨_, rfl⟩
  have hvr := verdict_in (Y := X) (a := one) (b := oth)
  have hin := in_c (n := n) (h := g16) (by omega) (verdictV X one oth) 1 3
  rw [decide_eq_true (show 1 ≤ verdictV X one oth ∧ verdictV X one oth ≤ 3 by omega)] at hin
  rw [← hvv1] at em hin hvr
  have hnd := needsV_in hfX hov hof (b := (bd : Int)) ⟨by omega, by omega⟩
  rw [if_neg hneX] at hnd
  obtain ⟨nd, hndd⟩ : ∃ x, x = needsV X (one : Int) (fld : Int) (bd : Int) := ⟨_, rfl⟩
  rw [← hndd] at end_ hnd
  have hnd2 : (nd.2 = 0 ∧ ∃ k : Nat, nd.1 = k ∧ k ≤ 9 ∧ (bd : Int) ≤ blueN b (X.q one) X.nf + k * b fld) ∨ nd.2 = 10 := by
    by_cases hp : 0 ≤ findFrom (Enough X one fld (bd : Int) (truths X)) 10 0
    · rw [if_pos hp] at hnd
      obtain ⟨k, k1, k2, k3, k4⟩ := findFrom_get hp
      left
      rw [hnd]
      refine ⟨rfl, k, k4, by omega, ?_⟩
      have := k2 b hbX
      unfold blueWith at this
      exact this
    · rw [if_neg hp] at hnd
      right
      rw [hnd]
  obtain ⟨nd1, nd2⟩ := nd
  simp only at end_ hnd2
  clear hnd hndd
  have hj : nd2 = 0 ∨ nd2 = 10 := by rcases hnd2 with ⟨e, _⟩ | e <;> omega
  have haw : ∀ g, call n (.func (.func 24) #[] #[]) [] g = some (.bool true, g) := fun g => awake_c (n := n) (h := g) (by omega)
  rcases hnd2 with ⟨rfl, k, rfl, k9, hle⟩ | rfl
  · simp only [rn0, rn1, rn2, rn3, rn4, rn5, rn6, rn7, rn8, if_true, if_false, Nat.le_refl, true_and, and_true, decide_true, decide_false, Bool.not_true, Bool.not_false, reduceIte, Nat.reduceEqDiff, Nat.reduceAdd, Nat.reduceMul, Nat.reduceSub, Nat.reduceLeDiff, Nat.reduceLT, wx1, ey1, eb, wx2, ey2, ef, wx3, ey3, el, ep, wx4, ey4, em, wx5, ey5, end_, wx6, ey6, es, wx7, ey7, elv, wx8, ey8, el2, ept, ex0, ex1, ex30, ex31, ex32, p_conv8, r_8 w2, valN_tmp, valN_const, Nat.reduceLT, q60, r_rem q60, t7, q10, r_rem q10, t8, Int.reduceEq, Cells.len hL, Cells.len hB', Cells.len hF', Cells.len hbl', Cells.len hP', Cells.len hS', rE.ld, Nat.zero_add, List.getElem?_cons_zero, List.getElem?_cons_succ, Cells.len hrwE, Int.natCast_zero, hin]
    refine W_loop X.nv (fun c f g ms => g = g18 ∧ ms = [] ∧ f 4 = .int .u8 (a2 : Int) ∧ f 12 = bl ∧ f 13 = .int .i64 (one : Int) ∧ f 14 = .int .i64 (fld : Int) ∧ f 15 = .int .i64 (oth : Int) ∧ f 16 = lB ∧ f 18 = lF ∧ f 20 = lP ∧ f 22 = .int .i64 vv1 ∧ f 24 = .int .i64 (k : Int) ∧ f 25 = .int .i64 0 ∧ f 26 = lS ∧ f 27 = .int .i64 pn ∧ f 31 = .int .i64 (c : Int)) (by first | omega | (simp; omega)) ?_ ?_ ?_
    · simp only [rn0, rn1, rn2, rn3, rn4, rn5, rn6, rn7, rn8, if_true, if_false, Nat.le_refl, true_and, and_true, decide_true, decide_false, Bool.not_true, Bool.not_false, reduceIte, Nat.reduceEqDiff, Nat.reduceAdd, Nat.reduceMul, Nat.reduceSub, Nat.reduceLeDiff, Nat.reduceLT]
      first | done | rfl | exact ⟨rfl, rfl⟩
    · rintro c f g ms hc ⟨rfl, rfl, f4, f12, f13, f14, f15, f16, f18, f20, f22, f24, f25, f26, f27, f31⟩
      have hc' : (c : Int) < (X.nv : Int) := by omega
      have hwc : wrapF .i64 ((c : Int) + 1) = ((c + 1 : Nat) : Int) := by rw [wrap_in (by omega) (by omega)]; rfl
      have l1 : loadCell g (ptrO lB 2 c 0) = some (.int .i64 (loN (fun t => blueN t (X.q c) X.nf) (truths X))) := Cells.ld hB' hc (by omega)
      have l2 : loadCell g (ptrO lB 2 c 1) = some (.int .i64 (hiN (fun t => blueN t (X.q c) X.nf) (truths X))) := Cells.ld hB' hc (by omega)
      have c1 : ¬ blueN b (X.q c) X.nf < loN (fun t => blueN t (X.q c) X.nf) (truths X) := by have := (le_loN hneX).1 (Int.le_refl (loN (fun t => blueN t (X.q c) X.nf) (truths X))) b hbX; omega
      have c2 : ¬ hiN (fun t => blueN t (X.q c) X.nf) (truths X) < blueN b (X.q c) X.nf := by have := (hiN_le hneX).1 (Int.le_refl (hiN (fun t => blueN t (X.q c) X.nf) (truths X))) b hbX; omega
      have c3 : ¬ blueN b (X.q c) X.nf + pm c * b fld < pn := by have := hlow c hc; omega
      obtain ⟨k1, k2⟩ := hpr c hc
      obtain ⟨k3, k4⟩ := hlr c hc
      have k5 : 0 ≤ pm c * b fld := Int.mul_nonneg k1 bb.1
      have k6 : pm c * b fld ≤ 9 * 20 := Int.mul_le_mul k2 bb.2 bb.1 (by omega)
      have wm : wrapF .i64 (pm c * b fld) = pm c * b fld := wrap_in (by omega) (by omega)
      have wp : wrapF .i64 (blueN b (X.q c) X.nf + pm c * b fld) = blueN b (X.q c) X.nf + pm c * b fld := wrap_in (by omega) (by omega)
      simp only [rn0, rn1, rn2, rn3, rn4, rn5, rn6, rn7, rn8, if_true, if_false, Nat.le_refl, true_and, and_true, decide_true, decide_false, Bool.not_true, Bool.not_false, reduceIte, Nat.reduceEqDiff, Nat.reduceAdd, Nat.reduceMul, Nat.reduceSub, Nat.reduceLeDiff, Nat.reduceLT, f4, f12, f13, f14, f15, f16, f18, f20, f22, f24, f25, f26, f27, f31, Cells.len hB', hc']
      refine W_draw All ?_
      simp only [rn0, rn1, rn2, rn3, rn4, rn5, rn6, rn7, rn8, if_true, if_false, Nat.le_refl, true_and, and_true, decide_true, decide_false, Bool.not_true, Bool.not_false, reduceIte, Nat.reduceEqDiff, Nat.reduceAdd, Nat.reduceMul, Nat.reduceSub, Nat.reduceLeDiff, Nat.reduceLT, f4, f12, f13, f14, f15, f16, f18, f20, f22, f24, f25, f26, f27, f31, d_guard, dg_tt, dg_tf, dg_ft, dg_ff, Cells.idx hP' hc, Cells.ld hP' hc Nat.zero_lt_one, Cells.idx hB' hc, Cells.fld hB' hc, l1, l2, c1, c2, Cells.idx hS' hc, Cells.ld hS' hc Nat.zero_lt_one, Cells.idx hbl' hof, Cells.ld hbl' hof Nat.zero_lt_one, wm, wp, c3, hwc]
    rintro f g ms ⟨rfl, rfl, f4, f12, f13, f14, f15, f16, f18, f20, f22, f24, f25, f26, f27, f31⟩
    simp only [rn0, rn1, rn2, rn3, rn4, rn5, rn6, rn7, rn8, if_true, if_false, Nat.le_refl, true_and, and_true, decide_true, decide_false, Bool.not_true, Bool.not_false, reduceIte, Nat.reduceEqDiff, Nat.reduceAdd, Nat.reduceMul, Nat.reduceSub, Nat.reduceLeDiff, Nat.reduceLT, f4, f12, f13, f14, f15, f16, f18, f20, f22, f24, f25, f26, f27, f31, Cells.len hB', Int.lt_irrefl]
    refine W_loop X.nf (fun c f g' ms => g' = g ∧ ms = [] ∧ f 4 = .int .u8 (a2 : Int) ∧ f 12 = bl ∧ f 13 = .int .i64 (one : Int) ∧ f 14 = .int .i64 (fld : Int) ∧ f 15 = .int .i64 (oth : Int) ∧ f 18 = lF ∧ f 20 = lP ∧ f 22 = .int .i64 vv1 ∧ f 24 = .int .i64 (k : Int) ∧ f 25 = .int .i64 0 ∧ f 32 = .int .i64 (c : Int)) (by first | omega | (simp; omega)) ?_ ?_ ?_
    · simp only [rn0, rn1, rn2, rn3, rn4, rn5, rn6, rn7, rn8, if_true, if_false, Nat.le_refl, true_and, and_true, decide_true, decide_false, Bool.not_true, Bool.not_false, reduceIte, Nat.reduceEqDiff, Nat.reduceAdd, Nat.reduceMul, Nat.reduceSub, Nat.reduceLeDiff, Nat.reduceLT, f4, f12, f13, f14, f15, f16, f18, f20, f22, f24, f25, f26, f27, f31]
      first | done | rfl | exact ⟨rfl, rfl⟩
    · rintro c f g' ms hc ⟨rfl, rfl, f4, f12, f13, f14, f15, f18, f20, f22, f24, f25, f32⟩
      have hc' : (c : Int) < (X.nf : Int) := by omega
      have hwc : wrapF .i64 ((c : Int) + 1) = ((c + 1 : Nat) : Int) := by rw [wrap_in (by omega) (by omega)]; rfl
      have l1 : loadCell g' (ptrO lF 2 c 0) = some (.int .i64 (loN (fun t => t c) (truths X))) := Cells.ld hF' hc (by omega)
      have l2 : loadCell g' (ptrO lF 2 c 1) = some (.int .i64 (hiN (fun t => t c) (truths X))) := Cells.ld hF' hc (by omega)
      have c1 : ¬ b c < loN (fun t => t c) (truths X) := by have := (le_loN (val := fun t => t c) hneX).1 (Int.le_refl (loN (fun t => t c) (truths X))) b hbX; omega
      have c2 : ¬ hiN (fun t => t c) (truths X) < b c := by have := (hiN_le (val := fun t => t c) hneX).1 (Int.le_refl (hiN (fun t => t c) (truths X))) b hbX; omega
      simp only [rn0, rn1, rn2, rn3, rn4, rn5, rn6, rn7, rn8, if_true, if_false, Nat.le_refl, true_and, and_true, decide_true, decide_false, Bool.not_true, Bool.not_false, reduceIte, Nat.reduceEqDiff, Nat.reduceAdd, Nat.reduceMul, Nat.reduceSub, Nat.reduceLeDiff, Nat.reduceLT, f4, f12, f13, f14, f15, f18, f20, f22, f24, f25, f32, Cells.len hF', hc']
      refine W_draw All ?_
      simp only [rn0, rn1, rn2, rn3, rn4, rn5, rn6, rn7, rn8, if_true, if_false, Nat.le_refl, true_and, and_true, decide_true, decide_false, Bool.not_true, Bool.not_false, reduceIte, Nat.reduceEqDiff, Nat.reduceAdd, Nat.reduceMul, Nat.reduceSub, Nat.reduceLeDiff, Nat.reduceLT, f4, f12, f13, f14, f15, f18, f20, f22, f24, f25, f32, d_guard, dg_tt, dg_tf, dg_ft, dg_ff, Cells.idx hbl' hc, Cells.ld hbl' hc Nat.zero_lt_one, Cells.idx hF' hc, Cells.fld hF' hc, l1, l2, c1, c2, hwc]
    rintro f g' ms ⟨rfl, rfl, f4, f12, f13, f14, f15, f18, f20, f22, f24, f25, f32⟩
    simp only [rn0, rn1, rn2, rn3, rn4, rn5, rn6, rn7, rn8, if_true, if_false, Nat.le_refl, true_and, and_true, decide_true, decide_false, Bool.not_true, Bool.not_false, reduceIte, Nat.reduceEqDiff, Nat.reduceAdd, Nat.reduceMul, Nat.reduceSub, Nat.reduceLeDiff, Nat.reduceLT, f4, f12, f13, f14, f15, f18, f20, f22, f24, f25, f32, Cells.len hF', Int.lt_irrefl]
    refine W_draw All ?_
    simp only [rn0, rn1, rn2, rn3, rn4, rn5, rn6, rn7, rn8, if_true, if_false, Nat.le_refl, true_and, and_true, decide_true, decide_false, Bool.not_true, Bool.not_false, reduceIte, Nat.reduceEqDiff, Nat.reduceAdd, Nat.reduceMul, Nat.reduceSub, Nat.reduceLeDiff, Nat.reduceLT, f4, f12, f13, f14, f15, f18, f20, f22, f24, f25, f32, Cells.idx hP' hov, Cells.ld hP' hov Nat.zero_lt_one, Cells.idx hP' hol, Cells.ld hP' hol Nat.zero_lt_one]
    obtain ⟨k3, k4⟩ := hlr one hov
    have A2 : blueN b (X.q oth) X.nf < blueN b (X.q one) X.nf → ¬ vv1 = 2 := fun ha e => verdict_two (by rw [← hvv1]; exact e) hbX ha
    have A1 : ¬ blueN b (X.q oth) X.nf < blueN b (X.q one) X.nf → ¬ vv1 = 1 := fun ha e => ha (verdict_one (by rw [← hvv1]; exact e) hbX)
    refine W_draw All ?_
    have k5 : 0 ≤ (k : Int) * b fld := Int.mul_nonneg (by omega) bb.1
    have k6 : (k : Int) * b fld ≤ 9 * 20 := Int.mul_le_mul (by omega) bb.2 bb.1 (by omega)
    have wm : wrapF .i64 ((k : Int) * b fld) = (k : Int) * b fld := wrap_in (by omega) (by omega)
    have wp : wrapF .i64 (blueN b (X.q one) X.nf + (k : Int) * b fld) = blueN b (X.q one) X.nf + (k : Int) * b fld := wrap_in (by omega) (by omega)
    by_cases hA : blueN b (X.q oth) X.nf < blueN b (X.q one) X.nf
    · have a2' := A2 hA
      by_cases hV : vv1 = 1
      · simp only [rn0, rn1, rn2, rn3, rn4, rn5, rn6, rn7, rn8, if_true, if_false, Nat.le_refl, true_and, and_true, decide_true, decide_false, Bool.not_true, Bool.not_false, reduceIte, Nat.reduceEqDiff, Nat.reduceAdd, Nat.reduceMul, Nat.reduceSub, Nat.reduceLeDiff, Nat.reduceLT, f4, f12, f13, f14, f15, f18, f20, f22, f24, f25, f32, Int.reduceEq, d_guard, dg_tt, dg_tf, dg_ft, dg_ff, Cells.idx hP' hov, Cells.ld hP' hov Nat.zero_lt_one, Cells.idx hbl' hof, Cells.ld hbl' hof Nat.zero_lt_one, wm, wp, p_conv8, r_8 w2, valN_tmp, valN_const, Nat.reduceLT, q60, r_rem q60, t7, hle, haw, hA, hV, a2']
      · simp only [rn0, rn1, rn2, rn3, rn4, rn5, rn6, rn7, rn8, if_true, if_false, Nat.le_refl, true_and, and_true, decide_true, decide_false, Bool.not_true, Bool.not_false, reduceIte, Nat.reduceEqDiff, Nat.reduceAdd, Nat.reduceMul, Nat.reduceSub, Nat.reduceLeDiff, Nat.reduceLT, f4, f12, f13, f14, f15, f18, f20, f22, f24, f25, f32, Int.reduceEq, d_guard, dg_tt, dg_tf, dg_ft, dg_ff, Cells.idx hP' hov, Cells.ld hP' hov Nat.zero_lt_one, Cells.idx hbl' hof, Cells.ld hbl' hof Nat.zero_lt_one, wm, wp, p_conv8, r_8 w2, valN_tmp, valN_const, Nat.reduceLT, q60, r_rem q60, t7, hle, haw, hA, hV, a2']
    · have a1' := A1 hA
      by_cases hV : vv1 = 2
      · simp only [rn0, rn1, rn2, rn3, rn4, rn5, rn6, rn7, rn8, if_true, if_false, Nat.le_refl, true_and, and_true, decide_true, decide_false, Bool.not_true, Bool.not_false, reduceIte, Nat.reduceEqDiff, Nat.reduceAdd, Nat.reduceMul, Nat.reduceSub, Nat.reduceLeDiff, Nat.reduceLT, f4, f12, f13, f14, f15, f18, f20, f22, f24, f25, f32, Int.reduceEq, d_guard, dg_tt, dg_tf, dg_ft, dg_ff, Cells.idx hP' hov, Cells.ld hP' hov Nat.zero_lt_one, Cells.idx hbl' hof, Cells.ld hbl' hof Nat.zero_lt_one, wm, wp, p_conv8, r_8 w2, valN_tmp, valN_const, Nat.reduceLT, q60, r_rem q60, t7, hle, haw, hA, hV, a1']
      · simp only [rn0, rn1, rn2, rn3, rn4, rn5, rn6, rn7, rn8, if_true, if_false, Nat.le_refl, true_and, and_true, decide_true, decide_false, Bool.not_true, Bool.not_false, reduceIte, Nat.reduceEqDiff, Nat.reduceAdd, Nat.reduceMul, Nat.reduceSub, Nat.reduceLeDiff, Nat.reduceLT, f4, f12, f13, f14, f15, f18, f20, f22, f24, f25, f32, Int.reduceEq, d_guard, dg_tt, dg_tf, dg_ft, dg_ff, Cells.idx hP' hov, Cells.ld hP' hov Nat.zero_lt_one, Cells.idx hbl' hof, Cells.ld hbl' hof Nat.zero_lt_one, wm, wp, p_conv8, r_8 w2, valN_tmp, valN_const, Nat.reduceLT, q60, r_rem q60, t7, hle, haw, hA, hV, a1']
  · simp only [rn0, rn1, rn2, rn3, rn4, rn5, rn6, rn7, rn8, if_true, if_false, Nat.le_refl, true_and, and_true, decide_true, decide_false, Bool.not_true, Bool.not_false, reduceIte, Nat.reduceEqDiff, Nat.reduceAdd, Nat.reduceMul, Nat.reduceSub, Nat.reduceLeDiff, Nat.reduceLT, wx1, ey1, eb, wx2, ey2, ef, wx3, ey3, el, ep, wx4, ey4, em, wx5, ey5, end_, wx6, ey6, es, wx7, ey7, elv, wx8, ey8, el2, ept, ex0, ex1, ex30, ex31, ex32, p_conv8, r_8 w2, valN_tmp, valN_const, Nat.reduceLT, q60, r_rem q60, t7, q10, r_rem q10, t8, Int.reduceEq, Cells.len hL, Cells.len hB', Cells.len hF', Cells.len hbl', Cells.len hP', Cells.len hS', rE.ld, Nat.zero_add, List.getElem?_cons_zero, List.getElem?_cons_succ, Cells.len hrwE, Int.natCast_zero, hin]
    refine W_loop X.nv (fun c f g ms => g = g18 ∧ ms = [] ∧ f 4 = .int .u8 (a2 : Int) ∧ f 12 = bl ∧ f 13 = .int .i64 (one : Int) ∧ f 14 = .int .i64 (fld : Int) ∧ f 15 = .int .i64 (oth : Int) ∧ f 16 = lB ∧ f 18 = lF ∧ f 20 = lP ∧ f 22 = .int .i64 vv1 ∧ f 24 = .int .i64 nd1 ∧ f 25 = .int .i64 10 ∧ f 26 = lS ∧ f 27 = .int .i64 pn ∧ f 31 = .int .i64 (c : Int)) (by first | omega | (simp; omega)) ?_ ?_ ?_
    · simp only [rn0, rn1, rn2, rn3, rn4, rn5, rn6, rn7, rn8, if_true, if_false, Nat.le_refl, true_and, and_true, decide_true, decide_false, Bool.not_true, Bool.not_false, reduceIte, Nat.reduceEqDiff, Nat.reduceAdd, Nat.reduceMul, Nat.reduceSub, Nat.reduceLeDiff, Nat.reduceLT]
      first | done | rfl | exact ⟨rfl, rfl⟩
    · rintro c f g ms hc ⟨rfl, rfl, f4, f12, f13, f14, f15, f16, f18, f20, f22, f24, f25, f26, f27, f31⟩
      have hc' : (c : Int) < (X.nv : Int) := by omega
      have hwc : wrapF .i64 ((c : Int) + 1) = ((c + 1 : Nat) : Int) := by rw [wrap_in (by omega) (by omega)]; rfl
      have l1 : loadCell g (ptrO lB 2 c 0) = some (.int .i64 (loN (fun t => blueN t (X.q c) X.nf) (truths X))) := Cells.ld hB' hc (by omega)
      have l2 : loadCell g (ptrO lB 2 c 1) = some (.int .i64 (hiN (fun t => blueN t (X.q c) X.nf) (truths X))) := Cells.ld hB' hc (by omega)
      have c1 : ¬ blueN b (X.q c) X.nf < loN (fun t => blueN t (X.q c) X.nf) (truths X) := by have := (le_loN hneX).1 (Int.le_refl (loN (fun t => blueN t (X.q c) X.nf) (truths X))) b hbX; omega
      have c2 : ¬ hiN (fun t => blueN t (X.q c) X.nf) (truths X) < blueN b (X.q c) X.nf := by have := (hiN_le hneX).1 (Int.le_refl (hiN (fun t => blueN t (X.q c) X.nf) (truths X))) b hbX; omega
      have c3 : ¬ blueN b (X.q c) X.nf + pm c * b fld < pn := by have := hlow c hc; omega
      obtain ⟨k1, k2⟩ := hpr c hc
      obtain ⟨k3, k4⟩ := hlr c hc
      have k5 : 0 ≤ pm c * b fld := Int.mul_nonneg k1 bb.1
      have k6 : pm c * b fld ≤ 9 * 20 := Int.mul_le_mul k2 bb.2 bb.1 (by omega)
      have wm : wrapF .i64 (pm c * b fld) = pm c * b fld := wrap_in (by omega) (by omega)
      have wp : wrapF .i64 (blueN b (X.q c) X.nf + pm c * b fld) = blueN b (X.q c) X.nf + pm c * b fld := wrap_in (by omega) (by omega)
      simp only [rn0, rn1, rn2, rn3, rn4, rn5, rn6, rn7, rn8, if_true, if_false, Nat.le_refl, true_and, and_true, decide_true, decide_false, Bool.not_true, Bool.not_false, reduceIte, Nat.reduceEqDiff, Nat.reduceAdd, Nat.reduceMul, Nat.reduceSub, Nat.reduceLeDiff, Nat.reduceLT, f4, f12, f13, f14, f15, f16, f18, f20, f22, f24, f25, f26, f27, f31, Cells.len hB', hc']
      refine W_draw All ?_
      simp only [rn0, rn1, rn2, rn3, rn4, rn5, rn6, rn7, rn8, if_true, if_false, Nat.le_refl, true_and, and_true, decide_true, decide_false, Bool.not_true, Bool.not_false, reduceIte, Nat.reduceEqDiff, Nat.reduceAdd, Nat.reduceMul, Nat.reduceSub, Nat.reduceLeDiff, Nat.reduceLT, f4, f12, f13, f14, f15, f16, f18, f20, f22, f24, f25, f26, f27, f31, d_guard, dg_tt, dg_tf, dg_ft, dg_ff, Cells.idx hP' hc, Cells.ld hP' hc Nat.zero_lt_one, Cells.idx hB' hc, Cells.fld hB' hc, l1, l2, c1, c2, Cells.idx hS' hc, Cells.ld hS' hc Nat.zero_lt_one, Cells.idx hbl' hof, Cells.ld hbl' hof Nat.zero_lt_one, wm, wp, c3, hwc]
    rintro f g ms ⟨rfl, rfl, f4, f12, f13, f14, f15, f16, f18, f20, f22, f24, f25, f26, f27, f31⟩
    simp only [rn0, rn1, rn2, rn3, rn4, rn5, rn6, rn7, rn8, if_true, if_false, Nat.le_refl, true_and, and_true, decide_true, decide_false, Bool.not_true, Bool.not_false, reduceIte, Nat.reduceEqDiff, Nat.reduceAdd, Nat.reduceMul, Nat.reduceSub, Nat.reduceLeDiff, Nat.reduceLT, f4, f12, f13, f14, f15, f16, f18, f20, f22, f24, f25, f26, f27, f31, Cells.len hB', Int.lt_irrefl]
    refine W_loop X.nf (fun c f g' ms => g' = g ∧ ms = [] ∧ f 4 = .int .u8 (a2 : Int) ∧ f 12 = bl ∧ f 13 = .int .i64 (one : Int) ∧ f 14 = .int .i64 (fld : Int) ∧ f 15 = .int .i64 (oth : Int) ∧ f 18 = lF ∧ f 20 = lP ∧ f 22 = .int .i64 vv1 ∧ f 24 = .int .i64 nd1 ∧ f 25 = .int .i64 10 ∧ f 32 = .int .i64 (c : Int)) (by first | omega | (simp; omega)) ?_ ?_ ?_
    · simp only [rn0, rn1, rn2, rn3, rn4, rn5, rn6, rn7, rn8, if_true, if_false, Nat.le_refl, true_and, and_true, decide_true, decide_false, Bool.not_true, Bool.not_false, reduceIte, Nat.reduceEqDiff, Nat.reduceAdd, Nat.reduceMul, Nat.reduceSub, Nat.reduceLeDiff, Nat.reduceLT, f4, f12, f13, f14, f15, f16, f18, f20, f22, f24, f25, f26, f27, f31]
      first | done | rfl | exact ⟨rfl, rfl⟩
    · rintro c f g' ms hc ⟨rfl, rfl, f4, f12, f13, f14, f15, f18, f20, f22, f24, f25, f32⟩
      have hc' : (c : Int) < (X.nf : Int) := by omega
      have hwc : wrapF .i64 ((c : Int) + 1) = ((c + 1 : Nat) : Int) := by rw [wrap_in (by omega) (by omega)]; rfl
      have l1 : loadCell g' (ptrO lF 2 c 0) = some (.int .i64 (loN (fun t => t c) (truths X))) := Cells.ld hF' hc (by omega)
      have l2 : loadCell g' (ptrO lF 2 c 1) = some (.int .i64 (hiN (fun t => t c) (truths X))) := Cells.ld hF' hc (by omega)
      have c1 : ¬ b c < loN (fun t => t c) (truths X) := by have := (le_loN (val := fun t => t c) hneX).1 (Int.le_refl (loN (fun t => t c) (truths X))) b hbX; omega
      have c2 : ¬ hiN (fun t => t c) (truths X) < b c := by have := (hiN_le (val := fun t => t c) hneX).1 (Int.le_refl (hiN (fun t => t c) (truths X))) b hbX; omega
      simp only [rn0, rn1, rn2, rn3, rn4, rn5, rn6, rn7, rn8, if_true, if_false, Nat.le_refl, true_and, and_true, decide_true, decide_false, Bool.not_true, Bool.not_false, reduceIte, Nat.reduceEqDiff, Nat.reduceAdd, Nat.reduceMul, Nat.reduceSub, Nat.reduceLeDiff, Nat.reduceLT, f4, f12, f13, f14, f15, f18, f20, f22, f24, f25, f32, Cells.len hF', hc']
      refine W_draw All ?_
      simp only [rn0, rn1, rn2, rn3, rn4, rn5, rn6, rn7, rn8, if_true, if_false, Nat.le_refl, true_and, and_true, decide_true, decide_false, Bool.not_true, Bool.not_false, reduceIte, Nat.reduceEqDiff, Nat.reduceAdd, Nat.reduceMul, Nat.reduceSub, Nat.reduceLeDiff, Nat.reduceLT, f4, f12, f13, f14, f15, f18, f20, f22, f24, f25, f32, d_guard, dg_tt, dg_tf, dg_ft, dg_ff, Cells.idx hbl' hc, Cells.ld hbl' hc Nat.zero_lt_one, Cells.idx hF' hc, Cells.fld hF' hc, l1, l2, c1, c2, hwc]
    rintro f g' ms ⟨rfl, rfl, f4, f12, f13, f14, f15, f18, f20, f22, f24, f25, f32⟩
    simp only [rn0, rn1, rn2, rn3, rn4, rn5, rn6, rn7, rn8, if_true, if_false, Nat.le_refl, true_and, and_true, decide_true, decide_false, Bool.not_true, Bool.not_false, reduceIte, Nat.reduceEqDiff, Nat.reduceAdd, Nat.reduceMul, Nat.reduceSub, Nat.reduceLeDiff, Nat.reduceLT, f4, f12, f13, f14, f15, f18, f20, f22, f24, f25, f32, Cells.len hF', Int.lt_irrefl]
    refine W_draw All ?_
    simp only [rn0, rn1, rn2, rn3, rn4, rn5, rn6, rn7, rn8, if_true, if_false, Nat.le_refl, true_and, and_true, decide_true, decide_false, Bool.not_true, Bool.not_false, reduceIte, Nat.reduceEqDiff, Nat.reduceAdd, Nat.reduceMul, Nat.reduceSub, Nat.reduceLeDiff, Nat.reduceLT, f4, f12, f13, f14, f15, f18, f20, f22, f24, f25, f32, Cells.idx hP' hov, Cells.ld hP' hov Nat.zero_lt_one, Cells.idx hP' hol, Cells.ld hP' hol Nat.zero_lt_one]
    obtain ⟨k3, k4⟩ := hlr one hov
    have A2 : blueN b (X.q oth) X.nf < blueN b (X.q one) X.nf → ¬ vv1 = 2 := fun ha e => verdict_two (by rw [← hvv1]; exact e) hbX ha
    have A1 : ¬ blueN b (X.q oth) X.nf < blueN b (X.q one) X.nf → ¬ vv1 = 1 := fun ha e => ha (verdict_one (by rw [← hvv1]; exact e) hbX)
    refine W_draw All ?_
    by_cases hA : blueN b (X.q oth) X.nf < blueN b (X.q one) X.nf
    · have a2' := A2 hA
      by_cases hV : vv1 = 1
      · simp only [rn0, rn1, rn2, rn3, rn4, rn5, rn6, rn7, rn8, if_true, if_false, Nat.le_refl, true_and, and_true, decide_true, decide_false, Bool.not_true, Bool.not_false, reduceIte, Nat.reduceEqDiff, Nat.reduceAdd, Nat.reduceMul, Nat.reduceSub, Nat.reduceLeDiff, Nat.reduceLT, f4, f12, f13, f14, f15, f18, f20, f22, f24, f25, f32, Int.reduceEq, d_guard, dg_tt, dg_tf, dg_ft, dg_ff, haw, hA, hV, a2']
      · simp only [rn0, rn1, rn2, rn3, rn4, rn5, rn6, rn7, rn8, if_true, if_false, Nat.le_refl, true_and, and_true, decide_true, decide_false, Bool.not_true, Bool.not_false, reduceIte, Nat.reduceEqDiff, Nat.reduceAdd, Nat.reduceMul, Nat.reduceSub, Nat.reduceLeDiff, Nat.reduceLT, f4, f12, f13, f14, f15, f18, f20, f22, f24, f25, f32, Int.reduceEq, d_guard, dg_tt, dg_tf, dg_ft, dg_ff, haw, hA, hV, a2']
    · have a1' := A1 hA
      by_cases hV : vv1 = 2
      · simp only [rn0, rn1, rn2, rn3, rn4, rn5, rn6, rn7, rn8, if_true, if_false, Nat.le_refl, true_and, and_true, decide_true, decide_false, Bool.not_true, Bool.not_false, reduceIte, Nat.reduceEqDiff, Nat.reduceAdd, Nat.reduceMul, Nat.reduceSub, Nat.reduceLeDiff, Nat.reduceLT, f4, f12, f13, f14, f15, f18, f20, f22, f24, f25, f32, Int.reduceEq, d_guard, dg_tt, dg_tf, dg_ft, dg_ff, haw, hA, hV, a1']
      · simp only [rn0, rn1, rn2, rn3, rn4, rn5, rn6, rn7, rn8, if_true, if_false, Nat.le_refl, true_and, and_true, decide_true, decide_false, Bool.not_true, Bool.not_false, reduceIte, Nat.reduceEqDiff, Nat.reduceAdd, Nat.reduceMul, Nat.reduceSub, Nat.reduceLeDiff, Nat.reduceLT, f4, f12, f13, f14, f15, f18, f20, f22, f24, f25, f32, Int.reduceEq, d_guard, dg_tt, dg_tf, dg_ft, dg_ff, haw, hA, hV, a1']
end Go.Vm.Vat

namespace Go.Vm.Vat
open Go.Proofs
set_option linter.unusedSimpArgs false
set_option linter.unusedVariables false
set_option maxRecDepth 10000
variable {n : Nat} {h : AHeap}
/-! ### Words that were handed in -/
theorem c86 : Try.prog.cellsOf 86 = 1 := by kernel_rfl
theorem flat86 : FlatT Try.prog .u16 86 1 := flat_int (by rfl)
theorem flatS_words {H : Type} {enc : TypeId × Value → H} {w : World} {base : Nat} {sp : Nat → Bool} {held : Bool} {fuel : Nat} {cs : List Value} {x : DataW H × List MemPlace}
    (h : DataW.trod enc Try.prog w base sp held fuel 87 cs = some x) : ∃ v, cs = [v] ∧ FlatS w .u16 1 v := flat_slice Try.underlying87 c86 (by omega) flat86 h
theorem flatW {w : World} {φ : Emb} {h : AHeap} (L : Loaded w φ h) (hn : h.next < far) {k : IntKind} {s : Nat} {v : Value} (hs : 0 < s) (hf : FlatS w k s v) :
    ∃ φ' h' u, Step w φ h φ' h' 1 ∧ Stands φ' h' u v ∧ ∃ c : Nat → Nat → Int, (Cells h' u s (vlen v) fun i j => .int k (c i j)) ∧ ∀ i j, i < vlen v → j < s → (Lit.int k (c i j)).wf = true := by
  rcases hf with rfl | ⟨a, len, cap, rfl, hl, hc⟩
  · exact ⟨φ, h, .slice none 0 0, ⟨L, Sub.refl, Nat.le_refl _, by omega, rfl, Agree.refl _ _⟩, ⟨by simp [mapV], by simp [okV], rfl⟩, fun _ _ => 0, ⟨none, 0, rfl, fun x e => (by cases e), .inl rfl⟩, fun i j hi => absurd hi (Nat.not_lt_zero _)⟩
  · have hlt : ∀ i j, i < len → j < s → i * s + j < len * s := fun i j hi hj => by
      have : (i + 1) * s ≤ len * s := Nat.mul_le_mul_right s hi
      rw [Nat.add_mul] at this
      omega
    obtain ⟨φ', h', u, q1, q2, q3, q4, q5, q6, q7, q8, q9⟩ := L.slice hn (a := a) hl hs ((List.range (len * s)).map fun i => .int k (numAt w a i)) (by simp) (fun i v hv => by
      rw [List.getElem?_map] at hv
      by_cases hi : i < len * s
      · rw [List.getElem?_range hi] at hv
        cases hv
        exact ⟨by simp [okV], rfl, by simpa [mapV] using (hc i hi).1⟩
      · rw [List.getElem?_eq_none (by simp; omega)] at hv
        cases hv) (c := fun i j => .int k (numAt w a (i * s + j))) (fun i j hi hj => by rw [List.getElem?_map, List.getElem?_range (hlt i j hi hj)]; rfl)
    exact ⟨φ', h', u, ⟨q1, q2, by omega, by omega, q4, q5⟩, ⟨q6, q7, q8⟩, _, q9, fun i j hi hj => (hc _ (hlt i j hi hj)).2⟩
theorem wf16 {a : Int} (h : (Lit.int .u16 a).wf = true) : ∃ k : Nat, a = k ∧ k < 65536 := by
  simp only [Lit.wf, Bool.and_eq_true, decide_eq_true_eq] at h
  have h1 : (IntKind.u16).min = 0 := rfl
  have h2 : (IntKind.u16).max = 65535 := rfl
  rw [h1, h2] at h
  exact ⟨a.toNat, by omega, by omega⟩
theorem wordsOf {v : Value} {c : Nat → Nat → Int} {m : Nat} (hc : Cells h v 1 m fun i j => .int .u16 (c i j)) (hw : ∀ i j, i < m → j < 1 → (Lit.int .u16 (c i j)).wf = true) : Words h v m fun i => (c i 0).toNat := by
  refine ⟨?_, fun k hk => ?_⟩
  · obtain ⟨a, cap, f1, f2, f3⟩ := hc
    refine ⟨a, cap, f1, f2, f3.imp id fun ⟨b, o, cs, wr, g, g1, g2, g3⟩ => ⟨b, o, cs, wr, g, g1, g2, fun i j hi hj => ?_⟩⟩
    have : j = 0 := by omega
    subst this
    obtain ⟨k, e, _⟩ := wf16 (hw i 0 hi (by omega))
    rw [g3 i 0 hi hj]
    show some (Value.int IntKind.u16 (c i 0)) = some (Value.int IntKind.u16 (((c i 0).toNat : Nat) : Int))
    rw [e]; rfl
  · obtain ⟨x, e, h2⟩ := wf16 (hw k 0 hk (by omega))
    show (c k 0).toNat < 65536
    omega
end Go.Vm.Vat

namespace Go.Vm.Vat
open Go.Proofs
set_option linter.unusedSimpArgs false
set_option linter.unusedVariables false
set_option maxRecDepth 10000
variable {n : Nat} {h : AHeap}
theorem truth_c (hn : 11200 ≤ n) (hr : h.next + 9000000 < far) (hfl : h.floor ≤ h.next) {fv vv sv : Value} {Y : MY} (hy : YardR h fv vv sv Y) (a0 : Int) (wf0 : (Lit.int .u16 a0).wf = true) {ws : Value} {m : Nat} {wa : Nat → Nat} (hw : Words h ws m wa) (a1 : Int) (wf1 : (Lit.int .u8 a1).wf = true) (a2 : Int) (wf2 : (Lit.int .u8 a2).wf = true) :
    ∃ v h', call n (.func (.func 10) #[] #[]) [.agg ⟨[fv, vv, sv]⟩, .int .u16 a0, ws, .int .u8 a1, .int .u8 a2] h = some (v, h') ∧ v = .bool true := by
  obtain ⟨k0, rfl, h0⟩ := wf16 wf0
  obtain ⟨k1, rfl, h1⟩ := wf8 wf1
  obtain ⟨k2, rfl, h2⟩ := wf8 wf2
  by_cases hg : (Thin Y ∧ faultN Y = 0) ∧ 0 < Y.nf ∧ 2 ≤ Y.nv
  · obtain ⟨⟨g1, g2⟩, g3, g4⟩ := hg
    exact truth_m (by omega) hr hfl hy g1 g2 g3 g4 h0 h1 h2 hw
  obtain ⟨n, rfl⟩ : ∃ p, n = p + 1 := ⟨n - 1, by omega⟩
  refine call_any0 fok10 rfl rfl (by simp) ?_
  simp only [s10, W_seq, W_ops]
  refine ops_box (cs := [fv, vv, sv]) (by omega) rfl hy.one fun g1 hx1 => ?_
  have n1 := hx1.next
  have hy1 := hy.mono hx1.sub
  have x1 := hx1.row.whole (n := 3) rfl
  have r1 := hx1.row
  have hrd := ready_c (n := n) (h := g1) (by omega) (by omega) hy1
  have haw := awake_c (n := n) (h := g1) (by omega)
  by_cases c1 : Thin Y ∧ faultN Y = 0
  case neg =>
    rw [decide_eq_false c1] at hrd
    simp only [rn0, rn1, rn2, rn3, rn4, rn5, rn6, rn7, rn8, if_true, if_false, Nat.le_refl, true_and, and_true, decide_true, decide_false, Bool.not_true, Bool.not_false, reduceIte, Nat.reduceEqDiff, Nat.reduceAdd, Nat.reduceMul, Nat.reduceSub, Nat.reduceLeDiff, Nat.reduceLT, x1, hrd, haw]
  rw [decide_eq_true c1] at hrd
  obtain ⟨rr, hrw, hq⟩ := hy1.v
  by_cases c2 : (Y.nf : Int) = 0
  · simp only [rn0, rn1, rn2, rn3, rn4, rn5, rn6, rn7, rn8, if_true, if_false, Nat.le_refl, true_and, and_true, decide_true, decide_false, Bool.not_true, Bool.not_false, reduceIte, Nat.reduceEqDiff, Nat.reduceAdd, Nat.reduceMul, Nat.reduceSub, Nat.reduceLeDiff, Nat.reduceLT, x1, hrd, r1.ld, Nat.zero_add, List.getElem?_cons_zero, List.getElem?_cons_succ, Cells.len hy1.f, Cells.len hrw, c2, haw]
  have c3 : (Y.nv : Int) < 2 := by
    apply Classical.byContradiction
    intro hn
    exact hg ⟨c1, by omega, by omega⟩
  simp only [rn0, rn1, rn2, rn3, rn4, rn5, rn6, rn7, rn8, if_true, if_false, Nat.le_refl, true_and, and_true, decide_true, decide_false, Bool.not_true, Bool.not_false, reduceIte, Nat.reduceEqDiff, Nat.reduceAdd, Nat.reduceMul, Nat.reduceSub, Nat.reduceLeDiff, Nat.reduceLT, x1, hrd, r1.ld, Nat.zero_add, List.getElem?_cons_zero, List.getElem?_cons_succ, Cells.len hy1.f, Cells.len hrw, c2, c3, haw]
end Go.Vm.Vat
