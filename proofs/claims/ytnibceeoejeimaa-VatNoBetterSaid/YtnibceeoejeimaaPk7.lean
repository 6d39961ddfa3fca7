/- Texts of the proofs of this seat, put together: VatSpPure, VatSpPut, VatWordsL, VatNeeds2, VatNeeds3, VatNeeded, VatNoBetter. -/
import Derived.Test.YtnibceeoejeimaaPk6

namespace Go.Vm.Vat
open Go.Proofs
set_option linter.unusedSimpArgs false
set_option linter.unusedVariables false
set_option maxRecDepth 10000
variable {n : Nat} {h : AHeap}
/-! ### What the best spread is -/
def sumF (x : Nat → Int) : Nat → Nat → Int
  | _, 0 => 0
  | i, d + 1 => x i + sumF x (i + 1) d
theorem sumF_congr {x y : Nat → Int} : ∀ (d i : Nat), (∀ j, i ≤ j → j < i + d → x j = y j) → sumF x i d = sumF y i d
  | 0, _, _ => rfl
  | d + 1, i, h => by simp only [sumF]; rw [h i (by omega) (by omega), sumF_congr d (i + 1) fun j h1 h2 => h j (by omega) (by omega)]
theorem sumF_nonneg {x : Nat → Int} : ∀ (d i : Nat), (∀ j, i ≤ j → j < i + d → 0 ≤ x j) → 0 ≤ sumF x i d
  | 0, _, _ => by simp [sumF]
  | d + 1, i, h => by
    simp only [sumF]
    have h1 := h i (by omega) (by omega)
    have h2 := sumF_nonneg d (i + 1) fun j h1 h2 => h j (by omega) (by omega)
    omega
theorem sumF_last {x : Nat → Int} : ∀ (d i : Nat), sumF x i (d + 1) = sumF x i d + x (i + d)
  | 0, i => by simp [sumF]
  | d + 1, i => by
    have := sumF_last (x := x) d (i + 1)
    rw [sumF, this]
    conv => rhs; rw [sumF]
    rw [show i + 1 + d = i + (d + 1) by omega]
    omega
theorem sumF_le {x : Nat → Int} : ∀ (d i k : Nat), (∀ j, i ≤ j → j < i + d → 0 ≤ x j) → i ≤ k → k < i + d → x k ≤ sumF x i d
  | 0, _, _, _, _, _ => by omega
  | d + 1, i, k, h, h1, h2 => by
    simp only [sumF]
    have h3 := sumF_nonneg d (i + 1) fun j h1 h2 => h j (by omega) (by omega)
    by_cases e : k = i
    · subst e; omega
    · have h4 := sumF_le d (i + 1) k (fun j h1 h2 => h j (by omega) (by omega)) (by omega) (by omega)
      have h5 := h i (by omega) (by omega)
      omega
theorem enumS_mem : ∀ (d i r : Nat) (c x : Nat → Int), x ∈ enumS d i r c ↔ ((∀ j, j < i ∨ i + d < j → x j = c j) ∧ (∀ j, i ≤ j → j ≤ i + d → 0 ≤ x j) ∧ sumF x i (d + 1) = (r : Int))
  | 0, i, r, c, x => by
    simp only [enumS, List.mem_singleton, sumF]
    constructor
    · rintro rfl
      refine ⟨fun j hj => ?_, fun j h1 h2 => ?_, ?_⟩
      · have e : ¬ j = i := by omega
        simp [e]
      · have e : j = i := by omega
        simp [e]
      · simp
    · rintro ⟨h1, h2, h3⟩
      funext j
      by_cases e : j = i
      · subst e; simp; omega
      · simp only [e, if_false]; exact h1 j (by omega)
  | d + 1, i, r, c, x => by
    simp only [enumS, List.mem_flatMap, List.mem_range]
    constructor
    · rintro ⟨k, hk, hx⟩
      obtain ⟨h1, h2, h3⟩ := (enumS_mem d (i + 1) (r - k) _ x).1 hx
      have hxi : x i = (k : Int) := by have := h1 i (by omega); simpa using this
      refine ⟨fun j hj => ?_, fun j a1 a2 => ?_, ?_⟩
      · have := h1 j (by omega)
        have e : ¬ j = i := by omega
        simpa [e] using this
      · by_cases e : j = i
        · subst e; omega
        · exact h2 j (by omega) (by omega)
      · simp only [sumF] at h3 ⊢; omega
    · rintro ⟨h1, h2, h3⟩
      have h4 : sumF x i (d + 1 + 1) = x i + sumF x (i + 1) (d + 1) := rfl
      have h5 := h2 i (by omega) (by omega)
      have h6 := sumF_nonneg (x := x) (d + 1) (i + 1) fun j a1 a2 => h2 j (by omega) (by omega)
      refine ⟨(x i).toNat, by omega, (enumS_mem d (i + 1) _ _ x).2 ⟨fun j hj => ?_, fun j a1 a2 => h2 j (by omega) (by omega), by omega⟩⟩
      by_cases e : j = i
      · subst e; simp; omega
      · simp only [e, if_false]; exact h1 j (by omega)
theorem enumS_sorted : ∀ (d i r : Nat) (c : Nat → Int), (enumS d i r c).Pairwise fun a b => LexLt a b (i + d + 1)
  | 0, _, _, _ => by simp [enumS]
  | d + 1, i, r, c => by
    simp only [enumS]
    rw [List.pairwise_flatMap]
    refine ⟨fun k _ => ?_, ?_⟩
    · have := enumS_sorted d (i + 1) (r - k) fun j => if j = i then (k : Int) else c j
      rw [show i + (d + 1) + 1 = i + 1 + d + 1 by omega]
      exact this
    · refine List.Pairwise.imp (R := fun a b : Nat => a < b) (fun {a b} hab x hx y hy => ?_) List.pairwise_lt_range
      obtain ⟨h1, _, _⟩ := (enumS_mem _ _ _ _ _).1 hx
      obtain ⟨h2, _, _⟩ := (enumS_mem _ _ _ _ _).1 hy
      refine ⟨i, by omega, fun j hj => ?_, ?_⟩
      · have e : ¬ j = i := by omega
        rw [h1 j (by omega), h2 j (by omega)]; simp [e]
      · have e1 := h1 i (by omega)
        have e2 := h2 i (by omega)
        simp only [if_true] at e1 e2
        omega
theorem spStep_go {S : Nat → Nat → Int} {nv : Nat} {s : (Nat → Int) × Int} {c : Nat → Int} : (spStep S nv s c).2 = true := rfl
theorem run_sp {S : Nat → Nat → Int} {nv : Nat} : ∀ (L : List (Nat → Int)) (s : (Nat → Int) × Int),
    ((runL (spStep S nv) s L).1 = s ∧ ∀ c, c ∈ L → lowS S nv c ≤ s.2) ∨
      ∃ l1 b l2, L = l1 ++ b :: l2 ∧ (runL (spStep S nv) s L).1 = (b, lowS S nv b) ∧ s.2 < lowS S nv b ∧ (∀ c, c ∈ l1 → lowS S nv c < lowS S nv b) ∧ ∀ c, c ∈ l2 → lowS S nv c ≤ lowS S nv b
  | [], s => .inl ⟨rfl, fun c hc => by simp at hc⟩
  | x :: L, s => by
    have hr : runL (spStep S nv) s (x :: L) = runL (spStep S nv) (spStep S nv s x).1 L := by simp [runL, spStep_go]
    rw [hr]
    by_cases hx : s.2 < lowS S nv x
    · have hs : (spStep S nv s x).1 = (x, lowS S nv x) := by unfold spStep; rw [if_pos hx]
      rw [hs]
      rcases run_sp L (x, lowS S nv x) with ⟨e, hc⟩ | ⟨l1, b, l2, e, e2, h1, h2, h3⟩
      · exact .inr ⟨[], x, L, rfl, e, hx, fun c hc => by simp at hc, hc⟩
      · have h1 : lowS S nv x < lowS S nv b := h1
        refine .inr ⟨x :: l1, b, l2, by rw [e]; rfl, e2, by omega, fun c hc => ?_, h3⟩
        rcases List.mem_cons.1 hc with rfl | hc
        · exact h1
        · exact h2 c hc
    · have hs : (spStep S nv s x).1 = s := by unfold spStep; rw [if_neg hx]
      rw [hs]
      rcases run_sp L s with ⟨e, hc⟩ | ⟨l1, b, l2, e, e2, h1, h2, h3⟩
      · refine .inl ⟨e, fun c hcm => ?_⟩
        rcases List.mem_cons.1 hcm with rfl | hcm
        · omega
        · exact hc c hcm
      · refine .inr ⟨x :: l1, b, l2, by rw [e]; rfl, e2, h1, fun c hc => ?_, h3⟩
        rcases List.mem_cons.1 hc with rfl | hc
        · omega
        · exact h2 c hc
theorem le_lowS {S : Nat → Nat → Int} {nv : Nat} (hv : 0 < nv) {c : Nat → Int} {b : Int} : b ≤ lowS S nv c ↔ ∀ v, v < nv → b ≤ S v (c v).toNat := by
  unfold lowS
  rw [le_minN]
  exact ⟨fun h => h.2, fun h => ⟨h 0 hv, h⟩⟩
/-- a spread of so many bundles -/
def IsPut (nv many : Nat) (c : Nat → Int) : Prop := (∀ j, nv ≤ j → c j = 0) ∧ (∀ j, j < nv → 0 ≤ c j) ∧ sumF c 0 nv = (many : Int)
theorem put_mem {nv many : Nat} (hv : 0 < nv) {c : Nat → Int} : c ∈ enumS (nv - 1) 0 many (fun _ => 0) ↔ IsPut nv many c := by
  rw [enumS_mem, show nv - 1 + 1 = nv by omega]
  exact ⟨fun ⟨a, b, e⟩ => ⟨fun j hj => a j (by omega), fun j hj => b j (by omega) (by omega), e⟩, fun ⟨a, b, e⟩ => ⟨fun j hj => a j (by omega), fun j _ hj => b j (by omega), e⟩⟩
theorem first_put {nv many : Nat} (hv : 0 < nv) : IsPut nv many fun j => if j = 0 then (many : Int) else 0 := by
  have h0 : ∀ d i, 0 < i → sumF (fun j => if j = 0 then (many : Int) else 0) i d = 0 := by
    intro d
    induction d with
    | zero => intro i _; rfl
    | succ d ih => intro i hi; simp only [sumF]; rw [ih (i + 1) (by omega), if_neg (by omega)]; rfl
  refine ⟨fun j hj => ?_, fun j hj => ?_, ?_⟩
  · have e : ¬ j = 0 := by omega
    simp [e]
  · by_cases e : j = 0 <;> simp [e]
  · obtain ⟨k, rfl⟩ : ∃ k, nv = k + 1 := ⟨nv - 1, by omega⟩
    simp only [sumF]; rw [h0 k 1 (by omega)]; simp
/-- what the best spread is: it has the greatest least blue; of several with this one it is the first -/
theorem spRun_is {S : Nat → Nat → Int} {nv many : Nat} (hv : 0 < nv) (hS : ∀ v k, v < nv → k ≤ many → 0 ≤ S v k) :
    IsPut nv many (spRun S nv many).1 ∧ (spRun S nv many).2 = lowS S nv (spRun S nv many).1 ∧ (∀ c, IsPut nv many c → lowS S nv c ≤ (spRun S nv many).2) ∧
      ∀ c, IsPut nv many c → lowS S nv c = (spRun S nv many).2 → ¬ LexLt c (spRun S nv many).1 nv := by
  have hle : ∀ c, IsPut nv many c → ∀ v, v < nv → (c v).toNat ≤ many := fun c hc v hv => by
    have h1 := sumF_le nv 0 v (fun j _ h => hc.2.1 j (by omega)) (by omega) (by omega)
    have h2 := hc.2.2
    omega
  have hpos : ∀ c, IsPut nv many c → 0 ≤ lowS S nv c := fun c hc => (le_lowS hv).2 fun v hvv => hS v _ hvv (hle c hc v hvv)
  have hsort := enumS_sorted (nv - 1) 0 many fun _ => 0
  rw [show 0 + (nv - 1) + 1 = nv by omega] at hsort
  unfold spRun
  rcases run_sp (S := S) (nv := nv) (enumS (nv - 1) 0 many fun _ => 0) ((fun _ => 0), -1) with ⟨_, hc⟩ | ⟨l1, b, l2, e, e2, h1, h2, h3⟩
  · have h1 := hc _ ((put_mem hv).2 (first_put hv))
    have h2 := hpos _ (first_put (many := many) hv)
    have h1 : lowS S nv _ ≤ -1 := h1
    omega
  · rw [e2]
    refine ⟨(put_mem hv).1 (by rw [e]; simp), rfl, fun c hc => ?_, fun c hc heq hlt => ?_⟩
    · have hm := (put_mem hv).2 hc
      rw [e, List.mem_append, List.mem_cons] at hm
      rcases hm with hm | rfl | hm
      · have := h2 c hm; show lowS S nv c ≤ lowS S nv b; omega
      · exact Int.le_refl _
      · exact h3 c hm
    · have heq : lowS S nv c = lowS S nv b := heq
      have hm := (put_mem hv).2 hc
      rw [e, List.mem_append, List.mem_cons] at hm
      rw [e, List.pairwise_append] at hsort
      rcases hm with hm | rfl | hm
      · have := h2 c hm; omega
      · exact lex_irr hlt
      · have := (List.pairwise_cons.1 hsort.2.1).1 c hm
        exact lex_irr (lex_trans this hlt)
theorem lowS_mono {S : Nat → Nat → Int} {nv : Nat} (hv : 0 < nv) {c d : Nat → Int} (h : ∀ v, v < nv → S v (c v).toNat ≤ S v (d v).toNat) : lowS S nv c ≤ lowS S nv d :=
  (le_lowS hv).2 fun v hvv => Int.le_trans ((le_lowS hv).1 (Int.le_refl _) v hvv) (h v hvv)
/-- with one bundle more the least blue is not smaller -/
theorem spRun_more {S : Nat → Nat → Int} {nv many : Nat} (hv : 0 < nv) (hS : ∀ v k, v < nv → k ≤ many + 1 → 0 ≤ S v k) (hm : ∀ v k, v < nv → S v k ≤ S v (k + 1)) : (spRun S nv many).2 ≤ (spRun S nv (many + 1)).2 := by
  obtain ⟨h1, h2, _, _⟩ := spRun_is (S := S) (many := many) hv fun v k a b => hS v k a (by omega)
  obtain ⟨_, _, h3, _⟩ := spRun_is (S := S) (many := many + 1) hv fun v k a b => hS v k a b
  rw [h2]
  generalize (spRun S nv many).1 = c at h1
  obtain ⟨p1, p2, p3⟩ := h1
  have hc0 := p2 0 hv
  have hp : IsPut nv (many + 1) fun j => if j = 0 then c 0 + 1 else c j := by
    refine ⟨fun j hj => ?_, fun j hj => ?_, ?_⟩
    · have e : ¬ j = 0 := by omega
      simp only [e, if_false]; exact p1 j hj
    · by_cases e : j = 0
      · simp only [e, if_true]; omega
      · simp only [e, if_false]; exact p2 j hj
    · obtain ⟨k, rfl⟩ : ∃ k, nv = k + 1 := ⟨nv - 1, by omega⟩
      simp only [sumF, if_true] at p3 ⊢
      rw [sumF_congr (y := c) k (0 + 1) fun j a b => by rw [if_neg (by omega)]]
      omega
  refine Int.le_trans (lowS_mono hv fun v hvv => ?_) (h3 _ hp)
  by_cases e : v = 0
  · subst e
    simp only [if_true]
    rw [show (c 0 + 1).toNat = (c 0).toNat + 1 by omega]
    exact hm 0 _ hvv
  · simp only [e, if_false]; exact Int.le_refl _
/-! ### In a yard -/
theorem sureN_pos {Y : MY} (hf : faultN Y = 0) (he : truths Y ≠ []) {v f k : Nat} (hv : v < Y.nv) (hff : f < Y.nf) : 0 ≤ sureN Y v f k (truths Y) := by
  have hG := good_of hf
  obtain ⟨v1, v2⟩ := hG.v v hv
  obtain ⟨z1, z2, z3⟩ := hG.sz
  rw [le_sureN he]
  intro t ht
  have hrg := truths_range hf ht
  have b1 := (blueN_bound (b := t) (q := Y.q v) (n := Y.nf) (by omega) hrg (fun j hj => v2 j (by omega)) Y.nf (Nat.le_refl _)).1
  have m1 : (0 : Int) ≤ (k : Int) * t f := Int.mul_nonneg (by omega) (hrg f hff).1
  unfold blueWith
  omega
theorem sureN_mono {Y : MY} (hf : faultN Y = 0) (he : truths Y ≠ []) {v f k : Nat} (hff : f < Y.nf) : sureN Y v f k (truths Y) ≤ sureN Y v f (k + 1) (truths Y) := by
  rw [le_sureN he]
  intro t ht
  have h1 := (le_sureN he).1 (Int.le_refl (sureN Y v f k (truths Y))) t ht
  have h2 := (truths_range hf ht f hff).1
  unfold blueWith at h1 ⊢
  have : ((k + 1 : Nat) : Int) * t f = (k : Int) * t f + t f := by rw [Int.natCast_succ, Int.add_mul, Int.one_mul]
  omega
end Go.Vm.Vat

namespace Go.Vm.Vat
open Go.Proofs
set_option linter.unusedSimpArgs false
set_option linter.unusedVariables false
set_option maxRecDepth 10000
variable {n : Nat} {h : AHeap}
/-! ### Words -/
def Words (h : AHeap) (v : Value) (m : Nat) (a : Nat → Nat) : Prop := Cells h v 1 m (fun k _ => .int .u16 (a k : Int)) ∧ ∀ k, k < m → a k < 65536
theorem Words.mono {g : AHeap} {v : Value} {m : Nat} {a : Nat → Nat} (hw : Words h v m a) (hs : Sub All h g) : Words g v m a := ⟨Cells.mono hw.1 hs, hw.2⟩
def run16 (other : AHeap → Option (Value × AHeap)) (a : Value) (h : AHeap) : Option (Value × AHeap) :=
  match a with
  | .int .u16 a => some (.int .i64 (IntKind.wrap .i64 a), h)
  | _ => other h
theorem p_conv16 {N : Nat} {f : Fr} {x : Operand} {ty : TypeId} : plainF Try.prog N (.convert 86 3 x) ty f h = run16 (plainF Try.prog N (.convert 86 3 x) ty f) (valN N f x) h := by
  unfold run16
  split
  · rename_i a e1
    unfold plainF
    have : allB (fun x => plainV (valN N f x)) (Op.convert 86 3 x).operands.toList = true := by simp [Op.operands, allB, e1, plainV, plainE, plainCell]
    rw [this]
    have e : pureRun Try.prog (execOp (valN N f) (bare (.convert 86 3 x) ty)) = some (.value (.int .i64 (IntKind.wrap .i64 a))) := by
      show pureRun Try.prog (convert 86 3 (valN N f x) >>= fun a => pure (Next.value a)) = _
      rw [pureRun_bind, e1]
      have hc : pureRun Try.prog (convert 86 3 (.int .u16 a)) = some (.int .i64 (IntKind.wrap .i64 a)) := by
        unfold convert
        rw [pureRun_bind, pr_under Try.underlying86, Option.bind_some, pureRun_bind, pr_under Try.underlying3]
        rfl
      rw [hc]; rfl
    rw [e]
    rfl
  · rfl
theorem r_16 {other : AHeap → Option (Value × AHeap)} {k : Nat} (hk : k < 65536) : run16 other (.int .u16 (k : Int)) h = some (.int .i64 (k : Int), h) := by
  simp only [run16]
  rw [IntWalk.i64_in _ (by omega)]
def rowI (m : Nat) (c : Nat → Int) : List Value := (List.range m).map fun i => .int .i64 (c i)
theorem rowI_one {m : Nat} {c : Nat → Int} : allB oneCell (rowI m c) = true := by rw [allB_iff]; intro v hv; obtain ⟨i, _, rfl⟩ := List.mem_map.1 hv; rfl
theorem rowI_len {m : Nat} {c : Nat → Int} : (rowI m c).length = m := by simp [rowI]
theorem rowI_get {m k : Nat} {c : Nat → Int} (hk : k < m) : (rowI m c)[k]? = some (.int .i64 (c k)) := by unfold rowI; rw [List.getElem?_map, List.getElem?_range hk]; rfl
theorem rowI_splice {m k : Nat} {c : Nat → Int} {x : Int} (hk : k < m) : splice (rowI m c) k [.int .i64 x] = rowI m fun j => if j = k then x else c j := by
  unfold rowI
  refine map_splice (by simp; omega) (fun i hi hc => ?_) (fun j hj => ?_)
  · simp only [List.length_cons, List.length_nil] at hc
    have e : ¬ i = k := by omega
    simp only [e, if_false]
  · simp only [List.length_cons, List.length_nil] at hj
    obtain rfl : j = 0 := by omega
    simp
theorem repl_rowI {m : Nat} : repl [.int .i64 0] m = rowI m fun _ => 0 := by
  rw [repl_mixI]
  unfold rowI
  congr 1
theorem rowI_ints {m b w : Nat} {c : Nat → Int} {cap : Nat} (hg : ∃ wr gr, h.get b = some (.row (rowI m c) wr gr)) : Ints h (.slice (some ⟨b, 0, none⟩) m cap) m c := by
  obtain ⟨wr, gr, e⟩ := hg
  exact ⟨_, _, rfl, fun x e => by cases e; rfl, .inr ⟨_, 0, _, _, _, rfl, e, fun k j hk hj => by
    obtain rfl : j = 0 := by omega
    rw [show 0 + k * 1 + 0 = k by omega, rowI_get hk]⟩⟩
theorem sumF_bump {c : Nat → Int} {k : Nat} : ∀ (d i : Nat), sumF (fun j => if j = k then c j + 1 else c j) i d = sumF c i d + if i ≤ k ∧ k < i + d then 1 else 0
  | 0, i => by simp only [sumF]; rw [if_neg (by omega)]; rfl
  | d + 1, i => by
    simp only [sumF]
    rw [sumF_bump d (i + 1)]
    by_cases e : i = k
    · subst e
      simp only [if_true]
      rw [if_neg (by omega), if_pos (by omega)]; omega
    · rw [if_neg e]
      by_cases e2 : i + 1 ≤ k ∧ k < i + 1 + d
      · rw [if_pos e2, if_pos (by omega)]; omega
      · rw [if_neg e2, if_neg (by omega)]; omega
def s65 : SCode := (.seq (.ops [⟨(some 2), none, .box (T 0)⟩, ⟨(some 4), none, .mov (.const (.slice none 0 0))⟩]) (.seq (.ops [⟨(some 8), none, .fieldAddr 1 (T 2)⟩, ⟨(some 9), none, .load1 (T 8)⟩, ⟨(some 10), none, .len (T 9)⟩, ⟨(some 11), none, .mkslice 1 8 [(.int .i64 (0))] (T 10) (T 10)⟩, ⟨(some 5), none, .mov (T 11)⟩]) (.seq (.seq (.ops [⟨(some 6), none, .mov (.const (.int .i64 (0)))⟩]) (.block 0 (.loop (.seq (.seq (.ops [⟨(some 12), none, .mov (T 6)⟩, ⟨(some 13), none, .int2 .lss (T 12) (.const (.int .i64 (9)))⟩, ⟨(some 14), none, .mov (T 13)⟩, ⟨(some 15), (some (14, true)), .mov (T 6)⟩, ⟨(some 16), (some (14, true)), .mov (T 1)⟩, ⟨(some 17), (some (14, true)), .len (T 16)⟩, ⟨(some 18), (some (14, true)), .int2 .lss (T 15) (T 17)⟩, ⟨(some 19), none, .pick (T 14) (T 18) (.const (.bool false))⟩]) (.cond (T 19) .skip (.exit 0))) (.seq (.block 1 (.seq (.draw [⟨.free, ⟨(some 22), none, .mov (T 1)⟩⟩, ⟨.free, ⟨(some 23), none, .mov (T 6)⟩⟩, ⟨.free, ⟨(some 24), none, .idxSl 1 (T 22) (T 23)⟩⟩, ⟨.rd1, ⟨(some 25), none, .load1 (T 24)⟩⟩, ⟨.free, ⟨(some 26), none, .plain (.convert 86 3 (T 25)) 3⟩⟩, ⟨.free, ⟨(some 27), none, .fieldAddr 1 (T 2)⟩⟩, ⟨.rd1, ⟨(some 28), none, .load1 (T 27)⟩⟩, ⟨.free, ⟨(some 29), none, .len (T 28)⟩⟩, ⟨.free, ⟨(some 30), none, .int2 .add (T 29) (.const (.int .i64 (1)))⟩⟩, ⟨.free, ⟨(some 31), none, .plain (.binOp .rem 3 (T 26) (T 30) 3) 3⟩⟩, ⟨.free, ⟨(some 7), none, .mov (T 31)⟩⟩]) (.seq (.ops [⟨(some 32), none, .mov (T 7)⟩, ⟨(some 33), none, .fieldAddr 1 (T 2)⟩, ⟨(some 34), none, .load1 (T 33)⟩, ⟨(some 35), none, .len (T 34)⟩, ⟨(some 36), none, .int2 .lss (T 32) (T 35)⟩]) (.cond (T 36) (.ops [⟨(some 37), none, .mov (T 5)⟩, ⟨(some 38), none, .mov (T 7)⟩, ⟨(some 39), none, .idxSl 1 (T 37) (T 38)⟩, ⟨(some 40), none, .load1 (T 39)⟩, ⟨(some 41), none, .int2 .add (T 40) (.const (.int .i64 (1)))⟩, ⟨(some 42), none, .idxSl 1 (T 37) (T 38)⟩, ⟨none, none, .store 1 (T 42) (T 41)⟩]) .skip)))) (.ops [⟨(some 20), none, .mov (T 6)⟩, ⟨(some 21), none, .int2 .add (T 20) (.const (.int .i64 (1)))⟩, ⟨(some 6), none, .mov (T 21)⟩])))))) (.seq (.ops [⟨(some 43), none, .mov (T 5)⟩, ⟨(some 4), none, .mov (T 43)⟩]) .ret))))
theorem fok65 : FnOk Try.prog 65 44 s65 [.tmp 4] := ⟨Try.f65, _, Try.func65, rfl, Try.ntmps65, by kernel_rfl, by kernel_rfl⟩
theorem put_c (hn : 20 ≤ n) (hr : h.next + 10 < far) (hfl : h.floor ≤ h.next) {fv vv sv ws : Value} {Y : MY} {m : Nat} {a : Nat → Nat} (hy : YardR h fv vv sv Y) (hv1 : Y.nv ≤ 30) (hw : Words h ws m a) :
    ∃ v h', call n (.func (.func 65) #[] #[]) [.agg ⟨[fv, vv, sv]⟩, ws] h = some (v, h') ∧ Made h h' 10 ∧ oneCell v = true ∧ ∃ c k, Ints h' v Y.nv c ∧ IsPut Y.nv k c ∧ k ≤ 9 := by
  obtain ⟨n, rfl⟩ : ∃ p, n = p + 1 := ⟨n - 1, by omega⟩
  refine call_any0 fok65 rfl rfl (by simp) ?_
  simp only [s65, W_seq, W_ops]
  refine ops_box (cs := [fv, vv, sv]) (by omega) rfl hy.one fun g1 hx1 => ?_
  have n1 := hx1.next
  have f1 := hx1.floor
  have e1 : g1.next = h.next + 1 := n1
  have hy1 := hy.mono hx1.sub
  obtain ⟨rr, hrw, hq⟩ := hy1.v
  simp only [rn0, rn1, rn2, rn3, rn4, rn5, rn6, rn7, rn8, if_true, if_false, Nat.le_refl, true_and, and_true, decide_true, decide_false, Bool.not_true, Bool.not_false, reduceIte, Nat.reduceEqDiff, Nat.reduceAdd, Nat.reduceMul, Nat.reduceSub, Nat.reduceLeDiff, Nat.reduceLT, hx1.row.ld, Nat.zero_add, List.getElem?_cons_zero, List.getElem?_cons_succ, Cells.len hrw, make_intsL (m := Y.nv) (by omega), repl_rowI]
  refine step_slice (by omega) rowI_one fun g2 hx2 => ?_
  have n2 := hx2.next
  have f2 := hx2.floor
  have r2 := hx1.row.mono hx2.sub
  have hw2 := (hw.mono hx1.sub).mono hx2.sub
  have hrw2 := Cells.mono hrw hx2.sub
  have hg2 : g2.get (h.next + 1) = some (.row (rowI Y.nv fun _ => 0) true 0) := by have := hx2.get; rw [e1] at this; exact this
  rw [e1]
  simp only [rn0, rn1, rn2, rn3, rn4, rn5, rn6, rn7, rn8, if_true, if_false, Nat.le_refl, true_and, and_true, decide_true, decide_false, Bool.not_true, Bool.not_false, reduceIte, Nat.reduceEqDiff, Nat.reduceAdd, Nat.reduceMul, Nat.reduceSub, Nat.reduceLeDiff, Nat.reduceLT]
  have h0 : IsPut Y.nv 0 fun _ => 0 := by
    refine ⟨fun _ _ => rfl, fun _ _ => Int.le_refl _, ?_⟩
    have : ∀ d i, sumF (fun _ => 0) i d = 0 := by
      intro d
      induction d with
      | zero => intro i; rfl
      | succ d ih => intro i; simp only [sumF]; rw [ih]; rfl
    rw [this]; rfl
  refine W_loop (min 9 m) (fun i f g ms => (∃ c k, g.get (h.next + 1) = some (.row (rowI Y.nv c) true 0) ∧ IsPut Y.nv k c ∧ k ≤ i) ∧ (∀ j, j < g2.next → j ≠ h.next + 1 → g.get j = g2.get j) ∧ g.next = g2.next ∧ g.floor = g2.floor ∧ ms = [] ∧ f 1 = ws ∧ f 2 = .pointer (some ⟨h.next, 0, none⟩) ∧ f 5 = .slice (some ⟨h.next + 1, 0, none⟩) Y.nv Y.nv ∧ f 6 = .int .i64 (i : Int)) (by simp; omega) ?_ ?_ ?_
  · simp only [rn0, rn1, rn2, rn3, rn4, rn5, rn6, rn7, rn8, if_true, if_false, Nat.le_refl, true_and, and_true, decide_true, decide_false, Bool.not_true, Bool.not_false, reduceIte, Nat.reduceEqDiff, Nat.reduceAdd, Nat.reduceMul, Nat.reduceSub, Nat.reduceLeDiff, Nat.reduceLT]
    refine ⟨⟨_, 0, hg2, h0, Nat.le_refl _⟩, fun _ _ _ => ?_, rfl⟩
    trivial
  · rintro i f g ms hi ⟨⟨c, k, hg, hp, hk⟩, o1, o2, o3, rfl, p1, p2, p5, p6⟩
    have hi9 : (i : Int) < 9 := by omega
    have him : (i : Int) < (m : Int) := by omega
    have hwi : wrapF .i64 ((i : Int) + 1) = ((i + 1 : Nat) : Int) := by rw [wrap_in (by omega) (by omega)]; rfl
    have hwn : wrapF .i64 ((Y.nv : Int) + 1) = ((Y.nv + 1 : Nat) : Int) := by rw [wrap_in (by omega) (by omega)]; rfl
    have zn : ¬ ((Y.nv + 1 : Nat) : Int) = 0 := by omega
    have rg : Row g h.next [fv, vv, sv] := by
      obtain ⟨w, gr, e⟩ := r2
      exact ⟨w, gr, by rw [o1 _ (by omega) (by omega)]; exact e⟩
    have hwg : ∀ (q : Value × Nat × (Nat → Nat → Value)), True := fun _ => trivial
    have hws : Words h ws m a := hw
    have subg : Sub All h g := fun j cs w gr t hg => by
      have := AHeap.lt_of_get hg
      rw [o1 j (by omega) (by omega), hx2.old j (by omega), hx1.old j (by omega)]; exact hg
    have hwg2 := hw.mono subg
    have him' : i < m := by omega
    have l1 := Cells.ld hwg2.1 him' Nat.zero_lt_one
    have hai := hw.2 i him'
    obtain ⟨x, hx⟩ : ∃ x, x = a i % (Y.nv + 1) := ⟨_, rfl⟩
    have m1 : ((a i : Nat) : Int).tmod ((Y.nv + 1 : Nat) : Int) = (x : Int) := by rw [hx]; rfl
    obtain ⟨rrg, hrwg, _⟩ := (hy.mono subg).v
    simp only [rn0, rn1, rn2, rn3, rn4, rn5, rn6, rn7, rn8, if_true, if_false, Nat.le_refl, true_and, and_true, decide_true, decide_false, Bool.not_true, Bool.not_false, reduceIte, Nat.reduceEqDiff, Nat.reduceAdd, Nat.reduceMul, Nat.reduceSub, Nat.reduceLeDiff, Nat.reduceLT, p1, p2, p5, p6, hi9, Cells.len hwg2.1, him]
    refine W_draw All ?_
    simp only [rn0, rn1, rn2, rn3, rn4, rn5, rn6, rn7, rn8, if_true, if_false, Nat.le_refl, true_and, and_true, decide_true, decide_false, Bool.not_true, Bool.not_false, reduceIte, Nat.reduceEqDiff, Nat.reduceAdd, Nat.reduceMul, Nat.reduceSub, Nat.reduceLeDiff, Nat.reduceLT, p1, p2, p5, p6, Cells.idx hwg2.1 him', l1, p_conv16, r_16 hai, valN_tmp, valN_const, rg.ld, Nat.zero_add, List.getElem?_cons_zero, List.getElem?_cons_succ, Cells.len hrwg, hwn, zn, r_rem zn, m1]
    by_cases hxv : x < Y.nv
    · have hxv' : (x : Int) < (Y.nv : Int) := by omega
      have lx : loadCell g (.pointer (some ⟨h.next + 1, x, none⟩)) = some (.int .i64 (c x)) := by
        rw [(show Row g (h.next + 1) _ from ⟨_, _, hg⟩).ld, rowI_get hxv]
      have hcx : 0 ≤ c x ∧ c x ≤ 9 := by
        have := hp.2.1 x hxv
        have h2 := sumF_le Y.nv 0 x (fun j _ h => hp.2.1 j (by omega)) (by omega) (by omega)
        have h3 := hp.2.2
        omega
      have hwc : wrapF .i64 (c x + 1) = c x + 1 := wrap_in (by omega) (by omega)
      simp only [rn0, rn1, rn2, rn3, rn4, rn5, rn6, rn7, rn8, if_true, if_false, Nat.le_refl, true_and, and_true, decide_true, decide_false, Bool.not_true, Bool.not_false, reduceIte, Nat.reduceEqDiff, Nat.reduceAdd, Nat.reduceMul, Nat.reduceSub, Nat.reduceLeDiff, Nat.reduceLT, p1, p2, p5, p6, rg.ld, Nat.zero_add, List.getElem?_cons_zero, List.getElem?_cons_succ, Cells.len hrwg, hxv', idxSl_p (o := h.next + 1) hxv, lx, hwc]
      refine step_store (b := h.next + 1) (off := x) (vs := [.int .i64 (c x + 1)]) rfl hg (by omega) (by omega) rfl rfl rfl (by rw [rowI_len]; omega) fun g3 hs3 => ?_
      rw [rowI_splice hxv] at hs3
      have n3 := hs3.next
      have f3 := hs3.floor
      simp only [rn0, rn1, rn2, rn3, rn4, rn5, rn6, rn7, rn8, if_true, if_false, Nat.le_refl, true_and, and_true, decide_true, decide_false, Bool.not_true, Bool.not_false, reduceIte, Nat.reduceEqDiff, Nat.reduceAdd, Nat.reduceMul, Nat.reduceSub, Nat.reduceLeDiff, Nat.reduceLT, p1, p2, p5, p6, hwi]
      refine ⟨⟨_, k + 1, hs3.get, ⟨fun j hj => ?_, fun j hj => ?_, ?_⟩, by omega⟩, fun j hj hne => by rw [hs3.old j hne]; exact o1 j hj hne, by omega, by omega⟩
      · have e : ¬ j = x := by omega
        simp only [e, if_false]; exact hp.1 j hj
      · by_cases e : j = x
        · simp only [e, if_true]; omega
        · simp only [e, if_false]; exact hp.2.1 j hj
      · have h1 := sumF_bump (c := c) (k := x) Y.nv 0
        rw [if_pos (by omega)] at h1
        have h2 : sumF (fun j => if j = x then c x + 1 else c j) 0 Y.nv = sumF (fun j => if j = x then c j + 1 else c j) 0 Y.nv := sumF_congr _ _ fun j _ _ => by
          by_cases e : j = x
          · subst e; simp
          · simp [e]
        rw [h2, h1, hp.2.2]
        rfl
    · have hxv' : ¬ (x : Int) < (Y.nv : Int) := by omega
      simp only [rn0, rn1, rn2, rn3, rn4, rn5, rn6, rn7, rn8, if_true, if_false, Nat.le_refl, true_and, and_true, decide_true, decide_false, Bool.not_true, Bool.not_false, reduceIte, Nat.reduceEqDiff, Nat.reduceAdd, Nat.reduceMul, Nat.reduceSub, Nat.reduceLeDiff, Nat.reduceLT, p1, p2, p5, p6, rg.ld, Nat.zero_add, List.getElem?_cons_zero, List.getElem?_cons_succ, Cells.len hrwg, hxv', hwi]
      exact ⟨⟨c, k, hg, hp, by omega⟩, fun j hj hne => o1 j hj hne, o2, o3⟩
  · rintro f g ms ⟨⟨c, k, hg, hp, hk⟩, o1, o2, o3, rfl, p1, p2, p5, p6⟩
    have subg : Sub All h g := fun j cs w gr t hg => by
      have := AHeap.lt_of_get hg
      rw [o1 j (by omega) (by omega), hx2.old j (by omega), hx1.old j (by omega)]; exact hg
    have hwg2 := hw.mono subg
    have fin : Made h g 10 ∧ oneCell (.slice (some ⟨h.next + 1, 0, none⟩) Y.nv Y.nv) = true ∧ ∃ c k, Ints g (.slice (some ⟨h.next + 1, 0, none⟩) Y.nv Y.nv) Y.nv c ∧ IsPut Y.nv k c ∧ k ≤ 9 :=
      ⟨⟨subg, by omega, by omega, by omega⟩, rfl, c, k, rowI_ints (w := 0) ⟨_, _, hg⟩, hp, by omega⟩
    by_cases h9 : m < 9
    · have e : min 9 m = m := by omega
      rw [e] at p6
      have h9' : (m : Int) < 9 := by omega
      simp only [rn0, rn1, rn2, rn3, rn4, rn5, rn6, rn7, rn8, if_true, if_false, Nat.le_refl, true_and, and_true, decide_true, decide_false, Bool.not_true, Bool.not_false, reduceIte, Nat.reduceEqDiff, Nat.reduceAdd, Nat.reduceMul, Nat.reduceSub, Nat.reduceLeDiff, Nat.reduceLT, p1, p2, p5, p6, h9', Cells.len hwg2.1, Int.lt_irrefl]
      exact fin
    · have e : min 9 m = 9 := by omega
      rw [e] at p6
      have h9' : ¬ ((9 : Nat) : Int) < 9 := by omega
      simp only [rn0, rn1, rn2, rn3, rn4, rn5, rn6, rn7, rn8, if_true, if_false, Nat.le_refl, true_and, and_true, decide_true, decide_false, Bool.not_true, Bool.not_false, reduceIte, Nat.reduceEqDiff, Nat.reduceAdd, Nat.reduceMul, Nat.reduceSub, Nat.reduceLeDiff, Nat.reduceLT, p1, p2, p5, p6, h9']
      exact fin
end Go.Vm.Vat

namespace Go.Vm.Vat
open Go.Proofs
set_option linter.unusedSimpArgs false
set_option linter.unusedVariables false
set_option maxRecDepth 10000
variable {n : Nat} {h : AHeap}
/-! ### Words that were handed in -/
theorem c86 : Try.prog.cellsOf 86 = 1 := by kernel_rfl
theorem flat86 : FlatT Try.prog .u16 86 1 := flat_int (by rfl)
theorem flatS_words {H : Type} {enc : TypeId × Value → H} {w : World} {base : Nat} {sp : Nat → Bool} {held : Bool} {fuel : Nat} {cs : List Value} {x : DataW H × List MemPlace}
    (h : DataW.trod enc Try.prog w base sp held fuel 87 cs = some x) : ∃ v, cs = [v] ∧ FlatS w .u16 1 v := flat_slice Try.underlying87 c86 (by omega) flat86 h
theorem flatW {w : World} {φ : Emb} {h : AHeap} (L : Loaded w φ h) (hn : h.next < far) {k : IntKind} {s : Nat} {v : Value} (hs : 0 < s) (hf : FlatS w k s v) :
    ∃ φ' h' u, Step w φ h φ' h' 1 ∧ Stands φ' h' u v ∧ ∃ c : Nat → Nat → Int, (Cells h' u s (vlen v) fun i j => .int k (c i j)) ∧ ∀ i j, i < vlen v → j < s → (Lit.int k (c i j)).wf = true := by
  rcases hf with rfl | ⟨a, len, cap, rfl, hl, hc⟩
  · exact ⟨φ, h, .slice none 0 0, ⟨L, Sub.refl, Nat.le_refl _, by omega, rfl, Agree.refl _ _⟩, ⟨by simp [mapV], by simp [okV], rfl⟩, fun _ _ => 0, ⟨none, 0, rfl, fun x e => (by cases e), .inl rfl⟩, fun i j hi => absurd hi (Nat.not_lt_zero _)⟩
  · have hlt : ∀ i j, i < len → j < s → i * s + j < len * s := fun i j hi hj => by
      have : (i + 1) * s ≤ len * s := Nat.mul_le_mul_right s hi
      rw [Nat.add_mul] at this
      omega
    obtain ⟨φ', h', u, q1, q2, q3, q4, q5, q6, q7, q8, q9⟩ := L.slice hn (a := a) hl hs ((List.range (len * s)).map fun i => .int k (numAt w a i)) (by simp) (fun i v hv => by
      rw [List.getElem?_map] at hv
      by_cases hi : i < len * s
      · rw [List.getElem?_range hi] at hv
        cases hv
        exact ⟨by simp [okV], rfl, by simpa [mapV] using (hc i hi).1⟩
      · rw [List.getElem?_eq_none (by simp; omega)] at hv
        cases hv) (c := fun i j => .int k (numAt w a (i * s + j))) (fun i j hi hj => by rw [List.getElem?_map, List.getElem?_range (hlt i j hi hj)]; rfl)
    exact ⟨φ', h', u, ⟨q1, q2, by omega, by omega, q4, q5⟩, ⟨q6, q7, q8⟩, _, q9, fun i j hi hj => (hc _ (hlt i j hi hj)).2⟩
theorem wf16 {a : Int} (h : (Lit.int .u16 a).wf = true) : ∃ k : Nat, a = k ∧ k < 65536 := by
  simp only [Lit.wf, Bool.and_eq_true, decide_eq_true_eq] at h
  have h1 : (IntKind.u16).min = 0 := rfl
  have h2 : (IntKind.u16).max = 65535 := rfl
  rw [h1, h2] at h
  exact ⟨a.toNat, by omega, by omega⟩
theorem wordsOf {v : Value} {c : Nat → Nat → Int} {m : Nat} (hc : Cells h v 1 m fun i j => .int .u16 (c i j)) (hw : ∀ i j, i < m → j < 1 → (Lit.int .u16 (c i j)).wf = true) : Words h v m fun i => (c i 0).toNat := by
  refine ⟨?_, fun k hk => ?_⟩
  · obtain ⟨a, cap, f1, f2, f3⟩ := hc
    refine ⟨a, cap, f1, f2, f3.imp id fun ⟨b, o, cs, wr, g, g1, g2, g3⟩ => ⟨b, o, cs, wr, g, g1, g2, fun i j hi hj => ?_⟩⟩
    have : j = 0 := by omega
    subst this
    obtain ⟨k, e, _⟩ := wf16 (hw i 0 hi (by omega))
    rw [g3 i 0 hi hj]
    show some (Value.int IntKind.u16 (c i 0)) = some (Value.int IntKind.u16 (((c i 0).toNat : Nat) : Int))
    rw [e]; rfl
  · obtain ⟨x, e, h2⟩ := wf16 (hw k 0 hk (by omega))
    show (c k 0).toNat < 65536
    omega
end Go.Vm.Vat

namespace Go.Vm.Vat
open Go.Proofs
set_option linter.unusedSimpArgs false
set_option linter.unusedVariables false
set_option maxRecDepth 10000
variable {n : Nat} {h : AHeap}
def s46 : SCode := (.seq (.ops [⟨(some 4), none, .box (T 0)⟩, ⟨(some 8), none, .mov (.const (.int .i64 (0)))⟩, ⟨(some 9), none, .mov (.const (.int .i64 (0)))⟩]) (.seq (.ops [⟨(some 14), none, .loadN 3 (T 4)⟩, ⟨(some 15), none, .call (.func 78) [(T 14)]⟩, ⟨(some 13), none, .mov (T 15)⟩, ⟨(some 16), none, .extract 0 (T 13)⟩, ⟨(some 17), none, .extract 1 (T 13)⟩, ⟨(some 10), none, .alloc [(.slice none 0 0), (.slice none 0 0), (.slice none 0 0), (.slice none 0 0)]⟩, ⟨none, none, .store 4 (T 10) (T 16)⟩, ⟨(some 11), none, .mov (T 17)⟩]) (.seq (.block 0 (.seq (.ops [⟨(some 19), none, .mov (T 11)⟩, ⟨(some 20), none, .int2 .neq (T 19) (.const (.int .i64 (0)))⟩, ⟨(some 18), none, .mov (T 20)⟩]) (.cond (T 18) (.seq (.ops [⟨(some 21), none, .mov (T 11)⟩, ⟨(some 8), none, .mov (.const (.int .i64 (0)))⟩, ⟨(some 9), none, .mov (T 21)⟩]) .ret) (.seq (.ops [⟨(some 23), none, .loadN 4 (T 10)⟩, ⟨(some 24), none, .mov (T 1)⟩, ⟨(some 25), none, .call (.func 92) [(T 23), (T 24)]⟩, ⟨(some 26), none, .not (T 25)⟩, ⟨(some 27), none, .mov (T 26)⟩, ⟨(some 28), (some (27, false)), .loadN 4 (T 10)⟩, ⟨(some 29), (some (27, false)), .mov (T 2)⟩, ⟨(some 30), (some (27, false)), .call (.func 98) [(T 28), (T 29)]⟩, ⟨(some 31), (some (27, false)), .not (T 30)⟩, ⟨(some 32), none, .pick (T 27) (.const (.bool true)) (T 31)⟩, ⟨(some 33), none, .mov (T 32)⟩, ⟨(some 34), (some (33, false)), .mov (T 3)⟩, ⟨(some 35), (some (33, false)), .int2 .lss (T 34) (.const (.int .i64 (0)))⟩, ⟨(some 36), none, .pick (T 33) (.const (.bool true)) (T 35)⟩, ⟨(some 37), none, .mov (T 36)⟩, ⟨(some 38), (some (37, false)), .mov (T 3)⟩, ⟨(some 39), (some (37, false)), .int2 .gtr (T 38) (.const (.int .i64 (999)))⟩, ⟨(some 40), none, .pick (T 37) (.const (.bool true)) (T 39)⟩, ⟨(some 22), none, .mov (T 40)⟩]) (.cond (T 22) (.seq (.ops [⟨(some 8), none, .mov (.const (.int .i64 (0)))⟩, ⟨(some 9), none, .mov (.const (.int .i64 (2)))⟩]) .ret) (.seq (.ops [⟨(some 42), none, .fieldAddr 3 (T 10)⟩, ⟨(some 43), none, .load1 (T 42)⟩, ⟨(some 44), none, .len (T 43)⟩, ⟨(some 45), none, .int2 .eql (T 44) (.const (.int .i64 (0)))⟩, ⟨(some 41), none, .mov (T 45)⟩]) (.cond (T 41) (.seq (.ops [⟨(some 8), none, .mov (.const (.int .i64 (0)))⟩, ⟨(some 9), none, .mov (.const (.int .i64 (11)))⟩]) .ret) .skip))))))) (.seq (.ops [⟨(some 12), none, .mov (.const (.int .i64 (0)))⟩]) (.seq .skip (.seq (.block 1 (.loop (.block 2 (.seq (.block 3 (.seq (.ops [⟨(some 47), none, .loadN 4 (T 10)⟩, ⟨(some 48), none, .mov (T 1)⟩, ⟨(some 49), none, .mov (T 2)⟩, ⟨(some 50), none, .mov (T 12)⟩, ⟨(some 51), none, .call (.func 99) [(T 47), (T 48), (T 49), (T 50)]⟩, ⟨(some 52), none, .mov (T 3)⟩, ⟨(some 53), none, .int2 .geq (T 51) (T 52)⟩, ⟨(some 46), none, .mov (T 53)⟩]) (.cond (T 46) (.exit 1) (.seq (.ops [⟨(some 55), none, .mov (T 12)⟩, ⟨(some 56), none, .int2 .eql (T 55) (.const (.int .i64 (9)))⟩, ⟨(some 54), none, .mov (T 56)⟩]) (.cond (T 54) (.seq (.ops [⟨(some 8), none, .mov (.const (.int .i64 (0)))⟩, ⟨(some 9), none, .mov (.const (.int .i64 (10)))⟩]) .ret) .skip))))) (.ops [⟨(some 57), none, .mov (T 12)⟩, ⟨(some 58), none, .int2 .add (T 57) (.const (.int .i64 (1)))⟩, ⟨(some 12), none, .mov (T 58)⟩]))))) (.seq (.ops [⟨(some 59), none, .mov (T 12)⟩, ⟨(some 8), none, .mov (T 59)⟩, ⟨(some 9), none, .mov (.const (.int .i64 (0)))⟩]) .ret)))))))
end Go.Vm.Vat

namespace Go.Vm.Vat
open Go.Proofs
set_option linter.unusedSimpArgs false
set_option linter.unusedVariables false
set_option maxRecDepth 10000
variable {n : Nat} {h : AHeap}
def s6 : SCode := (.seq (.ops [⟨(some 4), none, .box (T 0)⟩, ⟨(some 8), none, .mov (.const (.bool false))⟩]) (.seq (.seq (.ops [⟨(some 15), none, .loadN 3 (T 4)⟩, ⟨(some 16), none, .call (.func 23) [(T 15)]⟩, ⟨(some 17), none, .not (T 16)⟩]) (.cond (T 17) (.seq (.ops [⟨(some 18), none, .call (.func 24) []⟩, ⟨(some 8), none, .mov (T 18)⟩]) .ret) .skip)) (.seq (.ops [⟨(some 20), none, .loadN 3 (T 4)⟩, ⟨(some 21), none, .call (.func 26) [(T 20)]⟩, ⟨(some 22), none, .mov (T 1)⟩, ⟨(some 23), none, .mov (T 2)⟩, ⟨(some 24), none, .mov (T 3)⟩, ⟨(some 25), none, .call (.func 46) [(T 21), (T 22), (T 23), (T 24)]⟩, ⟨(some 19), none, .mov (T 25)⟩, ⟨(some 26), none, .extract 0 (T 19)⟩, ⟨(some 27), none, .extract 1 (T 19)⟩, ⟨(some 9), none, .mov (T 26)⟩, ⟨(some 10), none, .mov (T 27)⟩]) (.seq (.ops [⟨(some 11), none, .mov (.const (.int .i64 (0)))⟩]) (.seq (.seq (.ops [⟨(some 28), none, .mov (T 1)⟩, ⟨(some 29), none, .fieldAddr 1 (T 4)⟩, ⟨(some 30), none, .load1 (T 29)⟩, ⟨(some 31), none, .len (T 30)⟩, ⟨(some 32), none, .int2 .sub (T 31) (.const (.int .i64 (1)))⟩, ⟨(some 33), none, .call (.func 42) [(T 28), (.const (.int .i64 (0))), (T 32)]⟩, ⟨(some 34), none, .not (T 33)⟩, ⟨(some 35), none, .mov (T 34)⟩, ⟨(some 36), (some (35, false)), .mov (T 2)⟩, ⟨(some 37), (some (35, false)), .fieldAddr 0 (T 4)⟩, ⟨(some 38), (some (35, false)), .load1 (T 37)⟩, ⟨(some 39), (some (35, false)), .len (T 38)⟩, ⟨(some 40), (some (35, false)), .int2 .sub (T 39) (.const (.int .i64 (1)))⟩, ⟨(some 41), (some (35, false)), .call (.func 42) [(T 36), (.const (.int .i64 (0))), (T 40)]⟩, ⟨(some 42), (some (35, false)), .not (T 41)⟩, ⟨(some 43), none, .pick (T 35) (.const (.bool true)) (T 42)⟩, ⟨(some 44), none, .mov (T 43)⟩, ⟨(some 45), (some (44, false)), .mov (T 3)⟩, ⟨(some 46), (some (44, false)), .call (.func 42) [(T 45), (.const (.int .i64 (0))), (.const (.int .i64 (999)))]⟩, ⟨(some 47), (some (44, false)), .not (T 46)⟩, ⟨(some 48), none, .pick (T 44) (.const (.bool true)) (T 47)⟩]) (.cond (T 48) (.ops [⟨(some 11), none, .mov (.const (.int .i64 (2)))⟩]) .skip)) (.seq (.ops [⟨(some 50), none, .loadN 3 (T 4)⟩, ⟨(some 51), none, .mov (T 11)⟩, ⟨(some 52), none, .call (.func 43) [(T 50), (T 51)]⟩, ⟨(some 49), none, .mov (T 52)⟩, ⟨(some 53), none, .extract 0 (T 49)⟩, ⟨(some 54), none, .extract 1 (T 49)⟩, ⟨(some 12), none, .mov (T 53)⟩, ⟨(some 13), none, .mov (T 54)⟩]) (.seq (.seq (.ops [⟨(some 55), none, .mov (T 13)⟩, ⟨(some 56), none, .int2 .neq (T 55) (.const (.int .i64 (0)))⟩]) (.cond (T 56) (.seq (.ops [⟨(some 57), none, .mov (T 10)⟩, ⟨(some 58), none, .mov (T 13)⟩, ⟨(some 59), none, .int2 .eql (T 57) (T 58)⟩, ⟨(some 60), none, .mov (T 59)⟩, ⟨(some 61), (some (60, true)), .mov (T 9)⟩, ⟨(some 62), (some (60, true)), .int2 .eql (T 61) (.const (.int .i64 (0)))⟩, ⟨(some 63), none, .pick (T 60) (T 62) (.const (.bool false))⟩, ⟨(some 64), none, .mov (T 63)⟩, ⟨(some 65), (some (64, true)), .call (.func 24) []⟩, ⟨(some 66), none, .pick (T 64) (T 65) (.const (.bool false))⟩, ⟨(some 8), none, .mov (T 66)⟩]) .ret) .skip)) (.seq (.seq (.ops [⟨(some 67), none, .loadN 3 (T 4)⟩, ⟨(some 68), none, .mov (T 12)⟩, ⟨(some 69), none, .mov (T 1)⟩, ⟨(some 70), none, .mov (T 2)⟩, ⟨(some 71), none, .mov (T 3)⟩, ⟨(some 72), none, .call (.func 47) [(T 67), (T 68), (T 69), (T 70), (T 71)]⟩, ⟨(some 14), none, .mov (T 72)⟩]) (.seq (.ops [⟨(some 73), none, .mov (T 14)⟩, ⟨(some 74), none, .int2 .geq (T 73) (.const (.int .i64 (0)))⟩]) (.cond (T 74) (.seq (.ops [⟨(some 75), none, .mov (T 10)⟩, ⟨(some 76), none, .int2 .eql (T 75) (.const (.int .i64 (0)))⟩, ⟨(some 77), none, .mov (T 76)⟩, ⟨(some 78), (some (77, true)), .mov (T 9)⟩, ⟨(some 79), (some (77, true)), .mov (T 14)⟩, ⟨(some 80), (some (77, true)), .int2 .eql (T 78) (T 79)⟩, ⟨(some 81), none, .pick (T 77) (T 80) (.const (.bool false))⟩, ⟨(some 82), none, .mov (T 81)⟩, ⟨(some 83), (some (82, true)), .call (.func 24) []⟩, ⟨(some 84), none, .pick (T 82) (T 83) (.const (.bool false))⟩, ⟨(some 8), none, .mov (T 84)⟩]) .ret) .skip))) (.seq (.ops [⟨(some 85), none, .mov (T 10)⟩, ⟨(some 86), none, .int2 .eql (T 85) (.const (.int .i64 (10)))⟩, ⟨(some 87), none, .mov (T 86)⟩, ⟨(some 88), (some (87, true)), .mov (T 9)⟩, ⟨(some 89), (some (87, true)), .int2 .eql (T 88) (.const (.int .i64 (0)))⟩, ⟨(some 90), none, .pick (T 87) (T 89) (.const (.bool false))⟩, ⟨(some 91), none, .mov (T 90)⟩, ⟨(some 92), (some (91, true)), .call (.func 24) []⟩, ⟨(some 93), none, .pick (T 91) (T 92) (.const (.bool false))⟩, ⟨(some 8), none, .mov (T 93)⟩]) .ret)))))))))
end Go.Vm.Vat

namespace Go.Vm.Vat
open Go.Proofs
set_option linter.unusedSimpArgs false
set_option linter.unusedVariables false
set_option maxRecDepth 10000
variable {n : Nat} {h : AHeap}
end Go.Vm.Vat

namespace Go.Vm.Vat
open Go.Proofs
set_option linter.unusedSimpArgs false
set_option linter.unusedVariables false
set_option maxRecDepth 10000
variable {n : Nat} {h : AHeap}
theorem ex30 {x y z : Value} : extractA 0 (.tuple ⟨[x, y, z]⟩) h = some (x, h) := id rfl
theorem ex31 {x y z : Value} : extractA 1 (.tuple ⟨[x, y, z]⟩) h = some (y, h) := id rfl
theorem ex32 {x y z : Value} : extractA 2 (.tuple ⟨[x, y, z]⟩) h = some (z, h) := id rfl
open Classical in
theorem spreadE_in {Y : MY} (hf : faultN Y = 0) {f k : Nat} (hff : f < Y.nf) (hk : k ≤ 9) (hv : 0 < Y.nv) : spreadE Y (f : Int) (k : Int) = if truths Y = [] then 11 else 0 := by
  unfold spreadE
  have h1 : SpreadArgs Y (f : Int) (k : Int) := ⟨⟨by omega, by omega⟩, by omega, by omega⟩
  have h2 : ¬ Y.nv = 0 := by omega
  rw [if_neg (by simpa using hf), if_neg (fun e => e h1), if_neg h2]
theorem sureN_le {Y : MY} (hf : faultN Y = 0) (he : truths Y ≠ []) {v f k : Nat} (hv : v < Y.nv) (hff : f < Y.nf) (hk : k ≤ 100) : sureN Y v f k (truths Y) ≤ 99999 := by
  have hG := good_of hf
  obtain ⟨v1, v2⟩ := hG.v v hv
  obtain ⟨z1, z2, z3⟩ := hG.sz
  obtain ⟨t, ht⟩ := List.exists_mem_of_ne_nil _ he
  have h1 := (le_sureN he).1 (Int.le_refl (sureN Y v f k (truths Y))) t ht
  have hrg := truths_range hf ht
  have b1 := (blueN_bound (b := t) (q := Y.q v) (n := Y.nf) (by omega) hrg (fun j hj => v2 j (by omega)) Y.nf (Nat.le_refl _)).2
  have m1 : (k : Int) * t f ≤ 100 * 20 := Int.mul_le_mul (by omega) (hrg f hff).2 (hrg f hff).1 (by omega)
  unfold blueWith at h1
  omega
theorem isSpread_in {Y : MY} (hf : faultN Y = 0) (he : truths Y ≠ []) {f k : Nat} (hff : f < Y.nf) (hk : k ≤ 9) (hv : 0 < Y.nv) {c : Nat → Int} (hp : IsPut Y.nv k c) {b : Int} :
    IsSpread Y (f : Int) Y.nv c b ↔ b ≤ lowS (fun v k => sureN Y v f k (truths Y)) Y.nv c := by
  rw [le_lowS hv]
  constructor
  · rintro ⟨_, _, _, _, _, _, h⟩ v hvv
    have := h v hvv
    rw [Int.toNat_natCast] at this
    exact this
  · intro h
    refine ⟨hf, he, hv, ⟨by omega, by omega⟩, rfl, fun v hvv => ⟨hp.2.1 v hvv, ?_⟩, fun v hvv => by rw [Int.toNat_natCast]; exact h v hvv⟩
    have h2 := sumF_le Y.nv 0 v (fun j _ h => hp.2.1 j (by omega)) (by omega) (by omega)
    have h3 := hp.2.2
    omega
theorem sumF_int {c : Nat → Int} {m k : Nat} (hp : IsPut m k c) (hk : k ≤ 9) : ∀ i, i ≤ m → 0 ≤ sumF c 0 i ∧ sumF c 0 i ≤ 9 := by
  intro i hi
  refine ⟨sumF_nonneg i 0 fun j _ h => hp.2.1 j (by omega), ?_⟩
  have : ∀ d, i + d ≤ m → sumF c 0 i ≤ sumF c 0 (i + d) := by
    intro d
    induction d with
    | zero => intro _; exact Int.le_refl _
    | succ d ih =>
      intro hd
      have h1 := ih (by omega)
      rw [show i + (d + 1) = i + d + 1 by omega, sumF_last]
      have h2 := hp.2.1 (0 + (i + d)) (by omega)
      omega
  have h1 := this (m - i) (by omega)
  rw [show i + (m - i) = m by omega, hp.2.2] at h1
  omega
def s15 : SCode := (.seq (.ops [⟨(some 3), none, .box (T 0)⟩, ⟨(some 6), none, .mov (.const (.bool false))⟩]) (.seq (.seq (.ops [⟨(some 19), none, .loadN 3 (T 3)⟩, ⟨(some 20), none, .call (.func 62) [(T 19)]⟩, ⟨(some 21), none, .not (T 20)⟩, ⟨(some 22), none, .mov (T 21)⟩, ⟨(some 23), (some (22, false)), .fieldAddr 0 (T 3)⟩, ⟨(some 24), (some (22, false)), .load1 (T 23)⟩, ⟨(some 25), (some (22, false)), .len (T 24)⟩, ⟨(some 26), (some (22, false)), .int2 .eql (T 25) (.const (.int .i64 (0)))⟩, ⟨(some 27), none, .pick (T 22) (.const (.bool true)) (T 26)⟩, ⟨(some 28), none, .mov (T 27)⟩, ⟨(some 29), (some (28, false)), .fieldAddr 1 (T 3)⟩, ⟨(some 30), (some (28, false)), .load1 (T 29)⟩, ⟨(some 31), (some (28, false)), .len (T 30)⟩, ⟨(some 32), (some (28, false)), .int2 .eql (T 31) (.const (.int .i64 (0)))⟩, ⟨(some 33), none, .pick (T 28) (.const (.bool true)) (T 32)⟩]) (.cond (T 33) (.seq (.ops [⟨(some 34), none, .call (.func 24) []⟩, ⟨(some 6), none, .mov (T 34)⟩]) .ret) .skip)) (.seq (.ops [⟨(some 35), none, .mov (T 1)⟩, ⟨(some 36), none, .plain (.convert 5 3 (T 35)) 3⟩, ⟨(some 37), none, .fieldAddr 0 (T 3)⟩, ⟨(some 38), none, .load1 (T 37)⟩, ⟨(some 39), none, .len (T 38)⟩, ⟨(some 40), none, .plain (.binOp .rem 3 (T 36) (T 39) 3) 3⟩, ⟨(some 7), none, .mov (T 40)⟩]) (.seq (.ops [⟨(some 41), none, .loadN 3 (T 3)⟩, ⟨(some 42), none, .mov (T 2)⟩, ⟨(some 43), none, .call (.func 65) [(T 41), (T 42)]⟩, ⟨(some 8), none, .mov (T 43)⟩]) (.seq (.ops [⟨(some 9), none, .mov (.const (.int .i64 (0)))⟩]) (.seq (.seq (.ops [⟨(some 10), none, .mov (.const (.int .i64 (0)))⟩]) (.block 0 (.loop (.seq (.seq (.ops [⟨(some 44), none, .mov (T 10)⟩, ⟨(some 45), none, .mov (T 8)⟩, ⟨(some 46), none, .len (T 45)⟩, ⟨(some 47), none, .int2 .lss (T 44) (T 46)⟩]) (.cond (T 47) .skip (.exit 0))) (.seq (.block 1 (.ops [⟨(some 50), none, .mov (T 9)⟩, ⟨(some 51), none, .mov (T 8)⟩, ⟨(some 52), none, .mov (T 10)⟩, ⟨(some 53), none, .idxSl 1 (T 51) (T 52)⟩, ⟨(some 54), none, .load1 (T 53)⟩, ⟨(some 55), none, .int2 .add (T 50) (T 54)⟩, ⟨(some 9), none, .mov (T 55)⟩])) (.ops [⟨(some 48), none, .mov (T 10)⟩, ⟨(some 49), none, .int2 .add (T 48) (.const (.int .i64 (1)))⟩, ⟨(some 10), none, .mov (T 49)⟩])))))) (.seq (.ops [⟨(some 57), none, .loadN 3 (T 3)⟩, ⟨(some 58), none, .call (.func 26) [(T 57)]⟩, ⟨(some 59), none, .mov (T 7)⟩, ⟨(some 60), none, .mov (T 9)⟩, ⟨(some 61), none, .call (.func 48) [(T 58), (T 59), (T 60)]⟩, ⟨(some 56), none, .mov (T 61)⟩, ⟨(some 62), none, .extract 0 (T 56)⟩, ⟨(some 63), none, .extract 1 (T 56)⟩, ⟨(some 64), none, .extract 2 (T 56)⟩, ⟨(some 11), none, .mov (T 62)⟩, ⟨(some 12), none, .mov (T 63)⟩, ⟨(some 13), none, .mov (T 64)⟩]) (.seq (.ops [⟨(some 66), none, .loadN 3 (T 3)⟩, ⟨(some 67), none, .call (.func 26) [(T 66)]⟩, ⟨(some 68), none, .mov (T 7)⟩, ⟨(some 69), none, .mov (T 9)⟩, ⟨(some 70), none, .int2 .add (T 69) (.const (.int .i64 (1)))⟩, ⟨(some 71), none, .plain (.call { callee := .builtin .min, args := #[(.const (.int .i64 (9))), (T 70)], argTypes := #[3, 3] }) 3⟩, ⟨(some 72), none, .call (.func 48) [(T 67), (T 68), (T 71)]⟩, ⟨(some 65), none, .mov (T 72)⟩, ⟨(some 73), none, .extract 0 (T 65)⟩, ⟨(some 74), none, .extract 1 (T 65)⟩, ⟨(some 75), none, .extract 2 (T 65)⟩, ⟨(some 14), none, .mov (T 73)⟩, ⟨(some 15), none, .mov (T 74)⟩, ⟨(some 16), none, .mov (T 75)⟩]) (.seq (.seq (.ops [⟨(some 76), none, .mov (T 13)⟩, ⟨(some 77), none, .int2 .neq (T 76) (.const (.int .i64 (0)))⟩]) (.cond (T 77) (.seq (.ops [⟨(some 78), none, .mov (T 13)⟩, ⟨(some 79), none, .int2 .eql (T 78) (.const (.int .i64 (11)))⟩, ⟨(some 80), none, .mov (T 79)⟩, ⟨(some 81), (some (80, true)), .mov (T 16)⟩, ⟨(some 82), (some (80, true)), .mov (T 13)⟩, ⟨(some 83), (some (80, true)), .int2 .eql (T 81) (T 82)⟩, ⟨(some 84), none, .pick (T 80) (T 83) (.const (.bool false))⟩, ⟨(some 85), none, .mov (T 84)⟩, ⟨(some 86), (some (85, true)), .loadN 3 (T 3)⟩, ⟨(some 87), (some (85, true)), .call (.func 26) [(T 86)]⟩, ⟨(some 88), (some (85, true)), .mov (T 7)⟩, ⟨(some 89), (some (85, true)), .mov (T 8)⟩, ⟨(some 90), (some (85, true)), .call (.func 27) [(T 89)]⟩, ⟨(some 91), (some (85, true)), .call (.func 49) [(T 87), (T 88), (T 90), (.const (.int .i64 (-1)))]⟩, ⟨(some 92), (some (85, true)), .not (T 91)⟩, ⟨(some 93), none, .pick (T 85) (T 92) (.const (.bool false))⟩, ⟨(some 94), none, .mov (T 93)⟩, ⟨(some 95), (some (94, true)), .call (.func 24) []⟩, ⟨(some 96), none, .pick (T 94) (T 95) (.const (.bool false))⟩, ⟨(some 6), none, .mov (T 96)⟩]) .ret) .skip)) (.seq (.seq (.ops [⟨(some 97), none, .mov (T 16)⟩, ⟨(some 98), none, .int2 .neq (T 97) (.const (.int .i64 (0)))⟩, ⟨(some 99), none, .mov (T 98)⟩, ⟨(some 100), (some (99, false)), .mov (T 15)⟩, ⟨(some 101), (some (99, false)), .mov (T 12)⟩, ⟨(some 102), (some (99, false)), .int2 .lss (T 100) (T 101)⟩, ⟨(some 103), none, .pick (T 99) (.const (.bool true)) (T 102)⟩, ⟨(some 104), none, .mov (T 103)⟩, ⟨(some 105), (some (104, false)), .loadN 3 (T 3)⟩, ⟨(some 106), (some (104, false)), .call (.func 26) [(T 105)]⟩, ⟨(some 107), (some (104, false)), .mov (T 7)⟩, ⟨(some 108), (some (104, false)), .mov (T 11)⟩, ⟨(some 109), (some (104, false)), .call (.func 27) [(T 108)]⟩, ⟨(some 110), (some (104, false)), .mov (T 12)⟩, ⟨(some 111), (some (104, false)), .call (.func 49) [(T 106), (T 107), (T 109), (T 110)]⟩, ⟨(some 112), (some (104, false)), .not (T 111)⟩, ⟨(some 113), none, .pick (T 104) (.const (.bool true)) (T 112)⟩, ⟨(some 114), none, .mov (T 113)⟩, ⟨(some 115), (some (114, false)), .loadN 3 (T 3)⟩, ⟨(some 116), (some (114, false)), .call (.func 26) [(T 115)]⟩, ⟨(some 117), (some (114, false)), .mov (T 7)⟩, ⟨(some 118), (some (114, false)), .mov (T 11)⟩, ⟨(some 119), (some (114, false)), .call (.func 27) [(T 118)]⟩, ⟨(some 120), (some (114, false)), .mov (T 12)⟩, ⟨(some 121), (some (114, false)), .int2 .add (T 120) (.const (.int .i64 (1)))⟩, ⟨(some 122), (some (114, false)), .call (.func 49) [(T 116), (T 117), (T 119), (T 121)]⟩, ⟨(some 123), none, .pick (T 114) (.const (.bool true)) (T 122)⟩, ⟨(some 124), none, .mov (T 123)⟩, ⟨(some 125), (some (124, false)), .loadN 3 (T 3)⟩, ⟨(some 126), (some (124, false)), .call (.func 26) [(T 125)]⟩, ⟨(some 127), (some (124, false)), .mov (T 7)⟩, ⟨(some 128), (some (124, false)), .mov (T 8)⟩, ⟨(some 129), (some (124, false)), .call (.func 27) [(T 128)]⟩, ⟨(some 130), (some (124, false)), .mov (T 12)⟩, ⟨(some 131), (some (124, false)), .int2 .add (T 130) (.const (.int .i64 (1)))⟩, ⟨(some 132), (some (124, false)), .call (.func 49) [(T 126), (T 127), (T 129), (T 131)]⟩, ⟨(some 133), none, .pick (T 124) (.const (.bool true)) (T 132)⟩]) (.cond (T 133) (.seq (.ops [⟨(some 6), none, .mov (.const (.bool false))⟩]) .ret) .skip)) (.seq (.ops [⟨(some 17), none, .mov (.const (.int .i64 (0)))⟩]) (.seq (.seq (.ops [⟨(some 18), none, .mov (.const (.int .i64 (0)))⟩]) (.block 2 (.loop (.seq (.seq (.ops [⟨(some 134), none, .mov (T 18)⟩, ⟨(some 135), none, .mov (T 11)⟩, ⟨(some 136), none, .len (T 135)⟩, ⟨(some 137), none, .int2 .lss (T 134) (T 136)⟩]) (.cond (T 137) .skip (.exit 2))) (.seq (.block 3 (.ops [⟨(some 140), none, .mov (T 17)⟩, ⟨(some 141), none, .mov (T 11)⟩, ⟨(some 142), none, .mov (T 18)⟩, ⟨(some 143), none, .idxSl 1 (T 141) (T 142)⟩, ⟨(some 144), none, .load1 (T 143)⟩, ⟨(some 145), none, .int2 .add (T 140) (T 144)⟩, ⟨(some 17), none, .mov (T 145)⟩])) (.ops [⟨(some 138), none, .mov (T 18)⟩, ⟨(some 139), none, .int2 .add (T 138) (.const (.int .i64 (1)))⟩, ⟨(some 18), none, .mov (T 139)⟩])))))) (.seq (.ops [⟨(some 146), none, .mov (T 17)⟩, ⟨(some 147), none, .mov (T 9)⟩, ⟨(some 148), none, .int2 .eql (T 146) (T 147)⟩, ⟨(some 149), none, .mov (T 148)⟩, ⟨(some 150), (some (149, true)), .loadN 3 (T 3)⟩, ⟨(some 151), (some (149, true)), .call (.func 26) [(T 150)]⟩, ⟨(some 152), (some (149, true)), .mov (T 7)⟩, ⟨(some 153), (some (149, true)), .mov (T 8)⟩, ⟨(some 154), (some (149, true)), .call (.func 27) [(T 153)]⟩, ⟨(some 155), (some (149, true)), .mov (T 12)⟩, ⟨(some 156), (some (149, true)), .call (.func 49) [(T 151), (T 152), (T 154), (T 155)]⟩, ⟨(some 157), (some (149, true)), .not (T 156)⟩, ⟨(some 158), (some (149, true)), .mov (T 157)⟩, ⟨(some 159), (some (158, false)), .mov (T 8)⟩, ⟨(some 160), (some (158, false)), .mov (T 11)⟩, ⟨(some 161), (some (158, false)), .call (.func 66) [(T 159), (T 160)]⟩, ⟨(some 162), (some (158, false)), .not (T 161)⟩, ⟨(some 163), (some (149, true)), .pick (T 158) (.const (.bool true)) (T 162)⟩, ⟨(some 164), none, .pick (T 149) (T 163) (.const (.bool false))⟩, ⟨(some 165), none, .mov (T 164)⟩, ⟨(some 166), (some (165, true)), .call (.func 24) []⟩, ⟨(some 167), none, .pick (T 165) (T 166) (.const (.bool false))⟩, ⟨(some 6), none, .mov (T 167)⟩]) .ret)))))))))))))
theorem fok15 : FnOk Try.prog 15 168 s15 [.tmp 6] := ⟨Try.f15, _, Try.func15, rfl, Try.ntmps15, by kernel_rfl, by kernel_rfl⟩
theorem noBetter_e (hn : 10090 ≤ n) (hr : h.next + 6000000 < far) (hfl : h.floor ≤ h.next) {fv vv sv ws : Value} {Y : MY} (hy : YardR h fv vv sv Y) (hT : Thin Y) (hf : faultN Y = 0) (hnf : 0 < Y.nf) (hnv : 0 < Y.nv) {a1 m fld : Nat} {wa : Nat → Nat} (w1 : a1 < 256) (hw : Words h ws m wa) (hfld : fld = a1 % Y.nf) (he : truths Y = []) :
    ∃ v h', call n (.func (.func 15) #[] #[]) [.agg ⟨[fv, vv, sv]⟩, .int .u8 (a1 : Int), ws] h = some (v, h') ∧ v = .bool true := by
  obtain ⟨n, rfl⟩ : ∃ p, n = p + 1 := ⟨n - 1, by omega⟩
  refine call_any0 fok15 rfl rfl (by simp) ?_
  simp only [s15, W_seq, W_ops]
  refine ops_box (cs := [fv, vv, sv]) (by omega) rfl hy.one fun g1 hx1 => ?_
  have n1 := hx1.next
  have f1 := hx1.floor
  have hy1 := hy.mono hx1.sub
  have x1 := hx1.row.whole (n := 3) rfl
  have r1 := hx1.row
  have hrd := ready_c (n := n) (h := g1) (by omega) (by omega) hy1
  have hrd' : decide (Thin Y ∧ faultN Y = 0) = true := decide_eq_true ⟨hT, hf⟩
  rw [hrd'] at hrd
  obtain ⟨rr, hrw, hq⟩ := hy1.v
  have hG := good_of hf
  obtain ⟨s1, s2, s3⟩ := hG.sz
  have z1 : ¬ (Y.nf : Int) = 0 := by omega
  have z2 : ¬ (Y.nv : Int) = 0 := by omega
  have hof : fld < Y.nf := by rw [hfld]; exact Nat.mod_lt _ hnf
  have m2 : (a1 : Int).tmod (Y.nf : Int) = (fld : Int) := by rw [hfld]; rfl
  obtain ⟨pv, g2, ep, mg2, po, c, k, hpi, hput, hk9⟩ := put_c (n := n) (h := g1) (by omega) (by omega) (by omega) hy1 (by omega) (hw.mono hx1.sub)
  have ng2 := mg2.next
  have ug2 := mg2.up
  have fg2 := mg2.floor
  have sub2 : Sub All g1 g2 := mg2.sub
  have hy2 := hy1.mono sub2
  have hsum := sumF_int hput hk9
  simp only [rn0, rn1, rn2, rn3, rn4, rn5, rn6, rn7, rn8, if_true, if_false, Nat.le_refl, true_and, and_true, decide_true, decide_false, Bool.not_true, Bool.not_false, reduceIte, Nat.reduceEqDiff, Nat.reduceAdd, Nat.reduceMul, Nat.reduceSub, Nat.reduceLeDiff, Nat.reduceLT, x1, hrd, r1.ld, Nat.zero_add, List.getElem?_cons_zero, List.getElem?_cons_succ, Cells.len hy1.f, Cells.len hrw, z1, z2, p_conv8, r_8 w1, valN_tmp, valN_const, Nat.reduceLT, r_rem z1, m2, ep]
  refine W_loop Y.nv (fun i f g ms => g = g2 ∧ ms = [] ∧ f 3 = .pointer (some ⟨h.next, 0, none⟩) ∧ f 7 = .int .i64 (fld : Int) ∧ f 8 = pv ∧ f 9 = .int .i64 (sumF c 0 i) ∧ f 10 = .int .i64 (i : Int)) (by simp; omega) ?_ ?_ ?_
  · simp only [rn0, rn1, rn2, rn3, rn4, rn5, rn6, rn7, rn8, if_true, if_false, Nat.le_refl, true_and, and_true, decide_true, decide_false, Bool.not_true, Bool.not_false, reduceIte, Nat.reduceEqDiff, Nat.reduceAdd, Nat.reduceMul, Nat.reduceSub, Nat.reduceLeDiff, Nat.reduceLT]
    exact ⟨rfl, rfl⟩
  · rintro i f g ms hi ⟨rfl, rfl, p3, p7, p8, p9, p10⟩
    have hi' : (i : Int) < (Y.nv : Int) := by omega
    have hwi : wrapF .i64 ((i : Int) + 1) = ((i + 1 : Nat) : Int) := by rw [wrap_in (by omega) (by omega)]; rfl
    have hs1 := hsum (i + 1) (by omega)
    have hsl : sumF c 0 (i + 1) = sumF c 0 i + c i := by rw [sumF_last, Nat.zero_add]
    have hws : wrapF .i64 (sumF c 0 i + c i) = sumF c 0 (i + 1) := by rw [← hsl]; exact wrap_in (by omega) (by omega)
    simp only [rn0, rn1, rn2, rn3, rn4, rn5, rn6, rn7, rn8, if_true, if_false, Nat.le_refl, true_and, and_true, decide_true, decide_false, Bool.not_true, Bool.not_false, reduceIte, Nat.reduceEqDiff, Nat.reduceAdd, Nat.reduceMul, Nat.reduceSub, Nat.reduceLeDiff, Nat.reduceLT, p3, p7, p8, p9, p10, Cells.len hpi, hi', Cells.idx hpi hi, Cells.ld hpi hi Nat.zero_lt_one, hws, hwi]
  rintro f g ms ⟨rfl, rfl, p3, p7, p8, p9, p10⟩
  rw [hput.2.2] at p9
  obtain ⟨F1, V1, S1, g3, ey1, hy1y, mg3⟩ := yard_c (n := n) (h := g) (by omega) (by omega) (by omega) hy2 hT
  have ng3 := mg3.next
  have ug3 := mg3.up
  have fg3 := mg3.floor
  obtain ⟨s1v, g4, es1, mg4, hsp1⟩ := spread_c (n := n) (h := g3) (by omega) (by omega) (by omega) hy1y hT (fld : Int) (k : Int)
  have ng4 := mg4.next
  have ug4 := mg4.up
  have fg4 := mg4.floor
  have sub4 : Sub All g1 g4 := sub2.trans (mg3.sub.trans mg4.sub)
  have hwk : wrapF .i64 ((k : Int) + 1) = (k : Int) + 1 := wrap_in (by omega) (by omega)
  obtain ⟨k2, hk2⟩ : ∃ k2 : Nat, k2 = min 9 (k + 1) := ⟨_, rfl⟩
  have hmin : min (9 : Int) ((k : Int) + 1) = (k2 : Int) := by omega
  obtain ⟨F2, V2, S2, g5, ey2, hy2y, mg5⟩ := yard_c (n := n) (h := g4) (by omega) (by omega) (by omega) (hy1.mono sub4) hT
  have ng5 := mg5.next
  have ug5 := mg5.up
  have fg5 := mg5.floor
  obtain ⟨s2v, g6, es2, mg6, hsp2⟩ := spread_c (n := n) (h := g5) (by omega) (by omega) (by omega) hy2y hT (fld : Int) (k2 : Int)
  have ng6 := mg6.next
  have ug6 := mg6.up
  have fg6 := mg6.floor
  have sub6 : Sub All g1 g6 := sub4.trans (mg5.sub.trans mg6.sub)
  have x2 := (hx1.row.mono sub2).whole (n := 3) rfl
  have x4 := (hx1.row.mono sub4).whole (n := 3) rfl
  have x6 := (hx1.row.mono sub6).whole (n := 3) rfl
  have hE1 := spreadE_in hf hof hk9 hnv
  have hE2 := spreadE_in hf hof (k := k2) (by omega) hnv
  have haw : ∀ g, call n (.func (.func 24) #[] #[]) [] g = some (.bool true, g) := fun g => awake_c (n := n) (h := g) (by omega)
  rw [if_pos he] at hE1 hE2
  rcases hsp1 with ⟨_, rfl⟩ | ⟨h0, _⟩
  case inr => rw [hE1] at h0; cases h0
  rcases hsp2 with ⟨_, rfl⟩ | ⟨h0, _⟩
  case inr => rw [hE2] at h0; cases h0
  rw [hE1] at es1
  rw [hE2] at es2
  obtain ⟨F3, V3, S3, g7, ey3, hy3, mg7⟩ := yard_c (n := n) (h := g6) (by omega) (by omega) (by omega) (hy1.mono sub6) hT
  have ng7 := mg7.next
  have ug7 := mg7.up
  have fg7 := mg7.floor
  obtain ⟨lv3, g8, el3, li3, mg8, lo3, lb3⟩ := list_c (n := n) (h := g7) (by omega) (by omega) (Cells.mono hpi (mg3.sub.trans (mg4.sub.trans (mg5.sub.trans (mg6.sub.trans mg7.sub))))) (by omega)
  have ng8 := mg8.next
  have ug8 := mg8.up
  have fg8 := mg8.floor
  have epr := proveSpread_c (n := n) (h := g8) (by omega) (by omega) (hy3.mono mg8.sub) hT li3 (by omega) (fld : Int) (-1)
  rw [@decide_eq_false _ (_) (fun (hx : IsSpread Y (fld : Int) Y.nv c (-1)) => hx.2.1 he)] at epr
  simp only [rn0, rn1, rn2, rn3, rn4, rn5, rn6, rn7, rn8, if_true, if_false, Nat.le_refl, true_and, and_true, decide_true, decide_false, Bool.not_true, Bool.not_false, reduceIte, Nat.reduceEqDiff, Nat.reduceAdd, Nat.reduceMul, Nat.reduceSub, Nat.reduceLeDiff, Nat.reduceLT, p3, p7, p8, p9, p10, Cells.len hpi, Int.lt_irrefl, x2, ey1, es1, ex30, ex31, ex32, x4, ey2, p_min, r_min, valN_tmp, valN_const, Nat.reduceLT, hwk, hmin, es2, Int.reduceEq, x6, ey3, el3, epr, haw]
theorem noBetter_m (hn : 10090 ≤ n) (hr : h.next + 6000000 < far) (hfl : h.floor ≤ h.next) {fv vv sv ws : Value} {Y : MY} (hy : YardR h fv vv sv Y) (hT : Thin Y) (hf : faultN Y = 0) (hnf : 0 < Y.nf) (hnv : 0 < Y.nv) {a1 m fld : Nat} {wa : Nat → Nat} (w1 : a1 < 256) (hw : Words h ws m wa) (hfld : fld = a1 % Y.nf) (he : truths Y ≠ []) :
    ∃ v h', call n (.func (.func 15) #[] #[]) [.agg ⟨[fv, vv, sv]⟩, .int .u8 (a1 : Int), ws] h = some (v, h') ∧ v = .bool true := by
  obtain ⟨n, rfl⟩ : ∃ p, n = p + 1 := ⟨n - 1, by omega⟩
  refine call_any0 fok15 rfl rfl (by simp) ?_
  simp only [s15, W_seq, W_ops]
  refine ops_box (cs := [fv, vv, sv]) (by omega) rfl hy.one fun g1 hx1 => ?_
  have n1 := hx1.next
  have f1 := hx1.floor
  have hy1 := hy.mono hx1.sub
  have x1 := hx1.row.whole (n := 3) rfl
  have r1 := hx1.row
  have hrd := ready_c (n := n) (h := g1) (by omega) (by omega) hy1
  have hrd' : decide (Thin Y ∧ faultN Y = 0) = true := decide_eq_true ⟨hT, hf⟩
  rw [hrd'] at hrd
  obtain ⟨rr, hrw, hq⟩ := hy1.v
  have hG := good_of hf
  obtain ⟨s1, s2, s3⟩ := hG.sz
  have z1 : ¬ (Y.nf : Int) = 0 := by omega
  have z2 : ¬ (Y.nv : Int) = 0 := by omega
  have hof : fld < Y.nf := by rw [hfld]; exact Nat.mod_lt _ hnf
  have m2 : (a1 : Int).tmod (Y.nf : Int) = (fld : Int) := by rw [hfld]; rfl
  obtain ⟨pv, g2, ep, mg2, po, c, k, hpi, hput, hk9⟩ := put_c (n := n) (h := g1) (by omega) (by omega) (by omega) hy1 (by omega) (hw.mono hx1.sub)
  have ng2 := mg2.next
  have ug2 := mg2.up
  have fg2 := mg2.floor
  have sub2 : Sub All g1 g2 := mg2.sub
  have hy2 := hy1.mono sub2
  have hsum := sumF_int hput hk9
  simp only [rn0, rn1, rn2, rn3, rn4, rn5, rn6, rn7, rn8, if_true, if_false, Nat.le_refl, true_and, and_true, decide_true, decide_false, Bool.not_true, Bool.not_false, reduceIte, Nat.reduceEqDiff, Nat.reduceAdd, Nat.reduceMul, Nat.reduceSub, Nat.reduceLeDiff, Nat.reduceLT, x1, hrd, r1.ld, Nat.zero_add, List.getElem?_cons_zero, List.getElem?_cons_succ, Cells.len hy1.f, Cells.len hrw, z1, z2, p_conv8, r_8 w1, valN_tmp, valN_const, Nat.reduceLT, r_rem z1, m2, ep]
  refine W_loop Y.nv (fun i f g ms => g = g2 ∧ ms = [] ∧ f 3 = .pointer (some ⟨h.next, 0, none⟩) ∧ f 7 = .int .i64 (fld : Int) ∧ f 8 = pv ∧ f 9 = .int .i64 (sumF c 0 i) ∧ f 10 = .int .i64 (i : Int)) (by simp; omega) ?_ ?_ ?_
  · simp only [rn0, rn1, rn2, rn3, rn4, rn5, rn6, rn7, rn8, if_true, if_false, Nat.le_refl, true_and, and_true, decide_true, decide_false, Bool.not_true, Bool.not_false, reduceIte, Nat.reduceEqDiff, Nat.reduceAdd, Nat.reduceMul, Nat.reduceSub, Nat.reduceLeDiff, Nat.reduceLT]
    exact ⟨rfl, rfl⟩
  · rintro i f g ms hi ⟨rfl, rfl, p3, p7, p8, p9, p10⟩
    have hi' : (i : Int) < (Y.nv : Int) := by omega
    have hwi : wrapF .i64 ((i : Int) + 1) = ((i + 1 : Nat) : Int) := by rw [wrap_in (by omega) (by omega)]; rfl
    have hs1 := hsum (i + 1) (by omega)
    have hsl : sumF c 0 (i + 1) = sumF c 0 i + c i := by rw [sumF_last, Nat.zero_add]
    have hws : wrapF .i64 (sumF c 0 i + c i) = sumF c 0 (i + 1) := by rw [← hsl]; exact wrap_in (by omega) (by omega)
    simp only [rn0, rn1, rn2, rn3, rn4, rn5, rn6, rn7, rn8, if_true, if_false, Nat.le_refl, true_and, and_true, decide_true, decide_false, Bool.not_true, Bool.not_false, reduceIte, Nat.reduceEqDiff, Nat.reduceAdd, Nat.reduceMul, Nat.reduceSub, Nat.reduceLeDiff, Nat.reduceLT, p3, p7, p8, p9, p10, Cells.len hpi, hi', Cells.idx hpi hi, Cells.ld hpi hi Nat.zero_lt_one, hws, hwi]
  rintro f g ms ⟨rfl, rfl, p3, p7, p8, p9, p10⟩
  rw [hput.2.2] at p9
  obtain ⟨F1, V1, S1, g3, ey1, hy1y, mg3⟩ := yard_c (n := n) (h := g) (by omega) (by omega) (by omega) hy2 hT
  have ng3 := mg3.next
  have ug3 := mg3.up
  have fg3 := mg3.floor
  obtain ⟨s1v, g4, es1, mg4, hsp1⟩ := spread_c (n := n) (h := g3) (by omega) (by omega) (by omega) hy1y hT (fld : Int) (k : Int)
  have ng4 := mg4.next
  have ug4 := mg4.up
  have fg4 := mg4.floor
  have sub4 : Sub All g1 g4 := sub2.trans (mg3.sub.trans mg4.sub)
  have hwk : wrapF .i64 ((k : Int) + 1) = (k : Int) + 1 := wrap_in (by omega) (by omega)
  obtain ⟨k2, hk2⟩ : ∃ k2 : Nat, k2 = min 9 (k + 1) := ⟨_, rfl⟩
  have hmin : min (9 : Int) ((k : Int) + 1) = (k2 : Int) := by omega
  obtain ⟨F2, V2, S2, g5, ey2, hy2y, mg5⟩ := yard_c (n := n) (h := g4) (by omega) (by omega) (by omega) (hy1.mono sub4) hT
  have ng5 := mg5.next
  have ug5 := mg5.up
  have fg5 := mg5.floor
  obtain ⟨s2v, g6, es2, mg6, hsp2⟩ := spread_c (n := n) (h := g5) (by omega) (by omega) (by omega) hy2y hT (fld : Int) (k2 : Int)
  have ng6 := mg6.next
  have ug6 := mg6.up
  have fg6 := mg6.floor
  have sub6 : Sub All g1 g6 := sub4.trans (mg5.sub.trans mg6.sub)
  have x2 := (hx1.row.mono sub2).whole (n := 3) rfl
  have x4 := (hx1.row.mono sub4).whole (n := 3) rfl
  have x6 := (hx1.row.mono sub6).whole (n := 3) rfl
  have hE1 := spreadE_in hf hof hk9 hnv
  have hE2 := spreadE_in hf hof (k := k2) (by omega) hnv
  have haw : ∀ g, call n (.func (.func 24) #[] #[]) [] g = some (.bool true, g) := fun g => awake_c (n := n) (h := g) (by omega)
  rw [if_neg he] at hE1 hE2
  rcases hsp1 with ⟨h0, _⟩ | ⟨_, pl, rfl, hpl, plo, _⟩
  · exact absurd hE1 h0
  rcases hsp2 with ⟨h0, _⟩ | ⟨_, ql, rfl, hql, qlo, _⟩
  · exact absurd hE2 h0
  simp only [Int.toNat_natCast] at es1 es2 hpl hql
  have hS : ∀ v k, v < Y.nv → 0 ≤ sureN Y v fld k (truths Y) := fun v k hv => sureN_pos hf he hv hof
  have hM : ∀ v k, v < Y.nv → sureN Y v fld k (truths Y) ≤ sureN Y v fld (k + 1) (truths Y) := fun v k hv => sureN_mono hf he hof
  obtain ⟨b1, b2, b3, b4⟩ := spRun_is (S := fun v k => sureN Y v fld k (truths Y)) (nv := Y.nv) (many := k) hnv fun v k hv _ => hS v k hv
  have hmore : (bestS Y fld k).2 ≤ (bestS Y fld k2).2 := by
    by_cases e : k2 = k
    · rw [e]; exact Int.le_refl _
    · have : k2 = k + 1 := by omega
      rw [this]
      exact spRun_more hnv (fun v k hv _ => hS v k hv) (fun v k hv => hM v k hv)
  change IsPut Y.nv k (bestS Y fld k).1 at b1
  change (bestS Y fld k).2 = lowS _ Y.nv (bestS Y fld k).1 at b2
  change ∀ c, IsPut Y.nv k c → _ ≤ (bestS Y fld k).2 at b3
  change ∀ c, IsPut Y.nv k c → _ = (bestS Y fld k).2 → ¬ LexLt c (bestS Y fld k).1 Y.nv at b4
  have hp1 : ∀ b, IsSpread Y (fld : Int) Y.nv (bestS Y fld k).1 b ↔ b ≤ (bestS Y fld k).2 := fun b => by rw [isSpread_in hf he hof hk9 hnv b1, ← b2]
  have hp2 : ∀ b, IsSpread Y (fld : Int) Y.nv c b ↔ b ≤ lowS (fun v k => sureN Y v fld k (truths Y)) Y.nv c := fun b => isSpread_in hf he hof hk9 hnv hput
  have hb3 := b3 c hput
  have hb4 := b4 c hput
  have hlow : 0 ≤ (bestS Y fld k).2 ∧ (bestS Y fld k).2 ≤ 99999 := by
    refine ⟨by rw [b2, le_lowS hnv]; exact fun v hv => hS v _ hv, ?_⟩
    have h0 := (le_lowS (S := fun v k => sureN Y v fld k (truths Y)) (c := (bestS Y fld k).1) hnv).1 (Int.le_refl _) 0 hnv
    have h1 := sureN_le hf he (v := 0) (f := fld) (k := ((bestS Y fld k).1 0).toNat) hnv hof (by
      have h2 := sumF_le Y.nv 0 0 (fun j _ h => b1.2.1 j (by omega)) (by omega) (by omega)
      have h3 := b1.2.2
      have h4 := b1.2.1 0 hnv
      omega)
    rw [b2]
    exact Int.le_trans h0 h1
  obtain ⟨pm, hpm⟩ : ∃ x, x = (bestS Y fld k).1 := ⟨_, rfl⟩
  obtain ⟨pn, hpn⟩ : ∃ x, x = (bestS Y fld k).2 := ⟨_, rfl⟩
  obtain ⟨qn, hqn⟩ : ∃ x, x = (bestS Y fld k2).2 := ⟨_, rfl⟩
  rw [← hpn] at es1 hp1 hmore hb3 hb4 hlow
  rw [← hqn] at es2 hmore
  rw [← hpm] at hpl hp1 hb4 b1
  obtain ⟨lc, hlc⟩ : ∃ x, x = lowS (fun v k => sureN Y v fld k (truths Y)) Y.nv c := ⟨_, rfl⟩
  rw [← hlc] at hp2 hb3 hb4
  clear b2 b3 b4 hS hM
  have hwn : wrapF .i64 (pn + 1) = pn + 1 := wrap_in (by omega) (by omega)
  have hnl : ¬ qn < pn := by omega
  have hsp' : ∀ {g}, Sub All g4 g → Ints g pl Y.nv pm := fun hs => Cells.mono hpl hs
  have hpp' : ∀ {g'}, Sub All g g' → Ints g' pv Y.nv c := fun hs => Cells.mono hpi hs
  have sub46 : Sub All g4 g6 := mg5.sub.trans mg6.sub
  obtain ⟨F3, V3, S3, g7, ey3, hy3, mg7⟩ := yard_c (n := n) (h := g6) (by omega) (by omega) (by omega) (hy1.mono sub6) hT
  have ng7 := mg7.next
  have ug7 := mg7.up
  have fg7 := mg7.floor
  obtain ⟨lv3, g8, el3, li3, mg8, lo3, lb3⟩ := list_c (n := n) (h := g7) (by omega) (by omega) (hsp' (sub46.trans mg7.sub)) (by omega)
  have ng8 := mg8.next
  have ug8 := mg8.up
  have fg8 := mg8.floor
  have epr3 := proveSpread_c (n := n) (h := g8) (by omega) (by omega) (hy3.mono mg8.sub) hT li3 (by omega) (fld : Int) pn
  rw [@decide_eq_true _ (_) ((hp1 pn).2 (Int.le_refl _))] at epr3
  have sub8 := sub6.trans (mg7.sub.trans mg8.sub)
  have sub48 := sub46.trans (mg7.sub.trans mg8.sub)
  have x8 := (hx1.row.mono sub8).whole (n := 3) rfl
  obtain ⟨F4, V4, S4, g9, ey4, hy4, mg9⟩ := yard_c (n := n) (h := g8) (by omega) (by omega) (by omega) (hy1.mono sub8) hT
  have ng9 := mg9.next
  have ug9 := mg9.up
  have fg9 := mg9.floor
  obtain ⟨lv4, g10, el4, li4, mg10, lo4, lb4⟩ := list_c (n := n) (h := g9) (by omega) (by omega) (hsp' (sub48.trans mg9.sub)) (by omega)
  have ng10 := mg10.next
  have ug10 := mg10.up
  have fg10 := mg10.floor
  have epr4 := proveSpread_c (n := n) (h := g10) (by omega) (by omega) (hy4.mono mg10.sub) hT li4 (by omega) (fld : Int) (pn + 1)
  rw [@decide_eq_false _ (_) (fun hx => by have := (hp1 (pn + 1)).1 hx; omega)] at epr4
  have sub10 := sub8.trans (mg9.sub.trans mg10.sub)
  have sub410 := sub48.trans (mg9.sub.trans mg10.sub)
  have x10 := (hx1.row.mono sub10).whole (n := 3) rfl
  have subg4 : Sub All g g4 := mg3.sub.trans mg4.sub
  obtain ⟨F5, V5, S5, g11, ey5, hy5, mg11⟩ := yard_c (n := n) (h := g10) (by omega) (by omega) (by omega) (hy1.mono sub10) hT
  have ng11 := mg11.next
  have ug11 := mg11.up
  have fg11 := mg11.floor
  obtain ⟨lv5, g12, el5, li5, mg12, lo5, lb5⟩ := list_c (n := n) (h := g11) (by omega) (by omega) (hpp' (subg4.trans (sub410.trans mg11.sub))) (by omega)
  have ng12 := mg12.next
  have ug12 := mg12.up
  have fg12 := mg12.floor
  have epr5 := proveSpread_c (n := n) (h := g12) (by omega) (by omega) (hy5.mono mg12.sub) hT li5 (by omega) (fld : Int) (pn + 1)
  rw [@decide_eq_false _ (_) (fun hx => by have := (hp2 (pn + 1)).1 hx; omega)] at epr5
  have sub12 := sub10.trans (mg11.sub.trans mg12.sub)
  have sub412 := sub410.trans (mg11.sub.trans mg12.sub)
  have x12 := (hx1.row.mono sub12).whole (n := 3) rfl
  have hpl12 : Ints g12 pl Y.nv pm := hsp' sub412
  have hpi12 : Ints g12 pv Y.nv c := hpp' (subg4.trans sub412)
  obtain ⟨F6, V6, S6, g13, ey6, hy6, mg13⟩ := yard_c (n := n) (h := g12) (by omega) (by omega) (by omega) (hy1.mono sub12) hT
  have ng13 := mg13.next
  have ug13 := mg13.up
  have fg13 := mg13.floor
  obtain ⟨lv6, g14, el6, li6, mg14, lo6, lb6⟩ := list_c (n := n) (h := g13) (by omega) (by omega) (Cells.mono hpi12 mg13.sub) (by omega)
  have ng14 := mg14.next
  have ug14 := mg14.up
  have fg14 := mg14.floor
  have epr6 := proveSpread_c (n := n) (h := g14) (by omega) (by omega) (hy6.mono mg14.sub) hT li6 (by omega) (fld : Int) pn
  have ebf := before_c (n := n) (h := g14) (m := Y.nv) (by omega) (by omega) (Cells.mono hpi12 (mg13.sub.trans mg14.sub)) (Cells.mono hpl12 (mg13.sub.trans mg14.sub))
  have hsum1 := sumF_int b1 hk9
  simp only [rn0, rn1, rn2, rn3, rn4, rn5, rn6, rn7, rn8, if_true, if_false, Nat.le_refl, true_and, and_true, decide_true, decide_false, Bool.not_true, Bool.not_false, reduceIte, Nat.reduceEqDiff, Nat.reduceAdd, Nat.reduceMul, Nat.reduceSub, Nat.reduceLeDiff, Nat.reduceLT, p3, p7, p8, p9, p10, Cells.len hpi, Int.lt_irrefl, x2, ey1, es1, ex30, ex31, ex32, x4, ey2, p_min, r_min, valN_tmp, valN_const, Nat.reduceLT, hwk, hmin, es2, Int.reduceEq, hnl, x6, ey3, el3, epr3, x8, ey4, el4, hwn, epr4, x10, ey5, el5, epr5]
  refine W_loop Y.nv (fun i f g ms => g = g12 ∧ ms = [] ∧ f 3 = .pointer (some ⟨h.next, 0, none⟩) ∧ f 7 = .int .i64 (fld : Int) ∧ f 8 = pv ∧ f 9 = .int .i64 (k : Int) ∧ f 11 = pl ∧ f 12 = .int .i64 pn ∧ f 17 = .int .i64 (sumF pm 0 i) ∧ f 18 = .int .i64 (i : Int)) (by simp; omega) ?_ ?_ ?_
  · simp only [rn0, rn1, rn2, rn3, rn4, rn5, rn6, rn7, rn8, if_true, if_false, Nat.le_refl, true_and, and_true, decide_true, decide_false, Bool.not_true, Bool.not_false, reduceIte, Nat.reduceEqDiff, Nat.reduceAdd, Nat.reduceMul, Nat.reduceSub, Nat.reduceLeDiff, Nat.reduceLT, p3, p7, p8, p9, p10]
    exact ⟨rfl, rfl⟩
  · rintro i f g ms hi ⟨rfl, rfl, p3, p7, p8, p9, p11, p12, p17, p18⟩
    have hi' : (i : Int) < (Y.nv : Int) := by omega
    have hwi : wrapF .i64 ((i : Int) + 1) = ((i + 1 : Nat) : Int) := by rw [wrap_in (by omega) (by omega)]; rfl
    have hs1 := hsum1 (i + 1) (by omega)
    have hsl : sumF pm 0 (i + 1) = sumF pm 0 i + pm i := by rw [sumF_last, Nat.zero_add]
    have hws : wrapF .i64 (sumF pm 0 i + pm i) = sumF pm 0 (i + 1) := by rw [← hsl]; exact wrap_in (by omega) (by omega)
    simp only [rn0, rn1, rn2, rn3, rn4, rn5, rn6, rn7, rn8, if_true, if_false, Nat.le_refl, true_and, and_true, decide_true, decide_false, Bool.not_true, Bool.not_false, reduceIte, Nat.reduceEqDiff, Nat.reduceAdd, Nat.reduceMul, Nat.reduceSub, Nat.reduceLeDiff, Nat.reduceLT, p3, p7, p8, p9, p11, p12, p17, p18, Cells.len hpl12, hi', Cells.idx hpl12 hi, Cells.ld hpl12 hi Nat.zero_lt_one, hws, hwi]
  · rintro f g ms ⟨rfl, rfl, p3, p7, p8, p9, p11, p12, p17, p18⟩
    rw [b1.2.2] at p17
    by_cases hL : IsSpread Y (fld : Int) Y.nv c pn
    · have hle := (hp2 pn).1 hL
      have hnb := hb4 (by omega)
      rw [@decide_eq_true _ (_) hL] at epr6
      rw [@decide_eq_false _ (_) hnb] at ebf
      simp only [rn0, rn1, rn2, rn3, rn4, rn5, rn6, rn7, rn8, if_true, if_false, Nat.le_refl, true_and, and_true, decide_true, decide_false, Bool.not_true, Bool.not_false, reduceIte, Nat.reduceEqDiff, Nat.reduceAdd, Nat.reduceMul, Nat.reduceSub, Nat.reduceLeDiff, Nat.reduceLT, p3, p7, p8, p9, p11, p12, p17, p18, Cells.len hpl12, Int.lt_irrefl, x12, ey6, el6, epr6, ebf, haw]
    · rw [@decide_eq_false _ (_) hL] at epr6
      simp only [rn0, rn1, rn2, rn3, rn4, rn5, rn6, rn7, rn8, if_true, if_false, Nat.le_refl, true_and, and_true, decide_true, decide_false, Bool.not_true, Bool.not_false, reduceIte, Nat.reduceEqDiff, Nat.reduceAdd, Nat.reduceMul, Nat.reduceSub, Nat.reduceLeDiff, Nat.reduceLT, p3, p7, p8, p9, p11, p12, p17, p18, Cells.len hpl12, Int.lt_irrefl, x12, ey6, el6, epr6, haw]
theorem noBetter_c (hn : 10100 ≤ n) (hr : h.next + 6000000 < far) (hfl : h.floor ≤ h.next) {fv vv sv ws : Value} {Y : MY} (hy : YardR h fv vv sv Y) (a1 : Int) (wf1 : (Lit.int .u8 a1).wf = true) {m : Nat} {wa : Nat → Nat} (hw : Words h ws m wa) :
    ∃ v h', call n (.func (.func 15) #[] #[]) [.agg ⟨[fv, vv, sv]⟩, .int .u8 a1, ws] h = some (v, h') ∧ v = .bool true := by
  obtain ⟨k1, rfl, h1⟩ := wf8 wf1
  by_cases hg : (Thin Y ∧ faultN Y = 0) ∧ 0 < Y.nf ∧ 0 < Y.nv
  · obtain ⟨⟨g1, g2⟩, g3, g4⟩ := hg
    by_cases he : truths Y = []
    · exact noBetter_e (by omega) hr hfl hy g1 g2 g3 g4 h1 hw rfl he
    · exact noBetter_m (by omega) hr hfl hy g1 g2 g3 g4 h1 hw rfl he
  obtain ⟨n, rfl⟩ : ∃ p, n = p + 1 := ⟨n - 1, by omega⟩
  refine call_any0 fok15 rfl rfl (by simp) ?_
  simp only [s15, W_seq, W_ops]
  refine ops_box (cs := [fv, vv, sv]) (by omega) rfl hy.one fun g1 hx1 => ?_
  have n1 := hx1.next
  have hy1 := hy.mono hx1.sub
  have x1 := hx1.row.whole (n := 3) rfl
  have r1 := hx1.row
  have hrd := ready_c (n := n) (h := g1) (by omega) (by omega) hy1
  have haw := awake_c (n := n) (h := g1) (by omega)
  by_cases c1 : Thin Y ∧ faultN Y = 0
  case neg =>
    rw [decide_eq_false c1] at hrd
    simp only [rn0, rn1, rn2, rn3, rn4, rn5, rn6, rn7, rn8, if_true, if_false, Nat.le_refl, true_and, and_true, decide_true, decide_false, Bool.not_true, Bool.not_false, reduceIte, Nat.reduceEqDiff, Nat.reduceAdd, Nat.reduceMul, Nat.reduceSub, Nat.reduceLeDiff, Nat.reduceLT, x1, hrd, haw]
  rw [decide_eq_true c1] at hrd
  obtain ⟨rr, hrw, hq⟩ := hy1.v
  by_cases c2 : (Y.nf : Int) = 0
  · simp only [rn0, rn1, rn2, rn3, rn4, rn5, rn6, rn7, rn8, if_true, if_false, Nat.le_refl, true_and, and_true, decide_true, decide_false, Bool.not_true, Bool.not_false, reduceIte, Nat.reduceEqDiff, Nat.reduceAdd, Nat.reduceMul, Nat.reduceSub, Nat.reduceLeDiff, Nat.reduceLT, x1, hrd, r1.ld, Nat.zero_add, List.getElem?_cons_zero, List.getElem?_cons_succ, Cells.len hy1.f, Cells.len hrw, c2, haw]
  have c3 : (Y.nv : Int) = 0 := by
    apply Classical.byContradiction
    intro hn
    exact hg ⟨c1, by omega, by omega⟩
  simp only [rn0, rn1, rn2, rn3, rn4, rn5, rn6, rn7, rn8, if_true, if_false, Nat.le_refl, true_and, and_true, decide_true, decide_false, Bool.not_true, Bool.not_false, reduceIte, Nat.reduceEqDiff, Nat.reduceAdd, Nat.reduceMul, Nat.reduceSub, Nat.reduceLeDiff, Nat.reduceLT, x1, hrd, r1.ld, Nat.zero_add, List.getElem?_cons_zero, List.getElem?_cons_succ, Cells.len hy1.f, Cells.len hrw, c2, c3, haw]
end Go.Vm.Vat
