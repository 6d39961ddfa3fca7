/- Texts of the proofs of this seat, put together: BtBase, BtPure, BtRef, BtV1, BtRef2, BtV2, BtV3. -/
import Derived.Test.YtjihegbffhhcaaaPk4
import Derived.Test.YtjihegbffhhcaaaProg

namespace Go.Vm.Bt
open Go.Vm.Vat Go.Vm.L2
set_option linter.unusedSimpArgs false
set_option linter.unusedVariables false
set_option maxRecDepth 10000
structure MB where
  slo : Int
  shi : Int
  nv : Nat
  nlo : Nat → Int
  nhi : Nat → Int
  ve : Nat → Int
  vl : Nat → Int
  last : Int
  ns : Nat
  sv : Nat → Int
  sh : Nat → Int
  sd : Nat → Bool
def vatC (S : MB) (k j : Nat) : Value := .int .i64 (if j = 0 then S.nlo k else if j = 1 then S.nhi k else if j = 2 then S.ve k else S.vl k)
def sampC (S : MB) (k j : Nat) : Value := if j = 0 then .int .i64 (S.sv k) else if j = 1 then .int .i64 (S.sh k) else .bool (S.sd k)
structure BeatR (h : AHeap) (vv sv : Value) (S : MB) : Prop where
  v : Cells h vv 4 S.nv (vatC S)
  s : Cells h sv 3 S.ns (sampC S)
def beL (S : MB) (vv sv : Value) : List Value := [.int .i64 S.slo, .int .i64 S.shi, vv, .int .i64 S.last, sv]
def wkL (S : MB) (vv sv tv : Value) : List Value := [.int .i64 S.slo, .int .i64 S.shi, vv, .int .i64 S.last, sv, tv]
def smL (S : MB) (k : Nat) : List Value := [.int .i64 (S.sv k), .int .i64 (S.sh k), .bool (S.sd k)]
def vaL (S : MB) (k : Nat) : List Value := [.int .i64 (S.nlo k), .int .i64 (S.nhi k), .int .i64 (S.ve k), .int .i64 (S.vl k)]
section
variable {h g : AHeap} {vv sv tv : Value} {S : MB}
theorem BeatR.mono (hy : BeatR h vv sv S) (hs : Sub All h g) : BeatR g vv sv S := ⟨Cells.mono hy.v hs, Cells.mono hy.s hs⟩
theorem BeatR.shut (hy : BeatR h vv sv S) : BeatR h.shutAll vv sv S := hy.mono fun _ _ _ _ _ h => h
theorem BeatR.one (hy : BeatR h vv sv S) : allB oneCell (beL S vv sv) = true := by
  simp [beL, allB, one_int, Cells.one hy.v, Cells.one hy.s]
theorem BeatR.self (hy : BeatR h vv sv S) : eqV (.agg ⟨beL S vv sv⟩) (.agg ⟨beL S vv sv⟩) = true := by
  simp [beL, eqV, eqCells, eqC_int, Cells.selfC hy.v, Cells.selfC hy.s]
theorem wk_one (hy : BeatR h vv sv S) (ht : oneCell tv = true) : allB oneCell (wkL S vv sv tv) = true := by
  simp [wkL, allB, one_int, Cells.one hy.v, Cells.one hy.s, ht]
theorem sm_one {k : Nat} : allB oneCell (smL S k) = true := rfl
theorem va_one {k : Nat} : allB oneCell (vaL S k) = true := rfl
theorem be_rng {g : AHeap} {p : Nat} (hr : Row g p (beL S vv sv)) : loadAgg 2 g (.pointer (some ⟨p, 0, none⟩)) = some (.agg ⟨[.int .i64 S.slo, .int .i64 S.shi]⟩) := hr.ldN 0 2 (by simp [beL]) (by simp [beL])
theorem wk_rng {g : AHeap} {p : Nat} (hr : Row g p (wkL S vv sv tv)) : loadAgg 2 g (.pointer (some ⟨p, 0, none⟩)) = some (.agg ⟨[.int .i64 S.slo, .int .i64 S.shi]⟩) := hr.ldN 0 2 (by simp [wkL]) (by simp [wkL])
theorem need_ld {k : Nat} (hy : BeatR h vv sv S) (hk : k < S.nv) : loadAgg 2 h (ptrO vv 4 k 0) = some (.agg ⟨[.int .i64 (S.nlo k), .int .i64 (S.nhi k)]⟩) := by
  rw [Cells.ldN hy.v hk (by omega) (by omega)]; simp [List.range_succ, vatC]
theorem vat_ld {k : Nat} (hy : BeatR h vv sv S) (hk : k < S.nv) : loadAgg 4 h (ptrO vv 4 k 0) = some (.agg ⟨vaL S k⟩) := by
  rw [Cells.ldN hy.v hk (by omega) (by omega)]; simp [List.range_succ, vatC, vaL]
theorem samp_ld {k : Nat} (hy : BeatR h vv sv S) (hk : k < S.ns) : loadAgg 3 h (ptrO sv 3 k 0) = some (.agg ⟨smL S k⟩) := by
  rw [Cells.ldN hy.s hk (by omega) (by omega)]; simp [List.range_succ, sampC, smL]
theorem lo_ld {k : Nat} (hy : BeatR h vv sv S) (hk : k < S.nv) : loadCell h (ptrO vv 4 k 0) = some (.int .i64 (S.nlo k)) := Cells.ld hy.v hk (by omega)
end
theorem beg {S : MB} {a b : Value} : (beL S a b)[0]? = some (.int .i64 S.slo) ∧ (beL S a b)[1]? = some (.int .i64 S.shi) ∧ (beL S a b)[2]? = some a ∧ (beL S a b)[3]? = some (.int .i64 S.last) ∧ (beL S a b)[4]? = some b := ⟨rfl, rfl, rfl, rfl, rfl⟩
theorem wkg {S : MB} {a b c : Value} : (wkL S a b c)[0]? = some (.int .i64 S.slo) ∧ (wkL S a b c)[1]? = some (.int .i64 S.shi) ∧ (wkL S a b c)[2]? = some a ∧ (wkL S a b c)[3]? = some (.int .i64 S.last) ∧ (wkL S a b c)[4]? = some b ∧ (wkL S a b c)[5]? = some c := ⟨rfl, rfl, rfl, rfl, rfl, rfl⟩
theorem smg {S : MB} {k : Nat} : (smL S k)[0]? = some (.int .i64 (S.sv k)) ∧ (smL S k)[1]? = some (.int .i64 (S.sh k)) ∧ (smL S k)[2]? = some (.bool (S.sd k)) := ⟨rfl, rfl, rfl⟩
theorem vag {S : MB} {k : Nat} : (vaL S k)[0]? = some (.int .i64 (S.nlo k)) ∧ (vaL S k)[1]? = some (.int .i64 (S.nhi k)) ∧ (vaL S k)[2]? = some (.int .i64 (S.ve k)) ∧ (vaL S k)[3]? = some (.int .i64 (S.vl k)) := ⟨rfl, rfl, rfl, rfl⟩
def VatOk (S : MB) : Prop := ∀ i, i < S.nv → (0 ≤ S.nlo i ∧ S.nlo i ≤ S.nhi i ∧ S.nhi i ≤ 9) ∧ (0 ≤ S.ve i ∧ S.ve i ≤ 20) ∧ 0 ≤ S.vl i ∧ S.vl i ≤ 20
def SampOk (S : MB) : Prop := ∀ i, i < S.ns → (0 ≤ S.sv i ∧ S.sv i ≤ (S.nv : Int) - 1) ∧ 0 ≤ S.sh i ∧ S.sh i ≤ S.last
def HeadOk (S : MB) : Prop := 0 ≤ S.last ∧ 0 ≤ S.slo ∧ S.slo ≤ S.shi ∧ S.shi ≤ 4
def LimOk (S : MB) : Prop := S.last ≤ 9 ∧ S.nv ≤ 3 ∧ S.ns ≤ 5
structure ArgsOk (S : MB) : Prop where
  head : HeadOk S
  vat : VatOk S
  samp : SampOk S
def numU (S : MB) : Nat := S.nv + 1
def uLo (S : MB) (i : Nat) : Int := if i = 0 then S.slo else S.nlo (i - 1)
def uHi (S : MB) (i : Nat) : Int := if i = 0 then S.shi else S.nhi (i - 1)
def manyS (S : MB) : Int := sizeN (uLo S) (uHi S) (numU S)
open Classical in
noncomputable def faultS (S : MB) : Int := if ¬ LimOk S then 3 else if ¬ ArgsOk S then 1 else if 200 < manyS S then 3 else 0
structure Good (S : MB) : Prop where
  lim : LimOk S
  args : ArgsOk S
  few : manyS S ≤ 200
theorem good_of {S : MB} (hf : faultS S = 0) : Good S := by
  unfold faultS at hf
  by_cases h1 : LimOk S
  · rw [if_neg (by simpa using h1)] at hf
    by_cases h2 : ArgsOk S
    · rw [if_neg (by simpa using h2)] at hf
      by_cases h3 : 200 < manyS S
      · rw [if_pos h3] at hf; omega
      · exact ⟨h1, h2, by omega⟩
    · rw [if_pos h2] at hf; omega
  · rw [if_pos h1] at hf; omega
theorem fault_of {S : MB} (hG : Good S) : faultS S = 0 := by
  unfold faultS
  have := hG.few
  rw [if_neg (by simpa using hG.lim), if_neg (by simpa using hG.args), if_neg (by omega)]
theorem Good.sizes {S : MB} (hG : Good S) : 0 ≤ S.last ∧ S.last ≤ 9 ∧ S.nv ≤ 3 ∧ S.ns ≤ 5 ∧ 0 ≤ S.slo ∧ S.slo ≤ S.shi ∧ S.shi ≤ 4 := by
  obtain ⟨a1, a2, a3⟩ := hG.lim
  obtain ⟨b1, b2, b3, b4⟩ := hG.args.head
  omega
theorem ArgsOk.u {S : MB} (hA : ArgsOk S) : ∀ i, i < numU S → 0 ≤ uLo S i ∧ uLo S i ≤ uHi S i ∧ uHi S i ≤ 9 := fun i hi => by
  unfold numU at hi
  simp only [uLo, uHi]
  obtain ⟨b1, b2, b3, b4⟩ := hA.head
  by_cases c1 : i = 0
  · rw [if_pos c1, if_pos c1]; omega
  · rw [if_neg c1, if_neg c1]
    exact (hA.vat (i - 1) (by omega)).1
theorem Good.u {S : MB} (hG : Good S) : ∀ i, i < numU S → 0 ≤ uLo S i ∧ uLo S i ≤ uHi S i ∧ uHi S i ≤ 9 := hG.args.u
theorem uLo_succ {S : MB} {i : Nat} : uLo S (i + 1) = S.nlo i := by simp [uLo]
theorem uHi_succ {S : MB} {i : Nat} : uHi S (i + 1) = S.nhi i := by simp [uHi]
theorem uLo_zero {S : MB} : uLo S 0 = S.slo := rfl
theorem uHi_zero {S : MB} : uHi S 0 = S.shi := rfl
theorem size_bound {S : MB} (hA : ArgsOk S) (hl : S.nv ≤ 3) : ∀ i, i ≤ numU S → 1 ≤ sizeN (uLo S) (uHi S) i ∧ sizeN (uLo S) (uHi S) i ≤ 10000 := fun i hi => by
  unfold numU at hi
  refine ⟨sizeN_pos i fun k hk => (hA.u k (by unfold numU; omega)).2.1, ?_⟩
  have h1 := sizeN_le (lo := uLo S) (hi := uHi S) (B := 10) (by omega) i fun k hk => by have := hA.u k (by unfold numU; omega); omega
  have : (10 : Int) ^ i ≤ 10 ^ 4 := by
    have : i = 0 ∨ i = 1 ∨ i = 2 ∨ i = 3 ∨ i = 4 := by omega
    rcases this with rfl | rfl | rfl | rfl | rfl <;> decide
  omega
def whenS (u : Nat → Int) (v : Nat) : Int := u 0 + u (v + 1)
def RightS (S : MB) (u : Nat → Int) (k : Nat) : Prop := decide (whenS u (S.sv k).toNat ≤ S.sh k) = S.sd k
noncomputable instance (S : MB) (u : Nat → Int) (k : Nat) : Decidable (RightS S u k) := Classical.propDecidable _
def InU (S : MB) (u : Nat → Int) : Prop := ∀ i, i < numU S → uLo S i ≤ u i ∧ u i ≤ uHi S i
noncomputable def truthsS (S : MB) : List (Nat → Int) := open Classical in (enumB (uLo S) (uHi S) (numU S) 0 fun _ => 0).filter fun u => decide (∀ k, k < S.ns → RightS S u k)
theorem InU.sun {S : MB} {u : Nat → Int} (hG : Good S) (hu : InU S u) : 0 ≤ u 0 ∧ u 0 ≤ 4 := by
  obtain ⟨h1, h2⟩ := hu 0 (by unfold numU; omega)
  obtain ⟨_, _, _, _, h3, h4, h5⟩ := hG.sizes
  rw [uLo_zero] at h1
  rw [uHi_zero] at h2
  omega
theorem InU.need {S : MB} {u : Nat → Int} (hG : Good S) (hu : InU S u) {v : Nat} (hv : v < S.nv) : 0 ≤ u (v + 1) ∧ u (v + 1) ≤ 9 := by
  obtain ⟨h1, h2⟩ := hu (v + 1) (by unfold numU; omega)
  obtain ⟨h3, h4, h5⟩ := hG.u (v + 1) (by unfold numU; omega)
  omega
theorem when_bound {S : MB} {u : Nat → Int} (hG : Good S) (hu : InU S u) {v : Nat} (hv : v < S.nv) : 0 ≤ whenS u v ∧ whenS u v ≤ 13 := by
  have h1 := hu.sun hG
  have h2 := hu.need hG hv
  unfold whenS
  omega
theorem Good.samp {S : MB} (hG : Good S) {k : Nat} (hk : k < S.ns) : (S.sv k).toNat < S.nv ∧ ((S.sv k).toNat : Int) = S.sv k ∧ 0 ≤ S.sh k ∧ S.sh k ≤ S.last ∧ 0 ≤ S.sv k := by
  obtain ⟨⟨h1, h2⟩, h3, h4⟩ := hG.args.samp k hk
  omega
def lostS (S : MB) (v : Nat) (d e : Int) : Int := max 0 (d - e) * S.ve v + max 0 (e - d) * S.vl v
def lossTo (S : MB) (d e : Nat → Int) : Nat → Int
  | 0 => 0
  | m + 1 => lossTo S d e m + lostS S m (d m) (e m)
theorem lost_bound {S : MB} (hG : Good S) {v : Nat} (hv : v < S.nv) {d e : Int} (h1 : 0 ≤ d) (h2 : d ≤ 13) (h3 : 0 ≤ e) (h4 : e ≤ 9) : 0 ≤ lostS S v d e ∧ lostS S v d e ≤ 260 := by
  obtain ⟨_, ⟨a1, a2⟩, b1, b2⟩ := hG.args.vat v hv
  unfold lostS
  by_cases c : e ≤ d
  · rw [show max 0 (e - d) = 0 by omega, show max 0 (d - e) = d - e by omega, Int.zero_mul, Int.add_zero]
    refine ⟨Int.mul_nonneg (by omega) a1, ?_⟩
    have := Int.mul_le_mul (show d - e ≤ 13 by omega) a2 a1 (by omega)
    omega
  · rw [show max 0 (d - e) = 0 by omega, show max 0 (e - d) = e - d by omega, Int.zero_mul, Int.zero_add]
    refine ⟨Int.mul_nonneg (by omega) b1, ?_⟩
    have := Int.mul_le_mul (show e - d ≤ 9 by omega) b2 b1 (by omega)
    omega
theorem loss_bound {S : MB} (hG : Good S) {d e : Nat → Int} : ∀ m, m ≤ S.nv → (∀ v, v < m → (0 ≤ d v ∧ d v ≤ 13) ∧ 0 ≤ e v ∧ e v ≤ 9) → 0 ≤ lossTo S d e m ∧ lossTo S d e m ≤ 260 * m
  | 0, _, _ => by simp [lossTo]
  | m + 1, hm, h => by
    obtain ⟨h1, h2⟩ := loss_bound hG (d := d) (e := e) m (by omega) fun v hv => h v (by omega)
    obtain ⟨⟨h3, h4⟩, h5, h6⟩ := h m (by omega)
    obtain ⟨h7, h8⟩ := lost_bound hG (v := m) (by omega) h3 h4 h5 h6
    simp only [lossTo]
    omega
theorem loss_congr {S : MB} {d d' e e' : Nat → Int} : ∀ m, (∀ v, v < m → d v = d' v ∧ e v = e' v) → lossTo S d e m = lossTo S d' e' m
  | 0, _ => rfl
  | m + 1, h => by
    obtain ⟨h1, h2⟩ := h m (by omega)
    simp only [lossTo, loss_congr m fun v hv => h v (by omega), h1, h2]
def ThinS (S : MB) : Prop := S.nv ≤ 30 ∧ S.ns ≤ 30
end Go.Vm.Bt

namespace Go.Vm.Bt
open Go.Vm.Vat Go.Vm.L2
set_option linter.unusedSimpArgs false
set_option linter.unusedVariables false
set_option maxRecDepth 10000
theorem truths_mem {S : MB} {t : Nat → Int} : t ∈ truthsS S ↔ (InU S t ∧ ∀ j, numU S ≤ j → t j = 0) ∧ ∀ k, k < S.ns → RightS S t k := by
  unfold truthsS
  rw [List.mem_filter, enumB_ok, decide_eq_true_eq]
  constructor
  · rintro ⟨⟨h1, h2⟩, h3⟩
    exact ⟨⟨fun i hi => h1 i (by omega) (by omega), fun j hj => h2 j (by omega)⟩, h3⟩
  · rintro ⟨⟨h1, h2⟩, h3⟩
    exact ⟨⟨fun i _ hi => h1 i (by omega), fun j hj => h2 j (by omega)⟩, h3⟩
theorem enum_len {S : MB} (hG : Good S) : (enumB (uLo S) (uHi S) (numU S) 0 fun _ => 0).length ≤ 200 := by
  have h1 := enumB_len (lo := uLo S) (hi := uHi S) (numU S) 0 (fun _ => 0) fun k _ hk => (hG.u k (by omega)).2.1
  have h2 := sizeN_prod (lo := uLo S) (hi := uHi S) (numU S) 0
  simp only [Nat.zero_add, sizeN, Int.one_mul] at h2
  have h4 := hG.few
  unfold manyS at h4
  omega
def nthU (S : MB) (m : Nat) : Nat → Int := nthB (uLo S) (uHi S) (numU S) m
theorem nthU_in {S : MB} (hG : Good S) {m : Nat} : InU S (nthU S m) := fun i hi => by
  obtain ⟨h1, h2, h3⟩ := hG.u i hi
  have hm := Nat.mod_lt (divN (sz (uLo S) (uHi S)) m i) (show 0 < sz (uLo S) (uHi S) i by unfold sz; omega)
  unfold nthU nthB
  rw [if_pos hi]
  have : (sz (uLo S) (uHi S) i : Int) = uHi S i - uLo S i + 1 := Int.toNat_of_nonneg (by omega)
  omega
theorem nthU_out {S : MB} {m j : Nat} (hj : numU S ≤ j) : nthU S m j = 0 := by unfold nthU nthB; rw [if_neg (by omega)]
def doneS (S : MB) (u : Nat → Int) (j : Nat) : Int := if j < S.nv then whenS u j else 0
open Classical in
noncomputable def doneStep (S : MB) (s : List (Nat → Int)) (c : Nat → Int) : List (Nat → Int) × Bool := (if (∀ k, k < S.ns → RightS S c k) ∧ doneS S c ∉ s then s ++ [doneS S c] else s, true)
noncomputable def donesL (S : MB) : List (Nat → Int) := (runL (doneStep S) [] (enumB (uLo S) (uHi S) (numU S) 0 fun _ => 0)).1
theorem run_done {S : MB} : ∀ (l s : List (Nat → Int)), (runL (doneStep S) s l).2 = true ∧ (∀ d, d ∈ (runL (doneStep S) s l).1 ↔ d ∈ s ∨ ∃ u, u ∈ l ∧ (∀ k, k < S.ns → RightS S u k) ∧ d = doneS S u) ∧ (runL (doneStep S) s l).1.length ≤ s.length + l.length
  | [], s => by simp [runL]
  | x :: l, s => by
    simp only [runL]
    have h2 : (doneStep S s x).2 = true := rfl
    rw [if_pos h2]
    obtain ⟨a1, a2, a3⟩ := run_done (S := S) l (doneStep S s x).1
    have hm : ∀ d, d ∈ (doneStep S s x).1 ↔ d ∈ s ∨ (∀ k, k < S.ns → RightS S x k) ∧ d = doneS S x := fun d => by
      unfold doneStep
      by_cases c1 : ∀ k, k < S.ns → RightS S x k
      · by_cases c2 : doneS S x ∈ s
        · simp only [c2, not_true, and_false, if_false]
          constructor
          · exact .inl
          · rintro (h | ⟨_, rfl⟩)
            · exact h
            · exact c2
        · rw [if_pos ⟨c1, c2⟩]
          simp only [List.mem_append, List.mem_singleton]
          constructor
          · rintro (h | h)
            · exact .inl h
            · exact .inr ⟨c1, h⟩
          · rintro (h | ⟨_, h⟩)
            · exact .inl h
            · exact .inr h
      · rw [if_neg fun h => c1 h.1]
        constructor
        · exact .inl
        · rintro (h | ⟨h, _⟩)
          · exact h
          · exact absurd h c1
    refine ⟨a1, fun d => ?_, ?_⟩
    · rw [a2, hm]
      constructor
      · rintro ((h | ⟨h, e⟩) | ⟨u, hu, h, e⟩)
        · exact .inl h
        · exact .inr ⟨x, List.mem_cons_self, h, e⟩
        · exact .inr ⟨u, List.mem_cons_of_mem _ hu, h, e⟩
      · rintro (h | ⟨u, hu, h, e⟩)
        · exact .inl (.inl h)
        · rcases List.mem_cons.1 hu with rfl | hu
          · exact .inl (.inr ⟨h, e⟩)
          · exact .inr ⟨u, hu, h, e⟩
    · have : (doneStep S s x).1.length ≤ s.length + 1 := by
        unfold doneStep
        split
        · simp
        · simp
      simp only [List.length_cons]
      omega
theorem dones_mem {S : MB} {d : Nat → Int} : d ∈ donesL S ↔ ∃ u, u ∈ truthsS S ∧ d = doneS S u := by
  unfold donesL
  rw [(run_done _ _).2.1]
  simp only [List.not_mem_nil, false_or]
  constructor
  · rintro ⟨u, hu, h, e⟩
    refine ⟨u, ?_, e⟩
    unfold truthsS
    rw [List.mem_filter]
    exact ⟨hu, by simpa using h⟩
  · rintro ⟨u, hu, e⟩
    unfold truthsS at hu
    rw [List.mem_filter] at hu
    exact ⟨u, hu.1, by simpa using hu.2, e⟩
theorem dones_len {S : MB} (hG : Good S) : (donesL S).length ≤ 200 := by
  have h1 := (run_done (S := S) (enumB (uLo S) (uHi S) (numU S) 0 fun _ => 0) []).2.2
  have h2 := enum_len hG
  unfold donesL
  simp only [List.length_nil] at h1
  omega
theorem dones_nil {S : MB} : donesL S = [] ↔ truthsS S = [] := by
  rw [List.eq_nil_iff_forall_not_mem, List.eq_nil_iff_forall_not_mem]
  constructor
  · intro h u hu
    exact h _ (dones_mem.2 ⟨u, hu, rfl⟩)
  · intro h d hd
    obtain ⟨u, hu, _⟩ := dones_mem.1 hd
    exact h u hu
theorem lo_same {f g : (Nat → Int) → Int} {L M : List (Nat → Int)} (hL : L ≠ []) (hM : M ≠ []) (h1 : ∀ t, t ∈ L → ∃ u, u ∈ M ∧ f t = g u) (h2 : ∀ u, u ∈ M → ∃ t, t ∈ L ∧ f t = g u) : loN f L = loN g M := by
  refine int_ext fun c => ?_
  rw [le_loN hL, le_loN hM]
  constructor
  · intro h u hu
    obtain ⟨t, ht, e⟩ := h2 u hu
    rw [← e]; exact h t ht
  · intro h t ht
    obtain ⟨u, hu, e⟩ := h1 t ht
    rw [e]; exact h u hu
theorem hi_same {f g : (Nat → Int) → Int} {L M : List (Nat → Int)} (hL : L ≠ []) (hM : M ≠ []) (h1 : ∀ t, t ∈ L → ∃ u, u ∈ M ∧ f t = g u) (h2 : ∀ u, u ∈ M → ∃ t, t ∈ L ∧ f t = g u) : hiN f L = hiN g M := by
  refine int_ext' fun c => ?_
  rw [hiN_le hL, hiN_le hM]
  constructor
  · intro h u hu
    obtain ⟨t, ht, e⟩ := h2 u hu
    rw [← e]; exact h t ht
  · intro h t ht
    obtain ⟨u, hu, e⟩ := h1 t ht
    rw [e]; exact h u hu
noncomputable def bLo (S : MB) (v : Nat) : Int := loN (fun u => whenS u v) (truthsS S)
noncomputable def bHi (S : MB) (v : Nat) : Int := hiN (fun u => whenS u v) (truthsS S)
noncomputable def wLo (S : MB) (e : Nat → Int) (m : Nat) : Int := loN (fun u => lossTo S (whenS u) e m) (truthsS S)
noncomputable def wHi (S : MB) (e : Nat → Int) (m : Nat) : Int := hiN (fun u => lossTo S (whenS u) e m) (truthsS S)
section
variable {S : MB}
theorem same_truths {f g : (Nat → Int) → Int} (he : ∀ u, u ∈ truthsS S → f (doneS S u) = g u) : (∀ t, t ∈ donesL S → ∃ u, u ∈ truthsS S ∧ f t = g u) ∧ ∀ u, u ∈ truthsS S → ∃ t, t ∈ donesL S ∧ f t = g u := by
  constructor
  · intro t ht
    obtain ⟨u, hu, rfl⟩ := dones_mem.1 ht
    exact ⟨u, hu, he u hu⟩
  · intro u hu
    exact ⟨_, dones_mem.2 ⟨u, hu, rfl⟩, he u hu⟩
theorem bLo_dones (hT : truthsS S ≠ []) {v : Nat} (hv : v < S.nv) : loN (fun d => d v) (donesL S) = bLo S v := by
  obtain ⟨h1, h2⟩ := same_truths (S := S) (f := fun d => d v) (g := fun u => whenS u v) fun u _ => by simp [doneS, hv]
  exact lo_same (fun e => hT (dones_nil.1 e)) hT h1 h2
theorem bHi_dones (hT : truthsS S ≠ []) {v : Nat} (hv : v < S.nv) : hiN (fun d => d v) (donesL S) = bHi S v := by
  obtain ⟨h1, h2⟩ := same_truths (S := S) (f := fun d => d v) (g := fun u => whenS u v) fun u _ => by simp [doneS, hv]
  exact hi_same (fun e => hT (dones_nil.1 e)) hT h1 h2
theorem loss_done {u e : Nat → Int} {m : Nat} (hm : m ≤ S.nv) : lossTo S (doneS S u) e m = lossTo S (whenS u) e m := loss_congr m fun v hv => ⟨by simp [doneS, show v < S.nv by omega], rfl⟩
theorem wLo_dones (hT : truthsS S ≠ []) {e : Nat → Int} {m : Nat} (hm : m ≤ S.nv) : loN (fun d => lossTo S d e m) (donesL S) = wLo S e m := by
  obtain ⟨h1, h2⟩ := same_truths (S := S) (f := fun d => lossTo S d e m) (g := fun u => lossTo S (whenS u) e m) fun u _ => loss_done hm
  exact lo_same (fun e => hT (dones_nil.1 e)) hT h1 h2
theorem wHi_dones (hT : truthsS S ≠ []) {e : Nat → Int} {m : Nat} (hm : m ≤ S.nv) : hiN (fun d => lossTo S d e m) (donesL S) = wHi S e m := by
  obtain ⟨h1, h2⟩ := same_truths (S := S) (f := fun d => lossTo S d e m) (g := fun u => lossTo S (whenS u) e m) fun u _ => loss_done hm
  exact hi_same (fun e => hT (dones_nil.1 e)) hT h1 h2
theorem wHi_le (hT : truthsS S ≠ []) {e : Nat → Int} {m : Nat} {c : Int} : wHi S e m ≤ c ↔ ∀ u, u ∈ truthsS S → lossTo S (whenS u) e m ≤ c := hiN_le hT
theorem wHi_congr (hT : truthsS S ≠ []) {e e' : Nat → Int} {m : Nat} (he : ∀ v, v < m → e v = e' v) : wHi S e m = wHi S e' m := by
  refine int_ext' fun c => ?_
  rw [wHi_le hT, wHi_le hT]
  constructor <;> intro h u hu
  · rw [← loss_congr m fun v hv => ⟨rfl, he v hv⟩]; exact h u hu
  · rw [loss_congr m fun v hv => ⟨rfl, he v hv⟩]; exact h u hu
end
def EndsOk (S : MB) (m : Nat) (e : Nat → Int) : Prop := (∀ v, v < m → 0 ≤ e v ∧ e v ≤ S.last) ∧ ∀ v, m ≤ v → e v = 0
def allEnds (S : MB) : List (Nat → Int) := enumB (fun _ => 0) (fun _ => S.last) S.nv 0 fun _ => 0
theorem allEnds_mem {S : MB} {e : Nat → Int} : e ∈ allEnds S ↔ EndsOk S S.nv e := by
  unfold allEnds EndsOk
  rw [enumB_ok]
  constructor
  · rintro ⟨h1, h2⟩
    exact ⟨fun v hv => h1 v (by omega) (by omega), fun v hv => h2 v (by omega)⟩
  · rintro ⟨h1, h2⟩
    exact ⟨fun v _ hv => h1 v (by omega), fun v hv => h2 v (by omega)⟩
section
variable {S : MB} {u : Nat → Int}
theorem truth_in (hu : u ∈ truthsS S) : InU S u := (truths_mem.1 hu).1.1
theorem loss_step (hG : Good S) (hu : u ∈ truthsS S) {e : Nat → Int} {m k : Nat} (hm : m < S.nv) (he : EndsOk S k e) : lossTo S (whenS u) e m ≤ lossTo S (whenS u) e (m + 1) := by
  obtain ⟨_, z1, z2, _⟩ := hG.sizes
  have h0 : 0 ≤ e m ∧ e m ≤ 9 := by
    by_cases c : m < k
    · have := he.1 m c; omega
    · rw [he.2 m (by omega)]; omega
  have h1 := when_bound hG (truth_in hu) hm
  have := (lost_bound hG hm h1.1 h1.2 h0.1 h0.2).1
  simp only [lossTo]
  omega
theorem loss_mono (hG : Good S) (hu : u ∈ truthsS S) {e : Nat → Int} {k : Nat} (he : EndsOk S k e) {m : Nat} : ∀ j, m + j ≤ S.nv → lossTo S (whenS u) e m ≤ lossTo S (whenS u) e (m + j)
  | 0, _ => Int.le_refl _
  | j + 1, hj => Int.le_trans (loss_mono hG hu he (m := m) j (by omega)) (loss_step hG hu (m := m + j) (by omega) he)
theorem wHi_mono (hG : Good S) (hT : truthsS S ≠ []) {e : Nat → Int} {k m m' : Nat} (he : EndsOk S k e) (h1 : m ≤ m') (h2 : m' ≤ S.nv) : wHi S e m ≤ wHi S e m' := by
  rw [wHi_le hT]
  intro u hu
  have := loss_mono hG hu he (m := m) (m' - m) (by omega)
  rw [show m + (m' - m) = m' by omega] at this
  exact Int.le_trans this ((wHi_le hT).1 (Int.le_refl _) u hu)
end
noncomputable def bestStep (S : MB) (s : (Nat → Int) × Int) (e : Nat → Int) : ((Nat → Int) × Int) × Bool := (if wHi S e S.nv < s.2 then (e, wHi S e S.nv) else s, true)
theorem best_run {W : (Nat → Int) → Int} : ∀ (L : List (Nat → Int)) (s : (Nat → Int) × Int), (runL (fun (s : (Nat → Int) × Int) e => ((if W e < s.2 then (e, W e) else s), true)) s L).2 = true
  | [], s => rfl
  | x :: l, s => by simp only [runL, if_true]; exact best_run l _
theorem bestRun_go {S : MB} (L : List (Nat → Int)) (s : (Nat → Int) × Int) : (runL (bestStep S) s L).2 = true := best_run (W := fun e => wHi S e S.nv) L s
theorem best_skip {S : MB} : ∀ (L : List (Nat → Int)) (s : (Nat → Int) × Int), (∀ e, e ∈ L → s.2 ≤ wHi S e S.nv) → runL (bestStep S) s L = (s, true)
  | [], s, _ => rfl
  | x :: l, s, h => by
    have hx := h x List.mem_cons_self
    have e : (bestStep S s x).1 = s := by unfold bestStep; simp only; rw [if_neg (by omega)]
    simp only [runL]
    rw [if_pos (show (bestStep S s x).2 = true from rfl), e]
    exact best_skip l s fun e he => h e (List.mem_cons_of_mem _ he)
noncomputable def bestS (S : MB) : (Nat → Int) × Int := (runL (bestStep S) ((fun _ => 0), wHi S (fun _ => 0) S.nv) (allEnds S)).1
theorem best_spec {S : MB} : ∀ (L : List (Nat → Int)) (s : (Nat → Int) × Int), (L.Pairwise fun a b => LexLt a b S.nv) → s.2 = wHi S s.1 S.nv → (∀ e, e ∈ L → LexLt s.1 e S.nv ∨ s.1 = e) →
    let r := (runL (bestStep S) s L).1
    r.2 = wHi S r.1 S.nv ∧ (r.1 = s.1 ∨ r.1 ∈ L) ∧ r.2 ≤ s.2 ∧ (∀ e, e ∈ L → r.2 < wHi S e S.nv ∨ r.2 = wHi S e S.nv ∧ (LexLt r.1 e S.nv ∨ r.1 = e)) ∧ (LexLt s.1 r.1 S.nv ∧ r.2 < s.2 ∨ r = s)
  | [], s, _, h2, _ => by simp [runL, h2]
  | x :: l, s, hp, h2, h3 => by
    rw [List.pairwise_cons] at hp
    have hgo : (bestStep S s x).2 = true := rfl
    simp only [runL]
    rw [if_pos hgo]
    by_cases c : wHi S x S.nv < s.2
    · have e1 : (bestStep S s x).1 = (x, wHi S x S.nv) := by unfold bestStep; simp only; rw [if_pos c]
      rw [e1]
      have ih := best_spec (S := S) l (x, wHi S x S.nv) hp.2 rfl fun e he => .inl (hp.1 e he)
      obtain ⟨a1, a2, a3, a4, a5⟩ := ih
      have a3' : ((runL (bestStep S) (x, wHi S x S.nv) l).1).2 ≤ wHi S x S.nv := a3
      have hsx : LexLt s.1 x S.nv := by
        rcases h3 x List.mem_cons_self with h | h
        · exact h
        · rw [← h, ← h2] at c; omega
      refine ⟨a1, ?_, by omega, ?_, .inl ⟨?_, by omega⟩⟩
      · rcases a2 with h | h
        · exact .inr (by rw [h]; exact List.mem_cons_self)
        · exact .inr (List.mem_cons_of_mem _ h)
      · intro e he
        rcases List.mem_cons.1 he with rfl | he
        · rcases a5 with ⟨h4, h5⟩ | h4
          · exact .inl h5
          · rw [h4]; exact .inr ⟨rfl, .inr rfl⟩
        · exact a4 e he
      · rcases a5 with ⟨h4, h5⟩ | h4
        · exact lex_trans hsx h4
        · rw [h4]; exact hsx
    · have e1 : (bestStep S s x).1 = s := by unfold bestStep; simp only; rw [if_neg c]
      rw [e1]
      obtain ⟨a1, a2, a3, a4, a5⟩ := best_spec (S := S) l s hp.2 h2 fun e he => h3 e (List.mem_cons_of_mem _ he)
      refine ⟨a1, ?_, a3, ?_, a5⟩
      · rcases a2 with h | h
        · exact .inl h
        · exact .inr (List.mem_cons_of_mem _ h)
      · intro e he
        rcases List.mem_cons.1 he with rfl | he
        · rcases a5 with ⟨h4, h5⟩ | h4
          · exact .inl (by omega)
          · rw [h4]
            by_cases c2 : s.2 < wHi S e S.nv
            · exact .inl c2
            · exact .inr ⟨by omega, h3 e List.mem_cons_self⟩
        · exact a4 e he
theorem enumB_sorted {lo hi : Nat → Int} : ∀ (d i : Nat) (c : Nat → Int), (enumB lo hi d i c).Pairwise fun a b => LexLt a b (i + d)
  | 0, i, c => by simp [enumB]
  | d + 1, i, c => by
    simp only [enumB]
    generalize hm : (hi i - lo i + 1).toNat = m
    clear hm
    induction m with
    | zero => simp
    | succ m ih =>
      rw [List.range_succ, List.flatMap_append, List.pairwise_append]
      refine ⟨ih, ?_, ?_⟩
      · simp only [List.flatMap_cons, List.flatMap_nil, List.append_nil]
        have := enumB_sorted (lo := lo) (hi := hi) d (i + 1) fun j => if j = i then lo i + (m : Int) else c j
        rw [show i + 1 + d = i + (d + 1) by omega] at this
        exact this
      · intro a ha b hb
        simp only [List.mem_flatMap, List.mem_range] at ha
        obtain ⟨k, hk, ha⟩ := ha
        simp only [List.flatMap_cons, List.flatMap_nil, List.append_nil] at hb
        rw [enumB_ok] at ha hb
        refine ⟨i, by omega, fun j hj => ?_, ?_⟩
        · rw [ha.2 j (by omega), hb.2 j (by omega), if_neg (by omega), if_neg (by omega)]
        · rw [ha.2 i (by omega), hb.2 i (by omega), if_pos rfl, if_pos rfl]; omega
theorem best_is {S : MB} (hG : Good S) (hT : truthsS S ≠ []) : EndsOk S S.nv (bestS S).1 ∧ (bestS S).2 = wHi S (bestS S).1 S.nv ∧ ∀ e, EndsOk S S.nv e → (bestS S).2 < wHi S e S.nv ∨ (bestS S).2 = wHi S e S.nv ∧ (LexLt (bestS S).1 e S.nv ∨ (bestS S).1 = e) := by
  obtain ⟨z0, _⟩ := hG.sizes
  have hs := enumB_sorted (lo := fun _ => 0) (hi := fun _ => S.last) S.nv 0 fun _ => 0
  rw [Nat.zero_add] at hs
  have h0 : ∀ e, e ∈ allEnds S → LexLt (fun _ => (0 : Int)) e S.nv ∨ (fun _ => (0 : Int)) = e := fun e he => by
    obtain ⟨h1, h2⟩ := allEnds_mem.1 he
    by_cases c : ∃ j, j < S.nv ∧ e j ≠ 0
    · have : ∃ j, j < S.nv ∧ e j ≠ 0 ∧ ∀ i, i < j → e i = 0 := by
        obtain ⟨j, hj, hne⟩ := c
        induction j using Nat.strongRecOn with
        | _ j ih =>
          by_cases c2 : ∃ i, i < j ∧ e i ≠ 0
          · obtain ⟨i, hi, hi2⟩ := c2
            exact ih i hi (by omega) hi2
          · exact ⟨j, hj, hne, fun i hi => Classical.byContradiction fun hc => c2 ⟨i, hi, hc⟩⟩
      obtain ⟨j, hj, hne, hlt⟩ := this
      have := h1 j hj
      exact .inl ⟨j, hj, fun i hi => (hlt i hi).symm, by show (0 : Int) < e j; omega⟩
    · refine .inr (funext fun j => ?_)
      by_cases hj : j < S.nv
      · exact (Classical.byContradiction fun hc => c ⟨j, hj, fun h => hc h.symm⟩)
      · exact (h2 j (by omega)).symm
  obtain ⟨a1, a2, a3, a4, _⟩ := best_spec (S := S) (allEnds S) ((fun _ => 0), wHi S (fun _ => 0) S.nv) hs rfl h0
  have hz : EndsOk S S.nv fun _ => 0 := ⟨fun v _ => ⟨Int.le_refl _, z0⟩, fun _ _ => rfl⟩
  refine ⟨?_, a1, fun e he => a4 e (allEnds_mem.2 he)⟩
  rcases a2 with h | h
  · rw [show (bestS S).1 = fun _ => 0 from h]; exact hz
  · exact allEnds_mem.1 h
theorem best_le {S : MB} (hG : Good S) (hT : truthsS S ≠ []) {e : Nat → Int} (he : EndsOk S S.nv e) : (bestS S).2 ≤ wHi S e S.nv := by
  rcases (best_is hG hT).2.2 e he with h | ⟨h, _⟩ <;> omega
end Go.Vm.Bt

namespace Go.Vm.Bt
open Go.Proofs Go.Vm.Vat Go.Vm.L2
set_option linter.unusedSimpArgs false
set_option linter.unusedVariables false
set_option maxRecDepth 10000
noncomputable def A (f : Nat) : Bool := inL [39, 94, 108, 45, 70, 33, 34, 66, 85, 75, 32, 43, 40, 35, 95, 46, 99, 52, 68, 76, 106, 57, 23, 30, 42, 63, 50, 107, 61, 72, 73, 113, 109, 117, 89, 90, 115, 116, 114, 111, 110, 118, 79, 78, 80, 112, 82, 84, 83, 31, 81, 124, 122, 123, 125, 134, 87, 93, 133, 138, 121, 29, 37, 44, 48, 51, 53, 119, 88, 92, 102, 103, 104, 130, 105, 128, 137, 98] f
def K (f : Nat) : Option Value := if f = 24 then some (.bool true) else none
noncomputable abbrev call (n : Nat) : CallF := pcall Try.prog A K n
variable {n : Nat} {h : AHeap}
theorem awake_c (hn : 1 ≤ n) : call n (.func (.func 24) #[] #[]) [] h = some (.bool true, h) := by
  obtain ⟨n, rfl⟩ : ∃ p, n = p + 1 := ⟨n - 1, by omega⟩
  exact call_known (by simp [K])
def s39 : SCode := (.seq (.ops [⟨(some 6), none, .mov (.const (.bool false))⟩]) (.seq (.ops [⟨(some 7), none, .mov (T 0)⟩, ⟨(some 8), none, .mov (T 1)⟩, ⟨(some 9), none, .int2 .geq (T 7) (T 8)⟩, ⟨(some 10), none, .mov (T 9)⟩, ⟨(some 11), (some (10, true)), .mov (T 0)⟩, ⟨(some 12), (some (10, true)), .mov (T 2)⟩, ⟨(some 13), (some (10, true)), .int2 .leq (T 11) (T 12)⟩, ⟨(some 14), none, .pick (T 10) (T 13) (.const (.bool false))⟩, ⟨(some 6), none, .mov (T 14)⟩]) .ret))
theorem fok39 : FnOk Try.prog 39 15 s39 [.tmp 6] := ⟨Try.f39, _, Try.func39, rfl, Try.ntmps39, by kernel_rfl, by kernel_rfl⟩
theorem in_c (hn : 1 ≤ n) (a lo hi : Int) : call n (.func (.func 39) #[] #[]) [.int .i64 a, .int .i64 lo, .int .i64 hi] h = some (.bool (decide (lo ≤ a ∧ a ≤ hi)), h) := by
  obtain ⟨n, rfl⟩ : ∃ p, n = p + 1 := ⟨n - 1, by omega⟩
  refine call_plain0 fok39 rfl rfl (by simp) rfl ?_
  by_cases h1 : lo ≤ a <;> by_cases h2 : a ≤ hi <;> simp only [rn0, rn1, rn2, rn3, rn4, rn5, rn6, rn7, rn8, if_true, if_false, Nat.le_refl, true_and, and_true, decide_true, decide_false, Bool.not_true, Bool.not_false, reduceIte, Nat.reduceEqDiff, Nat.reduceAdd, Nat.reduceMul, Nat.reduceSub, Nat.reduceLeDiff, Nat.reduceLT, s39, h1, h2, and_self, and_false, false_and]
def s94 : SCode := (.seq (.ops [⟨(some 2), none, .box (T 0)⟩, ⟨(some 4), none, .mov (.const (.bool false))⟩]) (.seq (.ops [⟨(some 5), none, .fieldAddr 0 (T 2)⟩, ⟨(some 6), none, .load1 (T 5)⟩, ⟨(some 7), none, .int2 .geq (T 6) (.const (.int .i64 (0)))⟩, ⟨(some 8), none, .mov (T 7)⟩, ⟨(some 9), (some (8, true)), .fieldAddr 0 (T 2)⟩, ⟨(some 10), (some (8, true)), .load1 (T 9)⟩, ⟨(some 11), (some (8, true)), .fieldAddr 1 (T 2)⟩, ⟨(some 12), (some (8, true)), .load1 (T 11)⟩, ⟨(some 13), (some (8, true)), .int2 .leq (T 10) (T 12)⟩, ⟨(some 14), none, .pick (T 8) (T 13) (.const (.bool false))⟩, ⟨(some 15), none, .mov (T 14)⟩, ⟨(some 16), (some (15, true)), .fieldAddr 1 (T 2)⟩, ⟨(some 17), (some (15, true)), .load1 (T 16)⟩, ⟨(some 18), (some (15, true)), .mov (T 1)⟩, ⟨(some 19), (some (15, true)), .int2 .leq (T 17) (T 18)⟩, ⟨(some 20), none, .pick (T 15) (T 19) (.const (.bool false))⟩, ⟨(some 4), none, .mov (T 20)⟩]) .ret))
theorem fok94 : FnOk Try.prog 94 21 s94 [.tmp 4] := ⟨Try.f94, _, Try.func94, rfl, Try.ntmps94, by kernel_rfl, by kernel_rfl⟩
theorem is_c (hn : 2 ≤ n) (hr : h.next < far) (lo hi m : Int) : call n (.func (.func 94) #[] #[]) [.agg ⟨[.int .i64 lo, .int .i64 hi]⟩, .int .i64 m] h = some (.bool (decide (0 ≤ lo ∧ lo ≤ hi ∧ hi ≤ m)), h) := by
  obtain ⟨n, rfl⟩ : ∃ p, n = p + 1 := ⟨n - 1, by omega⟩
  refine call_plain0 fok94 rfl rfl (by simp) rfl ?_
  simp only [s94, W_seq, W_ops]
  refine ops_box (cs := [.int .i64 lo, .int .i64 hi]) (by exact hr) rfl rfl fun h1 hb => ?_
  by_cases c1 : 0 ≤ lo <;> by_cases c2 : lo ≤ hi <;> by_cases c3 : hi ≤ m <;> simp only [rn0, rn1, rn2, rn3, rn4, rn5, rn6, rn7, rn8, if_true, if_false, Nat.le_refl, true_and, and_true, decide_true, decide_false, Bool.not_true, Bool.not_false, reduceIte, Nat.reduceEqDiff, Nat.reduceAdd, Nat.reduceMul, Nat.reduceSub, Nat.reduceLeDiff, Nat.reduceLT, hb.ld, Nat.zero_add, List.getElem?_cons_zero, List.getElem?_cons_succ, c1, c2, c3, and_self, and_false, false_and]
def s108 : SCode := (.seq (.ops [⟨(some 1), none, .box (T 0)⟩, ⟨(some 2), none, .mov (.const (.int .i64 (0)))⟩]) (.seq (.ops [⟨(some 3), none, .fieldAddr 1 (T 1)⟩, ⟨(some 4), none, .load1 (T 3)⟩, ⟨(some 5), none, .fieldAddr 0 (T 1)⟩, ⟨(some 6), none, .load1 (T 5)⟩, ⟨(some 7), none, .int2 .sub (T 4) (T 6)⟩, ⟨(some 8), none, .int2 .add (T 7) (.const (.int .i64 (1)))⟩, ⟨(some 2), none, .mov (T 8)⟩]) .ret))
theorem fok108 : FnOk Try.prog 108 9 s108 [.tmp 2] := ⟨Try.f108, _, Try.func108, rfl, Try.ntmps108, by kernel_rfl, by kernel_rfl⟩
theorem size_c (hn : 1 ≤ n) (hr : h.next < far) (lo hi : Int) : call n (.func (.func 108) #[] #[]) [.agg ⟨[.int .i64 lo, .int .i64 hi]⟩] h = some (.int .i64 (wrapF .i64 (wrapF .i64 (hi - lo) + 1)), h) := by
  obtain ⟨n, rfl⟩ : ∃ p, n = p + 1 := ⟨n - 1, by omega⟩
  refine call_plain0 fok108 rfl rfl (by simp) rfl ?_
  simp only [s108, W_seq, W_ops]
  refine ops_box (cs := [.int .i64 lo, .int .i64 hi]) (by exact hr) rfl rfl fun h1 hb => ?_
  simp only [rn0, rn1, rn2, rn3, rn4, rn5, rn6, rn7, rn8, if_true, if_false, Nat.le_refl, true_and, and_true, decide_true, decide_false, Bool.not_true, Bool.not_false, reduceIte, Nat.reduceEqDiff, Nat.reduceAdd, Nat.reduceMul, Nat.reduceSub, Nat.reduceLeDiff, Nat.reduceLT, hb.ld, Nat.zero_add, List.getElem?_cons_zero, List.getElem?_cons_succ]
theorem size_ok (hn : 1 ≤ n) (hr : h.next < far) {lo hi : Int} (h0 : 0 ≤ lo) (h1 : lo ≤ hi) (h2 : hi ≤ 99) : call n (.func (.func 108) #[] #[]) [.agg ⟨[.int .i64 lo, .int .i64 hi]⟩] h = some (.int .i64 (hi - lo + 1), h) := by
  rw [size_c hn hr, wrap_in (z := hi - lo) (by omega) (by omega), wrap_in (by omega) (by omega)]
theorem u3 : ∃ d, Try.prog.underlying 3 = some d := ⟨_, by rfl⟩
theorem u4 : Try.prog.underlying 4 = some .bool := Try.underlying4
def coL (x : Int) (cw : Value) : List Value := [.int .i64 x, cw]
theorem cog {x : Int} {a : Value} : (coL x a)[0]? = some (.int .i64 x) ∧ (coL x a)[1]? = some a := ⟨rfl, rfl⟩
theorem co_one {x : Int} {cw : Value} {s m : Nat} {c : Nat → Nat → Value} (hc : Cells h cw s m c) : allB oneCell (coL x cw) = true := by simp [coL, allB, one_int, Cells.one hc]
abbrev CouR (h : AHeap) (cw : Value) (S : MB) (u : Nat → Int) : Prop := Ints h cw S.nv fun v => u (v + 1)
def Listed (S : MB) (x : Int) (m : Nat) (a : Nat → Int) : Prop := (S.slo ≤ x ∧ x ≤ S.shi) ∧ m = S.nv ∧ ∀ i, i < m → S.nlo i ≤ a i ∧ a i ≤ S.nhi i
noncomputable instance (S : MB) (x : Int) (m : Nat) (a : Nat → Int) : Decidable (Listed S x m a) := Classical.propDecidable _
def Hours (S : MB) (m : Nat) (a : Nat → Int) : Prop := m = S.nv ∧ ∀ i, i < m → 0 ≤ a i ∧ a i ≤ S.last
noncomputable instance (S : MB) (m : Nat) (a : Nat → Int) : Decidable (Hours S m a) := Classical.propDecidable _
end Go.Vm.Bt

namespace Go.Vm.Bt
open Go.Proofs Go.Vm.Vat Go.Vm.L2
set_option linter.unusedSimpArgs false
set_option linter.unusedVariables false
set_option maxRecDepth 10000
variable {n : Nat} {h : AHeap}
def s113 : SCode := (.seq (.ops [⟨(some 2), none, .box (T 0)⟩, ⟨(some 4), none, .mov (.const (.bool false))⟩]) (.seq (.ops [⟨(some 5), none, .fieldAddr 0 (T 2)⟩, ⟨(some 6), none, .load1 (T 5)⟩, ⟨(some 7), none, .int2 .leq (.const (.int .i64 (0))) (T 6)⟩, ⟨(some 8), none, .mov (T 7)⟩, ⟨(some 9), (some (8, true)), .fieldAddr 0 (T 2)⟩, ⟨(some 10), (some (8, true)), .load1 (T 9)⟩, ⟨(some 11), (some (8, true)), .fieldAddr 1 (T 2)⟩, ⟨(some 12), (some (8, true)), .load1 (T 11)⟩, ⟨(some 13), (some (8, true)), .int2 .leq (T 10) (T 12)⟩, ⟨(some 14), none, .pick (T 8) (T 13) (.const (.bool false))⟩, ⟨(some 15), none, .mov (T 14)⟩, ⟨(some 16), (some (15, true)), .fieldAddr 1 (T 2)⟩, ⟨(some 17), (some (15, true)), .load1 (T 16)⟩, ⟨(some 18), (some (15, true)), .mov (T 1)⟩, ⟨(some 19), (some (15, true)), .int2 .leq (T 17) (T 18)⟩, ⟨(some 20), none, .pick (T 15) (T 19) (.const (.bool false))⟩, ⟨(some 4), none, .mov (T 20)⟩]) .ret))
theorem fok113 : FnOk Try.prog 113 21 s113 [.tmp 4] := ⟨Try.f113, _, Try.func113, rfl, Try.ntmps113, by kernel_rfl, by kernel_rfl⟩
theorem isUpTo_c (hn : 1 ≤ n) (hr : h.next < far) (lo hi m : Int) : call n (.func (.func 113) #[] #[]) [.agg ⟨[.int .i64 lo, .int .i64 hi]⟩, .int .i64 m] h = some (.bool (decide (0 ≤ lo ∧ lo ≤ hi ∧ hi ≤ m)), h) := by
  obtain ⟨n, rfl⟩ : ∃ p, n = p + 1 := ⟨n - 1, by omega⟩
  refine call_plain0 fok113 rfl rfl (by simp) rfl ?_
  simp only [s113, W_seq, W_ops]
  refine ops_box (cs := [.int .i64 lo, .int .i64 hi]) (by exact hr) rfl rfl fun h1 hb => ?_
  by_cases c1 : 0 ≤ lo <;> by_cases c2 : lo ≤ hi <;> by_cases c3 : hi ≤ m <;> simp only [rn0, rn1, rn2, rn3, rn4, rn5, rn6, rn7, rn8, if_true, if_false, Nat.le_refl, true_and, and_true, decide_true, decide_false, Bool.not_true, Bool.not_false, reduceIte, Nat.reduceEqDiff, Nat.reduceAdd, Nat.reduceMul, Nat.reduceSub, Nat.reduceLeDiff, Nat.reduceLT, hb.ld, Nat.zero_add, List.getElem?_cons_zero, List.getElem?_cons_succ, c1, c2, c3, and_self, and_false, false_and]
def s109 : SCode := (.seq (.ops [⟨(some 2), none, .box (T 0)⟩, ⟨(some 4), none, .mov (.const (.bool false))⟩]) (.seq (.ops [⟨(some 5), none, .fieldAddr 0 (T 2)⟩, ⟨(some 6), none, .load1 (T 5)⟩, ⟨(some 7), none, .mov (T 1)⟩, ⟨(some 8), none, .int2 .leq (T 6) (T 7)⟩, ⟨(some 9), none, .mov (T 8)⟩, ⟨(some 10), (some (9, true)), .mov (T 1)⟩, ⟨(some 11), (some (9, true)), .fieldAddr 1 (T 2)⟩, ⟨(some 12), (some (9, true)), .load1 (T 11)⟩, ⟨(some 13), (some (9, true)), .int2 .leq (T 10) (T 12)⟩, ⟨(some 14), none, .pick (T 9) (T 13) (.const (.bool false))⟩, ⟨(some 4), none, .mov (T 14)⟩]) .ret))
theorem fok109 : FnOk Try.prog 109 15 s109 [.tmp 4] := ⟨Try.f109, _, Try.func109, rfl, Try.ntmps109, by kernel_rfl, by kernel_rfl⟩
theorem has_c (hn : 1 ≤ n) (hr : h.next < far) (lo hi a : Int) : call n (.func (.func 109) #[] #[]) [.agg ⟨[.int .i64 lo, .int .i64 hi]⟩, .int .i64 a] h = some (.bool (decide (lo ≤ a ∧ a ≤ hi)), h) := by
  obtain ⟨n, rfl⟩ : ∃ p, n = p + 1 := ⟨n - 1, by omega⟩
  refine call_plain0 fok109 rfl rfl (by simp) rfl ?_
  simp only [s109, W_seq, W_ops]
  refine ops_box (cs := [.int .i64 lo, .int .i64 hi]) (by exact hr) rfl rfl fun h1 hb => ?_
  by_cases c1 : lo ≤ a <;> by_cases c2 : a ≤ hi <;> simp only [rn0, rn1, rn2, rn3, rn4, rn5, rn6, rn7, rn8, if_true, if_false, Nat.le_refl, true_and, and_true, decide_true, decide_false, Bool.not_true, Bool.not_false, reduceIte, Nat.reduceEqDiff, Nat.reduceAdd, Nat.reduceMul, Nat.reduceSub, Nat.reduceLeDiff, Nat.reduceLT, hb.ld, Nat.zero_add, List.getElem?_cons_zero, List.getElem?_cons_succ, c1, c2, and_self, and_false, false_and]
def s117 : SCode := (.seq (.ops [⟨(some 1), none, .box (T 0)⟩, ⟨(some 2), none, .mov (.const (.int .i64 (0)))⟩]) (.seq (.ops [⟨(some 3), none, .fieldAddr 1 (T 1)⟩, ⟨(some 4), none, .load1 (T 3)⟩, ⟨(some 5), none, .fieldAddr 0 (T 1)⟩, ⟨(some 6), none, .load1 (T 5)⟩, ⟨(some 7), none, .int2 .sub (T 4) (T 6)⟩, ⟨(some 8), none, .int2 .add (T 7) (.const (.int .i64 (1)))⟩, ⟨(some 2), none, .mov (T 8)⟩]) .ret))
theorem fok117 : FnOk Try.prog 117 9 s117 [.tmp 2] := ⟨Try.f117, _, Try.func117, rfl, Try.ntmps117, by kernel_rfl, by kernel_rfl⟩
theorem rsize_ok (hn : 1 ≤ n) (hr : h.next < far) {lo hi : Int} (h0 : 0 ≤ lo) (h1 : lo ≤ hi) (h2 : hi ≤ 99) : call n (.func (.func 117) #[] #[]) [.agg ⟨[.int .i64 lo, .int .i64 hi]⟩] h = some (.int .i64 (hi - lo + 1), h) := by
  obtain ⟨n, rfl⟩ : ∃ p, n = p + 1 := ⟨n - 1, by omega⟩
  refine call_plain0 fok117 rfl rfl (by simp) rfl ?_
  simp only [s117, W_seq, W_ops]
  refine ops_box (cs := [.int .i64 lo, .int .i64 hi]) (by exact hr) rfl rfl fun h1 hb => ?_
  have w1 : wrapF .i64 (hi - lo) = hi - lo := wrap_in (by omega) (by omega)
  have w2 : wrapF .i64 (hi - lo + 1) = hi - lo + 1 := wrap_in (by omega) (by omega)
  simp only [rn0, rn1, rn2, rn3, rn4, rn5, rn6, rn7, rn8, if_true, if_false, Nat.le_refl, true_and, and_true, decide_true, decide_false, Bool.not_true, Bool.not_false, reduceIte, Nat.reduceEqDiff, Nat.reduceAdd, Nat.reduceMul, Nat.reduceSub, Nat.reduceLeDiff, Nat.reduceLT, hb.ld, Nat.zero_add, List.getElem?_cons_zero, List.getElem?_cons_succ, w1, w2]
def s89 : SCode := (.seq (.ops [⟨(some 2), none, .box (T 0)⟩, ⟨(some 4), none, .mov (.const (.bool false))⟩]) (.seq (.ops [⟨(some 5), none, .mov (T 1)⟩, ⟨(some 6), none, .int2 .leq (.const (.int .i64 (0))) (T 5)⟩, ⟨(some 7), none, .mov (T 6)⟩, ⟨(some 8), (some (7, true)), .mov (T 1)⟩, ⟨(some 9), (some (7, true)), .fieldAddr 0 (T 2)⟩, ⟨(some 10), (some (7, true)), .fieldAddr 2 (T 9)⟩, ⟨(some 11), (some (7, true)), .load1 (T 10)⟩, ⟨(some 12), (some (7, true)), .len (T 11)⟩, ⟨(some 13), (some (7, true)), .int2 .lss (T 8) (T 12)⟩, ⟨(some 14), none, .pick (T 7) (T 13) (.const (.bool false))⟩, ⟨(some 4), none, .mov (T 14)⟩]) .ret))
theorem fok89 : FnOk Try.prog 89 15 s89 [.tmp 4] := ⟨Try.f89, _, Try.func89, rfl, Try.ntmps89, by kernel_rfl, by kernel_rfl⟩
theorem hasVat_c (hn : 1 ≤ n) (hr : h.next < far) {vv sv tv : Value} {S : MB} (hy : BeatR h vv sv S) (ht : oneCell tv = true) (at_ : Int) :
    call n (.func (.func 89) #[] #[]) [.agg ⟨wkL S vv sv tv⟩, .int .i64 at_] h = some (.bool (decide (0 ≤ at_ ∧ at_ ≤ (S.nv : Int) - 1)), h) := by
  obtain ⟨n, rfl⟩ : ∃ p, n = p + 1 := ⟨n - 1, by omega⟩
  refine call_plain0 fok89 rfl rfl (by simp) rfl ?_
  have hy := hy.shut
  have hr : h.shutAll.next < far := hr
  generalize h.shutAll = h at hy hr
  simp only [s89, W_seq, W_ops]
  refine ops_box (cs := wkL S vv sv tv) hr rfl (wk_one hy ht) fun h1 hx => ?_
  have hy := hy.mono hx.sub
  have e : (at_ < (S.nv : Int)) = (at_ ≤ (S.nv : Int) - 1) := by simp only [eq_iff_iff]; omega
  by_cases c1 : 0 ≤ at_ <;> by_cases c2 : at_ ≤ (S.nv : Int) - 1 <;> simp only [rn0, rn1, rn2, rn3, rn4, rn5, rn6, rn7, rn8, if_true, if_false, Nat.le_refl, true_and, and_true, decide_true, decide_false, Bool.not_true, Bool.not_false, reduceIte, Nat.reduceEqDiff, Nat.reduceAdd, Nat.reduceMul, Nat.reduceSub, Nat.reduceLeDiff, Nat.reduceLT, hx.ld, wkg, Nat.zero_add, Cells.len hy.v, e, c1, c2, and_self, and_false, false_and]
def s90 : SCode := (.seq (.ops [⟨(some 2), none, .box (T 0)⟩, ⟨(some 4), none, .mov (.const (.bool false))⟩]) (.seq (.ops [⟨(some 5), none, .mov (T 1)⟩, ⟨(some 6), none, .int2 .leq (.const (.int .i64 (0))) (T 5)⟩, ⟨(some 7), none, .mov (T 6)⟩, ⟨(some 8), (some (7, true)), .mov (T 1)⟩, ⟨(some 9), (some (7, true)), .fieldAddr 0 (T 2)⟩, ⟨(some 10), (some (7, true)), .fieldAddr 3 (T 9)⟩, ⟨(some 11), (some (7, true)), .load1 (T 10)⟩, ⟨(some 12), (some (7, true)), .int2 .leq (T 8) (T 11)⟩, ⟨(some 13), none, .pick (T 7) (T 12) (.const (.bool false))⟩, ⟨(some 4), none, .mov (T 13)⟩]) .ret))
theorem fok90 : FnOk Try.prog 90 14 s90 [.tmp 4] := ⟨Try.f90, _, Try.func90, rfl, Try.ntmps90, by kernel_rfl, by kernel_rfl⟩
theorem hasHour_c (hn : 1 ≤ n) (hr : h.next < far) {vv sv tv : Value} {S : MB} (h1 : allB oneCell (wkL S vv sv tv) = true) (at_ : Int) :
    call n (.func (.func 90) #[] #[]) [.agg ⟨wkL S vv sv tv⟩, .int .i64 at_] h = some (.bool (decide (0 ≤ at_ ∧ at_ ≤ S.last)), h) := by
  obtain ⟨n, rfl⟩ : ∃ p, n = p + 1 := ⟨n - 1, by omega⟩
  refine call_plain0 fok90 rfl rfl (by simp) rfl ?_
  have hr : h.shutAll.next < far := hr
  generalize h.shutAll = h at hr
  simp only [s90, W_seq, W_ops]
  refine ops_box (cs := wkL S vv sv tv) hr rfl h1 fun h1 hx => ?_
  by_cases c1 : 0 ≤ at_ <;> by_cases c2 : at_ ≤ S.last <;> simp only [rn0, rn1, rn2, rn3, rn4, rn5, rn6, rn7, rn8, if_true, if_false, Nat.le_refl, true_and, and_true, decide_true, decide_false, Bool.not_true, Bool.not_false, reduceIte, Nat.reduceEqDiff, Nat.reduceAdd, Nat.reduceMul, Nat.reduceSub, Nat.reduceLeDiff, Nat.reduceLT, hx.ld, wkg, Nat.zero_add, c1, c2, and_self, and_false, false_and]
def s115 : SCode := (.seq (.ops [⟨(some 1), none, .box (T 0)⟩, ⟨(some 2), none, .mov (.const (.bool false))⟩]) (.seq (.ops [⟨(some 3), none, .fieldAddr 0 (T 1)⟩, ⟨(some 4), none, .loadN 2 (T 3)⟩, ⟨(some 5), none, .call (.func 113) [(T 4), (.const (.int .i64 (9)))]⟩, ⟨(some 6), none, .mov (T 5)⟩, ⟨(some 7), (some (6, true)), .build #[(0, 1), (1, 1)] [(.int .i64 (0)), (.int .i64 (0))] [0, 1] [(.const (.int .i64 (0))), (.const (.int .i64 (20)))]⟩, ⟨(some 8), (some (6, true)), .fieldAddr 2 (T 1)⟩, ⟨(some 9), (some (6, true)), .load1 (T 8)⟩, ⟨(some 10), (some (6, true)), .call (.func 109) [(T 7), (T 9)]⟩, ⟨(some 11), none, .pick (T 6) (T 10) (.const (.bool false))⟩, ⟨(some 12), none, .mov (T 11)⟩, ⟨(some 13), (some (12, true)), .build #[(0, 1), (1, 1)] [(.int .i64 (0)), (.int .i64 (0))] [0, 1] [(.const (.int .i64 (0))), (.const (.int .i64 (20)))]⟩, ⟨(some 14), (some (12, true)), .fieldAddr 3 (T 1)⟩, ⟨(some 15), (some (12, true)), .load1 (T 14)⟩, ⟨(some 16), (some (12, true)), .call (.func 109) [(T 13), (T 15)]⟩, ⟨(some 17), none, .pick (T 12) (T 16) (.const (.bool false))⟩, ⟨(some 2), none, .mov (T 17)⟩]) .ret))
theorem fok115 : FnOk Try.prog 115 18 s115 [.tmp 2] := ⟨Try.f115, _, Try.func115, rfl, Try.ntmps115, by kernel_rfl, by kernel_rfl⟩
theorem isVat_c (hn : 3 ≤ n) (hr : h.next + 3 < far) {S : MB} (k : Nat) :
    ∃ r, (r = true ↔ (0 ≤ S.nlo k ∧ S.nlo k ≤ S.nhi k ∧ S.nhi k ≤ 9) ∧ (0 ≤ S.ve k ∧ S.ve k ≤ 20) ∧ 0 ≤ S.vl k ∧ S.vl k ≤ 20) ∧ call n (.func (.func 115) #[] #[]) [.agg ⟨vaL S k⟩] h = some (.bool r, h) := by
  classical
  refine ⟨decide ((0 ≤ S.nlo k ∧ S.nlo k ≤ S.nhi k ∧ S.nhi k ≤ 9) ∧ (0 ≤ S.ve k ∧ S.ve k ≤ 20) ∧ 0 ≤ S.vl k ∧ S.vl k ≤ 20), by simp, ?_⟩
  obtain ⟨n, rfl⟩ : ∃ p, n = p + 1 := ⟨n - 1, by omega⟩
  refine call_plain0 fok115 rfl rfl (by simp) rfl ?_
  have hr : h.shutAll.next + 3 < far := hr
  generalize h.shutAll = h at hr
  simp only [s115, W_seq, W_ops]
  refine ops_box (cs := vaL S k) (by omega) rfl va_one fun g hx => ?_
  have n1 := hx.next
  have e0 : loadAgg 2 g (.pointer (some ⟨h.next, 0, none⟩)) = some (.agg ⟨[.int .i64 (S.nlo k), .int .i64 (S.nhi k)]⟩) := hx.ldN 0 2 (by simp [vaL]) (by simp [vaL])
  have e1 := isUpTo_c (n := n) (h := g) (by omega) (by omega) (S.nlo k) (S.nhi k) 9
  have e2 := has_c (n := n) (h := g) (by omega) (by omega) 0 20 (S.ve k)
  have e3 := has_c (n := n) (h := g) (by omega) (by omega) 0 20 (S.vl k)
  by_cases c1 : 0 ≤ S.nlo k ∧ S.nlo k ≤ S.nhi k ∧ S.nhi k ≤ 9
  case neg => simp only [rn0, rn1, rn2, rn3, rn4, rn5, rn6, rn7, rn8, if_true, if_false, Nat.le_refl, true_and, and_true, decide_true, decide_false, Bool.not_true, Bool.not_false, reduceIte, Nat.reduceEqDiff, Nat.reduceAdd, Nat.reduceMul, Nat.reduceSub, Nat.reduceLeDiff, Nat.reduceLT, e0, hx.ld, vag, Nat.zero_add, e1, c1, false_and]
  by_cases c2 : 0 ≤ S.ve k ∧ S.ve k ≤ 20
  case neg => simp only [rn0, rn1, rn2, rn3, rn4, rn5, rn6, rn7, rn8, if_true, if_false, Nat.le_refl, true_and, and_true, decide_true, decide_false, Bool.not_true, Bool.not_false, reduceIte, Nat.reduceEqDiff, Nat.reduceAdd, Nat.reduceMul, Nat.reduceSub, Nat.reduceLeDiff, Nat.reduceLT, e0, hx.ld, vag, Nat.zero_add, e1, c1, build_range, e2, c2, and_false, false_and]
  by_cases c3 : 0 ≤ S.vl k ∧ S.vl k ≤ 20
  case neg => simp only [rn0, rn1, rn2, rn3, rn4, rn5, rn6, rn7, rn8, if_true, if_false, Nat.le_refl, true_and, and_true, decide_true, decide_false, Bool.not_true, Bool.not_false, reduceIte, Nat.reduceEqDiff, Nat.reduceAdd, Nat.reduceMul, Nat.reduceSub, Nat.reduceLeDiff, Nat.reduceLT, e0, hx.ld, vag, Nat.zero_add, e1, c1, build_range, e2, c2, e3, c3, and_false, false_and]
  simp only [rn0, rn1, rn2, rn3, rn4, rn5, rn6, rn7, rn8, if_true, if_false, Nat.le_refl, true_and, and_true, decide_true, decide_false, Bool.not_true, Bool.not_false, reduceIte, Nat.reduceEqDiff, Nat.reduceAdd, Nat.reduceMul, Nat.reduceSub, Nat.reduceLeDiff, Nat.reduceLT, e0, hx.ld, vag, Nat.zero_add, e1, c1, build_range, e2, c2, e3, c3, and_self]
def s116 : SCode := (.seq (.ops [⟨(some 2), none, .box (T 0)⟩, ⟨(some 3), none, .box (T 1)⟩, ⟨(some 4), none, .mov (.const (.bool false))⟩]) (.seq (.ops [⟨(some 5), none, .loadN 6 (T 2)⟩, ⟨(some 6), none, .fieldAddr 0 (T 3)⟩, ⟨(some 7), none, .load1 (T 6)⟩, ⟨(some 8), none, .call (.func 89) [(T 5), (T 7)]⟩, ⟨(some 9), none, .mov (T 8)⟩, ⟨(some 10), (some (9, true)), .loadN 6 (T 2)⟩, ⟨(some 11), (some (9, true)), .fieldAddr 1 (T 3)⟩, ⟨(some 12), (some (9, true)), .load1 (T 11)⟩, ⟨(some 13), (some (9, true)), .call (.func 90) [(T 10), (T 12)]⟩, ⟨(some 14), none, .pick (T 9) (T 13) (.const (.bool false))⟩, ⟨(some 4), none, .mov (T 14)⟩]) .ret))
theorem fok116 : FnOk Try.prog 116 15 s116 [.tmp 4] := ⟨Try.f116, _, Try.func116, rfl, Try.ntmps116, by kernel_rfl, by kernel_rfl⟩
theorem isSamp_c (hn : 3 ≤ n) (hr : h.next + 3 < far) {vv sv tv : Value} {S : MB} (hy : BeatR h vv sv S) (ht : oneCell tv = true) (k : Nat) :
    ∃ r, (r = true ↔ (0 ≤ S.sv k ∧ S.sv k ≤ (S.nv : Int) - 1) ∧ 0 ≤ S.sh k ∧ S.sh k ≤ S.last) ∧ call n (.func (.func 116) ⟨[.agg ⟨wkL S vv sv tv⟩]⟩ #[]) [.agg ⟨smL S k⟩] h = some (.bool r, h) := by
  classical
  refine ⟨decide ((0 ≤ S.sv k ∧ S.sv k ≤ (S.nv : Int) - 1) ∧ 0 ≤ S.sh k ∧ S.sh k ≤ S.last), by simp, ?_⟩
  obtain ⟨n, rfl⟩ : ∃ p, n = p + 1 := ⟨n - 1, by omega⟩
  refine call_plain (xs := [.agg ⟨wkL S vv sv tv⟩]) (ys := []) fok116 rfl rfl (by simp) rfl ?_
  have hy := hy.shut
  have hr : h.shutAll.next + 3 < far := hr
  generalize h.shutAll = h at hy hr
  simp only [s116, List.cons_append, List.nil_append, List.append_nil, W_seq, W_ops]
  refine ops_box (cs := wkL S vv sv tv) (by omega) rfl (wk_one hy ht) fun g1 hx => ?_
  refine ops_box (cs := smL S k) (by rw [hx.next]; omega) rfl sm_one fun g2 hx2 => ?_
  have n1 := hx.next
  have n2 := hx2.next
  have w1 := (hx.row.mono hx2.sub).whole (n := 6) rfl
  have hy2 := (hy.mono hx.sub).mono hx2.sub
  have e1 := hasVat_c (n := n) (h := g2) (by omega) (by omega) hy2 ht (S.sv k)
  have e2 := hasHour_c (n := n) (h := g2) (by omega) (by omega) (wk_one hy2 ht) (S.sh k)
  by_cases c1 : 0 ≤ S.sv k ∧ S.sv k ≤ (S.nv : Int) - 1
  case neg => simp only [rn0, rn1, rn2, rn3, rn4, rn5, rn6, rn7, rn8, if_true, if_false, Nat.le_refl, true_and, and_true, decide_true, decide_false, Bool.not_true, Bool.not_false, reduceIte, Nat.reduceEqDiff, Nat.reduceAdd, Nat.reduceMul, Nat.reduceSub, Nat.reduceLeDiff, Nat.reduceLT, w1, hx2.ld, smg, Nat.zero_add, e1, c1, false_and]
  by_cases c2 : 0 ≤ S.sh k ∧ S.sh k ≤ S.last
  case neg => simp only [rn0, rn1, rn2, rn3, rn4, rn5, rn6, rn7, rn8, if_true, if_false, Nat.le_refl, true_and, and_true, decide_true, decide_false, Bool.not_true, Bool.not_false, reduceIte, Nat.reduceEqDiff, Nat.reduceAdd, Nat.reduceMul, Nat.reduceSub, Nat.reduceLeDiff, Nat.reduceLT, w1, hx2.ld, smg, Nat.zero_add, e1, c1, e2, c2, and_false, false_and]
  simp only [rn0, rn1, rn2, rn3, rn4, rn5, rn6, rn7, rn8, if_true, if_false, Nat.le_refl, true_and, and_true, decide_true, decide_false, Bool.not_true, Bool.not_false, reduceIte, Nat.reduceEqDiff, Nat.reduceAdd, Nat.reduceMul, Nat.reduceSub, Nat.reduceLeDiff, Nat.reduceLT, w1, hx2.ld, smg, Nat.zero_add, e1, c1, e2, c2, and_self]
def Cond (n : Nat) (h : AHeap) (k : Nat) (ok : Value) (m : Nat) (elem : Nat → Value) (p : Nat → Prop) : Prop :=
  ∀ g, Sub All h g → g.next ≤ h.next + k → ∀ i, i < m → ∃ b, (b = true ↔ p i) ∧ call n ok [elem i] g = some (.bool b, g)
def s114 : SCode := (.seq (.ops [⟨(some 4), none, .mov (.const (.bool false))⟩]) (.seq (.seq (.ops [⟨(some 7), none, .mov (T 0)⟩, ⟨(some 8), none, .len (T 7)⟩, ⟨(some 9), none, .mov (.const (.int .i64 (0)))⟩]) (.block 0 (.loop (.seq (.ops [⟨(some 10), none, .int2 .lss (T 9) (T 8)⟩]) (.seq (.cond (T 10) .skip (.exit 0)) (.seq (.block 1 (.seq (.ops [⟨(some 11), none, .idxSl 4 (T 7) (T 9)⟩, ⟨(some 12), none, .loadN 4 (T 11)⟩, ⟨(some 6), none, .alloc [(.int .i64 (0)), (.int .i64 (0)), (.int .i64 (0)), (.int .i64 (0))]⟩, ⟨none, none, .store 4 (T 6) (T 12)⟩]) (.seq (.ops [⟨(some 13), none, .mov (T 1)⟩, ⟨(some 14), none, .loadN 4 (T 6)⟩, ⟨(some 15), none, .call (T 13) [(T 14)]⟩, ⟨(some 16), none, .not (T 15)⟩]) (.cond (T 16) (.seq (.ops [⟨(some 4), none, .mov (.const (.bool false))⟩]) .ret) .skip)))) (.ops [⟨(some 17), none, .int2 .add (T 9) (.const (.int .i64 (1)))⟩, ⟨(some 9), none, .mov (T 17)⟩]))))))) (.seq (.ops [⟨(some 4), none, .mov (.const (.bool true))⟩]) .ret)))
theorem fok114 : FnOk Try.prog 114 18 s114 [.tmp 4] := ⟨Try.f114, _, Try.func114, rfl, Try.ntmps114, by kernel_rfl, by kernel_rfl⟩
open Classical in
theorem everyVat_c (hn : 100 ≤ n) (hr : h.next + 60 < far) {v ok : Value} {m : Nat} {S : MB} {p : Nat → Prop} (hv : Cells h v 4 m (vatC S)) (hm : m ≤ 30) (hok : Cond (n - 1) h.shutAll 40 ok m (fun i => .agg ⟨vaL S i⟩) p) :
    call n (.func (.func 114) #[] #[]) [v, ok] h = some (.bool (decide (∀ i, i < m → p i)), h) := by
  obtain ⟨n, rfl⟩ : ∃ p, n = p + 1 := ⟨n - 1, by omega⟩
  refine call_plain0 fok114 rfl rfl (by simp) rfl ?_
  have hv := Cells.shut hv
  have hr : h.shutAll.next + 60 < far := hr
  have hfl : h.shutAll.floor ≤ h.shutAll.next := Nat.le_refl _
  rw [Nat.add_sub_cancel] at hok
  generalize h.shutAll = h at hv hok hr hfl
  simp only [rn0, rn1, rn2, rn3, rn4, rn5, rn6, rn7, rn8, if_true, if_false, Nat.le_refl, true_and, and_true, decide_true, decide_false, Bool.not_true, Bool.not_false, reduceIte, Nat.reduceEqDiff, Nat.reduceAdd, Nat.reduceMul, Nat.reduceSub, Nat.reduceLeDiff, Nat.reduceLT, s114, Cells.len hv]
  refine W_loop m (fun k f g m' => (Sub All h g ∧ g.next = h.next + k ∧ g.floor = h.floor) ∧ m' = [] ∧ f 1 = ok ∧ f 7 = v ∧ f 8 = .int .i64 (m : Int) ∧ f 9 = .int .i64 (k : Int) ∧ ∀ i, i < k → p i) (by simp; omega) ?_ ?_ ?_
  · simp only [rn0, rn1, rn2, rn3, rn4, rn5, rn6, rn7, rn8, if_true, if_false, Nat.le_refl, true_and, and_true, decide_true, decide_false, Bool.not_true, Bool.not_false, reduceIte, Nat.reduceEqDiff, Nat.reduceAdd, Nat.reduceMul, Nat.reduceSub, Nat.reduceLeDiff, Nat.reduceLT, Nat.not_lt_zero, false_implies, implies_true, Nat.add_zero]
    trivial
  · rintro k f g m' hk ⟨⟨g1, g2, g3⟩, rfl, f1, f7, f8, f9, hlt⟩
    have hk' : (k : Int) < (m : Int) := by omega
    have hw : wrapF .i64 ((k : Int) + 1) = ((k + 1 : Nat) : Int) := by rw [wrap_in (by omega) (by omega)]; rfl
    have hvg := Cells.mono hv g1
    have hldk : loadAgg 4 g (ptrO v 4 k 0) = some (.agg ⟨vaL S k⟩) := by rw [Cells.ldN hvg hk (by omega) (by omega)]; simp [List.range_succ, vatC, vaL]
    simp only [rn0, rn1, rn2, rn3, rn4, rn5, rn6, rn7, rn8, if_true, if_false, Nat.le_refl, true_and, and_true, decide_true, decide_false, Bool.not_true, Bool.not_false, reduceIte, Nat.reduceEqDiff, Nat.reduceAdd, Nat.reduceMul, Nat.reduceSub, Nat.reduceLeDiff, Nat.reduceLT, f1, f7, f8, f9, hk', Cells.idx hvg hk, hldk]
    refine step_new (vs := vaL S k) (by omega) (by omega) rfl (by simp only [rn0, rn1, rn2, rn3, rn4, rn5, rn6, rn7, rn8, if_true, if_false, Nat.le_refl, true_and, and_true, decide_true, decide_false, Bool.not_true, Bool.not_false, reduceIte, Nat.reduceEqDiff, Nat.reduceAdd, Nat.reduceMul, Nat.reduceSub, Nat.reduceLeDiff, Nat.reduceLT]; rfl) rfl rfl rfl fun g' hg' => ?_
    have hin : (Sub All h g' ∧ g'.next = h.next + (k + 1) ∧ g'.floor = h.floor) = True := eq_true ⟨g1.trans hg'.sub, by rw [hg'.next, g2]; omega, by rw [hg'.floor, g3]⟩
    obtain ⟨b, hb, e⟩ := hok g' (g1.trans hg'.sub) (by rw [hg'.next, g2]; omega) k hk
    have wh := hg'.row.whole (n := 4) rfl
    cases b with
    | true =>
      have hp : p k := hb.1 rfl
      simp only [rn0, rn1, rn2, rn3, rn4, rn5, rn6, rn7, rn8, if_true, if_false, Nat.le_refl, true_and, and_true, decide_true, decide_false, Bool.not_true, Bool.not_false, reduceIte, Nat.reduceEqDiff, Nat.reduceAdd, Nat.reduceMul, Nat.reduceSub, Nat.reduceLeDiff, Nat.reduceLT, f1, f7, f8, f9, wh, e, hw, hin]
      intro j hj
      by_cases ej : j = k
      · subst ej; exact hp
      · exact hlt j (by omega)
    | false =>
      have hp : ¬ ∀ i, i < m → p i := fun h => by have := hb.2 (h k hk); cases this
      simp only [rn0, rn1, rn2, rn3, rn4, rn5, rn6, rn7, rn8, if_true, if_false, Nat.le_refl, true_and, and_true, decide_true, decide_false, Bool.not_true, Bool.not_false, reduceIte, Nat.reduceEqDiff, Nat.reduceAdd, Nat.reduceMul, Nat.reduceSub, Nat.reduceLeDiff, Nat.reduceLT, f1, f7, f8, f9, wh, e, hw, hp]
  · rintro f g m' ⟨⟨g1, g2, g3⟩, rfl, f1, f7, f8, f9, hlt⟩
    simp only [rn0, rn1, rn2, rn3, rn4, rn5, rn6, rn7, rn8, if_true, if_false, Nat.le_refl, true_and, and_true, decide_true, decide_false, Bool.not_true, Bool.not_false, reduceIte, Nat.reduceEqDiff, Nat.reduceAdd, Nat.reduceMul, Nat.reduceSub, Nat.reduceLeDiff, Nat.reduceLT, f1, f7, f8, f9, Int.lt_irrefl, eq_true hlt]
def s111 : SCode := (.seq (.ops [⟨(some 4), none, .mov (.const (.bool false))⟩]) (.seq (.seq (.ops [⟨(some 7), none, .mov (T 0)⟩, ⟨(some 8), none, .len (T 7)⟩, ⟨(some 9), none, .mov (.const (.int .i64 (0)))⟩]) (.block 0 (.loop (.seq (.ops [⟨(some 10), none, .int2 .lss (T 9) (T 8)⟩]) (.seq (.cond (T 10) .skip (.exit 0)) (.seq (.block 1 (.seq (.ops [⟨(some 11), none, .idxSl 3 (T 7) (T 9)⟩, ⟨(some 12), none, .loadN 3 (T 11)⟩, ⟨(some 6), none, .alloc [(.int .i64 (0)), (.int .i64 (0)), (.bool false)]⟩, ⟨none, none, .store 3 (T 6) (T 12)⟩]) (.seq (.ops [⟨(some 13), none, .mov (T 1)⟩, ⟨(some 14), none, .loadN 3 (T 6)⟩, ⟨(some 15), none, .call (T 13) [(T 14)]⟩, ⟨(some 16), none, .not (T 15)⟩]) (.cond (T 16) (.seq (.ops [⟨(some 4), none, .mov (.const (.bool false))⟩]) .ret) .skip)))) (.ops [⟨(some 17), none, .int2 .add (T 9) (.const (.int .i64 (1)))⟩, ⟨(some 9), none, .mov (T 17)⟩]))))))) (.seq (.ops [⟨(some 4), none, .mov (.const (.bool true))⟩]) .ret)))
theorem fok111 : FnOk Try.prog 111 18 s111 [.tmp 4] := ⟨Try.f111, _, Try.func111, rfl, Try.ntmps111, by kernel_rfl, by kernel_rfl⟩
open Classical in
theorem everySamp_c (hn : 100 ≤ n) (hr : h.next + 60 < far) {v ok : Value} {m : Nat} {S : MB} {p : Nat → Prop} (hv : Cells h v 3 m (sampC S)) (hm : m ≤ 30) (hok : Cond (n - 1) h.shutAll 40 ok m (fun i => .agg ⟨smL S i⟩) p) :
    call n (.func (.func 111) #[] #[]) [v, ok] h = some (.bool (decide (∀ i, i < m → p i)), h) := by
  obtain ⟨n, rfl⟩ : ∃ p, n = p + 1 := ⟨n - 1, by omega⟩
  refine call_plain0 fok111 rfl rfl (by simp) rfl ?_
  have hv := Cells.shut hv
  have hr : h.shutAll.next + 60 < far := hr
  have hfl : h.shutAll.floor ≤ h.shutAll.next := Nat.le_refl _
  rw [Nat.add_sub_cancel] at hok
  generalize h.shutAll = h at hv hok hr hfl
  simp only [rn0, rn1, rn2, rn3, rn4, rn5, rn6, rn7, rn8, if_true, if_false, Nat.le_refl, true_and, and_true, decide_true, decide_false, Bool.not_true, Bool.not_false, reduceIte, Nat.reduceEqDiff, Nat.reduceAdd, Nat.reduceMul, Nat.reduceSub, Nat.reduceLeDiff, Nat.reduceLT, s111, Cells.len hv]
  refine W_loop m (fun k f g m' => (Sub All h g ∧ g.next = h.next + k ∧ g.floor = h.floor) ∧ m' = [] ∧ f 1 = ok ∧ f 7 = v ∧ f 8 = .int .i64 (m : Int) ∧ f 9 = .int .i64 (k : Int) ∧ ∀ i, i < k → p i) (by simp; omega) ?_ ?_ ?_
  · simp only [rn0, rn1, rn2, rn3, rn4, rn5, rn6, rn7, rn8, if_true, if_false, Nat.le_refl, true_and, and_true, decide_true, decide_false, Bool.not_true, Bool.not_false, reduceIte, Nat.reduceEqDiff, Nat.reduceAdd, Nat.reduceMul, Nat.reduceSub, Nat.reduceLeDiff, Nat.reduceLT, Nat.not_lt_zero, false_implies, implies_true, Nat.add_zero]
    trivial
  · rintro k f g m' hk ⟨⟨g1, g2, g3⟩, rfl, f1, f7, f8, f9, hlt⟩
    have hk' : (k : Int) < (m : Int) := by omega
    have hw : wrapF .i64 ((k : Int) + 1) = ((k + 1 : Nat) : Int) := by rw [wrap_in (by omega) (by omega)]; rfl
    have hvg := Cells.mono hv g1
    have hldk : loadAgg 3 g (ptrO v 3 k 0) = some (.agg ⟨smL S k⟩) := by rw [Cells.ldN hvg hk (by omega) (by omega)]; simp [List.range_succ, sampC, smL]
    simp only [rn0, rn1, rn2, rn3, rn4, rn5, rn6, rn7, rn8, if_true, if_false, Nat.le_refl, true_and, and_true, decide_true, decide_false, Bool.not_true, Bool.not_false, reduceIte, Nat.reduceEqDiff, Nat.reduceAdd, Nat.reduceMul, Nat.reduceSub, Nat.reduceLeDiff, Nat.reduceLT, f1, f7, f8, f9, hk', Cells.idx hvg hk, hldk]
    refine step_new (vs := smL S k) (by omega) (by omega) rfl (by simp only [rn0, rn1, rn2, rn3, rn4, rn5, rn6, rn7, rn8, if_true, if_false, Nat.le_refl, true_and, and_true, decide_true, decide_false, Bool.not_true, Bool.not_false, reduceIte, Nat.reduceEqDiff, Nat.reduceAdd, Nat.reduceMul, Nat.reduceSub, Nat.reduceLeDiff, Nat.reduceLT]; rfl) rfl rfl rfl fun g' hg' => ?_
    have hin : (Sub All h g' ∧ g'.next = h.next + (k + 1) ∧ g'.floor = h.floor) = True := eq_true ⟨g1.trans hg'.sub, by rw [hg'.next, g2]; omega, by rw [hg'.floor, g3]⟩
    obtain ⟨b, hb, e⟩ := hok g' (g1.trans hg'.sub) (by rw [hg'.next, g2]; omega) k hk
    have wh := hg'.row.whole (n := 3) rfl
    cases b with
    | true =>
      have hp : p k := hb.1 rfl
      simp only [rn0, rn1, rn2, rn3, rn4, rn5, rn6, rn7, rn8, if_true, if_false, Nat.le_refl, true_and, and_true, decide_true, decide_false, Bool.not_true, Bool.not_false, reduceIte, Nat.reduceEqDiff, Nat.reduceAdd, Nat.reduceMul, Nat.reduceSub, Nat.reduceLeDiff, Nat.reduceLT, f1, f7, f8, f9, wh, e, hw, hin]
      intro j hj
      by_cases ej : j = k
      · subst ej; exact hp
      · exact hlt j (by omega)
    | false =>
      have hp : ¬ ∀ i, i < m → p i := fun h => by have := hb.2 (h k hk); cases this
      simp only [rn0, rn1, rn2, rn3, rn4, rn5, rn6, rn7, rn8, if_true, if_false, Nat.le_refl, true_and, and_true, decide_true, decide_false, Bool.not_true, Bool.not_false, reduceIte, Nat.reduceEqDiff, Nat.reduceAdd, Nat.reduceMul, Nat.reduceSub, Nat.reduceLeDiff, Nat.reduceLT, f1, f7, f8, f9, wh, e, hw, hp]
  · rintro f g m' ⟨⟨g1, g2, g3⟩, rfl, f1, f7, f8, f9, hlt⟩
    simp only [rn0, rn1, rn2, rn3, rn4, rn5, rn6, rn7, rn8, if_true, if_false, Nat.le_refl, true_and, and_true, decide_true, decide_false, Bool.not_true, Bool.not_false, reduceIte, Nat.reduceEqDiff, Nat.reduceAdd, Nat.reduceMul, Nat.reduceSub, Nat.reduceLeDiff, Nat.reduceLT, f1, f7, f8, f9, Int.lt_irrefl, eq_true hlt]
def s118 : SCode := (.seq (.ops [⟨(some 4), none, .mov (.const (.bool false))⟩]) (.seq (.seq (.ops [⟨(some 7), none, .mov (T 0)⟩, ⟨(some 8), none, .len (T 7)⟩, ⟨(some 9), none, .mov (.const (.int .i64 (0)))⟩]) (.block 0 (.loop (.seq (.ops [⟨(some 10), none, .int2 .lss (T 9) (T 8)⟩]) (.seq (.cond (T 10) .skip (.exit 0)) (.seq (.block 1 (.seq (.ops [⟨(some 11), none, .idxSl 1 (T 7) (T 9)⟩, ⟨(some 12), none, .load1 (T 11)⟩, ⟨(some 6), none, .mov (T 12)⟩]) (.seq (.ops [⟨(some 13), none, .mov (T 1)⟩, ⟨(some 14), none, .mov (T 6)⟩, ⟨(some 15), none, .call (T 13) [(T 14)]⟩, ⟨(some 16), none, .not (T 15)⟩]) (.cond (T 16) (.seq (.ops [⟨(some 4), none, .mov (.const (.bool false))⟩]) .ret) .skip)))) (.ops [⟨(some 17), none, .int2 .add (T 9) (.const (.int .i64 (1)))⟩, ⟨(some 9), none, .mov (T 17)⟩]))))))) (.seq (.ops [⟨(some 4), none, .mov (.const (.bool true))⟩]) .ret)))
theorem fok118 : FnOk Try.prog 118 18 s118 [.tmp 4] := ⟨Try.f118, _, Try.func118, rfl, Try.ntmps118, by kernel_rfl, by kernel_rfl⟩
open Classical in
theorem everyFn_c (hn : 100 ≤ n) (hr : h.next + 60 < far) {v ok : Value} {m : Nat} {a : Nat → Value} {p : Nat → Prop} (hv : Cells h v 1 m fun k _ => a k) (hm : m ≤ 30) (hok : Cond (n - 1) h.shutAll 40 ok m (fun i => a i) p) :
    call n (.func (.func 118) #[] #[]) [v, ok] h = some (.bool (decide (∀ i, i < m → p i)), h) := by
  obtain ⟨n, rfl⟩ : ∃ p, n = p + 1 := ⟨n - 1, by omega⟩
  refine call_plain0 fok118 rfl rfl (by simp) rfl ?_
  have hv := Cells.shut hv
  have hr : h.shutAll.next + 60 < far := hr
  have hfl : h.shutAll.floor ≤ h.shutAll.next := Nat.le_refl _
  rw [Nat.add_sub_cancel] at hok
  generalize h.shutAll = h at hv hok hr hfl
  simp only [rn0, rn1, rn2, rn3, rn4, rn5, rn6, rn7, rn8, if_true, if_false, Nat.le_refl, true_and, and_true, decide_true, decide_false, Bool.not_true, Bool.not_false, reduceIte, Nat.reduceEqDiff, Nat.reduceAdd, Nat.reduceMul, Nat.reduceSub, Nat.reduceLeDiff, Nat.reduceLT, s118, Cells.len hv]
  refine W_loop m (fun k f g m' => (Sub All h g ∧ g.next = h.next + 0 ∧ g.floor = h.floor) ∧ m' = [] ∧ f 1 = ok ∧ f 7 = v ∧ f 8 = .int .i64 (m : Int) ∧ f 9 = .int .i64 (k : Int) ∧ ∀ i, i < k → p i) (by simp; omega) ?_ ?_ ?_
  · simp only [rn0, rn1, rn2, rn3, rn4, rn5, rn6, rn7, rn8, if_true, if_false, Nat.le_refl, true_and, and_true, decide_true, decide_false, Bool.not_true, Bool.not_false, reduceIte, Nat.reduceEqDiff, Nat.reduceAdd, Nat.reduceMul, Nat.reduceSub, Nat.reduceLeDiff, Nat.reduceLT, Nat.not_lt_zero, false_implies, implies_true, Nat.add_zero]
    trivial
  · rintro k f g m' hk ⟨⟨g1, g2, g3⟩, rfl, f1, f7, f8, f9, hlt⟩
    have hk' : (k : Int) < (m : Int) := by omega
    have hw : wrapF .i64 ((k : Int) + 1) = ((k + 1 : Nat) : Int) := by rw [wrap_in (by omega) (by omega)]; rfl
    have hvg := Cells.mono hv g1
    obtain ⟨b, hb, e⟩ := hok g g1 (by omega) k hk
    have hin : (Sub All h g ∧ g.next = h.next + 0 ∧ g.floor = h.floor) = True := eq_true ⟨g1, g2, g3⟩
    have hldk : loadCell g (ptrO v 1 k 0) = some (a k) := Cells.ld hvg hk Nat.zero_lt_one
    cases b with
    | true =>
      have hp : p k := hb.1 rfl
      simp only [rn0, rn1, rn2, rn3, rn4, rn5, rn6, rn7, rn8, if_true, if_false, Nat.le_refl, true_and, and_true, decide_true, decide_false, Bool.not_true, Bool.not_false, reduceIte, Nat.reduceEqDiff, Nat.reduceAdd, Nat.reduceMul, Nat.reduceSub, Nat.reduceLeDiff, Nat.reduceLT, f1, f7, f8, f9, hk', Cells.idx hvg hk, hldk, e, hw, hin]
      intro j hj
      by_cases ej : j = k
      · subst ej; exact hp
      · exact hlt j (by omega)
    | false =>
      have hp : ¬ ∀ i, i < m → p i := fun h => by have := hb.2 (h k hk); cases this
      simp only [rn0, rn1, rn2, rn3, rn4, rn5, rn6, rn7, rn8, if_true, if_false, Nat.le_refl, true_and, and_true, decide_true, decide_false, Bool.not_true, Bool.not_false, reduceIte, Nat.reduceEqDiff, Nat.reduceAdd, Nat.reduceMul, Nat.reduceSub, Nat.reduceLeDiff, Nat.reduceLT, f1, f7, f8, f9, hk', Cells.idx hvg hk, hldk, e, hw, hp]
  · rintro f g m' ⟨⟨g1, g2, g3⟩, rfl, f1, f7, f8, f9, hlt⟩
    simp only [rn0, rn1, rn2, rn3, rn4, rn5, rn6, rn7, rn8, if_true, if_false, Nat.le_refl, true_and, and_true, decide_true, decide_false, Bool.not_true, Bool.not_false, reduceIte, Nat.reduceEqDiff, Nat.reduceAdd, Nat.reduceMul, Nat.reduceSub, Nat.reduceLeDiff, Nat.reduceLT, f1, f7, f8, f9, Int.lt_irrefl, eq_true hlt]
def s79 : SCode := (.seq (.ops [⟨(some 2), none, .box (T 0)⟩, ⟨(some 4), none, .mov (.const (.bool false))⟩]) (.seq (.ops [⟨(some 5), none, .mov (T 1)⟩, ⟨(some 6), none, .len (T 5)⟩, ⟨(some 7), none, .fieldAddr 0 (T 2)⟩, ⟨(some 8), none, .fieldAddr 2 (T 7)⟩, ⟨(some 9), none, .load1 (T 8)⟩, ⟨(some 10), none, .len (T 9)⟩, ⟨(some 11), none, .int2 .eql (T 6) (T 10)⟩, ⟨(some 12), none, .mov (T 11)⟩, ⟨(some 13), (some (12, true)), .mov (T 1)⟩, ⟨(some 14), (some (12, true)), .loadN 6 (T 2)⟩, ⟨(some 15), (some (12, true)), .mkfunc 90 [(T 14)] []⟩, ⟨(some 16), (some (12, true)), .call (.func 110) [(T 13), (T 15)]⟩, ⟨(some 17), none, .pick (T 12) (T 16) (.const (.bool false))⟩, ⟨(some 4), none, .mov (T 17)⟩]) .ret))
def s84 : SCode := (.seq (.ops [⟨(some 1), none, .box (T 0)⟩, ⟨(some 2), none, .mov (.const (.int .i64 (0)))⟩]) (.seq (.ops [⟨(some 6), none, .fieldAddr 0 (T 1)⟩, ⟨(some 7), none, .fieldAddr 0 (T 6)⟩, ⟨(some 8), none, .loadN 2 (T 7)⟩, ⟨(some 9), none, .call (.func 117) [(T 8)]⟩, ⟨(some 3), none, .mov (T 9)⟩]) (.seq (.seq (.ops [⟨(some 10), none, .fieldAddr 0 (T 1)⟩, ⟨(some 11), none, .fieldAddr 2 (T 10)⟩, ⟨(some 12), none, .load1 (T 11)⟩, ⟨(some 13), none, .len (T 12)⟩, ⟨(some 14), none, .mov (.const (.int .i64 (0)))⟩]) (.block 0 (.loop (.seq (.ops [⟨(some 15), none, .int2 .lss (T 14) (T 13)⟩]) (.seq (.cond (T 15) .skip (.exit 0)) (.seq (.block 1 (.seq (.ops [⟨(some 16), none, .idxSl 4 (T 12) (T 14)⟩, ⟨(some 17), none, .loadN 4 (T 16)⟩, ⟨(some 5), none, .alloc [(.int .i64 (0)), (.int .i64 (0)), (.int .i64 (0)), (.int .i64 (0))]⟩, ⟨none, none, .store 4 (T 5) (T 17)⟩]) (.ops [⟨(some 18), none, .mov (T 3)⟩, ⟨(some 19), none, .fieldAddr 0 (T 5)⟩, ⟨(some 20), none, .loadN 2 (T 19)⟩, ⟨(some 21), none, .call (.func 117) [(T 20)]⟩, ⟨(some 22), none, .int2 .mul (T 18) (T 21)⟩, ⟨(some 3), none, .mov (T 22)⟩]))) (.ops [⟨(some 23), none, .int2 .add (T 14) (.const (.int .i64 (1)))⟩, ⟨(some 14), none, .mov (T 23)⟩]))))))) (.seq (.ops [⟨(some 24), none, .mov (T 3)⟩, ⟨(some 2), none, .mov (T 24)⟩]) .ret))))
theorem fok84 : FnOk Try.prog 84 25 s84 [.tmp 2] := ⟨Try.f84, _, Try.func84, rfl, Try.ntmps84, by kernel_rfl, by kernel_rfl⟩
theorem wsize_c (hn : 100 ≤ n) (hr : h.next + 60 < far) {vv sv tv : Value} {S : MB} (hy : BeatR h vv sv S) (ht : oneCell tv = true) (hA : ArgsOk S) (hl : S.nv ≤ 3) :
    call n (.func (.func 84) #[] #[]) [.agg ⟨wkL S vv sv tv⟩] h = some (.int .i64 (manyS S), h) := by
  obtain ⟨n, rfl⟩ : ∃ p, n = p + 1 := ⟨n - 1, by omega⟩
  refine call_plain0 fok84 rfl rfl (by simp) rfl ?_
  have hy := hy.shut
  have hr : h.shutAll.next + 60 < far := hr
  have hfl : h.shutAll.floor ≤ h.shutAll.next := Nat.le_refl _
  generalize h.shutAll = h at hy hr hfl
  obtain ⟨b1, b2, b3, b4⟩ := hA.head
  simp only [s84, W_seq, W_ops]
  refine ops_box (cs := wkL S vv sv tv) (by omega) rfl (wk_one hy ht) fun g1 hx => ?_
  have n1 := hx.next
  have f1' := hx.floor
  have hy1 := hy.mono hx.sub
  have es := rsize_ok (n := n) (h := g1) (by omega) (by omega) b2 b3 (by omega)
  simp only [rn0, rn1, rn2, rn3, rn4, rn5, rn6, rn7, rn8, if_true, if_false, Nat.le_refl, true_and, and_true, decide_true, decide_false, Bool.not_true, Bool.not_false, reduceIte, Nat.reduceEqDiff, Nat.reduceAdd, Nat.reduceMul, Nat.reduceSub, Nat.reduceLeDiff, Nat.reduceLT, wk_rng hx.row, hx.ld, wkg, Nat.zero_add, es, Cells.len hy1.v]
  refine W_loop S.nv (fun k f g m' => (Sub All g1 g ∧ g.next = g1.next + k ∧ g.floor = g1.floor) ∧ m' = [] ∧ f 3 = .int .i64 (sizeN (uLo S) (uHi S) (k + 1)) ∧ f 12 = vv ∧ f 13 = .int .i64 (S.nv : Int) ∧ f 14 = .int .i64 (k : Int)) (by simp; omega) ?_ ?_ ?_
  · have e0 : sizeN (uLo S) (uHi S) 1 = S.shi - S.slo + 1 := by simp [sizeN, uLo, uHi]
    simp only [rn0, rn1, rn2, rn3, rn4, rn5, rn6, rn7, rn8, if_true, if_false, Nat.le_refl, true_and, and_true, decide_true, decide_false, Bool.not_true, Bool.not_false, reduceIte, Nat.reduceEqDiff, Nat.reduceAdd, Nat.reduceMul, Nat.reduceSub, Nat.reduceLeDiff, Nat.reduceLT, Nat.add_zero, Nat.zero_add, e0]
    first | done | trivial
  · rintro k f g m' hk ⟨⟨q1, q2, q3⟩, rfl, f3, f12, f13, f14⟩
    have hk' : (k : Int) < (S.nv : Int) := by omega
    have hw : wrapF .i64 ((k : Int) + 1) = ((k + 1 : Nat) : Int) := by rw [wrap_in (by omega) (by omega)]; rfl
    have hyg := hy1.mono q1
    simp only [rn0, rn1, rn2, rn3, rn4, rn5, rn6, rn7, rn8, if_true, if_false, Nat.le_refl, true_and, and_true, decide_true, decide_false, Bool.not_true, Bool.not_false, reduceIte, Nat.reduceEqDiff, Nat.reduceAdd, Nat.reduceMul, Nat.reduceSub, Nat.reduceLeDiff, Nat.reduceLT, f3, f12, f13, f14, hk', Cells.idx hyg.v hk, vat_ld hyg hk]
    refine step_new (vs := vaL S k) (by omega) (by omega) rfl (by simp only [rn0, rn1, rn2, rn3, rn4, rn5, rn6, rn7, rn8, if_true, if_false, Nat.le_refl, true_and, and_true, decide_true, decide_false, Bool.not_true, Bool.not_false, reduceIte, Nat.reduceEqDiff, Nat.reduceAdd, Nat.reduceMul, Nat.reduceSub, Nat.reduceLeDiff, Nat.reduceLT]; rfl) rfl rfl rfl fun g' hg' => ?_
    have n' := hg'.next
    have hin : (Sub All g1 g' ∧ g'.next = g1.next + (k + 1) ∧ g'.floor = g1.floor) = True := eq_true ⟨q1.trans hg'.sub, by omega, by rw [hg'.floor, q3]⟩
    obtain ⟨⟨v1, v2, v3⟩, _⟩ := hA.vat k hk
    have es := rsize_ok (n := n) (h := g') (by omega) (by omega) v1 v2 (by omega)
    have e0 : loadAgg 2 g' (.pointer (some ⟨g.next, 0, none⟩)) = some (.agg ⟨[.int .i64 (S.nlo k), .int .i64 (S.nhi k)]⟩) := hg'.ldN 0 2 (by simp [vaL]) (by simp [vaL])
    have hb := size_bound hA hl (k + 1 + 1) (by unfold numU; omega)
    have hm : wrapF .i64 (sizeN (uLo S) (uHi S) (k + 1) * (S.nhi k - S.nlo k + 1)) = sizeN (uLo S) (uHi S) (k + 1 + 1) := by
      have : sizeN (uLo S) (uHi S) (k + 1 + 1) = sizeN (uLo S) (uHi S) (k + 1) * (S.nhi k - S.nlo k + 1) := by rw [sizeN, uLo_succ, uHi_succ]
      rw [← this]; exact wrap_in (by omega) (by omega)
    simp only [rn0, rn1, rn2, rn3, rn4, rn5, rn6, rn7, rn8, if_true, if_false, Nat.le_refl, true_and, and_true, decide_true, decide_false, Bool.not_true, Bool.not_false, reduceIte, Nat.reduceEqDiff, Nat.reduceAdd, Nat.reduceMul, Nat.reduceSub, Nat.reduceLeDiff, Nat.reduceLT, f3, f12, f13, f14, e0, es, hm, hw, hin]
  · rintro f g m' ⟨⟨q1, q2, q3⟩, rfl, f3, f12, f13, f14⟩
    have e : sizeN (uLo S) (uHi S) (S.nv + 1) = manyS S := rfl
    simp only [rn0, rn1, rn2, rn3, rn4, rn5, rn6, rn7, rn8, if_true, if_false, Nat.le_refl, true_and, and_true, decide_true, decide_false, Bool.not_true, Bool.not_false, reduceIte, Nat.reduceEqDiff, Nat.reduceAdd, Nat.reduceMul, Nat.reduceSub, Nat.reduceLeDiff, Nat.reduceLT, f3, f12, f13, f14, Int.lt_irrefl, e]
def s83 : SCode := (.seq (.ops [⟨(some 1), none, .box (T 0)⟩, ⟨(some 2), none, .mov (.const (.bool false))⟩]) (.seq (.ops [⟨(some 3), none, .fieldAddr 0 (T 1)⟩, ⟨(some 4), none, .fieldAddr 3 (T 3)⟩, ⟨(some 5), none, .load1 (T 4)⟩, ⟨(some 6), none, .int2 .leq (.const (.int .i64 (0))) (T 5)⟩, ⟨(some 7), none, .mov (T 6)⟩, ⟨(some 8), (some (7, true)), .fieldAddr 0 (T 1)⟩, ⟨(some 9), (some (7, true)), .fieldAddr 0 (T 8)⟩, ⟨(some 10), (some (7, true)), .loadN 2 (T 9)⟩, ⟨(some 11), (some (7, true)), .call (.func 113) [(T 10), (.const (.int .i64 (4)))]⟩, ⟨(some 12), none, .pick (T 7) (T 11) (.const (.bool false))⟩, ⟨(some 13), none, .mov (T 12)⟩, ⟨(some 14), (some (13, true)), .fieldAddr 0 (T 1)⟩, ⟨(some 15), (some (13, true)), .fieldAddr 2 (T 14)⟩, ⟨(some 16), (some (13, true)), .load1 (T 15)⟩, ⟨(some 17), (some (13, true)), .call (.func 114) [(T 16), (.func 115)]⟩, ⟨(some 18), none, .pick (T 13) (T 17) (.const (.bool false))⟩, ⟨(some 19), none, .mov (T 18)⟩, ⟨(some 20), (some (19, true)), .fieldAddr 0 (T 1)⟩, ⟨(some 21), (some (19, true)), .fieldAddr 4 (T 20)⟩, ⟨(some 22), (some (19, true)), .load1 (T 21)⟩, ⟨(some 23), (some (19, true)), .loadN 6 (T 1)⟩, ⟨(some 24), (some (19, true)), .mkfunc 116 [(T 23)] []⟩, ⟨(some 25), (some (19, true)), .call (.func 111) [(T 22), (T 24)]⟩, ⟨(some 26), none, .pick (T 19) (T 25) (.const (.bool false))⟩, ⟨(some 2), none, .mov (T 26)⟩]) .ret))
theorem fok83 : FnOk Try.prog 83 27 s83 [.tmp 2] := ⟨Try.f83, _, Try.func83, rfl, Try.ntmps83, by kernel_rfl, by kernel_rfl⟩
open Classical in
theorem isValid_c (hn : 110 ≤ n) (hr : h.next + 100 < far) {vv sv tv : Value} {S : MB} (hy : BeatR h vv sv S) (ht : oneCell tv = true) (h1 : S.nv ≤ 30) (h2 : S.ns ≤ 30) :
    call n (.func (.func 83) #[] #[]) [.agg ⟨wkL S vv sv tv⟩] h = some (.bool (decide (ArgsOk S)), h) := by
  obtain ⟨n, rfl⟩ : ∃ p, n = p + 1 := ⟨n - 1, by omega⟩
  refine call_plain0 fok83 rfl rfl (by simp) rfl ?_
  have hy := hy.shut
  have hr : h.shutAll.next + 100 < far := hr
  generalize h.shutAll = h at hy hr
  simp only [s83, W_seq, W_ops]
  refine ops_box (cs := wkL S vv sv tv) (by omega) rfl (wk_one hy ht) fun g1 hx => ?_
  have n1 := hx.next
  have hy1 := hy.mono hx.sub
  have hsn : g1.shutAll.next = g1.next := rfl
  by_cases c1 : 0 ≤ S.last
  case neg =>
    have : ¬ ArgsOk S := fun e => c1 e.head.1
    simp only [rn0, rn1, rn2, rn3, rn4, rn5, rn6, rn7, rn8, if_true, if_false, Nat.le_refl, true_and, and_true, decide_true, decide_false, Bool.not_true, Bool.not_false, reduceIte, Nat.reduceEqDiff, Nat.reduceAdd, Nat.reduceMul, Nat.reduceSub, Nat.reduceLeDiff, Nat.reduceLT, hx.ld, wkg, Nat.zero_add, c1, this]
  have e1 := isUpTo_c (n := n) (h := g1) (by omega) (by omega) S.slo S.shi 4
  by_cases c2 : 0 ≤ S.slo ∧ S.slo ≤ S.shi ∧ S.shi ≤ 4
  case neg =>
    have : ¬ ArgsOk S := fun e => c2 e.head.2
    simp only [rn0, rn1, rn2, rn3, rn4, rn5, rn6, rn7, rn8, if_true, if_false, Nat.le_refl, true_and, and_true, decide_true, decide_false, Bool.not_true, Bool.not_false, reduceIte, Nat.reduceEqDiff, Nat.reduceAdd, Nat.reduceMul, Nat.reduceSub, Nat.reduceLeDiff, Nat.reduceLT, hx.ld, wkg, Nat.zero_add, c1, wk_rng hx.row, e1, c2, this]
  have e2 := everyVat_c (n := n) (h := g1) (p := fun i => (0 ≤ S.nlo i ∧ S.nlo i ≤ S.nhi i ∧ S.nhi i ≤ 9) ∧ (0 ≤ S.ve i ∧ S.ve i ≤ 20) ∧ 0 ≤ S.vl i ∧ S.vl i ≤ 20) (ok := .func (.func 115) #[] #[]) (by omega) (by omega) hy1.v h1 fun g' hs hg i hi => isVat_c (by omega) (by omega) i
  by_cases c3 : ∀ i, i < S.nv → (0 ≤ S.nlo i ∧ S.nlo i ≤ S.nhi i ∧ S.nhi i ≤ 9) ∧ (0 ≤ S.ve i ∧ S.ve i ≤ 20) ∧ 0 ≤ S.vl i ∧ S.vl i ≤ 20
  case neg =>
    have : ¬ ArgsOk S := fun e => c3 e.vat
    simp only [rn0, rn1, rn2, rn3, rn4, rn5, rn6, rn7, rn8, if_true, if_false, Nat.le_refl, true_and, and_true, decide_true, decide_false, Bool.not_true, Bool.not_false, reduceIte, Nat.reduceEqDiff, Nat.reduceAdd, Nat.reduceMul, Nat.reduceSub, Nat.reduceLeDiff, Nat.reduceLT, hx.ld, wkg, Nat.zero_add, c1, wk_rng hx.row, e1, c2, and_self, e2, eq_false c3, this]
  have e3 := everySamp_c (n := n) (h := g1) (p := fun i => (0 ≤ S.sv i ∧ S.sv i ≤ (S.nv : Int) - 1) ∧ 0 ≤ S.sh i ∧ S.sh i ≤ S.last) (ok := .func (.func 116) ⟨[.agg ⟨wkL S vv sv tv⟩]⟩ #[]) (by omega) (by omega) hy1.s h2 fun g' hs hg i hi => isSamp_c (by omega) (by omega) (hy1.shut.mono hs) ht i
  by_cases c4 : ∀ i, i < S.ns → (0 ≤ S.sv i ∧ S.sv i ≤ (S.nv : Int) - 1) ∧ 0 ≤ S.sh i ∧ S.sh i ≤ S.last
  case neg =>
    have : ¬ ArgsOk S := fun e => c4 e.samp
    simp only [rn0, rn1, rn2, rn3, rn4, rn5, rn6, rn7, rn8, if_true, if_false, Nat.le_refl, true_and, and_true, decide_true, decide_false, Bool.not_true, Bool.not_false, reduceIte, Nat.reduceEqDiff, Nat.reduceAdd, Nat.reduceMul, Nat.reduceSub, Nat.reduceLeDiff, Nat.reduceLT, hx.ld, wkg, Nat.zero_add, c1, wk_rng hx.row, e1, c2, and_self, e2, eq_true c3, hx.row.whole (n := 6) rfl, e3, eq_false c4, this]
  have : ArgsOk S := ⟨⟨c1, c2⟩, c3, c4⟩
  simp only [rn0, rn1, rn2, rn3, rn4, rn5, rn6, rn7, rn8, if_true, if_false, Nat.le_refl, true_and, and_true, decide_true, decide_false, Bool.not_true, Bool.not_false, reduceIte, Nat.reduceEqDiff, Nat.reduceAdd, Nat.reduceMul, Nat.reduceSub, Nat.reduceLeDiff, Nat.reduceLT, hx.ld, wkg, Nat.zero_add, c1, wk_rng hx.row, e1, c2, and_self, e2, eq_true c3, hx.row.whole (n := 6) rfl, e3, eq_true c4, this]
theorem build_wk {a b v l s : Value} : buildA (fun x => (#[(0, 5), (5, 1)] : Array (Nat × Nat))[x]?) ⟨[.int .i64 0, .int .i64 0, .slice none 0 0, .int .i64 0, .slice none 0 0, .slice none 0 0]⟩ [0] h [.agg ⟨[a, b, v, l, s]⟩] = some (.agg ⟨[a, b, v, l, s, .slice none 0 0]⟩, h) := by
  unfold buildA
  have e : Instr.fill (fun x => (#[(0, 5), (5, 1)] : Array (Nat × Nat))[x]?) #[.int .i64 0, .int .i64 0, .slice none 0 0, .int .i64 0, .slice none 0 0, .slice none 0 0] ([0].zip [.agg ⟨[a, b, v, l, s]⟩]) = some #[a, b, v, l, s, .slice none 0 0] := by
    simp [Instr.fill, Value.cells]
  rw [e]
theorem build_wkB {S : MB} {vv sv : Value} : buildA (fun x => (#[(0, 5), (5, 1)] : Array (Nat × Nat))[x]?) ⟨[.int .i64 0, .int .i64 0, .slice none 0 0, .int .i64 0, .slice none 0 0, .slice none 0 0]⟩ [0] h [.agg ⟨beL S vv sv⟩] = some (.agg ⟨wkL S vv sv nilS⟩, h) := build_wk
def s31 : SCode := (.seq (.ops [⟨(some 1), none, .box (T 0)⟩, ⟨(some 2), none, .mov (.const (.int .i64 (0)))⟩]) (.seq (.ops [⟨(some 4), none, .loadN 5 (T 1)⟩, ⟨(some 5), none, .build #[(0, 5), (5, 1)] [(.int .i64 (0)), (.int .i64 (0)), (.slice none 0 0), (.int .i64 (0)), (.slice none 0 0), (.slice none 0 0)] [0] [(T 4)]⟩, ⟨(some 3), none, .alloc [(.int .i64 (0)), (.int .i64 (0)), (.slice none 0 0), (.int .i64 (0)), (.slice none 0 0), (.slice none 0 0)]⟩, ⟨none, none, .store 6 (T 3) (T 5)⟩]) (.seq (.block 0 (.seq (.ops [⟨(some 7), none, .fieldAddr 3 (T 1)⟩, ⟨(some 8), none, .load1 (T 7)⟩, ⟨(some 9), none, .int2 .gtr (T 8) (.const (.int .i64 (9)))⟩, ⟨(some 10), none, .mov (T 9)⟩, ⟨(some 11), (some (10, false)), .fieldAddr 2 (T 1)⟩, ⟨(some 12), (some (10, false)), .load1 (T 11)⟩, ⟨(some 13), (some (10, false)), .len (T 12)⟩, ⟨(some 14), (some (10, false)), .int2 .gtr (T 13) (.const (.int .i64 (3)))⟩, ⟨(some 15), none, .pick (T 10) (.const (.bool true)) (T 14)⟩, ⟨(some 16), none, .mov (T 15)⟩, ⟨(some 17), (some (16, false)), .fieldAddr 4 (T 1)⟩, ⟨(some 18), (some (16, false)), .load1 (T 17)⟩, ⟨(some 19), (some (16, false)), .len (T 18)⟩, ⟨(some 20), (some (16, false)), .int2 .gtr (T 19) (.const (.int .i64 (5)))⟩, ⟨(some 21), none, .pick (T 16) (.const (.bool true)) (T 20)⟩, ⟨(some 6), none, .mov (T 21)⟩]) (.cond (T 6) (.seq (.ops [⟨(some 2), none, .mov (.const (.int .i64 (3)))⟩]) .ret) (.seq (.ops [⟨(some 23), none, .loadN 6 (T 3)⟩, ⟨(some 24), none, .call (.func 83) [(T 23)]⟩, ⟨(some 25), none, .not (T 24)⟩, ⟨(some 22), none, .mov (T 25)⟩]) (.cond (T 22) (.seq (.ops [⟨(some 2), none, .mov (.const (.int .i64 (1)))⟩]) .ret) (.seq (.ops [⟨(some 27), none, .loadN 6 (T 3)⟩, ⟨(some 28), none, .call (.func 84) [(T 27)]⟩, ⟨(some 29), none, .int2 .gtr (T 28) (.const (.int .i64 (200)))⟩, ⟨(some 26), none, .mov (T 29)⟩]) (.cond (T 26) (.seq (.ops [⟨(some 2), none, .mov (.const (.int .i64 (3)))⟩]) .ret) .skip))))))) (.seq (.ops [⟨(some 2), none, .mov (.const (.int .i64 (0)))⟩]) .ret))))
theorem fok31 : FnOk Try.prog 31 30 s31 [.tmp 2] := ⟨Try.f31, _, Try.func31, rfl, Try.ntmps31, by kernel_rfl, by kernel_rfl⟩
theorem check_c (hn : 120 ≤ n) (hr : h.next + 200 < far) {vv sv : Value} {S : MB} (hy : BeatR h vv sv S) (hT : ThinS S) :
    call n (.func (.func 31) #[] #[]) [.agg ⟨beL S vv sv⟩] h = some (.int .i64 (faultS S), h) := by
  obtain ⟨n, rfl⟩ : ∃ p, n = p + 1 := ⟨n - 1, by omega⟩
  refine call_plain0 fok31 rfl rfl (by simp) rfl ?_
  have hy := hy.shut
  have hr : h.shutAll.next + 200 < far := hr
  have hfl : h.shutAll.floor ≤ h.shutAll.next := Nat.le_refl _
  generalize h.shutAll = h at hy hr hfl
  simp only [s31, W_seq, W_ops]
  refine ops_box (cs := beL S vv sv) (by omega) rfl hy.one fun g1 hx => ?_
  have n1 := hx.next
  have f1' := hx.floor
  simp only [rn0, rn1, rn2, rn3, rn4, rn5, rn6, rn7, rn8, if_true, if_false, Nat.le_refl, true_and, and_true, decide_true, decide_false, Bool.not_true, Bool.not_false, reduceIte, Nat.reduceEqDiff, Nat.reduceAdd, Nat.reduceMul, Nat.reduceSub, Nat.reduceLeDiff, Nat.reduceLT, hx.row.whole (n := 5) rfl, build_wkB]
  refine step_new (vs := wkL S vv sv nilS) (by omega) (by omega) rfl (by simp only [rn0, rn1, rn2, rn3, rn4, rn5, rn6, rn7, rn8, if_true, if_false, Nat.le_refl, true_and, and_true, decide_true, decide_false, Bool.not_true, Bool.not_false, reduceIte, Nat.reduceEqDiff, Nat.reduceAdd, Nat.reduceMul, Nat.reduceSub, Nat.reduceLeDiff, Nat.reduceLT]; rfl) (wk_one hy rfl) rfl rfl fun g2 hx2 => ?_
  have n2 := hx2.next
  have r1 := hx.row.mono hx2.sub
  have hy2 := (hy.mono hx.sub).mono hx2.sub
  have w2 := hx2.row.whole (n := 6) rfl
  have e3 : ¬ LimOk S → faultS S = 3 := fun e => by unfold faultS; rw [if_pos e]
  by_cases c1 : 9 < S.last
  · have := e3 fun e => by have := e.1; omega
    simp only [rn0, rn1, rn2, rn3, rn4, rn5, rn6, rn7, rn8, if_true, if_false, Nat.le_refl, true_and, and_true, decide_true, decide_false, Bool.not_true, Bool.not_false, reduceIte, Nat.reduceEqDiff, Nat.reduceAdd, Nat.reduceMul, Nat.reduceSub, Nat.reduceLeDiff, Nat.reduceLT, r1.ld, beg, Nat.zero_add, c1, this]
  by_cases c2 : (3 : Int) < (S.nv : Int)
  · have := e3 fun e => by have := e.2.1; omega
    simp only [rn0, rn1, rn2, rn3, rn4, rn5, rn6, rn7, rn8, if_true, if_false, Nat.le_refl, true_and, and_true, decide_true, decide_false, Bool.not_true, Bool.not_false, reduceIte, Nat.reduceEqDiff, Nat.reduceAdd, Nat.reduceMul, Nat.reduceSub, Nat.reduceLeDiff, Nat.reduceLT, r1.ld, beg, Nat.zero_add, c1, Cells.len hy2.v, c2, this]
  by_cases c3 : (5 : Int) < (S.ns : Int)
  · have := e3 fun e => by have := e.2.2; omega
    simp only [rn0, rn1, rn2, rn3, rn4, rn5, rn6, rn7, rn8, if_true, if_false, Nat.le_refl, true_and, and_true, decide_true, decide_false, Bool.not_true, Bool.not_false, reduceIte, Nat.reduceEqDiff, Nat.reduceAdd, Nat.reduceMul, Nat.reduceSub, Nat.reduceLeDiff, Nat.reduceLT, r1.ld, beg, Nat.zero_add, c1, Cells.len hy2.v, c2, Cells.len hy2.s, c3, this]
  have hL : LimOk S := ⟨by omega, by omega, by omega⟩
  have ev := isValid_c (n := n) (h := g2) (by omega) (by omega) hy2 (tv := nilS) rfl hT.1 hT.2
  by_cases hA : ArgsOk S
  case neg =>
    have hF : faultS S = 1 := by unfold faultS; rw [if_neg (by simpa using hL), if_pos hA]
    simp only [rn0, rn1, rn2, rn3, rn4, rn5, rn6, rn7, rn8, if_true, if_false, Nat.le_refl, true_and, and_true, decide_true, decide_false, Bool.not_true, Bool.not_false, reduceIte, Nat.reduceEqDiff, Nat.reduceAdd, Nat.reduceMul, Nat.reduceSub, Nat.reduceLeDiff, Nat.reduceLT, r1.ld, beg, Nat.zero_add, c1, Cells.len hy2.v, c2, Cells.len hy2.s, c3, w2, ev, hA, hF]
  have ez := wsize_c (n := n) (h := g2) (by omega) (by omega) hy2 (tv := nilS) rfl hA hL.2.1
  have hF : faultS S = if 200 < manyS S then 3 else 0 := by unfold faultS; rw [if_neg (by simpa using hL), if_neg (by simpa using hA)]
  by_cases hm : 200 < manyS S
  · rw [if_pos hm] at hF
    simp only [rn0, rn1, rn2, rn3, rn4, rn5, rn6, rn7, rn8, if_true, if_false, Nat.le_refl, true_and, and_true, decide_true, decide_false, Bool.not_true, Bool.not_false, reduceIte, Nat.reduceEqDiff, Nat.reduceAdd, Nat.reduceMul, Nat.reduceSub, Nat.reduceLeDiff, Nat.reduceLT, r1.ld, beg, Nat.zero_add, c1, Cells.len hy2.v, c2, Cells.len hy2.s, c3, w2, ev, hA, ez, hm, hF]
  · rw [if_neg hm] at hF
    simp only [rn0, rn1, rn2, rn3, rn4, rn5, rn6, rn7, rn8, if_true, if_false, Nat.le_refl, true_and, and_true, decide_true, decide_false, Bool.not_true, Bool.not_false, reduceIte, Nat.reduceEqDiff, Nat.reduceAdd, Nat.reduceMul, Nat.reduceSub, Nat.reduceLeDiff, Nat.reduceLT, r1.ld, beg, Nat.zero_add, c1, Cells.len hy2.v, c2, Cells.len hy2.s, c3, w2, ev, hA, ez, hm, hF]
end Go.Vm.Bt

namespace Go.Vm.Bt
open Go.Proofs Go.Vm.Vat Go.Vm.L2
set_option linter.unusedSimpArgs false
set_option linter.unusedVariables false
set_option maxRecDepth 10000
variable {n : Nat} {h : AHeap}
def s70 : SCode := (.seq (.ops [⟨(some 1), none, .box (T 0)⟩, ⟨(some 2), none, .mov (.const (.int .i64 (0)))⟩]) (.seq (.ops [⟨(some 5), none, .fieldAddr 0 (T 1)⟩, ⟨(some 6), none, .loadN 2 (T 5)⟩, ⟨(some 7), none, .call (.func 108) [(T 6)]⟩, ⟨(some 3), none, .mov (T 7)⟩]) (.seq (.seq (.ops [⟨(some 4), none, .mov (.const (.int .i64 (0)))⟩]) (.block 0 (.loop (.seq (.seq (.ops [⟨(some 8), none, .mov (T 4)⟩, ⟨(some 9), none, .fieldAddr 2 (T 1)⟩, ⟨(some 10), none, .load1 (T 9)⟩, ⟨(some 11), none, .len (T 10)⟩, ⟨(some 12), none, .int2 .lss (T 8) (T 11)⟩]) (.cond (T 12) .skip (.exit 0))) (.seq (.block 1 (.ops [⟨(some 15), none, .mov (T 3)⟩, ⟨(some 16), none, .fieldAddr 2 (T 1)⟩, ⟨(some 17), none, .load1 (T 16)⟩, ⟨(some 18), none, .mov (T 4)⟩, ⟨(some 19), none, .idxSl 4 (T 17) (T 18)⟩, ⟨(some 20), none, .fieldAddr 0 (T 19)⟩, ⟨(some 21), none, .loadN 2 (T 20)⟩, ⟨(some 22), none, .call (.func 108) [(T 21)]⟩, ⟨(some 23), none, .int2 .mul (T 15) (T 22)⟩, ⟨(some 3), none, .mov (T 23)⟩])) (.ops [⟨(some 13), none, .mov (T 4)⟩, ⟨(some 14), none, .int2 .add (T 13) (.const (.int .i64 (1)))⟩, ⟨(some 4), none, .mov (T 14)⟩])))))) (.seq (.ops [⟨(some 24), none, .mov (T 3)⟩, ⟨(some 2), none, .mov (T 24)⟩]) .ret))))
theorem fok70 : FnOk Try.prog 70 25 s70 [.tmp 2] := ⟨Try.f70, _, Try.func70, rfl, Try.ntmps70, by kernel_rfl, by kernel_rfl⟩
theorem manyR_c (hn : 100 ≤ n) (hr : h.next + 60 < far) {vv sv : Value} {S : MB} (hy : BeatR h vv sv S) (hA : ArgsOk S) (hl : S.nv ≤ 3) :
    call n (.func (.func 70) #[] #[]) [.agg ⟨beL S vv sv⟩] h = some (.int .i64 (manyS S), h) := by
  obtain ⟨n, rfl⟩ : ∃ p, n = p + 1 := ⟨n - 1, by omega⟩
  refine call_plain0 fok70 rfl rfl (by simp) rfl ?_
  have hy := hy.shut
  have hr : h.shutAll.next + 60 < far := hr
  generalize h.shutAll = h at hy hr
  obtain ⟨b1, b2, b3, b4⟩ := hA.head
  simp only [s70, W_seq, W_ops]
  refine ops_box (cs := beL S vv sv) (by omega) rfl hy.one fun g1 hx => ?_
  have n1 := hx.next
  have hy1 := hy.mono hx.sub
  have r1 := hx.row
  have es := size_ok (n := n) (h := g1) (by omega) (by omega) b2 b3 (by omega)
  simp only [rn0, rn1, rn2, rn3, rn4, rn5, rn6, rn7, rn8, if_true, if_false, Nat.le_refl, true_and, and_true, decide_true, decide_false, Bool.not_true, Bool.not_false, reduceIte, Nat.reduceEqDiff, Nat.reduceAdd, Nat.reduceMul, Nat.reduceSub, Nat.reduceLeDiff, Nat.reduceLT, be_rng hx.row, es]
  refine W_loop S.nv (fun k f g m' => g = g1 ∧ m' = [] ∧ f 1 = .pointer (some ⟨h.next, 0, none⟩) ∧ f 3 = .int .i64 (sizeN (uLo S) (uHi S) (k + 1)) ∧ f 4 = .int .i64 (k : Int)) (by simp; omega) ?_ ?_ ?_
  · have e0 : sizeN (uLo S) (uHi S) 1 = S.shi - S.slo + 1 := by simp [sizeN, uLo, uHi]
    simp only [rn0, rn1, rn2, rn3, rn4, rn5, rn6, rn7, rn8, if_true, if_false, Nat.le_refl, true_and, and_true, decide_true, decide_false, Bool.not_true, Bool.not_false, reduceIte, Nat.reduceEqDiff, Nat.reduceAdd, Nat.reduceMul, Nat.reduceSub, Nat.reduceLeDiff, Nat.reduceLT, Nat.zero_add, e0]
    first | done | trivial
  · rintro k f g m' hk ⟨rfl, rfl, f1, f3, f4⟩
    have hk' : (k : Int) < (S.nv : Int) := by omega
    have hw : wrapF .i64 ((k : Int) + 1) = ((k + 1 : Nat) : Int) := by rw [wrap_in (by omega) (by omega)]; rfl
    obtain ⟨⟨v1, v2, v3⟩, _⟩ := hA.vat k hk
    have es := size_ok (n := n) (h := g) (by omega) (by omega) v1 v2 (by omega)
    have hb := size_bound hA hl (k + 1 + 1) (by unfold numU; omega)
    have hm : wrapF .i64 (sizeN (uLo S) (uHi S) (k + 1) * (S.nhi k - S.nlo k + 1)) = sizeN (uLo S) (uHi S) (k + 1 + 1) := by
      have : sizeN (uLo S) (uHi S) (k + 1 + 1) = sizeN (uLo S) (uHi S) (k + 1) * (S.nhi k - S.nlo k + 1) := by rw [sizeN, uLo_succ, uHi_succ]
      rw [← this]; exact wrap_in (by omega) (by omega)
    simp only [rn0, rn1, rn2, rn3, rn4, rn5, rn6, rn7, rn8, if_true, if_false, Nat.le_refl, true_and, and_true, decide_true, decide_false, Bool.not_true, Bool.not_false, reduceIte, Nat.reduceEqDiff, Nat.reduceAdd, Nat.reduceMul, Nat.reduceSub, Nat.reduceLeDiff, Nat.reduceLT, f1, f3, f4, r1.ld, beg, Nat.zero_add, Cells.len hy1.v, hk', Cells.idx hy1.v hk, Cells.fld hy1.v hk, need_ld hy1 hk, es, hm, hw]
  · rintro f g m' ⟨rfl, rfl, f1, f3, f4⟩
    have e : sizeN (uLo S) (uHi S) (S.nv + 1) = manyS S := rfl
    simp only [rn0, rn1, rn2, rn3, rn4, rn5, rn6, rn7, rn8, if_true, if_false, Nat.le_refl, true_and, and_true, decide_true, decide_false, Bool.not_true, Bool.not_false, reduceIte, Nat.reduceEqDiff, Nat.reduceAdd, Nat.reduceMul, Nat.reduceSub, Nat.reduceLeDiff, Nat.reduceLT, f1, f3, f4, r1.ld, beg, Nat.zero_add, Cells.len hy1.v, Int.lt_irrefl, e]
end Go.Vm.Bt

namespace Go.Vm.Bt
open Go.Proofs Go.Vm.Vat Go.Vm.L2
set_option linter.unusedSimpArgs false
set_option linter.unusedVariables false
set_option maxRecDepth 10000
variable {n : Nat} {h : AHeap}
def dn (d : Nat → Int) : List Value := (List.range 3).map fun j => .int .i64 (d j)
theorem dn_len {d : Nat → Int} : (dn d).length = 3 := by simp [dn]
theorem dn_get {d : Nat → Int} {j : Nat} (hj : j < 3) : (dn d)[j]? = some (.int .i64 (d j)) := by rw [dn, List.getElem?_map, List.getElem?_range hj]; rfl
theorem dn_one {d : Nat → Int} : allB oneCell (dn d) = true := by rw [allB_iff]; intro v hv; obtain ⟨i, _, rfl⟩ := List.mem_map.1 hv; rfl
theorem dn_self {d : Nat → Int} : eqV (.agg ⟨dn d⟩) (.agg ⟨dn d⟩) = true := by simp [dn, List.range_succ, eqV, eqCells, eqC_int]
theorem dn_mix {S : MB} {u : Nat → Int} : mix 3 S.nv (whenS u) = dn (doneS S u) := rfl
def s80 : SCode := (.seq (.ops [⟨(some 1), none, .box (T 0)⟩, ⟨(some 2), none, .alloc [(.int .i64 (0)), (.int .i64 (0)), (.int .i64 (0))]⟩]) (.seq (.seq (.ops [⟨(some 5), none, .fieldAddr 1 (T 1)⟩, ⟨(some 6), none, .load1 (T 5)⟩, ⟨(some 7), none, .len (T 6)⟩, ⟨(some 8), none, .mov (.const (.int .i64 (0)))⟩]) (.block 0 (.loop (.seq (.ops [⟨(some 9), none, .int2 .lss (T 8) (T 7)⟩]) (.seq (.cond (T 9) .skip (.exit 0)) (.seq (.block 1 (.seq (.ops [⟨(some 10), none, .mov (T 8)⟩, ⟨(some 11), none, .idxSl 1 (T 6) (T 8)⟩, ⟨(some 12), none, .load1 (T 11)⟩, ⟨(some 3), none, .mov (T 10)⟩, ⟨(some 4), none, .mov (T 12)⟩]) (.ops [⟨(some 13), none, .mov (T 3)⟩, ⟨(some 14), none, .mov (T 4)⟩, ⟨(some 15), none, .fieldAddr 0 (T 1)⟩, ⟨(some 16), none, .load1 (T 15)⟩, ⟨(some 17), none, .int2 .add (T 14) (T 16)⟩, ⟨(some 18), none, .idxArr 3 1 (T 2) (T 13)⟩, ⟨none, none, .store 1 (T 18) (T 17)⟩]))) (.ops [⟨(some 19), none, .int2 .add (T 8) (.const (.int .i64 (1)))⟩, ⟨(some 8), none, .mov (T 19)⟩]))))))) (.seq (.ops [⟨(some 20), none, .loadN 3 (T 2)⟩, ⟨none, none, .store 3 (T 2) (T 20)⟩]) .ret)))
theorem fok80 : FnOk Try.prog 80 21 s80 [.cellN 2 3] := ⟨Try.f80, _, Try.func80, rfl, Try.ntmps80, by kernel_rfl, by kernel_rfl⟩
theorem done_c (hn : 60 ≤ n) (hr : h.next + 10 < far) {cw : Value} {S : MB} {u : Nat → Int} (hc : CouR h cw S u) (hG : Good S) (hu : InU S u) :
    call n (.func (.func 80) #[] #[]) [.agg ⟨coL (u 0) cw⟩] h = some (.agg ⟨dn (doneS S u)⟩, h) := by
  obtain ⟨n, rfl⟩ : ∃ p, n = p + 1 := ⟨n - 1, by omega⟩
  refine call_plain0 fok80 rfl rfl (by simp) rfl ?_
  have hc := Cells.shut hc
  have hr : h.shutAll.next + 10 < far := hr
  have hfl : h.shutAll.floor ≤ h.shutAll.next := Nat.le_refl _
  generalize h.shutAll = h at hc hr hfl
  obtain ⟨_, _, z3, _⟩ := hG.sizes
  have hcb : 0 < S.nv → ∀ a q cap, cw = .slice (some a) q cap → a.block < h.next := fun h0 a q cap e => cells_lt hc h0 e
  simp only [s80, W_seq, W_ops]
  refine ops_box (cs := coL (u 0) cw) (by omega) rfl (co_one hc) fun h1 hx1 => ?_
  have n1 := hx1.next
  have f1' := hx1.floor
  refine ops_alloc (cs := [.int .i64 0, .int .i64 0, .int .i64 0]) (by omega) rfl fun h2 hx2 => ?_
  have n2 := hx2.next
  have f2' := hx2.floor
  have r1 := hx1.row.mono hx2.sub
  have hc : CouR h2 cw S u := Cells.mono (Cells.mono hc hx1.sub) hx2.sub
  have hb : h2.get h1.next = some (.row (mix 3 0 (whenS u)) true 0) := hx2.get
  simp only [rn0, rn1, rn2, rn3, rn4, rn5, rn6, rn7, rn8, if_true, if_false, Nat.le_refl, true_and, and_true, decide_true, decide_false, Bool.not_true, Bool.not_false, reduceIte, Nat.reduceEqDiff, Nat.reduceAdd, Nat.reduceMul, Nat.reduceSub, Nat.reduceLeDiff, Nat.reduceLT, r1.ld, cog, Nat.zero_add, Cells.len hc]
  refine W_loop S.nv (fun k f g ms => (Keep h1.next h2 g ∧ g.next = h2.next ∧ g.get h1.next = some (.row (mix 3 k (whenS u)) true 0)) ∧ ms = [] ∧ f 1 = .pointer (some ⟨h.next, 0, none⟩) ∧ f 2 = .pointer (some ⟨h1.next, 0, none⟩) ∧ f 6 = cw ∧ f 7 = .int .i64 (S.nv : Int) ∧ f 8 = .int .i64 (k : Int)) (by simp; omega) ?_ ?_ ?_
  · simp only [rn0, rn1, rn2, rn3, rn4, rn5, rn6, rn7, rn8, if_true, if_false, Nat.le_refl, true_and, and_true, decide_true, decide_false, Bool.not_true, Bool.not_false, reduceIte, Nat.reduceEqDiff, Nat.reduceAdd, Nat.reduceMul, Nat.reduceSub, Nat.reduceLeDiff, Nat.reduceLT]
    exact ⟨⟨Keep.refl, hb⟩, rfl⟩
  · rintro k f g ms hk ⟨⟨kp, gn, hg⟩, rfl, f1, f2, f6, f7, f8⟩
    have hk' : (k : Int) < (S.nv : Int) := by omega
    have hw : wrapF .i64 ((k : Int) + 1) = ((k + 1 : Nat) : Int) := by rw [wrap_in (by omega) (by omega)]; rfl
    have hfg := kp.floor
    have hcg : CouR g cw S u := Cells.keep hc kp fun a q cap e => by have := hcb (by omega) a q cap e; omega
    have rg := r1.keep kp (by omega)
    have hwb := when_bound hG hu hk
    have hws : wrapF .i64 (u (k + 1) + u 0) = whenS u k := by rw [Int.add_comm]; exact wrap_in (by unfold whenS at hwb; omega) (by unfold whenS at hwb; omega)
    simp only [rn0, rn1, rn2, rn3, rn4, rn5, rn6, rn7, rn8, if_true, if_false, Nat.le_refl, true_and, and_true, decide_true, decide_false, Bool.not_true, Bool.not_false, reduceIte, Nat.reduceEqDiff, Nat.reduceAdd, Nat.reduceMul, Nat.reduceSub, Nat.reduceLeDiff, Nat.reduceLT, f1, f2, f6, f7, f8, hk', Cells.idx hcg hk, Cells.ld hcg hk Nat.zero_lt_one, rg.ld, cog, Nat.zero_add, hws, idxArr_p (show k < 3 by omega)]
    refine step_store (b := h1.next) (off := k) (vs := [.int .i64 (whenS u k)]) rfl hg (by omega) (by omega) rfl rfl rfl (by rw [mix_len]; omega) fun g1 hs1 => ?_
    have g1g := hs1.get
    rw [mix_splice (show k < 3 by omega)] at g1g
    simp only [rn0, rn1, rn2, rn3, rn4, rn5, rn6, rn7, rn8, if_true, if_false, Nat.le_refl, true_and, and_true, decide_true, decide_false, Bool.not_true, Bool.not_false, reduceIte, Nat.reduceEqDiff, Nat.reduceAdd, Nat.reduceMul, Nat.reduceSub, Nat.reduceLeDiff, Nat.reduceLT, f1, f2, f6, f7, f8, hw]
    have hfin := And.intro (kp.trans hs1.keep) (And.intro (by rw [hs1.next, gn] : g1.next = h2.next) g1g)
    first | exact hfin | exact ⟨hfin, rfl⟩
  · rintro f g ms ⟨⟨kp, gn, hg⟩, rfl, f1, f2, f6, f7, f8⟩
    have hfg := kp.floor
    have rg : Row g h1.next (mix 3 S.nv (whenS u)) := ⟨_, _, hg⟩
    simp only [rn0, rn1, rn2, rn3, rn4, rn5, rn6, rn7, rn8, if_true, if_false, Nat.le_refl, true_and, and_true, decide_true, decide_false, Bool.not_true, Bool.not_false, reduceIte, Nat.reduceEqDiff, Nat.reduceAdd, Nat.reduceMul, Nat.reduceSub, Nat.reduceLeDiff, Nat.reduceLT, f1, f2, f6, f7, f8, Int.lt_irrefl, rg.whole mix_len]
    refine step_store (b := h1.next) (off := 0) (vs := mix 3 S.nv (whenS u)) rfl hg (by omega) (by omega) rfl mix_one mix_len (by rw [mix_len]; omega) fun g1 hs1 => ?_
    rw [splice_all (by rw [mix_len])] at hs1
    simp only [rn0, rn1, rn2, rn3, rn4, rn5, rn6, rn7, rn8, if_true, if_false, Nat.le_refl, true_and, and_true, decide_true, decide_false, Bool.not_true, Bool.not_false, reduceIte, Nat.reduceEqDiff, Nat.reduceAdd, Nat.reduceMul, Nat.reduceSub, Nat.reduceLeDiff, Nat.reduceLT, f2, res_cellN, hs1.row.whole mix_len, dn_mix]
def s112 : SCode := (.seq (.ops [⟨(some 2), none, .box (T 0)⟩, ⟨(some 3), none, .box (T 1)⟩, ⟨(some 4), none, .mov (.const (.bool false))⟩]) (.seq (.draw [⟨.free, ⟨(some 5), none, .fieldAddr 0 (T 3)⟩⟩, ⟨.rd1, ⟨(some 6), none, .load1 (T 5)⟩⟩, ⟨.free, ⟨(some 7), none, .idxArr 3 1 (T 2) (T 6)⟩⟩, ⟨.rd1, ⟨(some 8), none, .load1 (T 7)⟩⟩, ⟨.free, ⟨(some 9), none, .fieldAddr 1 (T 3)⟩⟩, ⟨.rd1, ⟨(some 10), none, .load1 (T 9)⟩⟩, ⟨.free, ⟨(some 11), none, .int2 .leq (T 8) (T 10)⟩⟩, ⟨.free, ⟨(some 12), none, .fieldAddr 2 (T 3)⟩⟩, ⟨.rd1, ⟨(some 13), none, .load1 (T 12)⟩⟩, ⟨.free, ⟨(some 14), none, .bin .eql (.binOp .eql 4 (T 11) (T 13) 4) 4 (T 11) (T 13)⟩⟩, ⟨.free, ⟨(some 4), none, .mov (T 14)⟩⟩]) .ret))
theorem fok112 : FnOk Try.prog 112 15 s112 [.tmp 4] := ⟨Try.f112, _, Try.func112, rfl, Try.ntmps112, by kernel_rfl, by kernel_rfl⟩
theorem isRight_c (hn : 5 ≤ n) (hr : h.next + 5 < far) {S : MB} {u : Nat → Int} (hG : Good S) {k : Nat} (hk : k < S.ns) :
    ∃ r, (r = true ↔ RightS S u k) ∧ call n (.func (.func 112) ⟨[.agg ⟨dn (doneS S u)⟩]⟩ #[]) [.agg ⟨smL S k⟩] h = some (.bool r, h) := by
  obtain ⟨hvv, hsv, _⟩ := hG.samp hk
  refine ⟨decide (whenS u (S.sv k).toNat ≤ S.sh k) == S.sd k, beq_iff_eq, ?_⟩
  obtain ⟨n, rfl⟩ : ∃ p, n = p + 1 := ⟨n - 1, by omega⟩
  refine call_plain (xs := [.agg ⟨dn (doneS S u)⟩]) (ys := []) fok112 rfl rfl (by simp) rfl ?_
  have hr : h.shutAll.next + 5 < far := hr
  generalize h.shutAll = h at hr
  obtain ⟨_, _, z3, _⟩ := hG.sizes
  simp only [s112, List.cons_append, List.nil_append, List.append_nil, W_seq, W_ops]
  refine ops_box (cs := dn (doneS S u)) (by omega) rfl dn_one fun g1 hx => ?_
  refine ops_box (cs := smL S k) (by rw [hx.next]; omega) rfl sm_one fun g2 hx2 => ?_
  have r1 := hx.row.mono hx2.sub
  have hi := idxArr_p (b := h.next) (o := 0) (show (S.sv k).toNat < 3 by omega)
  rw [hsv] at hi
  have hd : (dn (doneS S u))[(S.sv k).toNat]? = some (.int .i64 (whenS u (S.sv k).toNat)) := by rw [dn_get (by omega)]; simp [doneS, hvv]
  simp only [rn0, rn1, rn2, rn3, rn4, rn5, rn6, rn7, rn8, if_true, if_false, Nat.le_refl, true_and, and_true, decide_true, decide_false, Bool.not_true, Bool.not_false, reduceIte, Nat.reduceEqDiff, Nat.reduceAdd, Nat.reduceMul, Nat.reduceSub, Nat.reduceLeDiff, Nat.reduceLT]
  refine W_draw All ?_
  simp only [rn0, rn1, rn2, rn3, rn4, rn5, rn6, rn7, rn8, if_true, if_false, Nat.le_refl, true_and, and_true, decide_true, decide_false, Bool.not_true, Bool.not_false, reduceIte, Nat.reduceEqDiff, Nat.reduceAdd, Nat.reduceMul, Nat.reduceSub, Nat.reduceLeDiff, Nat.reduceLT, hx2.ld, smg, Nat.zero_add, hi, r1.ld, hd, eqV_int, eqV_bool, x_binA, binA_eqlB, p_eqlB u4, valN_tmp, Nat.reduceLT, rBB]
def s82 : SCode := (.seq (.ops [⟨(some 2), none, .box (T 0)⟩, ⟨(some 3), none, .box (T 1)⟩, ⟨(some 4), none, .mov (.const (.bool false))⟩]) (.seq (.ops [⟨(some 5), none, .fieldAddr 0 (T 2)⟩, ⟨(some 6), none, .fieldAddr 4 (T 5)⟩, ⟨(some 7), none, .load1 (T 6)⟩, ⟨(some 8), none, .loadN 3 (T 3)⟩, ⟨(some 9), none, .mkfunc 112 [(T 8)] []⟩, ⟨(some 10), none, .call (.func 111) [(T 7), (T 9)]⟩, ⟨(some 4), none, .mov (T 10)⟩]) .ret))
theorem fok82 : FnOk Try.prog 82 11 s82 [.tmp 4] := ⟨Try.f82, _, Try.func82, rfl, Try.ntmps82, by kernel_rfl, by kernel_rfl⟩
open Classical in
theorem isTruth_c (hn : 120 ≤ n) (hr : h.next + 100 < far) {vv sv tv : Value} {S : MB} {u : Nat → Int} (hy : BeatR h vv sv S) (ht : oneCell tv = true) (hG : Good S) :
    call n (.func (.func 82) #[] #[]) [.agg ⟨wkL S vv sv tv⟩, .agg ⟨dn (doneS S u)⟩] h = some (.bool (decide (∀ k, k < S.ns → RightS S u k)), h) := by
  obtain ⟨n, rfl⟩ : ∃ p, n = p + 1 := ⟨n - 1, by omega⟩
  refine call_plain0 fok82 rfl rfl (by simp) rfl ?_
  have hy := hy.shut
  have hr : h.shutAll.next + 100 < far := hr
  generalize h.shutAll = h at hy hr
  obtain ⟨_, _, _, z5, _⟩ := hG.sizes
  simp only [s82, W_seq, W_ops]
  refine ops_box (cs := wkL S vv sv tv) (by omega) rfl (wk_one hy ht) fun g1 hx => ?_
  refine ops_box (cs := dn (doneS S u)) (by rw [hx.next]; omega) rfl dn_one fun g2 hx2 => ?_
  have n1 := hx.next
  have n2 := hx2.next
  have r1 := hx.row.mono hx2.sub
  have hy2 := (hy.mono hx.sub).mono hx2.sub
  have hsn : g2.shutAll.next = g2.next := rfl
  have he := everySamp_c (n := n) (h := g2) (p := fun k => RightS S u k) (ok := .func (.func 112) ⟨[.agg ⟨dn (doneS S u)⟩]⟩ #[]) (by omega) (by omega) hy2.s (by omega) fun g' hs hg i hi => isRight_c (by omega) (by omega) hG hi
  simp only [rn0, rn1, rn2, rn3, rn4, rn5, rn6, rn7, rn8, if_true, if_false, Nat.le_refl, true_and, and_true, decide_true, decide_false, Bool.not_true, Bool.not_false, reduceIte, Nat.reduceEqDiff, Nat.reduceAdd, Nat.reduceMul, Nat.reduceSub, Nat.reduceLeDiff, Nat.reduceLT, r1.ld, wkg, Nat.zero_add, hx2.row.whole dn_len, he]
def s81 : SCode := (.seq (.ops [⟨(some 3), none, .box (T 0)⟩, ⟨(some 6), none, .mov (.const (.int .i64 (0)))⟩]) (.seq (.seq (.ops [⟨(some 7), none, .mov (T 1)⟩, ⟨(some 8), none, .mov (T 2)⟩, ⟨(some 9), none, .int2 .lss (T 7) (T 8)⟩]) (.cond (T 9) (.seq (.ops [⟨(some 10), none, .fieldAddr 2 (T 3)⟩, ⟨(some 11), none, .load1 (T 10)⟩, ⟨(some 12), none, .mov (T 2)⟩, ⟨(some 13), none, .mov (T 1)⟩, ⟨(some 14), none, .int2 .sub (T 12) (T 13)⟩, ⟨(some 15), none, .int2 .mul (T 11) (T 14)⟩, ⟨(some 6), none, .mov (T 15)⟩]) .ret) .skip)) (.seq (.ops [⟨(some 16), none, .fieldAddr 3 (T 3)⟩, ⟨(some 17), none, .load1 (T 16)⟩, ⟨(some 18), none, .mov (T 1)⟩, ⟨(some 19), none, .mov (T 2)⟩, ⟨(some 20), none, .int2 .sub (T 18) (T 19)⟩, ⟨(some 21), none, .int2 .mul (T 17) (T 20)⟩, ⟨(some 6), none, .mov (T 21)⟩]) .ret)))
theorem fok81 : FnOk Try.prog 81 22 s81 [.tmp 6] := ⟨Try.f81, _, Try.func81, rfl, Try.ntmps81, by kernel_rfl, by kernel_rfl⟩
theorem loses_c (hn : 5 ≤ n) (hr : h.next + 5 < far) {S : MB} (hG : Good S) {v : Nat} (hv : v < S.nv) {d e : Int} (hd : 0 ≤ d ∧ d ≤ 13) (he : 0 ≤ e ∧ e ≤ 9) :
    call n (.func (.func 81) #[] #[]) [.agg ⟨vaL S v⟩, .int .i64 e, .int .i64 d] h = some (.int .i64 (lostS S v d e), h) := by
  obtain ⟨n, rfl⟩ : ∃ p, n = p + 1 := ⟨n - 1, by omega⟩
  refine call_plain0 fok81 rfl rfl (by simp) rfl ?_
  have hr : h.shutAll.next + 5 < far := hr
  generalize h.shutAll = h at hr
  obtain ⟨_, ⟨a1, a2⟩, a3, a4⟩ := hG.args.vat v hv
  simp only [s81, W_seq, W_ops]
  refine ops_box (cs := vaL S v) (by omega) rfl va_one fun g1 hx => ?_
  by_cases c : e < d
  · have m1 : 0 ≤ S.ve v * (d - e) := Int.mul_nonneg a1 (by omega)
    have m2 : S.ve v * (d - e) ≤ 20 * 13 := Int.mul_le_mul a2 (by omega) (by omega) (by omega)
    have w1 : wrapF .i64 (d - e) = d - e := wrap_in (by omega) (by omega)
    have w2 : wrapF .i64 (S.ve v * (d - e)) = lostS S v d e := by
      rw [wrap_in (by omega) (by omega)]
      unfold lostS
      rw [show max 0 (e - d) = 0 by omega, show max 0 (d - e) = d - e by omega, Int.zero_mul, Int.add_zero, Int.mul_comm]
    simp only [rn0, rn1, rn2, rn3, rn4, rn5, rn6, rn7, rn8, if_true, if_false, Nat.le_refl, true_and, and_true, decide_true, decide_false, Bool.not_true, Bool.not_false, reduceIte, Nat.reduceEqDiff, Nat.reduceAdd, Nat.reduceMul, Nat.reduceSub, Nat.reduceLeDiff, Nat.reduceLT, c, hx.ld, vag, Nat.zero_add, w1, w2]
  · have m1 : 0 ≤ S.vl v * (e - d) := Int.mul_nonneg a3 (by omega)
    have m2 : S.vl v * (e - d) ≤ 20 * 9 := Int.mul_le_mul a4 (by omega) (by omega) (by omega)
    have w1 : wrapF .i64 (e - d) = e - d := wrap_in (by omega) (by omega)
    have w2 : wrapF .i64 (S.vl v * (e - d)) = lostS S v d e := by
      rw [wrap_in (by omega) (by omega)]
      unfold lostS
      rw [show max 0 (d - e) = 0 by omega, show max 0 (e - d) = e - d by omega, Int.zero_mul, Int.zero_add, Int.mul_comm]
    simp only [rn0, rn1, rn2, rn3, rn4, rn5, rn6, rn7, rn8, if_true, if_false, Nat.le_refl, true_and, and_true, decide_true, decide_false, Bool.not_true, Bool.not_false, reduceIte, Nat.reduceEqDiff, Nat.reduceAdd, Nat.reduceMul, Nat.reduceSub, Nat.reduceLeDiff, Nat.reduceLT, c, hx.ld, vag, Nat.zero_add, w1, w2]
end Go.Vm.Bt

namespace Go.Vm.Bt
open Go.Proofs Go.Vm.Vat Go.Vm.L2
set_option linter.unusedSimpArgs false
set_option linter.unusedVariables false
set_option maxRecDepth 10000
variable {n : Nat} {h : AHeap}
def DonesR (h : AHeap) (v : Value) (l : List (Nat → Int)) : Prop := Cells h v 3 l.length fun k j => .int .i64 ((l.getD k fun _ => 0) j)
theorem dones_ld {v : Value} {l : List (Nat → Int)} (ht : DonesR h v l) {k : Nat} (hk : k < l.length) : loadAgg 3 h (ptrO v 3 k 0) = some (.agg ⟨dn (l.getD k fun _ => 0)⟩) := by
  rw [Cells.ldN ht hk (by omega) (by omega)]; simp [dn, List.range_succ]
def SameD (a b : Nat → Int) : Prop := ∀ k, k ∈ List.range 3 → a k = b k
instance (a b : Nat → Int) : Decidable (SameD a b) := inferInstanceAs (Decidable (∀ k, k ∈ List.range 3 → a k = b k))
theorem arrInfo : ∃ i, Try.prog.info? 3 = some i ∧ i.size = 1 := ⟨_, by rfl, by rfl⟩
theorem plain_dn {a : Nat → Int} : plainV (.agg ⟨dn a⟩) = true := by
  show allB plainCell (dn a) = true
  rw [allB_iff]; intro v hv; obtain ⟨i, _, rfl⟩ := List.mem_map.1 hv; rfl
theorem eqArr3 {N : Nat} {f : Go.Vm.Fr} {x y : Operand} {ty u : TypeId} {a b : Nat → Int} (hx : valN N f x = .agg ⟨dn a⟩) (hy : valN N f y = .agg ⟨dn b⟩) :
    plainF Try.prog N (.binOp .eql 125 x y u) ty f h = some (.bool (decide (SameD a b)), h) := by
  obtain ⟨i, h1, h2⟩ := arrInfo
  exact plainF_eqArr hx hy plain_dn plain_dn (by rfl) (by rfl) h1 h2 (by rfl) fun k hk => ⟨by rw [← Array.getElem?_toList]; exact dn_get (List.mem_range.1 hk), by rw [← Array.getElem?_toList]; exact dn_get (List.mem_range.1 hk)⟩
def s133 : SCode := (.seq (.ops [⟨(some 3), none, .box (T 1)⟩, ⟨(some 4), none, .mov (.const (.int .i64 (0)))⟩]) (.seq (.seq (.ops [⟨(some 6), none, .mov (T 0)⟩, ⟨(some 7), none, .len (T 6)⟩, ⟨(some 8), none, .mov (.const (.int .i64 (0)))⟩]) (.block 0 (.loop (.seq (.ops [⟨(some 9), none, .int2 .lss (T 8) (T 7)⟩]) (.seq (.cond (T 9) .skip (.exit 0)) (.seq (.block 1 (.seq (.ops [⟨(some 10), none, .mov (T 8)⟩, ⟨(some 5), none, .mov (T 10)⟩]) (.seq (.draw [⟨.rd1, ⟨(some 11), none, .loadN 3 (T 3)⟩⟩, ⟨.free, ⟨(some 12), none, .mov (T 0)⟩⟩, ⟨.free, ⟨(some 13), none, .mov (T 5)⟩⟩, ⟨.free, ⟨(some 14), none, .idxSl 3 (T 12) (T 13)⟩⟩, ⟨.rd1, ⟨(some 15), none, .loadN 3 (T 14)⟩⟩, ⟨.free, ⟨(some 16), none, .bin .eql (.binOp .eql 125 (T 11) (T 15) 125) 4 (T 11) (T 15)⟩⟩]) (.cond (T 16) (.seq (.ops [⟨(some 17), none, .mov (T 5)⟩, ⟨(some 4), none, .mov (T 17)⟩]) .ret) .skip)))) (.ops [⟨(some 18), none, .int2 .add (T 8) (.const (.int .i64 (1)))⟩, ⟨(some 8), none, .mov (T 18)⟩]))))))) (.seq (.ops [⟨(some 4), none, .mov (.const (.int .i64 (-1)))⟩]) .ret)))
theorem fok133 : FnOk Try.prog 133 19 s133 [.tmp 4] := ⟨Try.f133, _, Try.func133, rfl, Try.ntmps133, by kernel_rfl, by kernel_rfl⟩
theorem index_c (hn : 400 ≤ n) (hr : h.next + 2 < far) {v : Value} {l : List (Nat → Int)} {c : Nat → Int} (ht : DonesR h v l) (hl : l.length ≤ 300) :
    call n (.func (.func 133) #[] #[]) [v, .agg ⟨dn c⟩] h = some (.int .i64 (findFrom (fun k => SameD c (l.getD k fun _ => 0)) l.length 0), h) := by
  obtain ⟨n, rfl⟩ : ∃ p, n = p + 1 := ⟨n - 1, by omega⟩
  refine call_plain0 fok133 rfl rfl (by simp) rfl ?_
  have ht := Cells.shut ht
  have hr : h.shutAll.next + 2 < far := hr
  generalize h.shutAll = h at ht hr
  simp only [s133, W_seq, W_ops]
  refine ops_box (cs := dn c) (by omega) rfl dn_one fun h1 hx => ?_
  have ht : DonesR h1 v l := Cells.mono ht hx.sub
  have hw := hx.row.whole dn_len
  simp only [rn0, rn1, rn2, rn3, rn4, rn5, rn6, rn7, rn8, if_true, if_false, Nat.le_refl, true_and, and_true, decide_true, decide_false, Bool.not_true, Bool.not_false, reduceIte, Nat.reduceEqDiff, Nat.reduceAdd, Nat.reduceMul, Nat.reduceSub, Nat.reduceLeDiff, Nat.reduceLT, Cells.len ht]
  refine W_loop l.length (fun k f g m => g = h1 ∧ m = [] ∧ f 0 = v ∧ f 3 = .pointer (some ⟨h.next, 0, none⟩) ∧ f 7 = .int .i64 (l.length : Int) ∧ f 8 = .int .i64 (k : Int) ∧ ∀ j, j < k → ¬ SameD c (l.getD j fun _ => 0)) (by simp; omega) ?_ ?_ ?_
  · simp only [rn0, rn1, rn2, rn3, rn4, rn5, rn6, rn7, rn8, if_true, if_false, Nat.le_refl, true_and, and_true, decide_true, decide_false, Bool.not_true, Bool.not_false, reduceIte, Nat.reduceEqDiff, Nat.reduceAdd, Nat.reduceMul, Nat.reduceSub, Nat.reduceLeDiff, Nat.reduceLT, Nat.not_lt_zero, false_implies, implies_true]
    trivial
  · rintro k f g m hk ⟨rfl, rfl, f0, f3, f7, f8, hlt⟩
    have hk' : (k : Int) < (l.length : Int) := by omega
    have hw1 : wrapF .i64 ((k : Int) + 1) = ((k + 1 : Nat) : Int) := by rw [wrap_in (by omega) (by omega)]; rfl
    simp only [rn0, rn1, rn2, rn3, rn4, rn5, rn6, rn7, rn8, if_true, if_false, Nat.le_refl, true_and, and_true, decide_true, decide_false, Bool.not_true, Bool.not_false, reduceIte, Nat.reduceEqDiff, Nat.reduceAdd, Nat.reduceMul, Nat.reduceSub, Nat.reduceLeDiff, Nat.reduceLT, f0, f3, f7, f8, hk']
    refine W_draw All ?_
    have hq := dones_ld ht hk
    have he := fun (f : Go.Vm.Fr) (e1 : f 11 = .agg ⟨dn c⟩) (e2 : f 15 = .agg ⟨dn (l.getD k fun _ => 0)⟩) => eqArr3 (h := g) (N := 19) (f := f) (x := T 11) (y := T 15) (ty := 4) (u := 125) (a := c) (b := l.getD k fun _ => 0) (by rw [valN_tmp (by omega)]; exact e1) (by rw [valN_tmp (by omega)]; exact e2)
    by_cases hkk : SameD c (l.getD k fun _ => 0)
    · have hf := findFrom_at (p := fun k => SameD c (l.getD k fun _ => 0)) hk hlt hkk
      simp only [rn0, rn1, rn2, rn3, rn4, rn5, rn6, rn7, rn8, if_true, if_false, Nat.le_refl, true_and, and_true, decide_true, decide_false, Bool.not_true, Bool.not_false, reduceIte, Nat.reduceEqDiff, Nat.reduceAdd, Nat.reduceMul, Nat.reduceSub, Nat.reduceLeDiff, Nat.reduceLT, f0, f3, f7, f8, hw, hq, Cells.idx ht hk, x_binA, binA_agg]
      rw [he _ (by simp only [rn0, rn1, rn2, rn3, rn4, rn5, rn6, rn7, rn8, if_true, if_false, Nat.le_refl, true_and, and_true, decide_true, decide_false, Bool.not_true, Bool.not_false, reduceIte, Nat.reduceEqDiff, Nat.reduceAdd, Nat.reduceMul, Nat.reduceSub, Nat.reduceLeDiff, Nat.reduceLT, f0, f3, f7, f8]) (by simp only [rn0, rn1, rn2, rn3, rn4, rn5, rn6, rn7, rn8, if_true, if_false, Nat.le_refl, true_and, and_true, decide_true, decide_false, Bool.not_true, Bool.not_false, reduceIte, Nat.reduceEqDiff, Nat.reduceAdd, Nat.reduceMul, Nat.reduceSub, Nat.reduceLeDiff, Nat.reduceLT, f0, f3, f7, f8])]
      simp only [rn0, rn1, rn2, rn3, rn4, rn5, rn6, rn7, rn8, if_true, if_false, Nat.le_refl, true_and, and_true, decide_true, decide_false, Bool.not_true, Bool.not_false, reduceIte, Nat.reduceEqDiff, Nat.reduceAdd, Nat.reduceMul, Nat.reduceSub, Nat.reduceLeDiff, Nat.reduceLT, f0, f3, f7, f8, eq_true hkk, hf]
    · simp only [rn0, rn1, rn2, rn3, rn4, rn5, rn6, rn7, rn8, if_true, if_false, Nat.le_refl, true_and, and_true, decide_true, decide_false, Bool.not_true, Bool.not_false, reduceIte, Nat.reduceEqDiff, Nat.reduceAdd, Nat.reduceMul, Nat.reduceSub, Nat.reduceLeDiff, Nat.reduceLT, f0, f3, f7, f8, hw, hq, Cells.idx ht hk, x_binA, binA_agg]
      rw [he _ (by simp only [rn0, rn1, rn2, rn3, rn4, rn5, rn6, rn7, rn8, if_true, if_false, Nat.le_refl, true_and, and_true, decide_true, decide_false, Bool.not_true, Bool.not_false, reduceIte, Nat.reduceEqDiff, Nat.reduceAdd, Nat.reduceMul, Nat.reduceSub, Nat.reduceLeDiff, Nat.reduceLT, f0, f3, f7, f8]) (by simp only [rn0, rn1, rn2, rn3, rn4, rn5, rn6, rn7, rn8, if_true, if_false, Nat.le_refl, true_and, and_true, decide_true, decide_false, Bool.not_true, Bool.not_false, reduceIte, Nat.reduceEqDiff, Nat.reduceAdd, Nat.reduceMul, Nat.reduceSub, Nat.reduceLeDiff, Nat.reduceLT, f0, f3, f7, f8])]
      simp only [rn0, rn1, rn2, rn3, rn4, rn5, rn6, rn7, rn8, if_true, if_false, Nat.le_refl, true_and, and_true, decide_true, decide_false, Bool.not_true, Bool.not_false, reduceIte, Nat.reduceEqDiff, Nat.reduceAdd, Nat.reduceMul, Nat.reduceSub, Nat.reduceLeDiff, Nat.reduceLT, f0, f3, f7, f8, eq_false hkk, hw1]
      intro j hj
      by_cases e : j = k
      · subst e; exact hkk
      · exact hlt j (by omega)
  · rintro f g m ⟨rfl, rfl, f0, f3, f7, f8, hlt⟩
    have hf := findFrom_none (p := fun k => SameD c (l.getD k fun _ => 0)) hlt
    simp only [rn0, rn1, rn2, rn3, rn4, rn5, rn6, rn7, rn8, if_true, if_false, Nat.le_refl, true_and, and_true, decide_true, decide_false, Bool.not_true, Bool.not_false, reduceIte, Nat.reduceEqDiff, Nat.reduceAdd, Nat.reduceMul, Nat.reduceSub, Nat.reduceLeDiff, Nat.reduceLT, f0, f3, f7, f8, Int.lt_irrefl, hf]
def HasD (l : List (Nat → Int)) (c : Nat → Int) : Prop := ∃ k, k < l.length ∧ SameD c (l.getD k fun _ => 0)
noncomputable instance (l : List (Nat → Int)) (c : Nat → Int) : Decidable (HasD l c) := Classical.propDecidable _
def s121 : SCode := (.seq (.ops [⟨(some 3), none, .box (T 1)⟩, ⟨(some 4), none, .mov (.const (.bool false))⟩]) (.seq (.ops [⟨(some 5), none, .mov (T 0)⟩, ⟨(some 6), none, .loadN 3 (T 3)⟩, ⟨(some 7), none, .call (.func 133) [(T 5), (T 6)]⟩, ⟨(some 8), none, .int2 .geq (T 7) (.const (.int .i64 (0)))⟩, ⟨(some 4), none, .mov (T 8)⟩]) .ret))
theorem fok121 : FnOk Try.prog 121 9 s121 [.tmp 4] := ⟨Try.f121, _, Try.func121, rfl, Try.ntmps121, by kernel_rfl, by kernel_rfl⟩
theorem contains_c (hn : 401 ≤ n) (hr : h.next + 5 < far) {v : Value} {l : List (Nat → Int)} {c : Nat → Int} (ht : DonesR h v l) (hl : l.length ≤ 300) :
    call n (.func (.func 121) #[] #[]) [v, .agg ⟨dn c⟩] h = some (.bool (decide (HasD l c)), h) := by
  obtain ⟨n, rfl⟩ : ∃ p, n = p + 1 := ⟨n - 1, by omega⟩
  refine call_plain0 fok121 rfl rfl (by simp) rfl ?_
  have ht := Cells.shut ht
  have hr : h.shutAll.next + 5 < far := hr
  generalize h.shutAll = h at ht hr
  simp only [s121, W_seq, W_ops]
  refine ops_box (cs := dn c) (by omega) rfl dn_one fun h1 hx => ?_
  have ht : DonesR h1 v l := Cells.mono ht hx.sub
  have hw := hx.row.whole dn_len
  have hi := index_c (n := n) (h := h1) (c := c) (by omega) (by rw [hx.next]; omega) ht hl
  have hd : decide (0 ≤ findFrom (fun k => SameD c (l.getD k fun _ => 0)) l.length 0) = decide (HasD l c) := decide_eq_decide.2 findFrom_iff
  simp only [rn0, rn1, rn2, rn3, rn4, rn5, rn6, rn7, rn8, if_true, if_false, Nat.le_refl, true_and, and_true, decide_true, decide_false, Bool.not_true, Bool.not_false, reduceIte, Nat.reduceEqDiff, Nat.reduceAdd, Nat.reduceMul, Nat.reduceSub, Nat.reduceLeDiff, Nat.reduceLT, hw, hi, hd]
theorem hasD_iff {S : MB} (hG : Good S) {l : List (Nat → Int)} (hl : ∀ d, d ∈ l → ∃ u, d = doneS S u) {u : Nat → Int} : HasD l (doneS S u) ↔ doneS S u ∈ l := by
  obtain ⟨_, _, z3, _⟩ := hG.sizes
  constructor
  · rintro ⟨k, hk, hs⟩
    have hm := getD_mem hk
    obtain ⟨w, hw⟩ := hl _ hm
    have : doneS S u = l.getD k fun _ => 0 := by
      funext j
      by_cases c : j < 3
      · exact hs j (List.mem_range.2 c)
      · rw [hw]; simp [doneS, show ¬ j < S.nv by omega]
    rw [this]; exact hm
  · intro hm
    obtain ⟨k, hk, e⟩ := mem_getD hm
    exact ⟨k, hk, fun j _ => by rw [e]⟩
def s127 : SCode := (.seq (.ops [⟨(some 2), none, .mov (.const (.slice none 0 0))⟩]) (.seq (.seq (.ops [⟨(some 3), none, .mov (T 0)⟩, ⟨(some 4), none, .eqNil true (T 3) (.const (.slice none 0 0))⟩]) (.cond (T 4) (.seq (.ops [⟨(some 2), none, .mov (.const (.slice none 0 0))⟩]) .ret) .skip)) (.seq (.ops [⟨(some 5), none, .bslice 1 0 [(.int .i64 (0))] [] []⟩, ⟨(some 6), none, .mov (T 0)⟩, ⟨(some 7), none, .append 1 8 (T 5) (T 6)⟩, ⟨(some 2), none, .mov (T 7)⟩]) .ret)))
theorem fok127 : FnOk Try.prog 127 8 s127 [.tmp 2] := ⟨Try.f127, _, Try.func127, rfl, Try.ntmps127, by kernel_rfl, by kernel_rfl⟩
theorem clone_c (hn : 1 ≤ n) (hr : h.next + 3 < far) {v : Value} {m : Nat} {a : Nat → Int} (hv : Ints h v m a) (hm : m ≤ 1000) :
    ∃ v' h', call n (.func (.func 127) #[] #[]) [v] h = some (v', h') ∧ Ints h' v' m a ∧ oneCell v' = true ∧ (∀ i, i < h.next → h'.get i = h.get i) ∧ h.next ≤ h'.next ∧ h'.next ≤ h.next + 2 ∧ h'.floor = h.floor ∧ ∀ x k c, v' = .slice (some x) k c → h.next ≤ x.block ∧ x.block < h'.next := by
  obtain ⟨n, rfl⟩ : ∃ p, n = p + 1 := ⟨n - 1, by omega⟩
  refine call_any0 fok127 rfl rfl (by simp) ?_
  obtain ⟨xv, kv, ev, lv⟩ := Cells.list (by omega) hv
  subst ev
  cases xv with
  | none =>
    obtain ⟨a', cap, e, hsp, h0 | ⟨b, o, cs, w, gr, e2, _⟩⟩ := hv
    · subst h0
      simp only [rn0, rn1, rn2, rn3, rn4, rn5, rn6, rn7, rn8, if_true, if_false, Nat.le_refl, true_and, and_true, decide_true, decide_false, Bool.not_true, Bool.not_false, reduceIte, Nat.reduceEqDiff, Nat.reduceAdd, Nat.reduceMul, Nat.reduceSub, Nat.reduceLeDiff, Nat.reduceLT, s127, x_eqNil, eqNil_yes]
      exact ⟨⟨none, 0, rfl, fun x e => (by cases e), .inl rfl⟩, rfl, (fun _ _ => by first | trivial | rfl), by omega, fun x k c e => by cases e⟩
    · subst e2; cases e
  | some xa =>
    simp only [rn0, rn1, rn2, rn3, rn4, rn5, rn6, rn7, rn8, if_true, if_false, Nat.le_refl, true_and, and_true, decide_true, decide_false, Bool.not_true, Bool.not_false, reduceIte, Nat.reduceEqDiff, Nat.reduceAdd, Nat.reduceMul, Nat.reduceSub, Nat.reduceLeDiff, Nat.reduceLT, s127, x_eqNil, eqNil_no, build_none1]
    refine step_slice (by omega) rfl fun g1 hx1 => ?_
    have n1 := hx1.next
    have f1 := hx1.floor
    have hap := append_none (h := g1) (s := 1) (bytes := 8) (b := h.next) ⟨_, _, rfl⟩ (cells_sub hx1.sub hv (by omega) lv) flatL_len (by simp [maxBytes]; omega) (by simp [maxBytes]; omega)
    by_cases hm0 : m = 0
    · rw [if_pos hm0] at hap
      subst hm0
      simp only [rn0, rn1, rn2, rn3, rn4, rn5, rn6, rn7, rn8, if_true, if_false, Nat.le_refl, true_and, and_true, decide_true, decide_false, Bool.not_true, Bool.not_false, reduceIte, Nat.reduceEqDiff, Nat.reduceAdd, Nat.reduceMul, Nat.reduceSub, Nat.reduceLeDiff, Nat.reduceLT, hap]
      exact ⟨⟨some ⟨h.next, 0, none⟩, 0, rfl, fun x e => (by cases e; rfl), .inl rfl⟩, rfl, fun i hi => hx1.old i hi, by omega, by omega, by omega, fun x k c e => by cases e; exact ⟨Nat.le_refl _, by show h.next < g1.next; omega⟩⟩
    · rw [if_neg hm0] at hap
      simp only [rn0, rn1, rn2, rn3, rn4, rn5, rn6, rn7, rn8, if_true, if_false, Nat.le_refl, true_and, and_true, decide_true, decide_false, Bool.not_true, Bool.not_false, reduceIte, Nat.reduceEqDiff, Nat.reduceAdd, Nat.reduceMul, Nat.reduceSub, Nat.reduceLeDiff, Nat.reduceLT, hap]
      refine step_slice (by omega) flatL_one fun g2 hx2 => ?_
      have n2 := hx2.next
      have f2 := hx2.floor
      simp only [rn0, rn1, rn2, rn3, rn4, rn5, rn6, rn7, rn8, if_true, if_false, Nat.le_refl, true_and, and_true, decide_true, decide_false, Bool.not_true, Bool.not_false, reduceIte, Nat.reduceEqDiff, Nat.reduceAdd, Nat.reduceMul, Nat.reduceSub, Nat.reduceLeDiff, Nat.reduceLT]
      refine ⟨cells_row hx2.row fun k j hk hj => flatL_get (c := fun k _ => .int .i64 (a k)) hk hj, rfl, fun i hi => by rw [hx2.old i (by omega), hx1.old i hi], by omega, by omega, by omega, fun x k c e => by cases e; exact ⟨by show h.next ≤ g1.next; omega, by show g1.next < g2.next; omega⟩⟩
end Go.Vm.Bt
