/- A text of the proofs of this seat: an evaluator of the model's code, its soundness, and what it has run. -/
import Derived.Test.YtjbbefkbbagdfaaVmOps2
import Derived.Laws.Append
import Derived.Laws.AppendOwn
namespace Go.Vm
variable {P : Program} {φ : Emb} {h : AHeap} {w : World}

theorem unk_pos : 0 < unk := by unfold unk; omega
theorem unk_ne : unk ≠ 0 := by unfold unk; omega

theorem add_zero' (a : Addr) : a.add 0 = a := by simp [Addr.add]
theorem mapA_put (φ : Emb) (n : Nat) (a : Addr) (c : Nat) : mapA (φ.put n a c) ⟨n, 0, none⟩ = a := by simp [mapA, add_zero']

/-! ### store -/
theorem storeN_sound (H : HRel φ h w) {t : TypeId} {n : Nat} {p v r : Value} {h' : AHeap} (hn : sizeT P t = some n) (hv : okV φ h.next v) (hr : storeN n h p v = some (r, h')) :
    r = undef ∧ ∃ w', (Instr.storeAt t (mapV φ p) (mapV φ v)).run P w = .ok () w' ∧ HRel φ h' w' ∧ Ext φ h w φ h' w' := by
  unfold storeN at hr
  split at hr
  · rename_i a
    obtain ⟨hl, hr⟩ := cond_some hr
    rw [beq_iff, len_eq] at hl
    split at hr
    · rename_i h1 hst
      simp only [Option.some.injEq, Prod.mk.injEq] at hr
      obtain ⟨rfl, rfl⟩ := hr
      obtain ⟨w', k1, k2, k3⟩ := storeRow_sound (P := P) H (cells_ok hv) hst
      refine ⟨rfl, w', ?_, k2, k3⟩
      have hsz : (mapV φ v).cells.size = n := by rw [cellList_map]; simpa using hl
      have hc : (mapV φ v).cells.toList = (cellList v).map (mapV φ) := by rw [cellList_map]
      simp [Instr.storeAt, Instr.sureAddr, storeVar, hsz, run_sizeOf_of hn, hc, mapA, k1]
    · simp at hr
  · simp at hr

/-! ### slice -/
theorem run_sliceBound {n y : Nat} {k : IntKind} {c : BoundsCode} (hn : n ≤ y) : (Instr.sliceBound (.int k (.ofNat n)) y c).run P w = .ok n w := by
  simp [Instr.sliceBound, asIntOf, hn]
theorem boundA_cases {d n : Nat} {x : Option Value} (hx : boundA d x = some n) : (x = none ∧ n = d) ∨ ∃ k, x = some (.int k (.ofNat n)) := by
  unfold boundA at hx
  split at hx
  · left; simpa [eq_comm] using hx
  · rename_i k m
    right
    simp only [Option.some.injEq] at hx
    subst hx
    exact ⟨k, rfl⟩
  · simp at hx
theorem run_sliceBounds {b : Bool} {len cap l hh m : Nat} {lo hi mx : Option Value} (hlo : boundA 0 lo = some l) (hhi : boundA len hi = some hh) (hmx : (mx = none ∧ m = cap) ∨ (∃ k, mx = some (.int k (.ofNat m))) ∧ hi.isSome = true)
    (h1 : l ≤ hh) (h2 : hh ≤ m) (h3 : m ≤ cap) (f : Value → Value) (hf : ∀ k n, f (.int k n) = .int k n) : (Instr.sliceBounds b len cap (lo.map f) (hi.map f) (mx.map f)).run P w = .ok (l, hh, m) w := by
  have hL : ∀ c, (Instr.sliceBound (.int .i64 (.ofNat l)) hh c).run P w = .ok l w := fun c => run_sliceBound h1
  rcases hmx with ⟨rfl, rfl⟩ | ⟨⟨k, rfl⟩, hsome⟩
  · rcases boundA_cases hlo with ⟨rfl, rfl⟩ | ⟨k1, rfl⟩ <;> rcases boundA_cases hhi with ⟨rfl, rfl⟩ | ⟨k2, rfl⟩ <;>
      simp only [Instr.sliceBounds, Option.map_none, Option.map_some, hf, Sem.run_bind, Sem.run_pure, Result.andThen_ok, run_sliceBound h1, run_sliceBound h2]
  · rcases boundA_cases hhi with ⟨rfl, rfl⟩ | ⟨k2, rfl⟩
    · simp at hsome
    · rcases boundA_cases hlo with ⟨rfl, rfl⟩ | ⟨k1, rfl⟩ <;>
        simp only [Instr.sliceBounds, Option.map_none, Option.map_some, hf, Sem.run_bind, Sem.run_pure, Result.andThen_ok, run_sliceBound h1, run_sliceBound h2, run_sliceBound h3]

theorem addrPlus_map {a : Option Addr} {n : Nat} : (addrPlus a n).map (mapA φ) = (a.map (mapA φ)).map (·.add n) := by
  cases a with
  | none => rfl
  | some a => simp [addrPlus, mapA_off]
theorem mapV_slice' {a : Option Addr} {n c : Nat} {b : Nat} (hb : ∀ x, a = some x → x.block = b) (hn : a = none → c < unk) : mapV φ (.slice a n c) = .slice (a.map (mapA φ)) n (mapC φ b c) := by
  cases a with
  | none => simp [mapC, hn rfl]
  | some x => simp [hb x rfl]

theorem sliceA_sound (H : HRel φ h w) {t e : TypeId} {s : Nat} {x : Value} {lo hi mx : Option Value} {r : Value} {h' : AHeap} (hu : P.underlying t = some (.slice e)) (hs : sizeT P e = some s) (hx : okV φ h.next x)
    (hr : sliceA s hi.isSome h x lo hi mx = some (r, h')) : Done P (Instr.sliceAt t (mapV φ x) (lo.map (mapV φ)) (hi.map (mapV φ)) (mx.map (mapV φ))) φ h w r h' := by
  unfold sliceA at hr
  split at hr
  rotate_left
  · simp at hr
  rename_i a len cap
  split at hr
  rotate_left
  · simp at hr
  rename_i l hh hl hhh
  obtain ⟨hc, hr⟩ := cond_some hr
  simp only [Bool.and_eq_true, ble_iff] at hc
  obtain ⟨h1, h2⟩ := hc
  -- the slice in the run
  obtain ⟨c', hc', hle, hmap⟩ : ∃ c', (∀ b, (∀ y, a = some y → y.block = b) → (a = none → cap < unk) → mapC φ b cap = c') ∧ len ≤ c' ∧ mapV φ (.slice a len cap) = .slice (a.map (mapA φ)) len c' := by
    cases a with
    | none =>
      simp only [okV_snil] at hx
      obtain ⟨rfl, rfl⟩ := hx
      exact ⟨0, fun b _ _ => by simp [mapC, unk], Nat.le_refl _, by simp⟩
    | some y =>
      simp only [okV_slice] at hx
      exact ⟨mapC φ y.block cap, fun b hb _ => by rw [hb y rfl], hx.2.2, by simp⟩
  rw [hmap]
  have hrun : ∀ m, ((mx = none ∧ m = c') ∨ (∃ k, mx = some (.int k (.ofNat m))) ∧ hi.isSome = true) → hh ≤ m → m ≤ c' →
      (Instr.sliceAt t (.slice (a.map (mapA φ)) len c') (lo.map (mapV φ)) (hi.map (mapV φ)) (mx.map (mapV φ))).run P w =
        .ok (.slice (if m = l then a.map (mapA φ) else (a.map (mapA φ)).map (·.add (l * s))) (hh - l) (m - l)) w := by
    intro m hm k2 k3
    have := run_sliceBounds (P := P) (w := w) (b := true) hl hhh hm h1 k2 k3 (mapV φ) (fun _ _ => mapV_int)
    simp [Instr.sliceAt, run_underlying hu, Instr.slice, this, run_sizeOf_of hs]
  have hok : ∀ y, a = some y → y.block < h.next ∧ y.spot = none := by
    intro y hy; subst hy
    simp only [okV_slice] at hx
    exact ⟨hx.1, hx.2.1⟩
  -- a slice whose capacity is known
  have known : ∀ m, ((mx = none ∧ m = c') ∨ (∃ k, mx = some (.int k (.ofNat m))) ∧ hi.isSome = true) → hh ≤ m → m ≤ c' → m < unk →
      Done P (Instr.sliceAt t (.slice (a.map (mapA φ)) len c') (lo.map (mapV φ)) (hi.map (mapV φ)) (mx.map (mapV φ))) φ h w (.slice (bif Nat.beq m l then a else addrPlus a (l * s)) (hh - l) (m - l)) h := by
    intro m hm k2 k3 k4
    refine Done.same H ?_ ?_
    · rw [hrun m hm k2 k3]
      congr 1
      by_cases hml : m = l
      · have : Nat.beq m l = true := beq_iff.2 hml
        simp only [hml, if_true]
        cases a with
        | none => simp
        | some y => simp [mapC, unk_pos]
      · have : Nat.beq m l = false := by cases hb : Nat.beq m l with | false => rfl | true => exact absurd (beq_iff.1 hb) hml
        simp only [this, hml, if_false, cond_false]
        cases a with
        | none => simp [addrPlus]
        | some y => simp [addrPlus, mapC, mapA_off, show m - l < unk by omega]
    · have hnil : a = none → hh - l = 0 ∧ m - l = 0 := by
        intro ha
        subst ha
        simp only [okV_snil] at hx
        obtain ⟨rfl, rfl⟩ := hx
        have := hc' 0 (fun _ h => by cases h) (fun _ => by unfold unk; omega)
        simp [mapC, unk] at this
        omega
      cases hb : Nat.beq m l with
      | true =>
        simp only [cond_true]
        cases a with
        | none => simpa using hnil rfl
        | some y =>
          simp only [okV_slice]
          refine ⟨(hok y rfl).1, (hok y rfl).2, ?_⟩
          simp only [mapC, show m - l < unk by omega, if_true]
          omega
      | false =>
        simp only [cond_false]
        cases a with
        | none => simpa [addrPlus] using hnil rfl
        | some y =>
          simp only [addrPlus, okV_slice]
          refine ⟨(hok y rfl).1, trivial, ?_⟩
          simp only [mapC, show m - l < unk by omega, if_true]
          omega
  split at hr
  · rename_i m0
    split at hr
    · rename_i m hm
      obtain ⟨hc, hr⟩ := cond_some hr
      simp only [Bool.and_eq_true, ble_iff, blt_iff] at hc
      obtain ⟨⟨⟨k1, k2⟩, k3⟩, k4⟩ := hc
      simp only [Option.some.injEq, Prod.mk.injEq] at hr
      obtain ⟨rfl, rfl⟩ := hr
      rcases boundA_cases hm with ⟨h0, _⟩ | ⟨k, hk⟩
      · simp at h0
      · exact known m (.inr ⟨⟨k, hk⟩, k4⟩) k1 (by omega) k3
    · simp at hr
  · by_cases hcu : cap < unk
    · have hb : Nat.blt cap unk = true := blt_iff.2 hcu
      simp only [hb, cond_true, Option.some.injEq, Prod.mk.injEq] at hr
      obtain ⟨rfl, rfl⟩ := hr
      have e : cap = c' := by
        cases a with
        | none =>
          have := hc' 0 (fun _ h => by cases h) (fun _ => hcu)
          simpa [mapC, hcu] using this
        | some y =>
          have := hc' y.block (fun z hz => by cases hz; rfl) (fun h => by cases h)
          simpa [mapC, hcu] using this
      exact known cap (.inl ⟨rfl, e⟩) (by omega) (by omega) hcu
    · simp only [blt_false hcu, cond_false] at hr
      obtain ⟨y, rfl⟩ : ∃ y, a = some y := by
        cases a with
        | none => simp only [okV_snil] at hx; exact absurd (by rw [hx.2]; decide) hcu
        | some y => exact ⟨y, rfl⟩
      have e := hc' y.block (fun z hz => by cases hz; rfl) (fun h => by cases h)
      have e' : c' = φ.cap y.block - (cap - unk) := by rw [← e]; simp [mapC, hcu]
      obtain ⟨ok1, ok2⟩ := hok y rfl
      by_cases hl0 : l = 0
      · subst hl0
        simp only [show Nat.beq 0 0 = true from rfl, cond_true, Option.some.injEq, Prod.mk.injEq] at hr
        obtain ⟨rfl, rfl⟩ := hr
        refine Done.same H ?_ ?_
        · rw [hrun c' (.inl ⟨rfl, rfl⟩) (by omega) (Nat.le_refl _)]
          simp [e, Addr.add]
        · simp only [okV_slice]
          exact ⟨ok1, ok2, by rw [e]; omega⟩
      · have hb : Nat.beq l 0 = false := beq0_false hl0
        simp only [hb, cond_false] at hr
        by_cases hlh : l < hh
        · have hb2 : Nat.blt l hh = true := blt_iff.2 hlh
          simp only [hb2, cond_true, Option.some.injEq, Prod.mk.injEq] at hr
          obtain ⟨rfl, rfl⟩ := hr
          have hnew : mapC φ y.block (cap + l) = c' - l := by
            unfold mapC
            rw [if_neg (by omega), e']
            omega
          refine Done.same H ?_ ?_
          · rw [hrun c' (.inl ⟨rfl, rfl⟩) (by omega) (Nat.le_refl _), if_neg (by omega)]
            simp [addrPlus, mapA_off, hnew]
          · simp only [addrPlus, okV_slice, hnew]
            exact ⟨ok1, trivial, by omega⟩
        · simp only [blt_false hlh, cond_false] at hr
          obtain ⟨hf, hr⟩ := AHeap.push_eq hr
          simp only [Option.some.injEq, Prod.mk.injEq] at hr
          obtain ⟨rfl, rfl⟩ := hr
          have hp := H.place (w' := w) hf none (if c' = l then mapA φ y else (mapA φ y).add (l * s)) (c' - l) (Nat.le_refl _) (fun _ _ => rfl) (fun _ e => by cases e) (fun _ e => by cases e) (fun _ e => by cases e)
          refine ⟨_, w, ?_, hp.1, hp.2, ?_⟩
          · rw [hrun c' (.inl ⟨rfl, rfl⟩) (by omega) (Nat.le_refl _)]
            have : hh - l = 0 := by omega
            simp only [this, mapV_slice, mapA_put, mapC, Emb.put_cap, Nat.lt_irrefl, if_false, Nat.sub_self, Nat.sub_zero]
            split <;> simp
          · simp [okV_slice, AHeap.more]

theorem sliceArr_sound (H : HRel φ h w) {t e : TypeId} {n s : Nat} {x : Value} {lo hi : Option Value} {r : Value} {h' : AHeap} (hu : P.underlying t = some (.array n e)) (hs : sizeT P e = some s) (hn : n < unk) (hx : okV φ h.next x)
    (hr : sliceArr n s h x lo hi = some (r, h')) : Done P (Instr.sliceAt t (mapV φ x) (lo.map (mapV φ)) (hi.map (mapV φ)) none) φ h w r h' := by
  unfold sliceArr at hr
  split at hr
  rotate_left
  · simp at hr
  rename_i a
  split at hr
  rotate_left
  · simp at hr
  rename_i l hh hl hhh
  obtain ⟨hc, hr⟩ := cond_some hr
  simp only [Bool.and_eq_true, ble_iff] at hc
  obtain ⟨h1, h2⟩ := hc
  simp only [Option.some.injEq, Prod.mk.injEq] at hr
  obtain ⟨rfl, rfl⟩ := hr
  simp only [okV_ptr] at hx
  have hrun := run_sliceBounds (P := P) (w := w) (b := false) (mx := none) hl hhh (.inl ⟨rfl, rfl⟩) h1 h2 (Nat.le_refl _) (mapV φ) (fun _ _ => mapV_int)
  refine Done.same H ?_ ?_
  · simp only [Option.map_none] at hrun
    simp only [mapV_ptr, Instr.sliceAt, Sem.run_bind, run_underlying hu, Result.andThen_ok, Instr.sureAddr, Sem.run_pure, hrun, run_sizeOf_of hs]
    congr 1
    by_cases hml : n = l
    · have : Nat.beq n l = true := beq_iff.2 hml
      simp [hml, mapC, unk]
    · have : Nat.beq n l = false := by cases hb : Nat.beq n l with | false => rfl | true => exact absurd (beq_iff.1 hb) hml
      simp [this, hml, addrPlus, mapC, mapA_off, show n - l < unk by omega]
  · cases hb : Nat.beq n l with
    | true =>
      simp only [cond_true, okV_slice]
      exact ⟨hx.1, hx.2, by simp only [mapC, show n - l < unk by omega, if_true]; omega⟩
    | false =>
      simp only [cond_false, addrPlus, okV_slice]
      exact ⟨hx.1, trivial, by simp only [mapC, show n - l < unk by omega, if_true]; omega⟩
end Go.Vm
