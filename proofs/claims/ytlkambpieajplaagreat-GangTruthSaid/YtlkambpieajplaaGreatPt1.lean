/- Texts of the proofs of this seat, put together: VmOps3, VmOps4, VmOps5, VmOps6, VmOps7, VmCode, VmSound, VmCall, VmDraw. -/
import Derived.Test.YtlkambpieajplaaGreatPt0
import Derived.Laws.Append
import Derived.Laws.AppendOwn
import Derived.WalkSpells
import Derived.LoopNIn
import Derived.RangeFuncCalls
import Derived.RangeFuncLeaves
import Derived.Scope
import Derived.RangeFuncRecord
import Derived.Laws.Sem

namespace Go.Vm
variable {P : Program} {φ : Emb} {h : AHeap} {w : World}
theorem unk_pos : 0 < unk := by unfold unk; omega
theorem add_zero' (a : Addr) : a.add 0 = a := by simp [Addr.add]
theorem mapA_put (φ : Emb) (n : Nat) (a : Addr) (c : Nat) : mapA (φ.put n a c) ⟨n, 0, none⟩ = a := by simp [mapA, add_zero']
theorem storeN_sound (H : HRel φ h w) {t : TypeId} {n : Nat} {p v r : Value} {h' : AHeap} (hn : sizeT P t = some n) (hv : okV φ h.next v) (hr : storeN n h p v = some (r, h')) :
    r = undef ∧ ∃ w', (Instr.storeAt t (mapV φ p) (mapV φ v)).run P w = .ok () w' ∧ HRel φ h' w' ∧ Ext φ h w φ h' w' := by
  unfold storeN at hr
  split at hr
  · rename_i a
    obtain ⟨hl, hr⟩ := cond_some hr
    rw [beq_iff, len_eq] at hl
    split at hr
    · rename_i h1 hst
      simp only [Option.some.injEq, Prod.mk.injEq] at hr
      obtain ⟨rfl, rfl⟩ := hr
      obtain ⟨w', k1, k2, k3⟩ := storeRow_sound (P := P) H (cells_ok hv) hst
      refine ⟨rfl, w', ?_, k2, k3⟩
      have hsz : (mapV φ v).cells.size = n := by rw [cellList_map]; simpa using hl
      have hc : (mapV φ v).cells.toList = (cellList v).map (mapV φ) := by rw [cellList_map]
      simp [Instr.storeAt, Instr.sureAddr, storeVar, hsz, run_sizeOf_of hn, hc, mapA, k1]
    · simp at hr
  · simp at hr
theorem run_sliceBound {n y : Nat} {k : IntKind} {c : BoundsCode} (hn : n ≤ y) : (Instr.sliceBound (.int k (.ofNat n)) y c).run P w = .ok n w := by
  simp [Instr.sliceBound, asIntOf, hn]
theorem boundA_cases {d n : Nat} {x : Option Value} (hx : boundA d x = some n) : (x = none ∧ n = d) ∨ ∃ k, x = some (.int k (.ofNat n)) := by
  unfold boundA at hx
  split at hx
  · left; simpa [eq_comm] using hx
  · rename_i k m
    right
    simp only [Option.some.injEq] at hx
    subst hx
    exact ⟨k, rfl⟩
  · simp at hx
theorem run_sliceBounds {b : Bool} {len cap l hh m : Nat} {lo hi mx : Option Value} (hlo : boundA 0 lo = some l) (hhi : boundA len hi = some hh) (hmx : (mx = none ∧ m = cap) ∨ (∃ k, mx = some (.int k (.ofNat m))) ∧ hi.isSome = true)
    (h1 : l ≤ hh) (h2 : hh ≤ m) (h3 : m ≤ cap) (f : Value → Value) (hf : ∀ k n, f (.int k n) = .int k n) : (Instr.sliceBounds b len cap (lo.map f) (hi.map f) (mx.map f)).run P w = .ok (l, hh, m) w := by
  have hL : ∀ c, (Instr.sliceBound (.int .i64 (.ofNat l)) hh c).run P w = .ok l w := fun c => run_sliceBound h1
  rcases hmx with ⟨rfl, rfl⟩ | ⟨⟨k, rfl⟩, hsome⟩
  · rcases boundA_cases hlo with ⟨rfl, rfl⟩ | ⟨k1, rfl⟩ <;> rcases boundA_cases hhi with ⟨rfl, rfl⟩ | ⟨k2, rfl⟩ <;>
      simp only [Instr.sliceBounds, Option.map_none, Option.map_some, hf, Sem.run_bind, Sem.run_pure, Result.andThen_ok, run_sliceBound h1, run_sliceBound h2]
  · rcases boundA_cases hhi with ⟨rfl, rfl⟩ | ⟨k2, rfl⟩
    · simp at hsome
    · rcases boundA_cases hlo with ⟨rfl, rfl⟩ | ⟨k1, rfl⟩ <;>
        simp only [Instr.sliceBounds, Option.map_none, Option.map_some, hf, Sem.run_bind, Sem.run_pure, Result.andThen_ok, run_sliceBound h1, run_sliceBound h2, run_sliceBound h3]
theorem sliceA_sound (H : HRel φ h w) {t e : TypeId} {s : Nat} {x : Value} {lo hi mx : Option Value} {r : Value} {h' : AHeap} (hu : P.underlying t = some (.slice e)) (hs : sizeT P e = some s) (hx : okV φ h.next x)
    (hr : sliceA s hi.isSome h x lo hi mx = some (r, h')) : Done P (Instr.sliceAt t (mapV φ x) (lo.map (mapV φ)) (hi.map (mapV φ)) (mx.map (mapV φ))) φ h w r h' := by
  unfold sliceA at hr
  split at hr
  rotate_left
  · simp at hr
  rename_i a len cap
  split at hr
  rotate_left
  · simp at hr
  rename_i l hh hl hhh
  obtain ⟨hc, hr⟩ := cond_some hr
  simp only [Bool.and_eq_true, ble_iff] at hc
  obtain ⟨h1, h2⟩ := hc
  -- the slice in the run
  obtain ⟨c', hc', hle, hmap⟩ : ∃ c', (∀ b, (∀ y, a = some y → y.block = b) → (a = none → cap < unk) → mapC φ b cap = c') ∧ len ≤ c' ∧ mapV φ (.slice a len cap) = .slice (a.map (mapA φ)) len c' := by
    cases a with
    | none =>
      simp only [okV_snil] at hx
      obtain ⟨rfl, rfl⟩ := hx
      exact ⟨0, fun b _ _ => by simp [mapC, unk], Nat.le_refl _, by simp⟩
    | some y =>
      simp only [okV_slice] at hx
      exact ⟨mapC φ y.block cap, fun b hb _ => by rw [hb y rfl], hx.2.2, by simp⟩
  rw [hmap]
  have hrun : ∀ m, ((mx = none ∧ m = c') ∨ (∃ k, mx = some (.int k (.ofNat m))) ∧ hi.isSome = true) → hh ≤ m → m ≤ c' →
      (Instr.sliceAt t (.slice (a.map (mapA φ)) len c') (lo.map (mapV φ)) (hi.map (mapV φ)) (mx.map (mapV φ))).run P w =
        .ok (.slice (if m = l then a.map (mapA φ) else (a.map (mapA φ)).map (·.add (l * s))) (hh - l) (m - l)) w := by
    intro m hm k2 k3
    have := run_sliceBounds (P := P) (w := w) (b := true) hl hhh hm h1 k2 k3 (mapV φ) (fun _ _ => mapV_int)
    simp [Instr.sliceAt, run_underlying hu, Instr.slice, this, run_sizeOf_of hs]
  have hok : ∀ y, a = some y → y.block < h.next ∧ y.spot = none := by
    intro y hy; subst hy
    simp only [okV_slice] at hx
    exact ⟨hx.1, hx.2.1⟩
  -- a slice whose capacity is known
  have known : ∀ m, ((mx = none ∧ m = c') ∨ (∃ k, mx = some (.int k (.ofNat m))) ∧ hi.isSome = true) → hh ≤ m → m ≤ c' → m < unk →
      Done P (Instr.sliceAt t (.slice (a.map (mapA φ)) len c') (lo.map (mapV φ)) (hi.map (mapV φ)) (mx.map (mapV φ))) φ h w (.slice (bif Nat.beq m l then a else addrPlus a (l * s)) (hh - l) (m - l)) h := by
    intro m hm k2 k3 k4
    refine Done.same H ?_ ?_
    · rw [hrun m hm k2 k3]
      congr 1
      by_cases hml : m = l
      · have : Nat.beq m l = true := beq_iff.2 hml
        simp only [hml, if_true]
        cases a with
        | none => simp
        | some y => simp [mapC, unk_pos]
      · have : Nat.beq m l = false := by cases hb : Nat.beq m l with | false => rfl | true => exact absurd (beq_iff.1 hb) hml
        simp only [this, hml, if_false, cond_false]
        cases a with
        | none => simp [addrPlus]
        | some y => simp [addrPlus, mapC, mapA_off, show m - l < unk by omega]
    · have hnil : a = none → hh - l = 0 ∧ m - l = 0 := by
        intro ha
        subst ha
        simp only [okV_snil] at hx
        obtain ⟨rfl, rfl⟩ := hx
        have := hc' 0 (fun _ h => by cases h) (fun _ => by unfold unk; omega)
        simp [mapC, unk] at this
        omega
      cases hb : Nat.beq m l with
      | true =>
        simp only [cond_true]
        cases a with
        | none => simpa using hnil rfl
        | some y =>
          simp only [okV_slice]
          refine ⟨(hok y rfl).1, (hok y rfl).2, ?_⟩
          simp only [mapC, show m - l < unk by omega, if_true]
          omega
      | false =>
        simp only [cond_false]
        cases a with
        | none => simpa [addrPlus] using hnil rfl
        | some y =>
          simp only [addrPlus, okV_slice]
          refine ⟨(hok y rfl).1, trivial, ?_⟩
          simp only [mapC, show m - l < unk by omega, if_true]
          omega
  split at hr
  · rename_i m0
    split at hr
    · rename_i m hm
      obtain ⟨hc, hr⟩ := cond_some hr
      simp only [Bool.and_eq_true, ble_iff, blt_iff] at hc
      obtain ⟨⟨⟨k1, k2⟩, k3⟩, k4⟩ := hc
      simp only [Option.some.injEq, Prod.mk.injEq] at hr
      obtain ⟨rfl, rfl⟩ := hr
      rcases boundA_cases hm with ⟨h0, _⟩ | ⟨k, hk⟩
      · simp at h0
      · exact known m (.inr ⟨⟨k, hk⟩, k4⟩) k1 (by omega) k3
    · simp at hr
  · by_cases hcu : cap < unk
    · have hb : Nat.blt cap unk = true := blt_iff.2 hcu
      simp only [hb, cond_true, Option.some.injEq, Prod.mk.injEq] at hr
      obtain ⟨rfl, rfl⟩ := hr
      have e : cap = c' := by
        cases a with
        | none =>
          have := hc' 0 (fun _ h => by cases h) (fun _ => hcu)
          simpa [mapC, hcu] using this
        | some y =>
          have := hc' y.block (fun z hz => by cases hz; rfl) (fun h => by cases h)
          simpa [mapC, hcu] using this
      exact known cap (.inl ⟨rfl, e⟩) (by omega) (by omega) hcu
    · simp only [blt_false hcu, cond_false] at hr
      obtain ⟨y, rfl⟩ : ∃ y, a = some y := by
        cases a with
        | none => simp only [okV_snil] at hx; exact absurd (by rw [hx.2]; decide) hcu
        | some y => exact ⟨y, rfl⟩
      have e := hc' y.block (fun z hz => by cases hz; rfl) (fun h => by cases h)
      have e' : c' = φ.cap y.block - (cap - unk) := by rw [← e]; simp [mapC, hcu]
      obtain ⟨ok1, ok2⟩ := hok y rfl
      by_cases hl0 : l = 0
      · subst hl0
        simp only [show Nat.beq 0 0 = true from rfl, cond_true, Option.some.injEq, Prod.mk.injEq] at hr
        obtain ⟨rfl, rfl⟩ := hr
        refine Done.same H ?_ ?_
        · rw [hrun c' (.inl ⟨rfl, rfl⟩) (by omega) (Nat.le_refl _)]
          simp [e, Addr.add]
        · simp only [okV_slice]
          exact ⟨ok1, ok2, by rw [e]; omega⟩
      · have hb : Nat.beq l 0 = false := beq0_false hl0
        simp only [hb, cond_false] at hr
        by_cases hlh : l < hh
        · have hb2 : Nat.blt l hh = true := blt_iff.2 hlh
          simp only [hb2, cond_true, Option.some.injEq, Prod.mk.injEq] at hr
          obtain ⟨rfl, rfl⟩ := hr
          have hnew : mapC φ y.block (cap + l) = c' - l := by
            unfold mapC
            rw [if_neg (by omega), e']
            omega
          refine Done.same H ?_ ?_
          · rw [hrun c' (.inl ⟨rfl, rfl⟩) (by omega) (Nat.le_refl _), if_neg (by omega)]
            simp [addrPlus, mapA_off, hnew]
          · simp only [addrPlus, okV_slice, hnew]
            exact ⟨ok1, trivial, by omega⟩
        · simp only [blt_false hlh, cond_false] at hr
          obtain ⟨hf, hr⟩ := AHeap.push_eq hr
          simp only [Option.some.injEq, Prod.mk.injEq] at hr
          obtain ⟨rfl, rfl⟩ := hr
          have hp := H.place (w' := w) hf none (if c' = l then mapA φ y else (mapA φ y).add (l * s)) (c' - l) (Nat.le_refl _) (fun _ _ => rfl) (fun _ e => by cases e) (fun _ e => by cases e) (fun _ e => by cases e)
          refine ⟨_, w, ?_, hp.1, hp.2, ?_⟩
          · rw [hrun c' (.inl ⟨rfl, rfl⟩) (by omega) (Nat.le_refl _)]
            have : hh - l = 0 := by omega
            simp only [this, mapV_slice, mapA_put, mapC, Emb.put_cap, Nat.lt_irrefl, if_false, Nat.sub_self, Nat.sub_zero]
            split <;> simp
          · simp [okV_slice, AHeap.more]
theorem sliceArr_sound (H : HRel φ h w) {t e : TypeId} {n s : Nat} {x : Value} {lo hi : Option Value} {r : Value} {h' : AHeap} (hu : P.underlying t = some (.array n e)) (hs : sizeT P e = some s) (hn : n < unk) (hx : okV φ h.next x)
    (hr : sliceArr n s h x lo hi = some (r, h')) : Done P (Instr.sliceAt t (mapV φ x) (lo.map (mapV φ)) (hi.map (mapV φ)) none) φ h w r h' := by
  unfold sliceArr at hr
  split at hr
  rotate_left
  · simp at hr
  rename_i a
  split at hr
  rotate_left
  · simp at hr
  rename_i l hh hl hhh
  obtain ⟨hc, hr⟩ := cond_some hr
  simp only [Bool.and_eq_true, ble_iff] at hc
  obtain ⟨h1, h2⟩ := hc
  simp only [Option.some.injEq, Prod.mk.injEq] at hr
  obtain ⟨rfl, rfl⟩ := hr
  simp only [okV_ptr] at hx
  have hrun := run_sliceBounds (P := P) (w := w) (b := false) (mx := none) hl hhh (.inl ⟨rfl, rfl⟩) h1 h2 (Nat.le_refl _) (mapV φ) (fun _ _ => mapV_int)
  refine Done.same H ?_ ?_
  · simp only [Option.map_none] at hrun
    simp only [mapV_ptr, Instr.sliceAt, Sem.run_bind, run_underlying hu, Result.andThen_ok, Instr.sureAddr, Sem.run_pure, hrun, run_sizeOf_of hs]
    congr 1
    by_cases hml : n = l
    · have : Nat.beq n l = true := beq_iff.2 hml
      simp [hml, mapC, unk]
    · have : Nat.beq n l = false := by cases hb : Nat.beq n l with | false => rfl | true => exact absurd (beq_iff.1 hb) hml
      simp [this, hml, addrPlus, mapC, mapA_off, show n - l < unk by omega]
  · cases hb : Nat.beq n l with
    | true =>
      simp only [cond_true, okV_slice]
      exact ⟨hx.1, hx.2, by simp only [mapC, show n - l < unk by omega, if_true]; omega⟩
    | false =>
      simp only [cond_false, addrPlus, okV_slice]
      exact ⟨hx.1, trivial, by simp only [mapC, show n - l < unk by omega, if_true]; omega⟩
end Go.Vm

namespace Go.Vm
variable {P : Program} {φ : Emb} {h : AHeap} {w : World}
theorem cellsOfSlice_sound (H : HRel φ h w) {s n : Nat} {a : Option Addr} {c : Nat} {l : List Value} (hx : okV φ h.next (.slice a n c)) (hr : cellsOfSlice h s (.slice a n c) = some l) :
    l.length = n * s ∧ (∀ v ∈ l, okV φ h.next v) ∧ (∀ v ∈ l, oneCell v = true) ∧
      ∀ w', w'.heap = w.heap → ∀ c', (Builtin.firstCells s n (mapV φ (.slice a n c'))).run P w' = .ok (l.map (mapV φ)).toArray w' := by
  cases a with
  | none =>
    simp only [cellsOfSlice, Option.some.injEq] at hr
    subst hr
    simp only [okV_snil] at hx
    refine ⟨by simp [hx.1], by simp, by simp, fun w' _ c' => by simp [Builtin.firstCells]⟩
  | some a =>
    simp only [cellsOfSlice] at hr
    by_cases hn : n = 0
    · have : Nat.beq n 0 = true := beq0_true hn
      simp only [this, cond_true, Option.some.injEq] at hr
      subst hr
      subst hn
      refine ⟨by simp, by simp, by simp, fun w' _ c' => by simp [Builtin.firstCells, loadCells, loadCellsFrom]⟩
    · simp only [beq0_false hn, cond_false] at hr
      split at hr
      · rename_i cs rw' g hg
        simp only [dropK_eq, takeK_eq] at hr
        obtain ⟨h1, hr⟩ := ite_some hr
        obtain ⟨h2, hr⟩ := ite_some hr
        simp only [Option.some.injEq] at hr
        subst hr
        obtain ⟨c1, c2, c3⟩ := row_cells H hg a.off ((cs.drop a.off).take (n * s)) (take_self_len h2)
        have hlen : ((cs.drop a.off).take (n * s)).length = n * s := by rw [List.length_take, Nat.min_eq_left h2]
        refine ⟨hlen, c2, c3, fun w' hw c' => ?_⟩
        have := run_loadCells_list (P := P) w' ((φ.at_ a.block).add a.off) (((cs.drop a.off).take (n * s)).map (mapV φ)) (fun j v hj => by
          rw [cell?_of_block (w := w) (by rw [hw])]; exact c1 j v hj)
        rw [List.length_map, hlen] at this
        simp only [mapV_slice, Builtin.firstCells, mapA, this]
      · simp at hr
theorem copyA_sound (H : HRel φ h w) {t e : TypeId} {s : Nat} {argTypes : Array TypeId} (ty : TypeId) (hat : argTypes[0]? = some t) (ht : P.underlying t = some (.slice e)) (hs : sizeT P e = some s) {x y r : Value} {h' : AHeap}
    (hx : okV φ h.next x) (hy : okV φ h.next y) (hr : copyA s h x y = some (r, h')) : Done P (Builtin.copy_ argTypes ty #[mapV φ x, mapV φ y]) φ h w r h' := by
  unfold copyA at hr
  split at hr
  · rename_i a n ca b m c
    have hmin : (bif Nat.ble m n then m else n) = Nat.min m n := by
      cases hb : Nat.ble m n with
      | true => rw [cond_true]; exact (Nat.min_eq_left (ble_iff.1 hb)).symm
      | false =>
        rw [cond_false]
        have : ¬ m ≤ n := fun h => by rw [ble_iff.2 h] at hb; cases hb
        exact (Nat.min_eq_right (by omega)).symm
    simp only [hmin] at hr
    have hy' : okV φ h.next (.slice b (Nat.min m n) c) := by
      cases b with
      | none =>
        simp only [okV_snil] at hy ⊢
        exact ⟨by rw [hy.1]; exact Nat.min_eq_left (Nat.zero_le _), hy.2⟩
      | some b =>
        simp only [okV_slice] at hy ⊢
        exact ⟨hy.1, hy.2.1, Nat.le_trans (Nat.min_le_left _ _) hy.2.2⟩
    split at hr
    · rename_i cells hc
      obtain ⟨k1, k2, k3, k4⟩ := cellsOfSlice_sound (P := P) H hy' hc
      have hfc := k4 w rfl c
      have hfc2 : (Builtin.firstCells s (Nat.min m n) (mapV φ (.slice b m c))).run P w = .ok (cells.map (mapV φ)).toArray w := by
        rw [← hfc]
        cases b with
        | none => rfl
        | some b => simp only [mapV_slice, Builtin.firstCells]
      have hlen : (Builtin.lenOf (mapV φ (.slice b m c))).run P w = .ok m w := by
        cases b with
        | none => simp [mapV, Builtin.lenOf]
        | some b => simp [mapV_slice, Builtin.lenOf]
      split at hr
      · simp only [Option.some.injEq, Prod.mk.injEq] at hr
        obtain ⟨rfl, rfl⟩ := hr
        refine Done.same H ?_ (by simp)
        have e1 : mapV φ (.slice none n ca) = .slice none n ca := by simp [mapV]
        have e2 : mapV φ (.int .i64 (.ofNat (Nat.min m n))) = .int .i64 ((Nat.min m n : Nat) : Int) := by simp [mapV]
        rw [e1, e2]
        generalize mapV φ (.slice b m c) = q at hlen hfc2
        simp [Builtin.copy_, hat, run_underlying ht, run_sizeOf_of hs, hlen, hfc2, goInt]
      · rename_i ad
        split at hr
        · rename_i h2 hst
          simp only [Option.some.injEq, Prod.mk.injEq] at hr
          obtain ⟨rfl, rfl⟩ := hr
          obtain ⟨w', q1, q2, q3⟩ := storeRow_sound (P := P) H k2 hst
          refine ⟨φ, w', ?_, q2, q3, by simp⟩
          have e1 : mapV φ (.slice (some ad) n ca) = .slice (some ((φ.at_ ad.block).add ad.off)) n (mapC φ ad.block ca) := by rw [mapV_slice]; rfl
          have e2 : mapV φ (.int .i64 (.ofNat (Nat.min m n))) = .int .i64 ((Nat.min m n : Nat) : Int) := by simp [mapV]
          rw [e1, e2]
          generalize mapV φ (.slice b m c) = q at hlen hfc2
          simp [Builtin.copy_, hat, run_underlying ht, run_sizeOf_of hs, hlen, hfc2, goInt, q1]
        · simp at hr
    · simp at hr
  · simp at hr
theorem clearA_sound (H : HRel φ h w) {t e : TypeId} {z : Value} {argTypes : Array TypeId} (ty : TypeId) (hat : argTypes[0]? = some t) (ht : P.underlying t = some (.slice e)) (hz : zeroT P e = some z) (hp : plainV z = true) {x r : Value} {h' : AHeap}
    (hx : okV φ h.next x) (hr : clearA z.cells.toList h x = some (r, h')) : Done P (Builtin.clear_ argTypes ty #[mapV φ x]) φ h w r h' := by
  unfold clearA at hr
  split at hr
  · rename_i n c
    simp only [Option.some.injEq, Prod.mk.injEq] at hr
    obtain ⟨rfl, rfl⟩ := hr
    refine Done.same H ?_ (by simp)
    simp [Builtin.clear_, hat, run_underlying ht, mapV, mapArr, mapL]
  · rename_i a n c
    by_cases hn : n = 0
    · subst hn
      have : Nat.beq 0 0 = true := rfl
      simp only [this, cond_true, Option.some.injEq, Prod.mk.injEq] at hr
      obtain ⟨rfl, rfl⟩ := hr
      refine Done.same H ?_ (by simp)
      rw [mapV_slice]
      simp [Builtin.clear_, hat, run_underlying ht]
    · simp only [beq0_false hn, cond_false] at hr
      split at hr
      · rename_i h2 hst
        simp only [Option.some.injEq, Prod.mk.injEq] at hr
        obtain ⟨rfl, rfl⟩ := hr
        obtain ⟨w', q1, q2, q3⟩ := storeRow_sound (P := P) H (fun v hv => plain_cells_ok hp φ _ v (repl_mem hv)) hst
        refine ⟨φ, w', ?_, q2, q3, by simp⟩
        rw [repl_map (zero_map hp φ)] at q1
        obtain ⟨m, rfl⟩ : ∃ m, n = m + 1 := ⟨n - 1, by omega⟩
        have hzr := congrArg Array.toList (range_repl z.cells (m + 1))
        simp only [Array.toList_map, Array.toList_range] at hzr
        have e1 : mapV φ (.slice (some a) (m + 1) c) = .slice (some ((φ.at_ a.block).add a.off)) (m + 1) (mapC φ a.block c) := by rw [mapV_slice]; rfl
        rw [e1]
        simp [Builtin.clear_, hat, run_underlying ht, run_zero_of hz, Builtin.zeroCells, hzr, q1]
      · simp at hr
  · simp at hr
theorem run_append_room' {t u e e' : TypeId} {i : TypeInfo} (ty : TypeId) (ht : P.underlying t = some (.slice e)) (hu : P.underlying u = some (.slice e')) (hi : P.info? e = some i)
    {a b : Option Addr} {n m cap d : Nat} {new : Array Value} (hnew : (Builtin.firstCells i.size m (.slice b m d)).run P w = .ok new w) (hroom : n + m ≤ cap) {w' : World}
    (hst : ∀ ad, a = some ad → (storeCells (ad.add (n * i.size)) new.toList).run P w = .ok () w') (hnone : a = none → w' = w) :
    (Builtin.append_ #[t, u] ty #[.slice a n cap, .slice b m d]).run P w = .ok (.slice a (n + m) cap) w' := by
  cases a with
  | none =>
    have := hnone rfl
    subst this
    simp [Builtin.append_, run_underlying ht, run_underlying hu, sizeOf, run_typeInfo _ hi, Builtin.lenOf, hroom, hnew]
  | some ad =>
    simp [Builtin.append_, run_underlying ht, run_underlying hu, sizeOf, run_typeInfo _ hi, Builtin.lenOf, hroom, hnew, hst ad rfl]
theorem run_append_grow' {t u e e' : TypeId} {i : TypeInfo} {z : Value} (ty : TypeId) (ht : P.underlying t = some (.slice e)) (hu : P.underlying u = some (.slice e')) (hi : P.info? e = some i) (hz : i.zero = some z)
    {a b : Option Addr} {n m cap d : Nat} {old new : Array Value} (hold : ∀ w', w'.heap = w.heap → (Builtin.firstCells i.size n (.slice a n cap)).run P w' = .ok old w') (hnew : ∀ w', w'.heap = w.heap → (Builtin.firstCells i.size m (.slice b m d)).run P w' = .ok new w')
    (hg : cap < n + m) (h63 : n + m ≤ 9223372036854775807) (hfit : Builtin.nextslicecap (n + m) cap * i.bytes ≤ 281474976710656) :
    (Builtin.append_ #[t, u] ty #[.slice a n cap, .slice b m d]).run P w =
      .ok (.slice (some ⟨w.heap.size, 0, none⟩) (n + m) (grownCap w (n + m) cap e)) (w.drew.alloc (.cells (old ++ new ++ Builtin.zeroCells z.cells (grownCap w (n + m) cap e - (n + m))) e)) := by
  have hn : ¬ (n + m ≤ cap) := by omega
  have h63' : ¬ (9223372036854775807 < ((n : Int) + (m : Int))) := by omega
  have h48' : ¬ (281474976710656 < Builtin.nextslicecap (n + m) cap * i.bytes) := by omega
  have hf := hnew w.drew rfl
  have hfo := hold w.drew rfl
  simp [Builtin.append_, run_underlying ht, run_underlying hu, sizeOf, typeInfo, zeroValue, hi, hz, Builtin.lenOf, hn, h63', h48', Question.forced, hf, hfo, newRow, grownCap]
theorem appendA_sound (H : HRel φ h w) {t u e e' : TypeId} {i : TypeInfo} {z x y r : Value} {h' : AHeap} (ty : TypeId) (ht : P.underlying t = some (.slice e)) (hu : P.underlying u = some (.slice e')) (hi : P.info? e = some i)
    (hz : i.zero = some z) (hs : 0 < i.size) (hzs : z.cells.size = i.size) (hx : okV φ h.next x) (hy : okV φ h.next y) (hr : appendA i.size i.bytes h x y = some (r, h')) :
    Done P (Builtin.append_ #[t, u] ty #[mapV φ x, mapV φ y]) φ h w r h' := by
  unfold appendA at hr
  split at hr
  rotate_left
  · simp at hr
  rename_i a n cap b m d
  split at hr
  rotate_left
  · simp at hr
  rename_i new hnew
  obtain ⟨hc, hr⟩ := cond_some hr
  simp only [Bool.and_eq_true, ble_iff, beq_iff, len_eq] at hc
  obtain ⟨⟨hb1, hb2⟩, hlen⟩ := hc
  have hmax : maxBytes = 1099511627776 := rfl
  obtain ⟨n1, n2, n3, n4⟩ := cellsOfSlice_sound (P := P) H hy hnew
  -- the two slices in the run
  obtain ⟨bm, dm, hym⟩ : ∃ bm dm, mapV φ (.slice b m d) = .slice bm m dm := by cases b <;> simp
  have hnewrun : ∀ w', w'.heap = w.heap → (Builtin.firstCells i.size m (.slice bm m dm)).run P w' = .ok (new.map (mapV φ)).toArray w' := fun w' hw => by
    rw [← hym]; exact n4 w' hw d
  rw [hym]
  have known : cap < unk → mapV φ (.slice a n cap) = .slice (a.map (mapA φ)) n cap := by
    intro hcu
    cases a with
    | none => simp
    | some ad => simp [mapC, hcu]
  -- a new row
  have grow : ∀ (h1 : AHeap) (H1 : HRel φ h1 w) (hn1 : h1.next = h.next) (E1 : Ext φ h w φ h1 w) (old : List Value) (am : Option Addr) (cm : Nat), mapV φ (.slice a n cap) = .slice am n cm → cm < n + m → old.length = n * i.size →
      (∀ v ∈ old, okV φ h.next v) → (∀ w', w'.heap = w.heap → (Builtin.firstCells i.size n (.slice am n cm)).run P w' = .ok (old.map (mapV φ)).toArray w') →
      newSlice h1 (app old new) (n + m) unk i.size = some (r, h') → Done P (Builtin.append_ #[t, u] ty #[mapV φ (.slice a n cap), .slice bm m dm]) φ h w r h' := by
    intro h1 H1 hn1 E1 old am cm hm hcm hlo hok hrun hns
    rw [app_eq] at hns
    rw [hm]
    have hfit : Builtin.nextslicecap (n + m) cm * i.bytes ≤ 281474976710656 := growslice_fits hcm (by omega)
    have hgr := run_append_grow' (P := P) (w := w) ty ht hu hi hz hrun hnewrun hcm (by omega) hfit
    have hge := grownCap_ge w (n + m) cm e
    generalize grownCap w (n + m) cm e = gc at hgr hge
    have H2 : HRel φ h1 w.drew := H1.congr rfl
    have hsz : (Builtin.zeroCells z.cells (gc - (n + m))).toList.length = (gc - (n + m)) * i.size := by rw [Array.length_toList, size_zeroCells, hzs]
    have hd := newSlice_sound (P := P) (w := w.drew) (cp := gc) H2 e (Builtin.zeroCells z.cells (gc - (n + m))).toList (fun v hv => by
      rw [hn1]
      rcases List.mem_append.1 hv with hv | hv
      · exact hok v hv
      · exact n2 v hv) hns (fun _ => by
        rw [List.length_append, hlo, n1, hsz, ← Nat.add_mul, ← Nat.add_mul, Nat.add_sub_cancel' hge]
        exact ⟨Nat.mul_le_mul_right _ hge, Nat.le_refl _⟩) hge (.inr rfl)
    obtain ⟨φ', w', k1, k2, k3, k4⟩ := hd
    refine ⟨φ', w', ?_, k2, E1.trans (k3.congr rfl), k4⟩
    rw [hgr, ← k1]
    have harr : ((old ++ new).map (mapV φ) ++ (Builtin.zeroCells z.cells (gc - (n + m))).toList).toArray = (old.map (mapV φ)).toArray ++ (new.map (mapV φ)).toArray ++ Builtin.zeroCells z.cells (gc - (n + m)) := by
      apply Array.ext'; simp
    rw [harr]
    simp [run_newRow]
  by_cases hroom : n + m ≤ cap ∧ cap < unk
  · have hb : (Nat.ble (n + m) cap && Nat.blt cap unk) = true := by rw [Bool.and_eq_true, ble_iff, blt_iff]; exact hroom
    simp only [hb, cond_true] at hr
    unfold appendRoom at hr
    rw [known hroom.2]
    by_cases hm0 : m = 0
    · simp only [beq0_true hm0, cond_true, Option.some.injEq, Prod.mk.injEq] at hr
      obtain ⟨rfl, rfl⟩ := hr
      subst hm0
      have hnil : new = [] := by rw [← List.length_eq_zero_iff, n1]; simp
      subst hnil
      refine Done.same H ?_ hx
      rw [run_append_room' (P := P) (w' := w) ty ht hu hi (hnewrun w rfl) hroom.1 (fun ad _ => by simp [storeCells]) (fun _ => rfl), known hroom.2]
      simp
    · simp only [beq0_false hm0, cond_false] at hr
      split at hr
      · simp at hr
      · rename_i ad
        split at hr
        · rename_i h1 hst
          simp only [Option.some.injEq, Prod.mk.injEq] at hr
          obtain ⟨rfl, rfl⟩ := hr
          obtain ⟨w', k1, k2, k3⟩ := storeRow_sound (P := P) H n2 hst
          rw [← add_add] at k1
          simp only [okV_slice] at hx
          have hnx : h.next ≤ h1.next := k3.next
          refine ⟨φ, w', ?_, k2, k3, ?_⟩
          · rw [run_append_room' (P := P) (w' := w') ty ht hu hi (hnewrun w rfl) hroom.1 (fun a' ha' => by
              simp only [Option.map_some, Option.some.injEq] at ha'
              subst ha'
              exact k1) (fun h => by simp at h)]
            simp [mapC, hroom.2]
          · simp only [okV_slice]
            exact ⟨by omega, hx.2.1, by simp only [mapC, hroom.2, if_true]; exact hroom.1⟩
        · simp at hr
  · have hb : (Nat.ble (n + m) cap && Nat.blt cap unk) = false := by
      cases hbb : (Nat.ble (n + m) cap && Nat.blt cap unk) with
      | false => rfl
      | true => rw [Bool.and_eq_true, ble_iff, blt_iff] at hbb; exact absurd hbb hroom
    simp only [hb, cond_false] at hr
    unfold appendGrow at hr
    split at hr
    · simp at hr
    · rename_i old hold
      obtain ⟨o1, o2, o3, o4⟩ := cellsOfSlice_sound (P := P) H hx hold
      by_cases hcu : cap < unk
      · simp only [blt_iff.2 hcu, cond_true] at hr
        exact grow h H rfl (Ext.refl _ _ _) old _ cap (known hcu) (by omega) o1 o2 (fun w' hw => by
          have := o4 w' hw cap
          rwa [known hcu] at this) hr
      · simp only [blt_false hcu, cond_false] at hr
        cases a with
        | none => simp at hr
        | some ad =>
          simp only at hr
          split at hr
          rotate_left
          · simp at hr
          rename_i cs g hg
          have hmap0 : cap = unk → mapV φ (.slice (some ad) n cap) = .slice (some (mapA φ ad)) n (φ.cap ad.block) := by rintro rfl; simp [mapC]
          cases hcd : (Nat.beq ad.off 0 && Nat.beq g i.size && Nat.beq (n * i.size) (Go.Vm.len cs) && Nat.ble h.floor ad.block && Nat.beq cap unk) with
          | false =>
            -- what was there is known to be long enough
            simp only [hcd, cond_false] at hr
            obtain ⟨hc2, hr⟩ := cond_some hr
            simp only [Bool.and_eq_true, ble_iff, beq_iff, len_eq] at hc2
            obtain ⟨⟨⟨c1, c2⟩, c3⟩, c5⟩ := hc2
            split at hr
            · rename_i h1 hst
              simp only [Option.some.injEq, Prod.mk.injEq] at hr
              obtain ⟨rfl, rfl⟩ := hr
              obtain ⟨cur, te, fz, r1, r2, r3⟩ := H.live _ _ hg
              obtain ⟨e1, e2, e3, e4⟩ := r3 rfl
              obtain ⟨e5, e6⟩ := e4 (by omega)
              have hin : n + m ≤ φ.cap ad.block := by
                rw [c2] at e5
                have h7 := Nat.le_trans c3 e5
                exact Nat.le_of_mul_le_mul_right h7 hs
              obtain ⟨w', k1, k2, k3⟩ := storeRow_sound (P := P) H n2 hst
              have hnx : h.next ≤ h1.next := k3.next
              simp only [okV_slice] at hx
              rw [hmap0 c5]
              refine ⟨φ, w', ?_, k2, k3, ?_⟩
              · rw [run_append_room' (P := P) (w' := w') ty ht hu hi (hnewrun w rfl) hin (fun a' ha' => by
                  simp only [Option.some.injEq] at ha'
                  subst ha'
                  unfold mapA
                  rw [c1, add_add, Nat.zero_add]
                  exact k1) (fun h => by simp at h)]
                simp [mapC, c5]
              · simp only [okV_slice]
                exact ⟨by omega, hx.2.1, by simp only [mapC, c5, Nat.lt_irrefl, if_false, Nat.sub_self, Nat.sub_zero]; exact hin⟩
            · simp at hr
          | true =>
          have hc2 := hcd
          have hr2 := hr
          rw [hcd, cond_true] at hr2
          clear hr hcd
          simp only [Bool.and_eq_true, ble_iff, beq_iff, len_eq] at hc2
          obtain ⟨⟨⟨⟨c1, c2⟩, c3⟩, c4⟩, c5⟩ := hc2
          subst c2
          subst c5
          rw [AHeap.put_eq] at hr2
          have hr := hr2
          clear hr2
          have hmap : mapV φ (.slice (some ad) n unk) = .slice (some (mapA φ ad)) n (φ.cap ad.block) := by simp [mapC]
          by_cases hin : n + m ≤ φ.cap ad.block
          · -- in place
            obtain ⟨cur, te, fz, r1, r2, r3⟩ := H.live _ _ hg
            obtain ⟨e1, e2, e3, e4⟩ := r3 rfl
            subst e2
            obtain ⟨e5, e6⟩ := e4 (by omega)
            have hms : (n + m) * i.size ≤ cur.size := Nat.le_trans (Nat.mul_le_mul_right _ hin) e6
            rw [Nat.add_mul] at hms
            have hone : ∀ v ∈ new.map (mapV φ), v.oneCell' = true := by
              intro v hv
              obtain ⟨q, hq, rfl⟩ := List.mem_map.1 hv
              rw [oneCell_eq, oneCell_map]
              exact n3 q hq
            have hlm : (new.map (mapV φ)).length = m * i.size := by simp [n1]
            have hst := run_storeCells_at P (φ.at_ ad.block).block (n * i.size) te (new.map (mapV φ)) 0 cur w r1 (by rw [hlm]; omega) hone
            simp only [Nat.add_zero] at hst
            have hadr : (mapA φ ad).add (n * i.size) = ⟨(φ.at_ ad.block).block, n * i.size, none⟩ := by
              unfold mapA
              rw [c1, add_zero', at_add e1]
            rw [← hadr] at hst
            unfold newSlice at hr
            obtain ⟨hone2, hr⟩ := cond_some hr
            rw [allB_iff, app_eq] at hone2
            simp only [seqCells_eq, app_eq] at hr
            obtain ⟨hf, hr⟩ := AHeap.push_eq hr
            simp only [Option.some.injEq, Prod.mk.injEq] at hr
            obtain ⟨rfl, rfl⟩ := hr
            have hrow := setRow_heap w (φ.at_ ad.block).block cur (cur.toList.take (n * i.size) ++ new.map (mapV φ) ++ cur.toList.drop (n * i.size + (new.map (mapV φ)).length)).toArray te (0, 0) r1
            have hmv := H.move (w' := w.setRow (φ.at_ ad.block).block (cur.toList.take (n * i.size) ++ new.map (mapV φ) ++ cur.toList.drop (n * i.size + (new.map (mapV φ)).length)).toArray) hf hg rfl c4
              (.row (old ++ new) true i.size) (φ.cap ad.block) (setRow_size _ _ _) (fun k hk => setRow_other _ _ _ k hk) ?_
            · refine ⟨_, _, ?_, hmv.1, hmv.2, ?_⟩
              · rw [hmap, run_append_room' (P := P) ty ht hu hi (hnewrun w rfl) hin (fun a' ha' => by
                  simp only [Option.some.injEq] at ha'
                  subst ha'
                  exact hst) (fun h => by simp at h)]
                have hnx : (h.with ad.block none).next = h.next := rfl
                simp only [mapV_slice, hnx, mapA_put, mapC, Nat.lt_irrefl, if_false, Nat.sub_self, Nat.sub_zero, Emb.put_cap]
                congr 3
                unfold mapA
                rw [c1, add_zero']
              · have hnx : (h.with ad.block none).next = h.next := rfl
                simp only [okV_slice, hnx, mapC, Nat.lt_irrefl, if_false, Nat.sub_self, Nat.sub_zero, Emb.put_cap]
                exact ⟨Nat.lt_succ_self _, trivial, hin⟩
            · have hag := φ.put_agree h.next (φ.at_ ad.block) (φ.cap ad.block)
              have hlen : (old ++ new).length = (n + m) * i.size := by rw [List.length_append, o1, n1, Nat.add_mul]
              have hsz : (cur.toList.take (n * i.size) ++ new.map (mapV φ) ++ cur.toList.drop (n * i.size + (new.map (mapV φ)).length)).length = cur.size := by
                rw [List.length_append, List.length_append, List.length_take, List.length_drop, hlm, Nat.min_eq_left (by simp; omega)]
                simp
                omega
              have hblk : ((φ.put h.next (φ.at_ ad.block) (φ.cap ad.block)).at_ h.next) = φ.at_ ad.block := Emb.put_at ..
              refine ⟨_, te, (0, 0), by rw [hblk]; exact hrow, ?_, fun _ => ⟨by rw [hblk]; exact e1, rfl, ?_, fun _ => ?_⟩⟩
              · intro k v hk
                have hcell : (w.setRow (φ.at_ ad.block).block (cur.toList.take (n * i.size) ++ new.map (mapV φ) ++ cur.toList.drop (n * i.size + (new.map (mapV φ)).length)).toArray).cell? ((φ.at_ ad.block).add k) = (cur.toList.take (n * i.size) ++ new.map (mapV φ) ++ cur.toList.drop (n * i.size + (new.map (mapV φ)).length))[k]? := by
                  rw [at_add e1]
                  unfold World.cell?
                  rw [hrow]
                  simp
                rw [hblk, hcell]
                have hmem := List.mem_of_getElem? hk
                have hokv : okV φ h.next v := (List.mem_append.1 hmem).elim (o2 v) (n2 v)
                obtain ⟨g1, g2⟩ := mapV_agree hag (Nat.le_succ _) v hokv
                refine ⟨g2, hone2 v hmem, ?_⟩
                rw [g1]
                have hcl : n * i.size ≤ cur.toList.length := by simp; omega
                rcases Nat.lt_or_ge k (n * i.size) with hkn | hkn
                · rw [List.getElem?_append_left (by omega)] at hk
                  have hko : cs[k]? = some v := by
                    simp only [cellsOfSlice] at hold
                    by_cases hn0 : n = 0
                    · subst hn0; omega
                    · simp only [beq0_false hn0, cond_false, hg, dropK_eq, takeK_eq, c1, List.drop_zero, Nat.zero_le, if_true] at hold
                      obtain ⟨_, hold⟩ := ite_some hold
                      simp only [Option.some.injEq] at hold
                      subst hold
                      rwa [List.getElem?_take_of_lt hkn] at hk
                  have hh := (r2 k v hko).2.2
                  rw [at_add e1] at hh
                  unfold World.cell? at hh
                  rw [r1] at hh
                  rw [List.append_assoc, List.getElem?_append_left (by simp; omega), List.getElem?_take_of_lt hkn]
                  simpa using hh
                · rw [List.getElem?_append_right (by omega), o1] at hk
                  have hk2 : k - n * i.size < new.length := (List.getElem?_eq_some_iff.1 hk).1
                  rw [List.append_assoc, List.getElem?_append_right (by simp; omega), List.getElem?_append_left (by simp; omega)]
                  simp only [List.length_take, Nat.min_eq_left hcl, List.getElem?_map, hk, Option.map_some]
              · rw [hlen, Nat.add_mul]
                simp only [List.size_toArray, hsz]
                exact hms
              · rw [hlen, Emb.put_cap]
                simp only [List.size_toArray, hsz]
                exact ⟨Nat.mul_le_mul_right _ hin, e6⟩
          · obtain ⟨H1, E1⟩ := H.drop hg rfl c4 (w' := w) rfl (fun _ _ => rfl)
            exact grow _ H1 rfl E1 old _ _ hmap (by omega) o1 o2 (fun w' hw => by
              have := o4 w' hw unk
              rwa [hmap] at this) hr
end Go.Vm

namespace Go.Vm
variable {P : Program} {φ : Emb} {h : AHeap} {w : World}
theorem pureRun_bind {α β : Type} (s : Sem α) (f : α → Sem β) : pureRun P (s >>= f) = (pureRun P s).bind fun a => pureRun P (f a) := by
  show pureRun P (s.bind f) = _
  induction s with
  | pure a => rfl
  | program k ih => exact ih P
  | mark m k ih => exact ih
  | _ => rfl
theorem amap_some {m : Value} {r c : Nat} {es : Array MapEntry} (hm : amap h m = some (r, es, c)) : m = .map (some r) ∧ h.get r = some (.map es c) := by
  unfold amap at hm
  split at hm
  · split at hm
    · rename_i r' es' c' hg
      simp only [Option.some.injEq, Prod.mk.injEq] at hm
      obtain ⟨rfl, rfl, rfl⟩ := hm
      exact ⟨rfl, hg⟩
    · simp at hm
  · simp at hm
theorem run_getMap (H : HRel φ h w) {r c : Nat} {es : Array MapEntry} (hg : h.get r = some (.map es c)) : (getObj (φ.at_ r).block).run P w = .ok (.map es c) w := by
  have := (H.live _ _ hg).1
  simp [getObj, Sem.run, this]
theorem findA_sound {empty : Bool} {kt : TypeId} {k : Value} {es : Array MapEntry} {x : Option (Nat × Value)} (hf : findA P empty kt k es = some x) :
    (Instr.checkKey empty 10000 kt k).run P w = .ok () w ∧ (Instr.findKey kt k es.toList).run P w = .ok x w := by
  unfold findA at hf
  rw [pureRun_bind] at hf
  cases hc : pureRun P (Instr.checkKey empty 10000 kt k) with
  | none => simp [hc] at hf
  | some u =>
    simp only [hc, Option.bind_some] at hf
    exact ⟨pureRun_sound _ _ hc w, pureRun_sound _ _ hf w⟩
theorem plain_agg {b : Bool} {v : Value} (hv : plainV v = true) (φ : Emb) (n : Nat) : mapV φ (.tuple #[v, .bool b]) = .tuple #[v, .bool b] ∧ okV φ n (.tuple #[v, .bool b]) := by
  refine ⟨by simp [plainV_map hv], ?_⟩
  simp only [okV_tuple]
  intro x hx
  simp at hx
  rcases hx with rfl | rfl
  · exact plainV_ok hv
  · simp
theorem lookupA_sound (H : HRel φ h w) {t kt e : TypeId} {z m k r : Value} {ok : Bool} {h' : AHeap} (hu : P.underlying t = some (.map kt e)) (hz : zeroT P e = some z) (hr : lookupA P kt z ok h m k = some (r, h')) :
    Done P (Instr.lookup t (mapV φ m) (mapV φ k) ok) φ h w r h' := by
  unfold lookupA at hr
  split at hr
  rotate_left
  · simp at hr
  rename_i r0 es c hm
  obtain ⟨rfl, hg⟩ := amap_some hm
  obtain ⟨hc, hr⟩ := cond_some hr
  rw [Bool.and_eq_true] at hc
  obtain ⟨hk, hzp⟩ := hc
  have hget := run_getMap (P := P) H hg
  rw [plainV_map hk]
  split at hr
  · rename_i i v hf
    obtain ⟨hv, hr⟩ := cond_some hr
    simp only [Option.some.injEq, Prod.mk.injEq] at hr
    obtain ⟨rfl, rfl⟩ := hr
    obtain ⟨f1, f2⟩ := findA_sound (w := w) hf
    cases ok with
    | true =>
      refine Done.same H ?_ (plain_agg hv φ _).2
      rw [cond_true, (plain_agg hv φ 0).1]
      simp [Instr.lookup, run_underlying hu, hget, f1, f2]
    | false =>
      refine Done.same H ?_ (plainV_ok hv)
      rw [cond_false, plainV_map hv]
      simp [Instr.lookup, run_underlying hu, hget, f1, f2]
  · rename_i hf
    simp only [Option.some.injEq, Prod.mk.injEq] at hr
    obtain ⟨rfl, rfl⟩ := hr
    obtain ⟨f1, f2⟩ := findA_sound (w := w) hf
    cases ok with
    | true =>
      refine Done.same H ?_ (plain_agg hzp φ _).2
      rw [cond_true, (plain_agg hzp φ 0).1]
      simp [Instr.lookup, run_underlying hu, hget, f1, f2, run_zero_of hz]
    | false =>
      refine Done.same H ?_ (plainV_ok hzp)
      rw [cond_false, plainV_map hzp]
      simp [Instr.lookup, run_underlying hu, hget, f1, f2, run_zero_of hz]
  · simp at hr
theorem mem_modify {p : MapEntry → Prop} {es : Array MapEntry} {i : Nat} {f : MapEntry → MapEntry} (hes : ∀ e ∈ es.toList, p e) (hf : ∀ e, p e → p (f e)) : ∀ e ∈ (es.modify i f).toList, p e := by
  intro e he
  obtain ⟨j, hj⟩ := List.getElem?_of_mem he
  rw [Array.getElem?_toList, Array.getElem?_modify] at hj
  by_cases hij : i = j
  · simp only [hij, if_true] at hj
    cases hx : es[j]? with
    | none => simp [hx] at hj
    | some x =>
      simp [hx] at hj
      subst hj
      exact hf x (hes x (List.mem_of_getElem? (by rw [Array.getElem?_toList]; exact hx)))
  · simp only [hij, if_false] at hj
    exact hes e (List.mem_of_getElem? (by rw [Array.getElem?_toList]; exact hj))
theorem setMap_sound (H : HRel φ h w) {r c c' : Nat} {es es' : Array MapEntry} {v v' : Value} {h' : AHeap} (hg : h.get r = some (.map es c)) (hfl : h.floor ≤ r) (hes : ∀ e ∈ es'.toList, plainV e.key = true ∧ plainV e.val = true)
    (hr : setMap h r es' c' v = some (v', h')) :
    v' = v ∧ ∃ w', (setObj (φ.at_ r).block (.map es' c')).run P w = .ok () w' ∧ HRel φ h' w' ∧ Ext φ h w φ h' w' ∧ h'.next = h.next := by
  unfold setMap at hr
  rw [AHeap.put_eq] at hr
  simp only [Option.some.injEq, Prod.mk.injEq] at hr
  obtain ⟨rfl, rfl⟩ := hr
  have hb := (H.live _ _ hg).1
  have hlt := (Array.getElem?_eq_some_iff.1 hb).1
  refine ⟨rfl, { w with heap := w.heap.setIfInBounds (φ.at_ r).block (.map es' c') }, by simp [setObj, Sem.run, hb], ?_⟩
  have hk := H.turn (w' := { w with heap := w.heap.setIfInBounds (φ.at_ r).block (.map es' c') }) (o' := .map es' c') hg rfl hfl (by simp) (fun b hb => by
    show (w.heap.setIfInBounds (φ.at_ r).block (.map es' c'))[b]? = _
    rw [Array.getElem?_setIfInBounds_ne (Ne.symm hb)]) ⟨by
      show (w.heap.setIfInBounds (φ.at_ r).block (.map es' c'))[(φ.at_ r).block]? = _
      simp [hlt], hes⟩
  exact ⟨hk.1, hk.2, rfl⟩
theorem mapEntryA_sound (H : HRel φ h w) {t kt e : TypeId} {z m k r : Value} {h' : AHeap} (hu : P.underlying t = some (.map kt e)) (hz : zeroT P e = some z) (hr : mapEntryA P kt z h m k = some (r, h')) :
    Done P (Instr.mapEntry t (mapV φ m) (mapV φ k)) φ h w r h' := by
  unfold mapEntryA at hr
  split at hr
  rotate_left
  · simp at hr
  rename_i r0 es c hm
  obtain ⟨rfl, hg⟩ := amap_some hm
  obtain ⟨hc, hr⟩ := cond_some hr
  simp only [Bool.and_eq_true, ble_iff] at hc
  obtain ⟨⟨hk, hzp⟩, hfl⟩ := hc
  have hget := run_getMap (P := P) H hg
  have hes := (H.live _ _ hg).2
  rw [plainV_map hk]
  have tup : ∀ (v : Value) (n : Int), plainV v = true → mapV φ (.tuple #[v, goInt n]) = .tuple #[v, goInt n] ∧ ∀ n', okV φ n' (.tuple #[v, goInt n]) := by
    intro v n hv
    refine ⟨by simp [plainV_map hv, goInt], fun n' => ?_⟩
    simp only [okV_tuple]
    intro x hx
    simp at hx
    rcases hx with rfl | rfl
    · exact plainV_ok hv
    · simp [goInt]
  split at hr
  · rename_i i v hf
    obtain ⟨hb, hr⟩ := cond_some hr
    rw [Bool.and_eq_true] at hb
    obtain ⟨f1, f2⟩ := findA_sound (w := w) hf
    obtain ⟨rfl, w', k1, k2, k3, k4⟩ := setMap_sound (P := P) H hg hfl (mem_modify (f := fun e => { e with key := k }) hes fun e he => ⟨hk, he.2⟩) hr
    refine ⟨φ, w', ?_, k2, k3, (tup v _ hb.2).2 _⟩
    rw [(tup v _ hb.2).1]
    have hks : (Instr.keyThatStays (((es[i]?).map (·.key)).getD k) k).run P w = .ok k w := by
      unfold Instr.keyThatStays
      rw [if_pos hb.1]; rfl
    simp [Instr.mapEntry, run_underlying hu, hget, f1, f2, hks, k1]
  · rename_i hf
    obtain ⟨f1, f2⟩ := findA_sound (w := w) hf
    obtain ⟨rfl, w', k1, k2, k3, k4⟩ := setMap_sound (P := P) H hg hfl (fun e he => by
      simp only [Array.toList_push, List.mem_append, List.mem_singleton] at he
      rcases he with he | rfl
      · exact hes e he
      · exact ⟨hk, hzp⟩) hr
    refine ⟨φ, w', ?_, k2, k3, (tup z _ hzp).2 _⟩
    rw [(tup z _ hzp).1]
    simp [Instr.mapEntry, run_underlying hu, hget, f1, f2, run_zero_of hz, k1]
  · simp at hr
theorem entryStoreA_sound (H : HRel φ h w) {t : TypeId} {m s x r : Value} {h' : AHeap} (hr : entryStoreA h m s x = some (r, h')) :
    r = undef ∧ ∃ w', (Instr.entryStore t (mapV φ m) (mapV φ s) (mapV φ x)).run P w = .ok () w' ∧ HRel φ h' w' ∧ Ext φ h w φ h' w' := by
  unfold entryStoreA at hr
  split at hr
  rotate_left
  · simp at hr
  rename_i r0 es c k born hm
  obtain ⟨rfl, hg⟩ := amap_some hm
  obtain ⟨hc, hr⟩ := cond_some hr
  simp only [Bool.and_eq_true, ble_iff] at hc
  obtain ⟨hx, hfl⟩ := hc
  have hget := run_getMap (P := P) H hg
  have hes := (H.live _ _ hg).2
  rw [plainV_map hx]
  split at hr
  · rename_i i hi
    obtain ⟨rfl, w', k1, k2, k3, k4⟩ := setMap_sound (P := P) H hg hfl (mem_modify (f := fun e => { e with val := x }) hes fun e he => ⟨he.1, hx⟩) hr
    refine ⟨rfl, w', ?_, k2, k3⟩
    simp [Instr.entryStore, hget, asInt, asIntOf, hi, k1]
  · simp at hr
theorem mapUpdateA_sound (H : HRel φ h w) {t kt e : TypeId} {m k x r : Value} {h' : AHeap} (hu : P.underlying t = some (.map kt e)) (hr : mapUpdateA P kt h m k x = some (r, h')) :
    r = undef ∧ ∃ w', (Instr.mapUpdate t (mapV φ m) (mapV φ k) (mapV φ x)).run P w = .ok () w' ∧ HRel φ h' w' ∧ Ext φ h w φ h' w' := by
  unfold mapUpdateA at hr
  split at hr
  rotate_left
  · simp at hr
  rename_i r0 es c hm
  obtain ⟨rfl, hg⟩ := amap_some hm
  obtain ⟨hc, hr⟩ := cond_some hr
  simp only [Bool.and_eq_true, ble_iff] at hc
  obtain ⟨⟨hk, hx⟩, hfl⟩ := hc
  have hget := run_getMap (P := P) H hg
  have hes := (H.live _ _ hg).2
  rw [plainV_map hk, plainV_map hx]
  split at hr
  · rename_i i v hf
    obtain ⟨hb, hr⟩ := cond_some hr
    obtain ⟨f1, f2⟩ := findA_sound (w := w) hf
    obtain ⟨rfl, w', k1, k2, k3, k4⟩ := setMap_sound (P := P) H hg hfl (mem_modify (f := fun e => { e with key := k, val := x }) hes fun e he => ⟨hk, hx⟩) hr
    refine ⟨rfl, w', ?_, k2, k3⟩
    have hks : (Instr.keyThatStays (((es[i]?).map (·.key)).getD k) k).run P w = .ok k w := by
      unfold Instr.keyThatStays
      rw [if_pos hb]; rfl
    simp [Instr.mapUpdate, run_underlying hu, hget, f1, f2, hks, k1]
  · rename_i hf
    obtain ⟨f1, f2⟩ := findA_sound (w := w) hf
    obtain ⟨rfl, w', k1, k2, k3, k4⟩ := setMap_sound (P := P) H hg hfl (fun e he => by
      simp only [Array.toList_push, List.mem_append, List.mem_singleton] at he
      rcases he with he | rfl
      · exact hes e he
      · exact ⟨hk, hx⟩) hr
    refine ⟨rfl, w', ?_, k2, k3⟩
    simp [Instr.mapUpdate, run_underlying hu, hget, f1, f2, k1]
  · simp at hr
theorem wrapF_eq (k : IntKind) (z : Int) : wrapF k z = k.wrap z := by
  unfold wrapF
  split
  · rename_i n
    by_cases hn : n < 9223372036854775808
    · rw [blt_iff.2 hn, cond_true]
      exact (IntWalk.i64_in _ (by simp; omega)).symm
    · rw [blt_false hn]; rfl
  · rfl
theorem ltI_eq (a b : Int) : ltI a b = decide (a < b) := by
  unfold ltI
  split
  · rename_i m n
    rw [Bool.eq_iff_iff, blt_iff]; simp
  · rfl
theorem eqI_eq (a b : Int) : eqI a b = decide (a = b) := by
  unfold eqI
  split
  · rename_i m n
    rw [Bool.eq_iff_iff, beq_iff, decide_eq_true_iff]
    exact ⟨fun h => by rw [h], fun h => Int.ofNat.inj h⟩
  · rfl
theorem sameK_eq {k k' : IntKind} (hk : sameK k k' = true) : k = k' := by
  unfold sameK at hk
  split at hk
  · rfl
  · simpa using hk
theorem run_eqGuard_int (op : BinOp) (t : TypeId) (x y : Operand) (k k' : IntKind) (a b : Int) : (eqGuard op t x y (.int k a) (.int k' b)).run P w = .ok () w := by
  unfold eqGuard
  split <;> rfl
theorem intTwo_sound {f : IntKind → Int → Int → Value} {alt : AHeap → Slots → Option (Value × AHeap)} {x y : FVal} {ts : Slots} {r : Value} {h' : AHeap} (hr : intTwo f alt x y h ts = some (r, h')) :
    (∃ k a b, x.get ts = .int k a ∧ y.get ts = .int k b ∧ r = f k a b ∧ h' = h) ∨ alt h ts = some (r, h') := by
  unfold intTwo at hr
  split at hr
  · rename_i k a k' b hx hy
    obtain ⟨hk, hr⟩ := cond_some hr
    simp only [Option.some.injEq, Prod.mk.injEq] at hr
    obtain ⟨rfl, rfl⟩ := hr
    have := sameK_eq hk
    subst this
    exact .inl ⟨k, a, b, hx, hy, rfl, rfl⟩
  · exact .inr hr
theorem plainRun_sound (H : HRel φ h w) {o : Oper} {ts : Slots} {ρ : Operand → Value} {r : Value} {h' : AHeap} (hs : ∀ cs b, o.op ≠ .select cs b) (hρ : ∀ x ∈ o.op.operands.toList, OpRel φ h.next ts ρ x) (hr : plainRun P o h ts = some (r, h')) :
    OpDone P (execOp ρ o) φ h w r h' := by
  unfold plainRun at hr
  obtain ⟨hp, hr⟩ := cond_some hr
  rw [allB_iff] at hp
  split at hr
  · rename_i v hv
    obtain ⟨hpv, hr⟩ := cond_some hr
    simp only [Option.some.injEq, Prod.mk.injEq] at hr
    obtain ⟨rfl, rfl⟩ := hr
    have hcongr : execOp ρ o = execOp (fun x => (cval x).get ts) o := execOp_congr o hs fun x hx => by
      rw [(hρ x (by simpa using hx)).1, plainV_map (hp x (by simpa using hx))]
    have hrun : pureRun P (execOp (fun x => (cval x).get ts) o) = some (.value v) := by
      unfold valueOnly at hv
      split at hv
      · rename_i heq; simp only [Option.some.injEq] at hv; subst hv; exact heq
      · simp at hv
    refine OpDone.same H ?_ (plainV_ok hpv)
    rw [hcongr, pureRun_sound _ _ hrun w, plainV_map hpv]
  · simp at hr
end Go.Vm

namespace Go.Vm
variable {P : Program} {φ : Emb} {h : AHeap} {w : World}
theorem elemT_some {t e : TypeId} (ht : elemT P t = some e) : P.underlying t = some (.slice e) := by
  unfold elemT at ht
  split at ht
  · rename_i h1; simp only [Option.some.injEq] at ht; subst ht; exact h1
  · simp at ht
theorem orNil_sound (_H : HRel φ h w) {t : TypeId} {want : Bool} {alt : AHeap → Slots → Option (Value × AHeap)} {x y : FVal} {ts : Slots} {r : Value} {h' : AHeap} (hr : orNil P t want alt x y h ts = some (r, h')) :
    alt h ts = some (r, h') ∨ (h' = h ∧ ∃ a n c n' c' e, x.get ts = .slice a n c ∧ y.get ts = .slice none n' c' ∧ P.underlying t = some (.slice e) ∧ r = .bool (if want then a.isNone else !a.isNone)) := by
  unfold orNil at hr
  cases he : elemT P t with
  | none => simp only [he] at hr; exact .inl hr
  | some e =>
    simp only [he, eqNil] at hr
    split at hr
    · rename_i a n c n' c' hx hy
      simp only [Option.some.injEq, Prod.mk.injEq] at hr
      obtain ⟨rfl, rfl⟩ := hr
      exact .inr ⟨rfl, some a, n, c, n', c', e, hx, hy, elemT_some he, by cases want <;> rfl⟩
    · rename_i n c n' c' hx hy
      simp only [Option.some.injEq, Prod.mk.injEq] at hr
      obtain ⟨rfl, rfl⟩ := hr
      exact .inr ⟨rfl, none, n, c, n', c', e, hx, hy, elemT_some he, by cases want <;> rfl⟩
    · exact .inl hr
theorem run_eqGuard_slice (op : BinOp) (t : TypeId) (x y : Operand) (a b : Option Addr) (n c n' c' : Nat) : (eqGuard op t x y (.slice a n c) (.slice b n' c')).run P w = .ok () w := by
  unfold eqGuard
  split <;> rfl
theorem slice_map (a : Option Addr) (n c : Nat) : ∃ c', mapV φ (.slice a n c) = .slice (a.map (mapA φ)) n c' := by cases a <;> simp
theorem cbin_sound (H : HRel φ h w) {dst : Option Tmp} {op : BinOp} {t yt type : TypeId} {x y : Operand} {pos : String} {after : Array Edge} {guard : Option (Nat × Bool)} {ts : Slots} {ρ : Operand → Value} {r : Value} {h' : AHeap}
    (hρ : ∀ z ∈ (Op.binOp op t x y yt).operands.toList, OpRel φ h.next ts ρ z)
    (hr : (cbin P op t (cval x) (cval y) (plainRun P ⟨dst, .binOp op t x y yt, type, pos, after, guard⟩)).run h ts = some (r, h')) :
    OpDone P (execOp ρ ⟨dst, .binOp op t x y yt, type, pos, after, guard⟩) φ h w r h' := by
  have hpl := fun hr => plainRun_sound (P := P) H (o := ⟨dst, .binOp op t x y yt, type, pos, after, guard⟩) (ρ := ρ) (r := r) (h' := h') (fun cs b => by simp) hρ hr
  have hx := hρ x (by simp [Op.operands])
  have hy := hρ y (by simp [Op.operands])
  have int : ∀ (f : IntKind → Int → Int → Value) (alt : AHeap → Slots → Option (Value × AHeap)), (∀ k a b, ∃ v, f k a b = v ∧ mapV φ v = v ∧ okV φ h.next v ∧ ∀ w, (Go.binOp op t (.int k a) (.int k b)).run P w = .ok v w) →
      (alt h ts = some (r, h') → OpDone P (execOp ρ ⟨dst, .binOp op t x y yt, type, pos, after, guard⟩) φ h w r h') → intTwo f alt (cval x) (cval y) h ts = some (r, h') →
      OpDone P (execOp ρ ⟨dst, .binOp op t x y yt, type, pos, after, guard⟩) φ h w r h' := by
    intro f alt hf halt hr
    rcases intTwo_sound hr with ⟨k, a, b, h1, h2, rfl, rfl⟩ | hr
    · obtain ⟨v, hv1, hv2, hv3, hv4⟩ := hf k a b
      rw [hv1]
      refine OpDone.same H ?_ hv3
      have e1 : ρ x = .int k a := by rw [hx.1, h1]; simp
      have e2 : ρ y = .int k b := by rw [hy.1, h2]; simp
      simp [execOp, e1, e2, run_eqGuard_int, hv4, hv2]
    · exact halt hr
  have nil : ∀ want, (op = if want then .eql else .neq) → orNil P t want (plainRun P ⟨dst, .binOp op t x y yt, type, pos, after, guard⟩) (cval x) (cval y) h ts = some (r, h') →
      OpDone P (execOp ρ ⟨dst, .binOp op t x y yt, type, pos, after, guard⟩) φ h w r h' := by
    intro want hop hr
    rcases orNil_sound H hr with hr | ⟨rfl, a, n, c, n', c', e, h1, h2, h3, rfl⟩
    · exact hpl hr
    · refine OpDone.same H ?_ (by simp)
      obtain ⟨c1, e1⟩ := slice_map (φ := φ) a n c
      have e1' : ρ x = .slice (a.map (mapA φ)) n c1 := by rw [hx.1, h1, e1]
      have e2 : ρ y = .slice none n' c' := by rw [hy.1, h2]; simp
      subst hop
      cases want with
      | true => simp [execOp, e1', e2, run_eqGuard_slice, Lib.run_eql_slice_nil w t e _ _ _ _ _ h3]
      | false => simp [execOp, e1', e2, run_eqGuard_slice, run_neq_slice_nil_any w t e _ _ _ _ _ h3]
  cases op <;> simp only [cbin] at hr
  case add => exact int _ _ (fun k a b => ⟨_, rfl, by simp [addI], by simp [addI], fun w => by simp [Go.binOp, Op.intArith, addI, wrapF_eq]⟩) hpl hr
  case sub => exact int _ _ (fun k a b => ⟨_, rfl, by simp [subI], by simp [subI], fun w => by simp [Go.binOp, Op.intArith, subI, wrapF_eq]⟩) hpl hr
  case mul => exact int _ _ (fun k a b => ⟨_, rfl, by simp [mulI], by simp [mulI], fun w => by simp [Go.binOp, Op.intArith, mulI, wrapF_eq]⟩) hpl hr
  case eql => exact int _ _ (fun k a b => ⟨_, rfl, by simp [eqlI], by simp [eqlI], fun w => by simp [Go.binOp, Op.intCmp, eqlI, eqI_eq]; rfl⟩) (nil true rfl) hr
  case neq => exact int _ _ (fun k a b => ⟨_, rfl, by simp [neqI], by simp [neqI], fun w => by simp [Go.binOp, Op.intCmp, neqI, eqI_eq]; rfl⟩) (nil false rfl) hr
  case lss => exact int _ _ (fun k a b => ⟨_, rfl, by simp [lssI], by simp [lssI], fun w => by simp [Go.binOp, Op.intCmp, lssI, ltI_eq]⟩) hpl hr
  case leq => exact int _ _ (fun k a b => ⟨_, rfl, by simp [leqI], by simp [leqI], fun w => by simp [Go.binOp, Op.intCmp, leqI, ltI_eq, ← decide_not]⟩) hpl hr
  case gtr => exact int _ _ (fun k a b => ⟨_, rfl, by simp [gtrI], by simp [gtrI], fun w => by simp [Go.binOp, Op.intCmp, gtrI, ltI_eq]⟩) hpl hr
  case geq => exact int _ _ (fun k a b => ⟨_, rfl, by simp [geqI], by simp [geqI], fun w => by simp [Go.binOp, Op.intCmp, geqI, ltI_eq, ← decide_not]⟩) hpl hr
  all_goals exact hpl hr
end Go.Vm

namespace Go.Vm
variable {P : Program} {φ : Emb} {h : AHeap} {w : World}
theorem withH_some {v : Option Value} {r : Value} {h h' : AHeap} (hr : withH v h = some (r, h')) : v = some r ∧ h' = h := by
  unfold withH at hr
  cases v with
  | none => simp at hr
  | some v =>
    simp only [Option.some.injEq, Prod.mk.injEq] at hr
    exact ⟨by rw [hr.1], hr.2.symm⟩
theorem Unit.op {s : Sem Unit} {w' : World} {h' : AHeap} (k1 : s.run P w = .ok () w') (k2 : HRel φ h' w') (k3 : Ext φ h w φ h' w') : OpDone P (do s; pure .skip) φ h w undef h' :=
  ⟨φ, w', .skip, by simp [k1], .inr ⟨rfl, rfl⟩, k2, k3, okV_undef⟩
theorem builtin_sound (H : HRel φ h w) {dst : Option Tmp} {b : Builtin} {args : Array Operand} {argTypes : Array TypeId} {type : TypeId} {pos : String} {after : Array Edge} {guard : Option (Nat × Bool)} {ts : Slots} {ρ : Operand → Value} {r : Value} {h' : AHeap}
    (hρ : ∀ x ∈ (Op.call ⟨.builtin b, args, argTypes⟩).operands.toList, OpRel φ h.next ts ρ x)
    (hr : (cbuiltin P ⟨dst, .call ⟨.builtin b, args, argTypes⟩, type, pos, after, guard⟩ b args.toList argTypes).run h ts = some (r, h')) :
    OpDone P (execOp ρ ⟨dst, .call ⟨.builtin b, args, argTypes⟩, type, pos, after, guard⟩) φ h w r h' := by
  have hpl := fun hr => plainRun_sound (P := P) H (o := ⟨dst, .call ⟨.builtin b, args, argTypes⟩, type, pos, after, guard⟩) (ρ := ρ) (r := r) (h' := h') (fun cs b => by simp) hρ hr
  have hargs : ∀ x ∈ args.toList, OpRel φ h.next ts ρ x := fun x hx => hρ x (by simp [Op.operands, Call.operands]; simpa using hx)
  have hat0 : ∀ t, argTypes[0]? = some t → argTypes.toList[0]? = some t := fun t ht => by simpa using ht
  unfold cbuiltin at hr
  split at hr
  · -- len
    rename_i x hx
    have ha : args = #[x] := by apply Array.ext'; simpa using hx
    subst ha
    obtain ⟨e1, e2⟩ := hargs x (by simp)
    unfold clen at hr
    split at hr
    · rename_i t ht
      split at hr
      · rename_i e hu
        simp only [lenA] at hr
        split at hr
        · rename_i a n c hv
          simp only [Option.some.injEq, Prod.mk.injEq] at hr
          obtain ⟨rfl, rfl⟩ := hr
          refine OpDone.same H ?_ (by simp)
          rw [hv] at e1
          obtain ⟨c1, e3⟩ := slice_map (φ := φ) a n c
          rw [e3] at e1
          simp [execOp, resolve, invoke, builtin, Builtin.len_, ht, e1, run_underlying hu, goInt]
        · simp at hr
      · rename_i n e hu
        simp only [Option.some.injEq, Prod.mk.injEq] at hr
        obtain ⟨rfl, rfl⟩ := hr
        refine OpDone.same H ?_ (by simp)
        simp [execOp, resolve, invoke, builtin, Builtin.len_, ht, run_underlying hu, goInt]
      · simp [bad] at hr
    · simp [bad] at hr
  · -- append
    rename_i x y hx
    have ha : args = #[x, y] := by apply Array.ext'; simpa using hx
    subst ha
    obtain ⟨e1, e2⟩ := hargs x (by simp)
    obtain ⟨e3, e4⟩ := hargs y (by simp)
    unfold cappend at hr
    split at hr
    rotate_left
    · simp [bad] at hr
    rename_i t u ht hu
    split at hr
    rotate_left
    · simp [bad] at hr
    rename_i e e' het heu
    split at hr
    rotate_left
    · simp [bad] at hr
    rename_i i hi
    split at hr
    rotate_left
    · simp [bad] at hr
    rename_i z hz
    cases hb : (Nat.blt 0 i.size && Nat.beq z.cells.size i.size) with
    | false => simp [hb, bad] at hr
    | true =>
      simp only [hb, cond_true] at hr
      simp only [Bool.and_eq_true, blt_iff, beq_iff] at hb
      have hd := appendA_sound (P := P) H type (elemT_some het) (elemT_some heu) hi hz hb.1 hb.2 e2 e4 hr
      rw [← e1, ← e3] at hd
      obtain ⟨φ', w', k1, k2, k3, k4⟩ := hd.op
      refine ⟨φ', w', k1, ?_, k3, k4⟩
      rw [← k2]
      have happ : ∀ (at1 : Array TypeId) (vs : Array Value), at1[0]? = some t → at1[1]? = some u → (Builtin.append_ at1 type vs) = Builtin.append_ #[t, u] type vs := by
        intro at1 vs h1 h2
        simp [Builtin.append_, h1, h2]
      simp [execOp, resolve, invoke, builtin, happ argTypes _ ht hu]
  · -- copy
    rename_i x y hx
    have ha : args = #[x, y] := by apply Array.ext'; simpa using hx
    subst ha
    obtain ⟨e1, e2⟩ := hargs x (by simp)
    obtain ⟨e3, e4⟩ := hargs y (by simp)
    unfold ccopy at hr
    split at hr
    rotate_left
    · simp [bad] at hr
    rename_i t ht
    split at hr
    rotate_left
    · simp [bad] at hr
    rename_i e het
    split at hr
    rotate_left
    · simp [bad] at hr
    rename_i sz hsz
    have hd := copyA_sound (P := P) H type ht (elemT_some het) hsz e2 e4 hr
    rw [← e1, ← e3] at hd
    obtain ⟨φ', w', k1, k2, k3, k4⟩ := hd.op
    refine ⟨φ', w', k1, ?_, k3, k4⟩
    rw [← k2]
    simp [execOp, resolve, invoke, builtin]
  · -- clear
    rename_i x hx
    have ha : args = #[x] := by apply Array.ext'; simpa using hx
    subst ha
    obtain ⟨e1, e2⟩ := hargs x (by simp)
    unfold cclear at hr
    split at hr
    rotate_left
    · simp [bad] at hr
    rename_i t ht
    split at hr
    rotate_left
    · simp [bad] at hr
    rename_i e het
    split at hr
    rotate_left
    · simp [bad] at hr
    rename_i z hz
    cases hb : plainV z with
    | false => simp [hb, bad] at hr
    | true =>
      simp only [hb, cond_true, seqCells_eq] at hr
      have hd := clearA_sound (P := P) H type ht (elemT_some het) hz hb e2 hr
      rw [← e1] at hd
      obtain ⟨φ', w', k1, k2, k3, k4⟩ := hd.op
      refine ⟨φ', w', k1, ?_, k3, k4⟩
      rw [← k2]
      simp [execOp, resolve, invoke, builtin]
  · exact hpl hr
  · exact hpl hr
  · simp [bad] at hr
theorem cop_sound (H : HRel φ h w) {o : Oper} {ts : Slots} {ρ : Operand → Value} {r : Value} {h' : AHeap} (hρ : ∀ x ∈ o.op.operands.toList, OpRel φ h.next ts ρ x) (hr : (cop P o).run h ts = some (r, h')) :
    OpDone P (execOp ρ o) φ h w r h' := by
  obtain ⟨dst, op, type, pos, after, guard⟩ := o
  cases op <;> simp only [cop] at hr hρ
  case move x =>
    simp only [Option.some.injEq, Prod.mk.injEq] at hr
    obtain ⟨rfl, rfl⟩ := hr
    obtain ⟨e1, e2⟩ := hρ x (by simp [Op.operands])
    exact OpDone.same H (by simp [execOp, e1]) e2
  case assign x =>
    simp only [Option.some.injEq, Prod.mk.injEq] at hr
    obtain ⟨rfl, rfl⟩ := hr
    obtain ⟨e1, e2⟩ := hρ x (by simp [Op.operands])
    exact OpDone.same H (by simp [execOp, e1]) e2
  case nilCheck x =>
    obtain ⟨e1, e2⟩ := hρ x (by simp [Op.operands])
    unfold thereA at hr
    split at hr
    · rename_i a hx
      simp only [Option.some.injEq, Prod.mk.injEq] at hr
      obtain ⟨rfl, rfl⟩ := hr
      rw [hx] at e1 e2
      refine OpDone.same H ?_ e2
      simp [execOp, e1, mapV]
    · rename_i f a b hx
      simp only [Option.some.injEq, Prod.mk.injEq] at hr
      obtain ⟨rfl, rfl⟩ := hr
      rw [hx] at e1 e2
      refine OpDone.same H ?_ e2
      simp [execOp, e1, mapV, mapFn]
    · simp at hr
  case pick c a b =>
    obtain ⟨c1, c2⟩ := hρ c (by simp [Op.operands])
    obtain ⟨a1, a2⟩ := hρ a (by simp [Op.operands])
    obtain ⟨b1, b2⟩ := hρ b (by simp [Op.operands])
    unfold pickA at hr
    split at hr
    · rename_i hc
      simp only [Option.some.injEq, Prod.mk.injEq] at hr
      obtain ⟨rfl, rfl⟩ := hr
      rw [hc] at c1
      exact OpDone.same H (by simp [execOp, c1, asBool, a1]) a2
    · rename_i hc
      simp only [Option.some.injEq, Prod.mk.injEq] at hr
      obtain ⟨rfl, rfl⟩ := hr
      rw [hc] at c1
      exact OpDone.same H (by simp [execOp, c1, asBool, b1]) b2
    · simp at hr
  case alloc e =>
    cases hz : zeroT P e with
    | none => simp [hz, bad] at hr
    | some z =>
      simp only [hz] at hr
      cases hp : plainV z with
      | false => simp [hp, bad] at hr
      | true =>
        simp only [hp, cond_true] at hr
        have hd := (newRowA_sound (P := P) H e (plain_cells_ok hp φ _) hr).op
        rw [zero_map hp φ] at hd
        obtain ⟨φ', w', nx, k1, k2⟩ := hd
        refine ⟨φ', w', nx, ?_, k2⟩
        rw [← k1]
        simp [execOp, Instr.alloc, run_zero_of hz, newVar]
  case box e x =>
    obtain ⟨e1, e2⟩ := hρ x (by simp [Op.operands])
    have hd := (newRowA_sound (P := P) H e (cells_ok e2) hr).op
    obtain ⟨φ', w', nx, k1, k2⟩ := hd
    refine ⟨φ', w', nx, ?_, k2⟩
    rw [← k1]
    simp [execOp, Instr.box, newVar, e1, cellList_map]
  case build t parts =>
    obtain ⟨rfl, k1, k2⟩ := cbuild_sound (P := P) (w := w) (ρ := ρ) (fun x hx => hρ x (by simp [Op.operands] at hx ⊢; exact hx)) hr
    exact OpDone.same H (by simp only [execOp, Sem.run_bind, k1]; rfl) k2
  case buildSlice t len parts =>
    unfold cbuildSlice at hr
    split at hr
    rotate_left
    · simp [bad] at hr
    rename_i e he
    split at hr
    rotate_left
    · simp [bad] at hr
    rename_i s z hs hz
    cases hb : (Nat.ble (len * s) 16777216 && Nat.blt 0 s && Nat.beq z.cells.size s && plainV z) with
    | false => simp [hb, bad] at hr
    | true =>
      simp only [hb, cond_true, seqCells_eq] at hr
      simp only [Bool.and_eq_true, ble_iff, blt_iff, beq_iff] at hb
      obtain ⟨⟨⟨b1, b2⟩, b3⟩, b4⟩ := hb
      exact (buildSl_sound (P := P) H (ρ := ρ) (fun x hx => hρ x (by simp [Op.operands] at hx ⊢; exact hx)) (elemT_some he) hs hz b1 b2 b3 b4 hr).op
  case load t a =>
    obtain ⟨hv, rfl⟩ := withH_some hr
    obtain ⟨e1, e2⟩ := hρ a (by simp [Op.operands])
    obtain ⟨k1, k2⟩ := cload_sound (P := P) H e2 hv
    exact OpDone.same H (by simp [execOp, e1, k1]) k2
  case store t a x =>
    cases hn : sizeT P t with
    | none => simp [hn, bad] at hr
    | some n =>
      simp only [hn] at hr
      obtain ⟨a1, a2⟩ := hρ a (by simp [Op.operands])
      obtain ⟨x1, x2⟩ := hρ x (by simp [Op.operands])
      obtain ⟨rfl, w', k1, k2, k3⟩ := storeN_sound (P := P) H hn x2 hr
      rw [← a1, ← x1] at k1
      exact Unit.op (P := P) k1 k2 k3
  case makeFunc fn a b =>
    cases fn with
    | func f =>
      simp only [Option.some.injEq, Prod.mk.injEq] at hr
      obtain ⟨rfl, rfl⟩ := hr
      have hm : ∀ (l : Array Operand), (∀ x ∈ l.toList, OpRel φ h.next ts ρ x) → l.map ρ = (Array.mk ((cvals l.toList).get ts)).map (mapV φ) ∧ ∀ v ∈ (cvals l.toList).get ts, okV φ h.next v := by
        intro l hl
        rw [cvals_get]
        refine ⟨?_, ?_⟩
        · apply Array.ext'
          simp only [Array.toList_map, List.map_map]
          exact List.map_congr_left fun x hx => (hl x hx).1
        · intro v hv
          obtain ⟨x, hx, rfl⟩ := List.mem_map.1 hv
          exact (hl x hx).2
      obtain ⟨a1, a2⟩ := hm a (fun x hx => hρ x (by simp [Op.operands]; exact .inl (by simpa using hx)))
      obtain ⟨b1, b2⟩ := hm b (fun x hx => hρ x (by simp [Op.operands]; exact .inr (by simpa using hx)))
      refine OpDone.same H ?_ ?_
      · simp only [execOp, Instr.makeFunc, a1, b1, mapV_func, mapFn]
        rfl
      · simp only [okV_func, okFn]
        exact ⟨trivial, a2, b2⟩
    | _ => simp [bad] at hr
  case makeSlice t l c =>
    obtain ⟨l1, l2⟩ := hρ l (by simp [Op.operands])
    obtain ⟨c1, c2⟩ := hρ c (by simp [Op.operands])
    unfold cmakeSlice at hr
    split at hr
    rotate_left
    · simp [bad] at hr
    rename_i e he
    split at hr
    rotate_left
    · simp [bad] at hr
    rename_i i hi
    split at hr
    rotate_left
    · simp [bad] at hr
    rename_i z hz
    cases hb : (Nat.blt 0 i.size && Nat.beq z.cells.size i.size && plainV z) with
    | false => simp [hb, bad] at hr
    | true =>
      simp only [hb, cond_true, seqCells_eq] at hr
      simp only [Bool.and_eq_true, blt_iff, beq_iff] at hb
      have hd := (makeSl_sound (P := P) H (elemT_some he) hi hz hb.1.1 hb.1.2 hb.2 hr).op
      rw [← l1, ← c1] at hd
      exact hd
  case makeMap t rs =>
    cases rs with
    | some x => simp [bad] at hr
    | none =>
      simp only [cmapop] at hr
      split at hr
      · rename_i kt e hu
        split at hr
        · rename_i z hz
          simp only at hr
          obtain ⟨hf, hr⟩ := AHeap.push_eq hr
          simp only [Option.some.injEq, Prod.mk.injEq] at hr
          obtain ⟨rfl, rfl⟩ := hr
          have hp := H.push hf (.map #[] 0) (.map #[] 0) 0 ⟨by
            rw [Emb.put_at]
            show (w.heap.push _)[w.heap.size]? = _
            simp, by simp⟩
          refine ⟨_, _, _, ?_, .inl rfl, hp.1, hp.2, by simp [AHeap.more]⟩
          simp only [execOp, Instr.makeMap, Option.map_none, mapV_map, Emb.put_at]
          rfl
        · simp [bad] at hr
      · simp [bad] at hr
  case slice t x lo hi mx =>
    obtain ⟨x1, x2⟩ := hρ x (by simp [Op.operands])
    have hopt : ∀ (y : Option Operand), (∀ z, y = some z → OpRel φ h.next ts ρ z) → y.map ρ = (optGet y ts).map (mapV φ) := by
      intro y hy
      cases y with
      | none => rfl
      | some z => simp [optGet, (hy z rfl).1]
    have hlo := hopt lo (fun z hz => hρ z (by subst hz; simp [Op.operands]))
    have hhi := hopt hi (fun z hz => hρ z (by subst hz; simp [Op.operands]))
    have hmx := hopt mx (fun z hz => hρ z (by subst hz; simp [Op.operands]))
    have hsome : hi.isSome = (optGet hi ts).isSome := by cases hi <;> rfl
    unfold cslice at hr
    split at hr
    · rename_i e hu
      split at hr
      · rename_i s hs
        simp only [hsome] at hr
        have hd := (sliceA_sound (P := P) H hu hs x2 hr).op
        rw [← x1, ← hlo, ← hhi, ← hmx] at hd
        exact hd
      · simp [bad] at hr
    · rename_i n e hu
      split at hr
      · rename_i s hs
        cases hb : Nat.blt n unk with
        | false => simp [hb, bad] at hr
        | true =>
          simp only [hb, cond_true] at hr
          have hd := (sliceArr_sound (P := P) H hu hs (blt_iff.1 hb) x2 hr).op
          rw [← x1, ← hlo, ← hhi] at hd
          exact hd
      · simp [bad] at hr
    · simp [bad] at hr
  case fieldAddr s x f =>
    obtain ⟨hv, rfl⟩ := withH_some hr
    obtain ⟨e1, e2⟩ := hρ x (by simp [Op.operands])
    obtain ⟨k1, k2⟩ := cfieldAddr_sound (P := P) (w := w) e2 hv
    exact OpDone.same H (by simp [execOp, e1, k1]) k2
  case field t x f =>
    obtain ⟨e1, e2⟩ := hρ x (by simp [Op.operands])
    obtain ⟨rfl, k1, k2⟩ := cfield_sound (P := P) (w := w) e2 hr
    exact OpDone.same H (by simp [execOp, e1, k1]) k2
  case indexAddr t x i =>
    obtain ⟨hv, rfl⟩ := withH_some hr
    obtain ⟨e1, e2⟩ := hρ x (by simp [Op.operands])
    obtain ⟨i1, i2⟩ := hρ i (by simp [Op.operands])
    obtain ⟨k1, k2⟩ := cindexAddr_sound (P := P) (w := w) e2 hv
    exact OpDone.same H (by simp [execOp, e1, i1, k1]) k2
  case lookup t m k ok =>
    obtain ⟨m1, m2⟩ := hρ m (by simp [Op.operands])
    obtain ⟨k1, k2⟩ := hρ k (by simp [Op.operands])
    simp only [cmapop] at hr
    split at hr
    · rename_i kt e hu
      split at hr
      · rename_i z hz
        have hd := (lookupA_sound (P := P) H hu hz hr).op
        rw [← m1, ← k1] at hd
        exact hd
      · simp [bad] at hr
    · simp [bad] at hr
  case mapEntry t m k =>
    obtain ⟨m1, m2⟩ := hρ m (by simp [Op.operands])
    obtain ⟨k1, k2⟩ := hρ k (by simp [Op.operands])
    simp only [cmapop] at hr
    split at hr
    · rename_i kt e hu
      split at hr
      · rename_i z hz
        have hd := (mapEntryA_sound (P := P) H hu hz hr).op
        rw [← m1, ← k1] at hd
        exact hd
      · simp [bad] at hr
    · simp [bad] at hr
  case entryStore t m s x =>
    obtain ⟨m1, m2⟩ := hρ m (by simp [Op.operands])
    obtain ⟨s1, s2⟩ := hρ s (by simp [Op.operands])
    obtain ⟨x1, x2⟩ := hρ x (by simp [Op.operands])
    obtain ⟨rfl, w', k1, k2, k3⟩ := entryStoreA_sound (P := P) (t := t) H hr
    rw [← m1, ← s1, ← x1] at k1
    exact Unit.op (P := P) k1 k2 k3
  case mapUpdate t m k x =>
    obtain ⟨m1, m2⟩ := hρ m (by simp [Op.operands])
    obtain ⟨s1, s2⟩ := hρ k (by simp [Op.operands])
    obtain ⟨x1, x2⟩ := hρ x (by simp [Op.operands])
    simp only [cmapop] at hr
    split at hr
    · rename_i kt e hu
      split at hr
      · rename_i z hz
        obtain ⟨rfl, w', k1, k2, k3⟩ := mapUpdateA_sound (P := P) H hu hr
        rw [← m1, ← s1, ← x1] at k1
        exact Unit.op (P := P) k1 k2 k3
      · simp [bad] at hr
    · simp [bad] at hr
  case binOp op t x y yt => exact cbin_sound H hρ hr
  case unOp op t x =>
    cases op
    case not =>
      obtain ⟨x1, x2⟩ := hρ x (by simp [Op.operands])
      simp only at hr
      split at hr
      · rename_i b hb
        simp only [Option.some.injEq, Prod.mk.injEq] at hr
        obtain ⟨rfl, rfl⟩ := hr
        rw [hb] at x1
        exact OpDone.same H (by simp [execOp, x1, Op.unary]) (by simp)
      · simp at hr
    all_goals exact plainRun_sound (P := P) H (fun cs b => by simp) hρ hr
  case convert => exact plainRun_sound (P := P) H (fun cs b => by simp) hρ hr
  case index => exact plainRun_sound (P := P) H (fun cs b => by simp) hρ hr
  case extract x i =>
    obtain ⟨e1, e2⟩ := hρ x (by simp [Op.operands])
    unfold extractA at hr
    split at hr
    · rename_i vs hvs
      split at hr
      · rename_i v hv
        simp only [Option.some.injEq, Prod.mk.injEq] at hr
        obtain ⟨rfl, rfl⟩ := hr
        rw [hvs] at e1 e2
        simp only [okV_tuple] at e2
        refine OpDone.same H ?_ (e2 v (List.mem_of_getElem? (by rw [Array.getElem?_toList]; exact hv)))
        simp [execOp, e1, Instr.extract, hv]
      · simp at hr
    · simp at hr
  case call c =>
    obtain ⟨callee, args, argTypes⟩ := c
    cases callee with
    | builtin b => exact builtin_sound H hρ hr
    | _ => simp [bad] at hr
  all_goals (simp [bad] at hr)
end Go.Vm

namespace Go.Vm
variable {P : Program} {φ : Emb} {h : AHeap} {w : World}
def Wf (ro : Option Nat) : Fence := { Fence.wide with round := ro }
theorem wf_depth (ro : Option Nat) : (Wf ro).depth.isSome = true → 1 ≤ 0 := fun h => by simp [Wf, Fence.wide] at h
theorem callsIn_wf {n : Nat} {f : FuncId} {args : Array Value} {R : Ending → World → Prop} {ro : Option Nat} (hc : CallsIn Fence.wide n P f args w R) : CallsIn (Wf ro) n P f args w R := hc
theorem roundIn_wf {n : Nat} {l : Nat} {f : FuncId} {tm : Array Value} {x y : Code} {R : Ending → World → Prop} {ro : Option Nat} (hc : RoundIn Fence.wide n P l f tm x y w R) : RoundIn (Wf ro) n P l f tm x y w R := hc
def CPost (φ : Emb) (h : AHeap) (w : World) (r : Value) (h' : AHeap) : Ending → World → Prop :=
  fun e w' => ∃ φ', e = .returned (mapV φ' r) ∧ HRel φ' h' w' ∧ Ext φ h w φ' h' w' ∧ okV φ' h'.next r
def CallOk (P : Program) (fv : Value) (args : List Value) (φ : Emb) (h : AHeap) (w : World) (r : Value) (h' : AHeap) : Prop :=
  match fv with
  | .func (.func f) a b => (∃ fn, P.funcs[f]? = some fn ∧ fn.body.isSome = true) ∧ CallsIn Fence.wide 0 P f ((a.toList ++ (args ++ b.toList)).map (mapV φ)).toArray w (CPost φ h w r h')
  | .func (.yield l) a b => a = #[] ∧ b = #[] ∧ ∃ lp fn tm, h.get l = some (.loop lp) ∧ args.length = lp.params.size ∧ w.heap[(φ.at_ l).block]? = some (loopObj φ fn tm lp) ∧
      RoundIn Fence.wide 0 P (φ.at_ l).block fn ((lp.params.toList.zip (args.map (mapV φ))).foldl (fun tmps (p : Tmp × Value) => tmps.setIfInBounds p.1 p.2) tm) lp.assign lp.body w (CPost φ h w r h')
  | _ => False
def SoundCF (P : Program) (cf : CallF) : Prop :=
  ∀ fv args h r h', cf fv args h = some (r, h') → ∀ φ w, HRel φ h w → okV φ h.next fv → (∀ a ∈ args, okV φ h.next a) → CallOk P fv args φ h w r h'
def NamesFine (P : Program) : Prop := ∀ (f : FuncId) (fn : Func), P.funcs[f]? = some fn → (fn.name == "runtime.NumGoroutine") = false
def markOf (φ : Emb) (d : Nat) : Deferred := { target := .collected (φ.at_ d).block, args := #[] }
structure StRel (φ : Emb) (s : St) (a : Act) (w : World) : Prop where
  tmps : SRel φ s.heap.next s.tmps a.tmps
  heap : HRel φ s.heap w
  marks : a.defers = s.marks.map (markOf φ)
  below : ∀ d ∈ s.marks, d < s.heap.next
theorem marks_agree {n : Nat} {φ' : Emb} (ha : Agree n φ φ') {l : List Nat} (hl : ∀ d ∈ l, d < n) : l.map (markOf φ') = l.map (markOf φ) :=
  List.map_congr_left fun d hd => by unfold markOf; rw [(ha d (hl d hd)).1]
theorem run_callFunc (hP : NamesFine P) {f : FuncId} {fn : Func} (hf : P.funcs[f]? = some fn) (hb : fn.body.isSome = true) (args : Array Value) : (callFunc f args).run P w = .ok (.enter f args) w := by
  unfold NamesFine at hP
  have hn := hP f fn hf
  have hn' : fn.name ≠ "runtime.NumGoroutine" := by simpa using hn
  have hb' : ¬ fn.body = none := by intro h; simp [h] at hb
  simp [callFunc, program, Sem.run, hf, hn', hb']
theorem run_value_func (hP : NamesFine P) {f : FuncId} {fn : Func} (hf : P.funcs[f]? = some fn) (hb : fn.body.isSome = true) (a b args : Array Value) :
    (do let d ← Deferred.ofValue (.func (.func f) a b) args; invoke d.target d.args : Sem Next).run P w = .ok (.enter f (a ++ args ++ b)) w := by
  simp [Deferred.ofValue, invoke, run_callFunc hP hf hb]
theorem run_value_yield {l : Nat} {r : Loop} (hl : w.heap[l]? = some (.loop r)) (args : Array Value) (hs : args.size = r.params.size) :
    (do let d ← Deferred.ofValue (.func (.yield l) #[] #[]) args; invoke d.target d.args : Sem Next).run P w =
      .ok (.round l r.fn ((r.params.zip args).foldl (fun tmps (t, a) => tmps.setIfInBounds t a) r.tmps) r.assign r.body) w := by
  simp [Deferred.ofValue, invoke, Instr.yield, Instr.getLoop, getObj, Sem.run, hl, hs]
theorem opc_sound' (hP : NamesFine P) {cf : CallF} (hcf : SoundCF P cf) {ts : Slots} {a : Act} {o : Oper} {v : Value} {h' : AHeap} {ro : Option Nat} (H : HRel φ h w) (hs : ∀ x ∈ o.op.operands.toList, fineOp x = true → OpRel φ h.next ts a.eval x)
    (hr : (copc P o).run cf h ts = some (v, h')) {K : Act → World → Prop} {Q : Exit → Act → World → Prop}
    (hK : ∀ φ' w', HRel φ' h' w' → Ext φ h w φ' h' w' → okV φ' h'.next v → K (a.put o.dst (mapV φ' v)) w') : o.wpIn (Wf ro) 0 P a w K Q := by
  refine ⟨fun _ _ => trivial, ?_⟩
  unfold copc at hr
  cases hfine : allB fineOp o.op.operands.toList with
  | false => simp [hfine] at hr
  | true =>
    simp only [hfine, Bool.not_true, cond_false] at hr
    rw [allB_iff] at hfine
    have hρ : ∀ x ∈ o.op.operands.toList, OpRel φ h.next ts a.eval x := fun x hx => hs x hx (hfine x hx)
    split at hr
    · rename_i f args argTypes hop
      simp only [seqEs_eq] at hr
      have hdef : ∀ c, o.op ≠ .defer c := fun c e => by rw [hop] at e; cases e
      rw [Oper.semAt_eq _ _ _ hdef]
      have hfv := hρ f (by rw [hop]; simp [Op.operands, Call.operands])
      have hargs : ∀ x ∈ args.toList, OpRel φ h.next ts a.eval x := fun x hx => hρ x (by rw [hop]; simp only [Op.operands, Call.operands]; simp; exact .inr (by simpa using hx))
      have hvals : (args.map a.eval) = (((cvals args.toList).get ts).map (mapV φ)).toArray := by
        rw [cvals_get]
        apply Array.ext'
        simp only [Array.toList_map, List.map_map]
        exact List.map_congr_left fun x hx => (hargs x hx).1
      have hok : ∀ x ∈ (cvals args.toList).get ts, okV φ h.next x := by
        rw [cvals_get]
        intro x hx
        obtain ⟨y, hy, rfl⟩ := List.mem_map.1 hx
        exact (hargs y hy).2
      have hc := hcf _ _ _ _ _ hr φ w H hfv.2 hok
      have hexec : execOp a.eval o = (do let d ← Deferred.ofValue (mapV φ ((cval f).get ts)) (((cvals args.toList).get ts).map (mapV φ)).toArray; invoke d.target d.args) := by
        unfold execOp
        rw [hop]
        simp only [resolve, hvals, hfv.1]
      rw [hexec]
      generalize (cval f).get ts = fv at hc
      generalize (cvals args.toList).get ts = as at hc
      unfold CallOk at hc
      split at hc
      · rename_i g x y
        obtain ⟨⟨fn, h1, h2⟩, hc⟩ := hc
        simp only [mapV_func, mapFn]
        rw [run_value_func hP h1 h2]
        refine ⟨wf_depth ro, callsIn_wf ?_⟩
        have hA : (x.map (mapV φ) ++ (as.map (mapV φ)).toArray ++ y.map (mapV φ)) = ((x.toList ++ (as ++ y.toList)).map (mapV φ)).toArray := by
          apply Array.ext'; simp
        rw [hA]
        refine CallsIn.mono hc fun e w' he => ?_
        obtain ⟨φ', rfl, k1, k2, k3⟩ := he
        exact hK φ' w' k1 k2 k3
      · rename_i l x y
        obtain ⟨rfl, rfl, lp, fn, tm, h1, h2, h3, hc⟩ := hc
        simp only [mapV_func, mapFn, Array.map_empty]
        unfold loopObj at h3
        rw [run_value_yield h3 _ (by simpa using h2)]
        refine ⟨wf_depth ro, roundIn_wf ?_⟩
        have hz : ((lp.params.zip (as.map (mapV φ)).toArray).foldl (fun tmps (x : Tmp × Value) => match x with | (t, a) => tmps.setIfInBounds t a) tm) = (lp.params.toList.zip (as.map (mapV φ))).foldl (fun tmps (p : Tmp × Value) => tmps.setIfInBounds p.1 p.2) tm := by
          rw [← Array.foldl_toList, Array.toList_zip]
        rw [hz]
        refine RoundIn.mono hc fun e w' he => ?_
        obtain ⟨φ', rfl, k1, k2, k3⟩ := he
        exact hK φ' w' k1 k2 k3
      · exact hc.elim
    · rename_i hnc
      have hdef : ∀ c, o.op ≠ .defer c := fun c e => by
        have h0 : (cop P o).run h ts = none := by unfold cop; rw [e]; rfl
        exact absurd (h0.symm.trans hr) (by simp)
      rw [Oper.semAt_eq _ _ _ hdef]
      obtain ⟨φ', w', nx, k1, k2, k3, k4, k5⟩ := cop_sound (P := P) H (ρ := a.eval) hρ hr
      rw [k1]
      rcases k2 with rfl | ⟨rfl, rfl⟩
      · exact hK φ' w' k3 k4 k5
      · have := hK φ' w' k3 k4 k5
        rw [mapV_undef] at this
        exact this
theorem opc_sound (hP : NamesFine P) {cf : CallF} (hcf : SoundCF P cf) {ts : Slots} {a : Act} {o : Oper} {v : Value} {h' : AHeap} {ro : Option Nat} (H : HRel φ h w) (hs : SRel φ h.next ts a.tmps)
    (hr : (copc P o).run cf h ts = some (v, h')) {K : Act → World → Prop} {Q : Exit → Act → World → Prop}
    (hK : ∀ φ' w', HRel φ' h' w' → Ext φ h w φ' h' w' → okV φ' h'.next v → K (a.put o.dst (mapV φ' v)) w') : o.wpIn (Wf ro) 0 P a w K Q :=
  opc_sound' hP hcf H (fun _ _ hf => opRel_of hs hf) hr hK
theorem putT_eq {α : Type} (ts : Slots) (dst : Option Tmp) (v : Value) (f : Slots → α) : putT ts dst v f = f (match dst with | some d => Slots.set (cway d).way ts v | none => ts) := by
  unfold putT
  cases dst with
  | none => rfl
  | some d => simp
theorem SRel.put {n : Nat} {ts : Slots} {a : Act} (hs : SRel φ n ts a.tmps) (dst : Option Tmp) {v : Value} (hv : okV φ n v) :
    SRel φ n (match dst with | some d => Slots.set (cway d).way ts v | none => ts) (a.put dst (mapV φ v)).tmps := by
  cases dst with
  | none => exact hs
  | some d => exact hs.set d hv
theorem wanted_sound' {ts : Slots} {tm : Array Value} (ops : Array Oper) (o : Oper) (hs : ∀ j want d, o.guard = some (j, want) → (ops[j]?).bind (·.dst) = some d → tm[d]? = (Slots.get? (cway d).way ts).map (mapV φ)) : Region.wanted o (yielded ops tm) = (cguard ops o).test ts := by
  unfold Region.wanted cguard
  cases hg0 : o.guard with
  | none => rfl
  | some p =>
    obtain ⟨j, want⟩ := p
    simp only [yielded]
    cases hd : (ops[j]?).bind (·.dst) with
    | none => simp
    | some d =>
      simp only [Option.bind_some, hs j want d hg0 hd, Slots.get_eq]
      cases hg : Slots.get? (cway d).way ts with
      | none => simp [isB, undef]
      | some v =>
        simp only [Option.map_some, Option.getD_some]
        cases v with
        | bool b => cases b <;> cases want <;> simp [isB]
        | pointer a => cases a <;> simp [isB]
        | slice a => cases a <;> simp [isB]
        | map a => cases a <;> simp [isB]
        | chan a => rw [mapV] <;> simp [isB]
        | float => rw [mapV] <;> simp [isB]
        | complex => rw [mapV] <;> simp [isB]
        | iface => rw [mapV] <;> simp [isB]
        | _ => simp [isB]
theorem wanted_sound {n : Nat} {ts : Slots} {tm : Array Value} (hs : SRel φ n ts tm) (ops : Array Oper) (o : Oper) : Region.wanted o (yielded ops tm) = (cguard ops o).test ts :=
  wanted_sound' (φ := φ) ops o fun _ _ d _ _ => (hs d).1
theorem cops_sound (hP : NamesFine P) {cf : CallF} (hcf : SoundCF P cf) {ops : Array Oper} {ro : Option Nat} {Q : Exit → Act → World → Prop} : ∀ (rest : List Oper) (k : Nat), (∀ j, rest[j]? = ops[k + j]?) →
    ∀ (s s' : St) (φ : Emb) (a : Act) (w : World), (cops P ops rest).run cf s = some s' → StRel φ s a w →
    (∀ φ' a' w', StRel φ' s' a' w' → Ext φ s.heap w φ' s'.heap w' → Q .normal a' w') → wpOpsIn (Wf ro) 0 P ops Q ((List.range rest.length).map (k + ·)) a w := by
  intro rest
  induction rest with
  | nil =>
    intro k _ s s' φ a w hr hs hQ
    simp only [cops, Option.some.injEq] at hr
    subst hr
    exact hQ φ a w hs (Ext.refl _ _ _)
  | cons o rest ih =>
    intro k hk s s' φ a w hr hs hQ
    have hko : ops[k]? = some o := by have := hk 0; simpa using this.symm
    have hk' : ∀ j, rest[j]? = ops[k + 1 + j]? := fun j => by have := hk (j + 1); simpa [Nat.add_assoc, Nat.add_comm 1 j] using this
    have hl : ((List.range (o :: rest).length).map (k + ·)) = k :: ((List.range rest.length).map (k + 1 + ·)) := by
      rw [List.length_cons, List.range_succ_eq_map]
      simp [List.map_map, Function.comp_def, Nat.add_assoc, Nat.add_comm 1]
    rw [hl]
    simp only [wpOpsIn, hko]
    simp only [cops, stepOp] at hr
    have hw := wanted_sound hs.tmps ops o
    cases ht : (cguard ops o).test s.tmps with
    | true =>
      rw [ht] at hw
      simp only [hw, if_true]
      simp only [ht, cond_true] at hr
      cases hc : (copc P o).run cf s.heap s.tmps with
      | none => simp [hc] at hr
      | some vh =>
        obtain ⟨v, h1⟩ := vh
        simp only [hc, putT_eq] at hr
        refine opc_sound hP hcf hs.heap hs.tmps hc fun φ1 w1 k1 k2 k3 => ?_
        refine ih (k + 1) hk' _ s' φ1 _ w1 hr ⟨?_, k1, ?_, ?_⟩ fun φ' a' w' q1 q2 => hQ φ' a' w' q1 (k2.trans q2)
        · exact SRel.put (hs.tmps.agree k2.agree k2.next) o.dst k3
        · show (a.put o.dst _).defers = _
          rw [marks_agree k2.agree hs.below, ← hs.marks]
          unfold Act.put
          cases o.dst <;> rfl
        · exact fun d hd => Nat.lt_of_lt_of_le (hs.below d hd) k2.next
    | false =>
      rw [ht] at hw
      simp only [hw, Bool.false_eq_true, if_false]
      simp only [ht, cond_false, putT_eq] at hr
      refine ⟨fun _ _ => trivial, ?_⟩
      refine ih (k + 1) hk' _ s' φ _ w hr ⟨?_, hs.heap, ?_, hs.below⟩ hQ
      · have := SRel.put hs.tmps o.dst (v := undef) okV_undef
        rw [mapV_undef] at this
        exact this
      · show (a.put o.dst _).defers = _
        rw [← hs.marks]
        unfold Act.put
        cases o.dst <;> rfl
end Go.Vm

namespace Go.Vm
variable {P : Program}
section scope
variable {b : Frame} {a : Act} {k : List Item} {cs : List Frame} {w : World} {F : Fence} {n : Nat} {Q : Exit → Act → World → Prop}
theorem stepR_scope' {c : Code} : step P (lone (b.atR a (.code (.scope c) :: k)) cs w) = .next (lone (b.atR a (.code c :: .inScope c :: k)) cs w) :=
  step_lone_go (by simp [stepG, stepG.exec, Frame.atR])
theorem stepR_inScope' {c : Code} : step P (lone (b.atR a (.inScope c :: k)) cs w) = .next (lone (b.atR a k) cs w) :=
  step_lone_go (by simp [stepG, stepG.exec, Frame.atR])
theorem wpIn_scope' {c : Code} (h : c.wpIn F n P (Exit.noGoto Q) a w) : (Code.scope c).wpIn F n P Q a w := by
  intro b k cs hro hb hr
  have h0 : (lone (b.atR a (.code (.scope c) :: k)) cs w).fenced P F := fenced_calm hb hr rfl
  obtain ⟨e, a₁, w₁, hq, harr⟩ := h b (.inScope c :: k) cs hro hb hr
  cases e with
  | normal => exact ⟨.normal, a₁, w₁, hq, .head h0 stepR_scope' (StepsIn.trans harr (.one (fenced_calm hb hr rfl) stepR_inScope'))⟩
  | exit id =>
    have hx : exitTo id (.inScope c :: k) = exitTo id k := by simp [exitTo]
    exact ⟨.exit id, a₁, w₁, hq, fun k' hk => .head h0 stepR_scope' (harr.1 k' (by rw [hx]; exact hk)),
      fun hr' hk => let ⟨k₁, h1, h2⟩ := harr.2 hr' (by rw [hx]; exact hk); ⟨k₁, h1, .head h0 stepR_scope' h2⟩⟩
  | goto l => exact hq.elim
  | ret => exact ⟨_, a₁, w₁, hq, .of_steps (.one h0 stepR_scope') harr⟩
  | panic ch => exact ⟨_, a₁, w₁, hq, .of_steps (.one h0 stepR_scope') harr⟩
  | outgrown => exact ⟨_, a₁, w₁, hq, .of_steps (.one h0 stepR_scope') harr⟩
end scope
def exitOf : Ex → Exit
  | .norm => .normal
  | .exit i => .exit i
  | .ret => .ret
def DrawSound (P : Program) (cf : CallF) : Prop :=
  ∀ (ops : Array Oper) (s s' : St) (φ : Emb) (a : Act) (w : World) (ro : Option Nat) (Q : Exit → Act → World → Prop), (cdraw P ops).run cf s = some s' → StRel φ s a w →
    (∀ φ' a' w', StRel φ' s' a' w' → Ext φ s.heap w φ' s'.heap w' → Q .normal a' w') → wpAnyIn (Wf ro) 0 P .any ops Q ops.size (Array.replicate ops.size false) a w
theorem StRel.congr {φ : Emb} {s : St} {a : Act} {w w' : World} (h : StRel φ s a w) (e : w'.heap = w.heap) : StRel φ s a w' := ⟨h.tmps, h.heap.congr e, h.marks, h.below⟩
def AroundOk (φ : Emb) (s : St) (ar ro : Option Nat) : Prop := (∀ l, ar = some l → ro = some (φ.at_ l).block ∧ l < s.heap.next) ∧ (ar = none → ro = none)
theorem AroundOk.ext {φ φ' : Emb} {s s' : St} {ar ro : Option Nat} {w w' : World} (h : AroundOk φ s ar ro) (e : Ext φ s.heap w φ' s'.heap w') : AroundOk φ' s' ar ro :=
  ⟨fun l hl => ⟨by rw [(e.agree l (h.1 l hl).2).1]; exact (h.1 l hl).1, Nat.lt_of_lt_of_le (h.1 l hl).2 e.next⟩, h.2⟩
def Post (φ : Emb) (s : St) (w : World) (s' : St) (e : Ex) (Q : Exit → Act → World → Prop) : Prop :=
  ∀ φ' a' w', StRel φ' s' a' w' → Ext φ s.heap w φ' s'.heap w' → Q (exitOf e) a' w'
theorem exitOf_then {K : Act → World → Prop} {Q : Exit → Act → World → Prop} {e : Ex} (he : e ≠ .norm) (a : Act) (w : World) : Exit.then K Q (exitOf e) a w = Q (exitOf e) a w := by
  cases e <;> first | exact absurd rfl he | rfl
theorem endRange_sound {φ : Emb} {h : AHeap} {w : World} {l : Nat} {s s' : St} {e : Ex} {a : Act} {Q : Exit → Act → World → Prop} {ro : Option Nat} (H : HRel φ h w) (hr : endRange l s h = some (e, s'))
    (ht : SRel φ h.next s.tmps a.tmps) (hm : a.defers = s.marks.map (markOf φ)) (hb : ∀ d ∈ s.marks, d < h.next)
    (hQ : ∀ φ' a' w', StRel φ' s' a' w' → Ext φ h w φ' s'.heap w' → Q (exitOf e) a' w') (v : Value) :
    rangePost (Wf ro) 0 P (φ.at_ l).block Q a (.returned v) w := by
  unfold endRange at hr
  obtain ⟨hf, hr⟩ : h.floor ≤ l ∧ _ := by
    cases hf : Nat.ble h.floor l with
    | false => simp [hf] at hr
    | true => rw [hf] at hr; exact ⟨ble_iff.1 hf, hr⟩
  simp only [Bool.not_true, cond_false] at hr
  split at hr
  · rename_i r hg
    obtain ⟨fn, tm, h1, h2, h3⟩ := H.live _ _ hg
    have main : r.state ≠ .busy → ∃ w4, (Instr.endLoop (φ.at_ l).block).run P w = .ok r.pending w4 ∧ HRel φ (h.with l (some (.loop { r with state := .exhausted }))) w4 ∧
        Ext φ h w φ (h.with l (some (.loop { r with state := .exhausted }))) w4 := by
      intro hbusy
      have hlt := (H.live _ _ hg).lt
      refine ⟨_, run_endLoop h1 hbusy, ?_⟩
      exact HRel.turn H hg rfl hf World.putObj_size (fun b hb => World.putObj_heap_other hb) ⟨fn, tm, World.putObj_heap_same hlt, h2, h3⟩
    have fin : ∀ w4, HRel φ (h.with l (some (.loop { r with state := .exhausted }))) w4 → StRel φ ⟨s.tmps, h.with l (some (.loop { r with state := .exhausted })), s.marks⟩ a w4 :=
      fun w4 k => ⟨ht, k, hm, hb⟩
    split at hr
    · simp at hr
    · rename_i hp hbusy
      rw [AHeap.put_eq] at hr
      simp only [Option.some.injEq, Prod.mk.injEq] at hr
      obtain ⟨rfl, rfl⟩ := hr
      obtain ⟨w4, k1, k2, k3⟩ := main (by intro e; exact hbusy e)
      rw [hp] at k1
      exact ⟨none, w4, k1, hQ φ a w4 (fin w4 k2) k3⟩
    · rename_i i hp hbusy
      rw [AHeap.put_eq] at hr
      simp only [Option.some.injEq, Prod.mk.injEq] at hr
      obtain ⟨rfl, rfl⟩ := hr
      obtain ⟨w4, k1, k2, k3⟩ := main (by intro e; exact hbusy e)
      rw [hp] at k1
      exact ⟨some (.exit i), w4, k1, wpIn_exit (hQ φ a w4 (fin w4 k2) k3)⟩
    · rename_i hp hbusy
      rw [AHeap.put_eq] at hr
      simp only [Option.some.injEq, Prod.mk.injEq] at hr
      obtain ⟨rfl, rfl⟩ := hr
      obtain ⟨w4, k1, k2, k3⟩ := main (by intro e; exact hbusy e)
      rw [hp] at k1
      exact ⟨some .ret, w4, k1, wpIn_ret (hQ φ a w4 (fin w4 k2) k3)⟩
    · simp at hr
  · simp at hr
theorem thenDo_some {r : Option (Ex × St)} {k : St → Option (Ex × St)} {e : Ex} {s' : St} (h : thenDo r k = some (e, s')) :
    (∃ s1, r = some (.norm, s1) ∧ k s1 = some (e, s')) ∨ (e ≠ .norm ∧ r = some (e, s')) := by
  unfold thenDo at h
  split at h
  · exact .inl ⟨_, rfl, h⟩
  · cases h; exact .inr ⟨by simp, rfl⟩
  · cases h; exact .inr ⟨by simp, rfl⟩
  · simp at h
theorem rangeIn_sound {cf : CallF} (hcf : SoundCF P cf) (hP : NamesFine P) {φ : Emb} {f : Value} {s s' : St} {r : ALoop} {h : AHeap} {w : World} {e : Ex} {a a0 : Act} {Q : Exit → Act → World → Prop} {ro : Option Nat} {fn : FuncId} {g : Operand}
    (hr : rangeIn cf f s r h = some (e, s')) (H : HRel φ h w) (hf : okV φ h.next f) (hg : a0.eval g = mapV φ f) (hrt : SRel φ h.next r.tmps a.tmps) (hrd : r.defers < h.next)
    (ht : SRel φ h.next s.tmps a.tmps) (hm : a.defers = s.marks.map (markOf φ)) (hb : ∀ d ∈ s.marks, d < h.next)
    (hQ : ∀ φ' a' w', StRel φ' s' a' w' → Ext φ h w φ' s'.heap w' → Q (exitOf e) a' w') :
    ∃ (d : Deferred) (w₁' : World) (f : FuncId) (args : Array Value) (w₂ : World),
      (resolve a0.eval (rangeCall g w.heap.size) 0).run P (w.alloc (loopObj φ fn a.tmps r)) = .ok d w₁' ∧
      (invoke d.target d.args).run P w₁' = .ok (.enter f args) w₂ ∧
      CallsIn (Wf ro) 0 P f args w₂ (rangePost (Wf ro) 0 P w.heap.size Q a) := by
  unfold rangeIn at hr
  split at hr
  · rename_i g' xs ys
    obtain ⟨hfar, hr⟩ := AHeap.push_eq hr
    split at hr
    · rename_i v h2 hc
      have hobj : ORel (φ.put h.next ⟨w.heap.size, 0, none⟩ 0) (h.next + 1) (w.alloc (loopObj φ fn a.tmps r)) h.next (.loop r) := by
        have hag := φ.put_agree h.next ⟨w.heap.size, 0, none⟩ 0
        refine ⟨fn, a.tmps, ?_, hrt.agree hag (Nat.le_succ _), by omega⟩
        rw [Emb.put_at]
        show (w.alloc (loopObj φ fn a.tmps r)).heap[w.heap.size]? = _
        rw [World.alloc_heap_new]
        unfold loopObj
        rw [(hag _ hrd).1]
      obtain ⟨H1, E1⟩ := HRel.push H hfar (.loop r) (loopObj φ fn a.tmps r) 0 hobj
      have hat : ((φ.put h.next ⟨w.heap.size, 0, none⟩ 0).at_ h.next).block = w.heap.size := by rw [Emb.put_at]
      generalize φ.put h.next ⟨w.heap.size, 0, none⟩ 0 = φ1 at H1 E1 hobj hat
      have hn1 : (h.more (some (.loop r))).next = h.next + 1 := rfl
      have hargs : ∀ x ∈ [Value.func (.yield h.next) #[] #[]], okV φ1 (h.more (some (.loop r))).next x := by
        intro x hx
        simp only [List.mem_singleton] at hx
        subst hx
        simp [okV, okFn, okA, okL, hn1]
      have hfv := mapV_agree E1.agree E1.next _ hf
      have hcall := hcf _ _ _ _ _ hc φ1 _ H1 hfv.2 hargs
      obtain ⟨⟨fn', k1, k2⟩, hcall⟩ := hcall
      have hres : (resolve a0.eval (rangeCall g w.heap.size) 0).run P (w.alloc (loopObj φ fn a.tmps r)) = (Deferred.ofValue (a0.eval g) #[Value.func (.yield w.heap.size) #[] #[]]).run P (w.alloc (loopObj φ fn a.tmps r)) := by
        simp [resolve, Act.eval]
      rw [hg] at hres
      simp only [mapV_func, mapFn] at hres
      refine ⟨⟨.fn (.func g') (ys.map (mapV φ)), xs.map (mapV φ) ++ #[Value.func (.yield w.heap.size) #[] #[]]⟩, w.alloc (loopObj φ fn a.tmps r), g', (xs.map (mapV φ) ++ #[Value.func (.yield w.heap.size) #[] #[]]) ++ ys.map (mapV φ), w.alloc (loopObj φ fn a.tmps r), hres.trans (by simp [Deferred.ofValue]), ?_, ?_⟩
      · exact run_callFunc hP k1 k2 _
      · simp only [mapV_func, mapFn] at hfv
        have hx : xs.map (mapV φ1) = xs.map (mapV φ) ∧ ys.map (mapV φ1) = ys.map (mapV φ) := by
          have := hfv.1
          injection this with _ h1 h2
          exact ⟨h1, h2⟩
        have hA : (List.map (mapV φ1) (xs.toList ++ ([Value.func (.yield h.next) #[] #[]] ++ ys.toList))).toArray = (xs.map (mapV φ) ++ #[Value.func (.yield w.heap.size) #[] #[]]) ++ ys.map (mapV φ) := by
          rw [← hx.1, ← hx.2]
          apply Array.ext'
          simp [mapV_func, mapFn, hat]
        rw [hA] at hcall
        refine CallsIn.mono (callsIn_wf hcall) fun en w' hen => ?_
        obtain ⟨φ', rfl, q1, q2, q3⟩ := hen
        have q0 := E1.trans q2
        have := endRange_sound (P := P) (ro := ro) (Q := Q) q1 hr (ht.agree q0.agree q0.next) (by rw [marks_agree q0.agree hb]; exact hm) (fun d hd => Nat.lt_of_lt_of_le (hb d hd) q0.next)
          (fun φ'' a' w'' p1 p2 => hQ φ'' a' w'' p1 (q0.trans p2)) (mapV φ' v)
        rw [(q2.agree h.next (by rw [hn1]; omega)).1, hat] at this
        exact this
    · simp at hr
  · simp at hr
theorem code_sound (hP : NamesFine P) (hm : P.follows .mixedOrders = true) {cf : CallF} (hcf : SoundCF P cf) (hd : DrawSound P cf) {fn m : Nat} {ar : Option Nat} : ∀ (c : Code) {s : St} {e : Ex} {s' : St} {φ : Emb} {a : Act} {w : World} {ro : Option Nat} {Q : Exit → Act → World → Prop},
    (ccode P c).run cf fn ar m s = some (e, s') → StRel φ s a w → AroundOk φ s ar ro → Post φ s w s' e Q → c.wpIn (Wf ro) 0 P Q a w := by
  intro c
  induction c with
  | skip =>
    intro s e s' φ a w ro Q hr hs ha hQ
    simp only [ccode, Option.some.injEq, Prod.mk.injEq] at hr
    obtain ⟨rfl, rfl⟩ := hr
    exact wpIn_skip (hQ φ a w hs (Ext.refl _ _ _))
  | label l =>
    intro s e s' φ a w ro Q hr hs ha hQ
    simp only [ccode, Option.some.injEq, Prod.mk.injEq] at hr
    obtain ⟨rfl, rfl⟩ := hr
    exact wpIn_label (hQ φ a w hs (Ext.refl _ _ _))
  | exit i =>
    intro s e s' φ a w ro Q hr hs ha hQ
    simp only [ccode, Option.some.injEq, Prod.mk.injEq] at hr
    obtain ⟨rfl, rfl⟩ := hr
    exact wpIn_exit (hQ φ a w hs (Ext.refl _ _ _))
  | ret =>
    intro s e s' φ a w ro Q hr hs ha hQ
    simp only [ccode, Option.some.injEq, Prod.mk.injEq] at hr
    obtain ⟨rfl, rfl⟩ := hr
    exact wpIn_ret (hQ φ a w hs (Ext.refl _ _ _))
  | goto l =>
    intro s e s' φ a w ro Q hr hs ha hQ
    simp [ccode] at hr
  | refuse l =>
    intro s e s' φ a w ro Q hr hs ha hQ
    simp [ccode] at hr
  | region id ops draw =>
    intro s e s' φ a w ro Q hr hs ha hQ
    cases draw with
    | false =>
      simp only [ccode, cond_false, normal] at hr
      split at hr
      · rename_i s1 hc
        simp only [Option.some.injEq, Prod.mk.injEq] at hr
        obtain ⟨rfl, rfl⟩ := hr
        refine wpIn_region ?_
        have := cops_sound (P := P) hP hcf (ops := ops) (ro := ro) (Q := Q) ops.toList 0 (by intro j; simp) s s1 φ a w hc hs (fun φ' a' w' h1 h2 => hQ φ' a' w' h1 h2)
        simpa using this
      · simp at hr
    | true =>
      simp only [ccode, cond_true, normal] at hr
      split at hr
      · rename_i s1 hc
        simp only [Option.some.injEq, Prod.mk.injEq] at hr
        obtain ⟨rfl, rfl⟩ := hr
        exact wpIn_region_any hm (hd ops s s1 φ a _ ro Q hc (hs.congr rfl) fun φ' a' w' h1 h2 => hQ φ' a' w' h1 (h2.congr rfl))
      · simp at hr
  | seq x y ihx ihy =>
    intro s e s' φ a w ro Q hr hs ha hQ
    simp only [ccode] at hr
    rcases thenDo_some hr with ⟨s1, h1, h2⟩ | ⟨he, h1⟩
    · exact wpIn_seq (ihx h1 hs ha fun φ1 a1 w1 q1 q2 => ihy h2 q1 (ha.ext q2) fun φ' a' w' p1 p2 => hQ φ' a' w' p1 (q2.trans p2))
    · exact wpIn_seq (ihx h1 hs ha fun φ1 a1 w1 q1 q2 => by rw [exitOf_then he]; exact hQ φ1 a1 w1 q1 q2)
  | cond o x y ihx ihy =>
    intro s e s' φ a w ro Q hr hs ha hQ
    cases hf : fineOp o with
    | false => simp [ccode, hf] at hr
    | true =>
      simp only [ccode, hf, Bool.not_true, cond_false] at hr
      have ho := (opRel_of hs.tmps hf).1
      unfold branch at hr
      split at hr
      · rename_i hv
        rw [hv] at ho
        simp only [mapV_bool] at ho
        exact wpIn_cond_true ho (ihx hr hs ha hQ)
      · rename_i hv
        rw [hv] at ho
        simp only [mapV_bool] at ho
        exact wpIn_cond_false ho (ihy hr hs ha hQ)
      · simp at hr
  | block id b ih =>
    intro s e s' φ a w ro Q hr hs ha hQ
    simp only [ccode, inBlock] at hr
    split at hr
    · rename_i s1 h1
      simp only [Option.some.injEq, Prod.mk.injEq] at hr
      obtain ⟨rfl, rfl⟩ := hr
      exact wpIn_block (ih h1 hs ha hQ)
    · rename_i i s1 h1
      cases hi : Nat.beq i id with
      | true =>
        simp only [hi, cond_true, Option.some.injEq, Prod.mk.injEq] at hr
        obtain ⟨rfl, rfl⟩ := hr
        refine wpIn_block (ih h1 hs ha fun φ1 a1 w1 q1 q2 => ?_)
        simp only [exitOf, Exit.inBlock, beq_iff.1 hi, if_true]
        exact hQ φ1 a1 w1 q1 q2
      | false =>
        simp only [hi, cond_false, Option.some.injEq, Prod.mk.injEq] at hr
        obtain ⟨rfl, rfl⟩ := hr
        refine wpIn_block (ih h1 hs ha fun φ1 a1 w1 q1 q2 => ?_)
        have hne : i ≠ id := fun e => by rw [beq_iff.2 e] at hi; cases hi
        simp only [exitOf, Exit.inBlock, hne, if_false]
        exact hQ φ1 a1 w1 q1 q2
    · rename_i s1 h1
      simp only [Option.some.injEq, Prod.mk.injEq] at hr
      obtain ⟨rfl, rfl⟩ := hr
      exact wpIn_block (ih h1 hs ha hQ)
    · simp at hr
  | scope b ih =>
    intro s e s' φ a w ro Q hr hs ha hQ
    simp only [ccode] at hr
    refine wpIn_scope' (ih hr hs ha fun φ1 a1 w1 q1 q2 => ?_)
    have := hQ φ1 a1 w1 q1 q2
    cases e <;> exact this
  | loop b ih =>
    intro s e s' φ a w ro Q hr hs ha hQ
    simp only [ccode] at hr
    refine wpIn_loop_rounds m ?_
    have key : ∀ k {s φ a w}, loopN (fun s => (ccode P b).run cf fn ar m s) k s = some (e, s') → StRel φ s a w → AroundOk φ s ar ro → Post φ s w s' e Q → Code.roundsIn (Wf ro) 0 P b Q k a w := by
      intro k
      induction k with
      | zero => intro s φ a w hr; simp [loopN] at hr
      | succ k ihk =>
        intro s φ a w hr hs ha hQ
        simp only [loopN] at hr
        rw [roundsIn_succ]
        rcases thenDo_some hr with ⟨s1, h1, h2⟩ | ⟨he, h1⟩
        · exact ih h1 hs ha fun φ1 a1 w1 q1 q2 => ihk h2 q1 (ha.ext q2) fun φ' a' w' p1 p2 => hQ φ' a' w' p1 (q2.trans p2)
        · exact ih h1 hs ha fun φ1 a1 w1 q1 q2 => by rw [exitOf_then he]; exact hQ φ1 a1 w1 q1 q2
    exact key m hr hs ha hQ
  | rangeFunc f params assign body ih1 ih2 =>
    intro s e s' φ a w ro Q hr hs ha hQ
    cases hf : fineOp f with
    | false => simp [ccode, hf] at hr
    | true =>
      simp only [ccode, hf, Bool.not_true, cond_false] at hr
      have ho := opRel_of hs.tmps hf
      refine wpIn_rangeFunc fun fn' _ => ?_
      unfold rangeA at hr
      cases ar with
      | some l =>
        obtain ⟨hro, hlt⟩ := ha.1 l rfl
        simp only at hr
        split at hr
        · rename_i r hg
          obtain ⟨fn2, tm, h1, h2, h3⟩ := hs.heap.live _ _ hg
          obtain ⟨d, w₁', g, args, w₂, k1, k2, k3⟩ := rangeIn_sound (P := P) (a := a) (a0 := a) (g := f) (fn := fn') (Q := Q) (ro := ro) hcf hP hr hs.heap ho.2 ho.1 hs.tmps h3 hs.tmps hs.marks hs.below hQ
          refine ⟨w.heap.size, [], w.alloc (loopObj φ fn' a.tmps _), d, w₁', g, args, w₂, ?_, k1, fun _ _ => trivial, k2, fun h => by simp [Wf, Fence.wide] at h, k3⟩
          show (Instr.enterLoop fn' a.tmps params assign body ro).run P w = _
          rw [hro]
          unfold Instr.enterLoop loopObj
          simp only [Sem.run_bind, run_getLoop h1, run_newObj_alloc, Result.andThen, Sem.run_pure]
        · simp at hr
      | none =>
        have hro := ha.2 rfl
        subst hro
        simp only at hr
        obtain ⟨hfar, hr⟩ := AHeap.push_eq hr
        have hobj : ORel (φ.put s.heap.next ⟨w.heap.size, 0, none⟩ 0) (s.heap.next + 1) (w.alloc (.deferred (some []))) s.heap.next .deferred := by
          show (w.alloc _).heap[_]? = _
          rw [Emb.put_at]
          exact World.alloc_heap_new _ _
        obtain ⟨H1, E1⟩ := HRel.push hs.heap hfar .deferred (.deferred (some [])) 0 hobj
        have hat : ((φ.put s.heap.next ⟨w.heap.size, 0, none⟩ 0).at_ s.heap.next).block = w.heap.size := by rw [Emb.put_at]
        have hn1 : (s.heap.more (some .deferred)).next = s.heap.next + 1 := rfl
        generalize φ.put s.heap.next ⟨w.heap.size, 0, none⟩ 0 = φ1 at H1 E1 hobj hat
        have ht1 := hs.tmps.agree E1.agree E1.next
        have ho1 := mapV_agree E1.agree E1.next _ ho.2
        obtain ⟨d, w₁', g, args, w₂, k1, k2, k3⟩ := rangeIn_sound (P := P) (a := { a with defers := [markOf φ1 s.heap.next] ++ a.defers }) (a0 := a) (g := f) (fn := fn') (Q := Q) (ro := none) hcf hP hr H1 ho1.2 (ho.1.trans ho1.1.symm) ht1 (by rw [hn1]; exact Nat.lt_succ_self _) ht1
          (by show [markOf φ1 s.heap.next] ++ a.defers = _; rw [List.map_cons, marks_agree E1.agree hs.below, hs.marks]; rfl)
          (by intro d hd; rcases List.mem_cons.1 hd with rfl | hd
              · rw [hn1]; exact Nat.lt_succ_self _
              · exact Nat.lt_of_lt_of_le (hs.below d hd) E1.next)
          (fun φ' a' w' p1 p2 => hQ φ' a' w' p1 (E1.trans p2))
        refine ⟨w.heap.size + 1, [markOf φ1 s.heap.next], (w.alloc (.deferred (some []))).alloc (loopObj φ1 fn' a.tmps { state := .ready, pending := none, fn, tmps := s.tmps, params, assign, body, defers := s.heap.next }), d, w₁', g, args, w₂, ?_, ?_, fun _ _ => trivial, k2, fun h => by simp [Wf, Fence.wide] at h, ?_⟩
        · show (Instr.enterLoop fn' a.tmps params assign body none).run P w = _
          rw [run_enterLoop_outer]
          unfold markOf loopObj
          rw [hat]
        · have : (w.alloc (.deferred (some []))).heap.size = w.heap.size + 1 := World.size_alloc ..
          rw [this] at k1
          exact k1
        · have : (w.alloc (.deferred (some []))).heap.size = w.heap.size + 1 := World.size_alloc ..
          rw [this] at k3
          exact k3
end Go.Vm

namespace Go.Vm
variable {P : Program} {φ : Emb} {h : AHeap} {w : World}
theorem oneRes_sound (H : HRel φ h w) {ts : Slots} {tm : Array Value} (hs : SRel φ h.next ts tm) {r : ResultVar} {v : Value} {m : List Nat} (hr : oneRes P r ⟨ts, h, m⟩ = some v) :
    (match r with | .tmp t => (Pure.pure (tm.getD t undef) : Sem Value) | .cell a t => do loadVar t (← asAddr (tm.getD a undef))).run P w = .ok (mapV φ v) w ∧ okV φ h.next v := by
  cases r with
  | tmp t =>
    simp only [oneRes, Option.some.injEq] at hr
    subst hr
    refine ⟨?_, (hs.get t).2⟩
    have := (hs.get t).1
    simp only [this]
    rfl
  | cell a t =>
    simp only [oneRes] at hr
    have hg := hs.get a
    obtain ⟨k1, k2⟩ := cload_sound (P := P) H hg.2 hr
    refine ⟨?_, k2⟩
    simp only
    rw [hg.1]
    generalize mapV φ (ts.get (cway a).way) = p at k1
    unfold Instr.loadAt at k1
    rw [Sem.run_bind] at k1 ⊢
    cases p with
    | pointer q =>
      cases q with
      | some q => simpa [asAddr, Instr.sureAddr] using k1
      | none => simp [Instr.sureAddr, Result.andThen] at k1
    | _ => simp [Instr.sureAddr, Result.andThen, stuck] at k1
def resF (tm : Array Value) : ResultVar → Sem Value := fun x => match x with | .tmp t => pure (tm.getD t undef) | .cell a t => do loadVar t (← asAddr (tm.getD a undef))
theorem resList_sound (H : HRel φ h w) {ts : Slots} {tm : Array Value} (hs : SRel φ h.next ts tm) {m : List Nat} : ∀ (rs : List ResultVar) (l : List Value), resList P rs ⟨ts, h, m⟩ = some l →
    (rs.mapM (resF tm)).run P w = .ok (l.map (mapV φ)) w ∧ (∀ x ∈ l, okV φ h.next x) ∧ l.length = rs.length := by
  intro rs
  induction rs with
  | nil =>
    intro l hr
    simp only [resList, Option.some.injEq] at hr
    subst hr
    exact ⟨rfl, by simp, rfl⟩
  | cons r rs ih =>
    intro l hr
    simp only [resList] at hr
    split at hr
    · rename_i v hv
      split at hr
      · rename_i l' hl
        simp only [Option.some.injEq] at hr
        subst hr
        obtain ⟨k1, k2⟩ := oneRes_sound (P := P) H hs hv
        obtain ⟨q1, q2, q3⟩ := ih l' hl
        refine ⟨?_, ?_, by simp [q3]⟩
        · rw [List.mapM_cons, Sem.run_bind]
          have : (resF tm r).run P w = .ok (mapV φ v) w := k1
          rw [this]
          simp only [Result.andThen, Sem.run_bind, q1]
          rfl
        · intro x hx
          rcases List.mem_cons.1 hx with rfl | hx
          · exact k2
          · exact q2 x hx
      · simp at hr
    · simp at hr
theorem cres_sound (H : HRel φ h w) {ts : Slots} {tm : Array Value} (hs : SRel φ h.next ts tm) {m : List Nat} {fn : Func} {v : Value} (hr : (cres P fn).run ⟨ts, h, m⟩ = some v) :
    (results fn tm).run P w = .ok (mapV φ v) w ∧ okV φ h.next v := by
  have hR : (results fn tm).run P w = ((fn.results.toList.mapM (resF tm)).run P w).andThen fun l w' => .ok (if h : l.toArray.size = 1 then l.toArray[0] else .tuple l.toArray) w' := by
    unfold results
    rw [Array.mapM_eq_mapM_toList]
    simp only [Sem.run_bind, Sem.run_map]
    have : ∀ (x : Result (List Value)), (Result.andThen (x.andThen fun a w' => Result.ok a.toArray w') fun a w' => (Pure.pure (if h : a.size = 1 then a[0] else Value.tuple a) : Sem Value).run P w') = x.andThen fun l w' => .ok (if h : l.toArray.size = 1 then l.toArray[0] else .tuple l.toArray) w' := by
      intro x; cases x <;> rfl
    exact this _
  rw [hR]
  unfold cres at hr
  split at hr
  · rename_i r hl
    rw [hl]
    simp only at hr
    obtain ⟨k1, k2⟩ := oneRes_sound (P := P) H hs hr
    have : (resF tm r).run P w = .ok (mapV φ v) w := k1
    refine ⟨?_, k2⟩
    simp only [List.mapM_cons, List.mapM_nil, Sem.run_bind, this, Result.andThen, Sem.run_pure]
    rfl
  · rename_i hne
    simp only at hr
    split at hr
    · rename_i l hl
      simp only [Option.some.injEq] at hr
      subst hr
      obtain ⟨q1, q2, q3⟩ := resList_sound (P := P) H hs _ _ hl
      rw [q1]
      refine ⟨?_, ?_⟩
      · have : ¬ (l.map (mapV φ)).toArray.size = 1 := by
          intro e
          simp only [List.size_toArray, List.length_map] at e
          rw [q3] at e
          obtain ⟨r, hr⟩ := List.length_eq_one_iff.1 e
          exact hne r hr
        simp only [Result.andThen, this, dite_false]
        rw [mapV_tuple]
        simp
      · simp only [okV, okA]
        exact okL_iff.2 q2
    · simp at hr
theorem dropMarks_sound {β : Type} {F : Fence} {n : Nat} {fn : Func} {tmps : Array Value} {R : Ending → World → Prop} {f : AHeap → Option β} {r : β} : ∀ (l : List Nat) {h : AHeap} {w : World}, HRel φ h w → dropMarks l h f = some r →
    (∀ h' w', HRel φ h' w' → Ext φ h w φ h' w' → f h' = some r → LeavesInM F n P fn tmps R [] .returning w') → LeavesInM F n P fn tmps R (l.map (markOf φ)) .returning w := by
  intro l
  induction l with
  | nil =>
    intro h w H hr hK
    exact hK h w H (Ext.refl _ _ _) hr
  | cons d l ih =>
    intro h w H hr hK
    simp only [dropMarks] at hr
    split at hr
    · rename_i hg
      obtain ⟨hf, hr⟩ := cond_some hr
      rw [AHeap.put_eq] at hr
      have h1 : w.heap[(φ.at_ d).block]? = some (.deferred (some [])) := H.live _ _ hg
      have hlt := (H.live _ _ hg).lt
      obtain ⟨H1, E1⟩ := HRel.drop (w' := w.putObj (φ.at_ d).block (.deferred none)) H hg rfl (ble_iff.1 hf) World.putObj_size (fun b hb => World.putObj_heap_other hb)
      rw [List.map_cons]
      refine ⟨by simp, .inl ⟨(φ.at_ d).block, _, rfl, run_takeDeferred h1, ?_⟩⟩
      exact ih H1 hr fun h' w' p1 p2 p3 => hK h' w' p1 (E1.trans p2) p3
    · simp at hr
theorem len_le {l : List Value} {n : Nat} (h : Nat.ble (len l) n = true) : l.length ≤ n := by rw [len_eq] at h; exact ble_iff.1 h
theorem func_sound (hP : NamesFine P) (hm : P.follows .mixedOrders = true) {cf : CallF} (hcf : SoundCF P cf) (hd : DrawSound P cf) {f : FuncId} {m : Nat} {xs : List Value} {v : Value} {h' : AHeap}
    (hr : (cfunc P f).run cf m xs h = some (v, h')) (H : HRel φ h w) (hx : ∀ x ∈ xs, okV φ h.next x) :
    (∃ fn, P.funcs[f]? = some fn ∧ fn.body.isSome = true) ∧ CallsIn Fence.wide 0 P f (xs.map (mapV φ)).toArray w (CPost φ h w v h') := by
  unfold cfunc at hr
  cases hfn : P.funcs[f]? with
  | none => simp [hfn] at hr
  | some fn =>
    simp only [hfn] at hr
    cases hb : fn.body with
    | none => simp [hb] at hr
    | some c =>
      simp only [hb] at hr
      refine ⟨⟨fn, rfl, by rw [hb]; rfl⟩, ?_⟩
      cases hl : Nat.ble (len xs) fn.ntmps with
      | false => simp [hl] at hr
      | true =>
        simp only [hl, Bool.not_true, cond_false, fillK_eq] at hr
        refine callsIn_of_wp_marks hfn hb trivial ?_
        have hs := SRel.enter (φ := φ) hx (len_le hl)
        generalize (xs.foldl (fun (p : Nat × Slots) x => (p.1 + 1, Slots.set (cway p.1).way p.2 x)) (0, (cskel fn.ntmps).slots)).2 = ts at hr hs
        unfold funcEnd at hr
        have main : ∀ e s, (e = .norm ∨ e = .ret) → (ccode P c).run cf f none m ⟨ts, h, []⟩ = some (e, s) →
            (dropMarks s.marks s.heap fun h => match (cres P fn).run ⟨s.tmps, h, []⟩ with | some v => seqV v fun v => some (v, h) | none => none) = some (v, h') →
            c.wpIn Fence.wide 0 P (bodyPostM Fence.wide 0 P fn (CPost φ h w v h')) { tmps := (xs.map (mapV φ)).toArray ++ Array.replicate (fn.ntmps - (xs.map (mapV φ)).toArray.size) undef, defers := [] } w := by
          intro e s he hc hr
          refine code_sound (ro := none) hP hm hcf hd c hc (φ := φ) ⟨hs, H, rfl, by simp⟩ ⟨by simp, fun _ => rfl⟩ fun φ' a' w' q1 q2 => ?_
          have : LeavesInM Fence.wide 0 P fn a'.tmps (CPost φ h w v h') a'.defers .returning w' := by
            rw [q1.marks]
            refine dropMarks_sound (P := P) s.marks q1.heap hr fun h2 w2 p1 p2 p3 => ?_
            split at p3
            · rename_i u hu
              simp only [seqV_eq, Option.some.injEq, Prod.mk.injEq] at p3
              obtain ⟨rfl, rfl⟩ := p3
              obtain ⟨k1, k2⟩ := cres_sound (P := P) p1 (q1.tmps.agree p2.agree p2.next) hu
              exact ⟨_, k1, φ', rfl, p1, q2.trans p2, k2⟩
            · simp at p3
          rcases he with rfl | rfl <;> exact this
        split at hr
        · simp at hr
        · rename_i x e s hne hc
          refine main e s ?_ hc hr
          cases e with
          | norm => exact .inl rfl
          | ret => exact .inr rfl
          | exit i => exact (hne i rfl).elim
        · simp at hr
theorem roundPost_of {P : Program} {l : Nat} {R : Ending → World → Prop} {e : Ex} {a : Act} {w : World} (h : ∃ v w', (Instr.endRound l (jumpOf e)).run P w = .ok v w' ∧ R (.returned v) w') : roundPost P l R (exitOf e) a w := by
  cases e <;> exact h
theorem roundEnd_sound {φ : Emb} {s : St} {w : World} {l : Nat} {e : Ex} {v : Value} {h' : AHeap} (H : HRel φ s.heap w) (hr : roundEnd l (some (e, s)) = some (v, h')) :
    ∃ w', (Instr.endRound (φ.at_ l).block (jumpOf e)).run P w = .ok v w' ∧ HRel φ h' w' ∧ Ext φ s.heap w φ h' w' ∧ ∃ b, v = .bool b := by
  unfold roundEnd at hr
  simp only at hr
  split at hr
  · rename_i r hg
    obtain ⟨fn, tm, h1, h2, h3⟩ := H.live _ _ hg
    have hlt := (H.live _ _ hg).lt
    cases hf : Nat.ble s.heap.floor l with
    | false => simp [hf] at hr
    | true =>
      simp only [hf, Bool.not_true, cond_false, AHeap.put_eq, Option.some.injEq, Prod.mk.injEq] at hr
      obtain ⟨rfl, rfl⟩ := hr
      obtain ⟨k1, k2⟩ := HRel.turn (w' := w.putObj (φ.at_ l).block (.loop { (⟨r.state, r.pending, fn, tm, r.params, r.assign, r.body, (φ.at_ r.defers).block⟩ : Loop) with state := if (jumpOf e).isNone then .ready else .done, pending := jumpOf e }))
        (o' := .loop { r with state := if (jumpOf e).isNone then .ready else .done, pending := jumpOf e }) H hg rfl (ble_iff.1 hf) World.putObj_size (fun b hb => World.putObj_heap_other hb) ⟨fn, tm, World.putObj_heap_same hlt, h2, h3⟩
      exact ⟨_, run_endRound _ h1, k1, k2, _, rfl⟩
  · simp at hr
theorem round_sound (hP : NamesFine P) (hm : P.follows .mixedOrders = true) {cf : CallF} (hcf : SoundCF P cf) (hd : DrawSound P cf) {l m : Nat} {args : List Value} {v : Value} {h' : AHeap}
    (hr : roundA P cf m l args h = some (v, h')) (H : HRel φ h w) (hx : ∀ x ∈ args, okV φ h.next x) : CallOk P (.func (.yield l) #[] #[]) args φ h w v h' := by
  unfold roundA at hr
  split at hr
  · rename_i r hg
    obtain ⟨hc, hr⟩ := cond_some hr
    simp only [Bool.and_eq_true] at hc
    obtain ⟨fn, tm, h1, h2, h3⟩ := H.live _ _ hg
    refine ⟨rfl, rfl, r, fn, tm, hg, beq_iff.1 hc.1, h1, ?_⟩
    rw [setAllK_eq] at hr
    have hs := SRel.setAll r.params.toList args hx _ _ h2
    generalize ((r.params.toList.zip args).foldl (fun s (p : Tmp × Value) => Slots.set (cway p.1).way s p.2) r.tmps) = ts at hr hs
    refine roundIn_of_wpIn trivial ?_
    have hlt := AHeap.lt_of_get hg
    generalize (r.params.toList.zip (args.map (mapV φ))).foldl (fun tmps (p : Tmp × Value) => tmps.setIfInBounds p.1 p.2) tm = tm1 at hs
    have har : AroundOk φ ⟨ts, h, []⟩ (some l) (some (φ.at_ l).block) := ⟨fun l' e => by cases e; exact ⟨rfl, hlt⟩, fun e => by cases e⟩
    cases ha : (ccode P r.assign).run cf r.fn (some l) m ⟨ts, h, []⟩ with
    | none => simp [ha, roundBegin, roundEnd] at hr
    | some es =>
      obtain ⟨e, s1⟩ := es
      cases e with
      | exit i => simp [ha, roundBegin, roundEnd] at hr
      | ret => simp [ha, roundBegin, roundEnd] at hr
      | norm =>
        refine code_sound (ro := some (φ.at_ l).block) hP hm hcf hd r.assign ha (φ := φ) (a := { tmps := tm1, defers := [] }) ⟨hs, H, rfl, by simp⟩ har fun φ1 a1 w1 q1 q2 => ?_
        simp only [ha, roundBegin] at hr
        split at hr
        · rename_i r1 hg1
          split at hr
          · rename_i hst
            rw [AHeap.put_eq] at hr
            obtain ⟨fn1, tm1', g1, g2, g3⟩ := q1.heap.live _ _ hg1
            have hlt1 := (q1.heap.live _ _ hg1).lt
            have hfl : s1.heap.floor ≤ l := by rw [q2.floor]; exact ble_iff.1 hc.2
            obtain ⟨k1, k2⟩ := HRel.turn (w' := w1.putObj (φ1.at_ l).block (.loop { (⟨r1.state, r1.pending, fn1, tm1', r1.params, r1.assign, r1.body, (φ1.at_ r1.defers).block⟩ : Loop) with state := .busy }))
              (o' := .loop { r1 with state := .busy }) q1.heap hg1 rfl hfl World.putObj_size (fun b hb => World.putObj_heap_other hb) ⟨fn1, tm1', World.putObj_heap_same hlt1, g2, g3⟩
            have hb : (φ1.at_ l).block = (φ.at_ l).block := by rw [(q2.agree l hlt).1]
            have hbr := run_beginRound (P := P) g1 hst
            rw [hb] at hbr
            rw [hb] at k1 k2
            refine ⟨_, hbr, ?_⟩
            cases hbd : (ccode P r.body).run cf r.fn (some l) m ⟨s1.tmps, s1.heap.with l (some (.loop { r1 with state := .busy })), s1.marks⟩ with
            | none => simp [hbd, roundEnd] at hr
            | some es2 =>
              obtain ⟨e2, s2⟩ := es2
              rw [hbd] at hr
              refine code_sound (ro := some (φ.at_ l).block) hP hm hcf hd r.body hbd (φ := φ1) (a := a1) ⟨q1.tmps, k1, q1.marks, q1.below⟩ ((har.ext q2).ext (s' := ⟨s1.tmps, s1.heap.with l (some (.loop { r1 with state := .busy })), s1.marks⟩) k2) fun φ2 a2 w2 p1 p2 => ?_
              obtain ⟨w3, z1, z2, z3, b, rfl⟩ := roundEnd_sound (P := P) p1.heap hr
              have hq := (q2.trans k2).trans p2
              rw [(hq.agree l hlt).1] at z1
              exact roundPost_of ⟨_, w3, z1, φ2, by rw [mapV_bool], z2, hq.trans z3, by simp [okV]⟩
          · simp [roundEnd] at hr
        · simp [roundEnd] at hr
  · simp at hr
theorem CallOk.plain {fv : Value} {f : FuncId} {a b : Array Value} (hf : fv = .func (.func f) a b) {args : List Value} {h g h1 : AHeap} {v : Value} {φ : Emb} {w : World} (hv : plainV v = true)
    (H : HRel φ h w) (hg : ∀ i, g.get i = h.get i) (hfl : h.next ≤ g.floor) (hc : CallOk P fv args φ g w v h1) : CallOk P fv args φ h w v h := by
  subst hf
  obtain ⟨q1, q2⟩ := hc
  refine ⟨q1, CallsIn.mono q2 fun e w' he => ?_⟩
  obtain ⟨φ', rfl, _, X, _⟩ := he
  have hno : ∀ b, ¬ Wr φ g b := by
    rintro b ⟨i, o, hi, hfl', _⟩
    rw [hg] at hi
    have h2 : i < h.next := AHeap.lt_of_get hi
    omega
  have hfr : ∀ b, b < w.heap.size → w'.heap[b]? = w.heap[b]? := fun b hb => X.frame b hb (hno b)
  refine ⟨φ, by rw [plainV_map hv, plainV_map hv], ⟨fun i o hi => (H.live i o hi).same (hfr _ (H.live i o hi).lt), H.apart, H.bound, H.fresh⟩, ⟨Agree.refl _ _, Nat.le_refl _, X.size, fun b hb _ => hfr b hb, fun b hb => .inr hb, rfl, X.same, fun j o hj => .inr ⟨j, o, hj, rfl⟩⟩, plainV_ok hv⟩
theorem callQ_sound {A : List Nat} {f : Nat} {a b : Array Value} {args : List Value} {run : AHeap → Option (Value × AHeap)} {h : AHeap} {w : World} {φ : Emb}
    (hs : ∀ g r h', run g = some (r, h') → HRel φ g w → g.next = h.next → CallOk P (.func (.func f) a b) args φ g w r h') {r : Value} {h' : AHeap} (hr : callQ A f run h = some (r, h')) (H : HRel φ h w) :
    CallOk P (.func (.func f) a b) args φ h w r h' := by
  unfold callQ at hr
  cases hq : inL A f with
  | false => simp only [hq, cond_false] at hr; exact hs h r h' hr H rfl
  | true =>
    simp only [hq, cond_true] at hr
    obtain ⟨t, nx, lw, fl⟩ := h
    simp only at hr
    split at hr
    · rename_i v h1 hrun
      obtain ⟨hv, hr⟩ := cond_some hr
      cases hr
      have H' : HRel φ ⟨t, nx, lw, nx⟩ w := ⟨H.live, H.apart, H.bound, H.fresh⟩
      exact CallOk.plain (g := ⟨t, nx, lw, nx⟩) rfl hv H (fun _ => rfl) (Nat.le_refl _) (hs _ _ _ hrun H' rfl)
    · cases hr
end Go.Vm

namespace Go.Vm
variable {P : Program} {φ : Emb} {h : AHeap} {w : World}
theorem eqOA_eq {a b : Option Addr} (h : eqOA a b = true) : a = b := by
  unfold eqOA at h
  split at h
  · rfl
  · rename_i a b
    simp only [Bool.and_eq_true] at h
    obtain ⟨⟨h1, h2⟩, h3⟩ := h
    obtain ⟨x, y, z⟩ := a
    obtain ⟨x', y', z'⟩ := b
    have e1 := beq_iff.1 h1
    have e2 := beq_iff.1 h2
    simp only at e1 e2 h3
    subst e1 e2
    cases z <;> cases z' <;> simp_all
  · simp at h
theorem eqP_eq {a b : Value} (h : eqP a b = true) : a = b := by
  unfold eqP at h
  split at h
  · rw [eqOA_eq h]
  · simp at h
theorem eqPs_eq : ∀ {l r : List Value}, eqPs l r = true → l = r := by
  intro l
  induction l with
  | nil => intro r h; cases r with | nil => rfl | cons _ _ => simp [eqPs] at h
  | cons x l ih =>
    intro r h
    cases r with
    | nil => simp [eqPs] at h
    | cons y r =>
      have h' : (bif eqP x y then eqPs l r else false) = true := h
      cases hx : eqP x y with
      | false => simp [hx] at h'
      | true => simp only [hx, cond_true] at h'; rw [eqP_eq hx, ih h']
theorem eqCell_eq {a b : Value} (h : eqCell a b = true) : a = b := by
  unfold eqCell at h
  split at h
  · rfl
  · rfl
  · simp only [Bool.and_eq_true] at h; rw [sameK_eq h.1, of_decide_eq_true ((eqI_eq _ _).symm.trans h.2)]
  · rw [eqOA_eq h]
  · simp only [Bool.and_eq_true] at h; rw [eqOA_eq h.1.1, beq_iff.1 h.1.2, beq_iff.1 h.2]
  · rfl
  · rw [beq_iff.1 h]
  · rw [beq_iff.1 h]
  · simp only [Bool.and_eq_true] at h; rw [beq_iff.1 h.1.1, eqPs_eq h.1.2, eqPs_eq h.2]
  · rw [beq_iff.1 h]
  · simp at h
theorem eqCells_eq : ∀ {l r : List Value}, eqCells l r = true → l = r := by
  intro l
  induction l with
  | nil => intro r h; cases r with | nil => rfl | cons _ _ => simp [eqCells] at h
  | cons x l ih =>
    intro r h
    cases r with
    | nil => simp [eqCells] at h
    | cons y r =>
      have h' : (bif eqCell x y then eqCells l r else false) = true := h
      cases hx : eqCell x y with
      | false => simp [hx] at h'
      | true => simp only [hx, cond_true] at h'; rw [eqCell_eq hx, ih h']
theorem eqV_eq {a b : Value} (h : eqV a b = true) : a = b := by
  unfold eqV at h
  split at h
  · rw [eqCells_eq h]
  · rw [eqCells_eq h]
  · exact eqCell_eq h
variable {pl : Plan}
noncomputable def lexN (pl : Plan) (ops : Array Oper) (i : Nat) : Nat := ((List.range i).filter (vAt pl ops)).length
theorem lexN_zero (ops : Array Oper) : lexN pl ops 0 = 0 := rfl
theorem lexN_succ (ops : Array Oper) (i : Nat) : lexN pl ops (i + 1) = lexN pl ops i + (if vAt pl ops i = true then 1 else 0) := by
  unfold lexN
  rw [List.range_succ, List.filter_append, List.length_append]
  cases h : vAt pl ops i <;> simp [h]
theorem lexN_mono (ops : Array Oper) {i j : Nat} (h : i ≤ j) : lexN pl ops i ≤ lexN pl ops j := by
  induction h with
  | refl => exact Nat.le_refl _
  | step _ ih => rw [lexN_succ]; omega
theorem lexN_lt (ops : Array Oper) {i j : Nat} (hc : vAt pl ops i = true) (h : i < j) : lexN pl ops i < lexN pl ops j := by
  have h1 := lexN_mono (pl := pl) ops (show i + 1 ≤ j from h)
  rw [lexN_succ, hc] at h1
  simp at h1
  omega
theorem lexN_inv (ops : Array Oper) : ∀ (i m : Nat), m < lexN pl ops i → ∃ j, j < i ∧ vAt pl ops j = true ∧ lexN pl ops j = m := by
  intro i
  induction i with
  | zero => intro m h; simp [lexN_zero] at h
  | succ i ih =>
    intro m h
    rw [lexN_succ] at h
    by_cases hm : m < lexN pl ops i
    · obtain ⟨j, h1, h2⟩ := ih m hm
      exact ⟨j, by omega, h2⟩
    · cases hc : vAt pl ops i with
      | false => simp [hc] at h; omega
      | true => simp [hc] at h; exact ⟨i, by omega, hc, by omega⟩
theorem chain_get (ops : Array Oper) : ∀ (n k c : Nat), ((List.range n).filter (vAt pl ops))[k]? = some c → c < n ∧ vAt pl ops c = true ∧ lexN pl ops c = k := by
  intro n
  induction n with
  | zero => intro k c h; simp at h
  | succ n ih =>
    intro k c h
    rw [List.range_succ, List.filter_append, List.getElem?_append] at h
    split at h
    · obtain ⟨h1, h2⟩ := ih k c h
      exact ⟨by omega, h2⟩
    · rename_i hk
      cases hc : vAt pl ops n with
      | false => simp [hc] at h
      | true =>
        simp only [hc, List.filter_cons_of_pos, List.filter_nil, List.getElem?_singleton] at h
        split at h
        · rename_i h0
          simp only [Option.some.injEq] at h
          subst h
          refine ⟨by omega, hc, ?_⟩
          unfold lexN
          omega
        · simp at h
theorem chain_take (ops : Array Oper) {n m c : Nat} (h : c ∈ ((List.range n).filter (vAt pl ops)).take m) : c < n ∧ vAt pl ops c = true ∧ lexN pl ops c < m := by
  obtain ⟨k, hk⟩ := List.mem_iff_getElem?.1 h
  rw [List.getElem?_take] at hk
  split at hk
  · obtain ⟨h1, h2, h3⟩ := chain_get ops n k c hk
    exact ⟨h1, h2, by omega⟩
  · simp at hk
theorem chain_drop (ops : Array Oper) {n m c : Nat} (h : c ∈ ((List.range n).filter (vAt pl ops)).drop m) : c < n ∧ vAt pl ops c = true ∧ m ≤ lexN pl ops c := by
  obtain ⟨k, hk⟩ := List.mem_iff_getElem?.1 h
  rw [List.getElem?_drop] at hk
  obtain ⟨h1, h2, h3⟩ := chain_get ops n _ c hk
  exact ⟨h1, h2, by omega⟩
theorem hasBit_maskOf {acc : List Nat} {j : Nat} : ∀ {l : List Nat}, hasBit (maskOf acc l) j = true → ∃ e ∈ l, j = e ∨ hasBit (acc.getD e 0) j = true := by
  intro l
  induction l with
  | nil => intro h; simp [maskOf, hasBit] at h
  | cons e l ih =>
    intro h
    simp only [maskOf, hasBit, Nat.testBit_or, Bool.or_eq_true] at h
    rcases h with (h | h) | h
    · rw [Nat.testBit_two_pow] at h
      exact ⟨e, by simp, .inl (of_decide_eq_true h).symm⟩
    · exact ⟨e, by simp, .inr h⟩
    · obtain ⟨e', h1, h2⟩ := ih h
      exact ⟨e', by simp [h1], h2⟩
def dirsAt (ops : List Oper) (i : Nat) : List Nat := match ops[i]? with | some o => directs o | none => []
theorem masksOf_spec (D : Nat → Prop) (all : List Oper) (hcl : ∀ i, D i → ∀ e ∈ dirsAt all i, D e) : ∀ (rest : List Oper) (acc : List Nat), (∀ j, rest[j]? = all[acc.length + j]?) →
    (∀ i, i < acc.length → ∀ j, hasBit (acc.getD i 0) j = true → (∀ e ∈ dirsAt all i, D e) → D j) →
    ∀ i, ∀ j, hasBit ((masksOf rest acc).getD i 0) j = true → (∀ e ∈ dirsAt all i, D e) → D j := by
  intro rest
  induction rest with
  | nil =>
    intro acc _ h i j hb hd
    by_cases hi : i < acc.length
    · exact h i hi j hb hd
    · simp only [masksOf] at hb
      rw [List.getD_eq_getElem?_getD, List.getElem?_eq_none (by omega)] at hb
      simp [hasBit] at hb
  | cons o rest ih =>
    intro acc ho h i j hb hd
    simp only [masksOf] at hb
    refine ih (acc ++ [maskOf acc (directs o)]) (fun j => ?_) (fun i hi j hb hd => ?_) i j hb hd
    · have := ho (j + 1)
      simp only [List.getElem?_cons_succ] at this
      rw [this]
      congr 1
      simp
      omega
    · rw [List.getD_eq_getElem?_getD] at hb
      by_cases hl : i < acc.length
      · rw [List.getElem?_append_left hl, ← List.getD_eq_getElem?_getD] at hb
        exact h i hl j hb hd
      · have hie : i = acc.length := by simp at hi; omega
        subst hie
        simp only [List.getElem?_append_right (Nat.le_refl _), Nat.sub_self, List.getElem?_cons_zero, Option.getD_some] at hb
        have ho0 := ho 0
        simp only [List.getElem?_cons_zero, Nat.add_zero] at ho0
        have hdo : dirsAt all acc.length = directs o := by unfold dirsAt; rw [← ho0]
        obtain ⟨e, he, hje⟩ := hasBit_maskOf hb
        have hDe : D e := hd e (by rw [hdo]; exact he)
        rcases hje with rfl | hje
        · exact hDe
        · by_cases hel : e < acc.length
          · exact h e hel j hje (hcl e hDe)
          · rw [List.getD_eq_getElem?_getD, List.getElem?_eq_none (by omega)] at hje
            simp [hasBit] at hje
noncomputable def putS (ts : Slots) (dst : Option Tmp) (v : Value) : Slots := match dst with | some d => Slots.set (cway d).way ts v | none => ts
theorem putT_putS {α : Type} (ts : Slots) (dst : Option Tmp) (v : Value) (f : Slots → α) : putT ts dst v f = f (putS ts dst v) := putT_eq ts dst v f
def tsAt (R : List OpRes) (tsE : Slots) (i : Nat) : Option Slots := (R.map (·.ts) ++ [tsE])[i]?
structure OpFact (P : Program) (cf : CallF) (pl : Plan) (ops : Array Oper) (R : List OpRes) (H : List AHeap) (A : Nat → AHeap) (tsE : Slots) (i : Nat) (o : Oper) (r : OpRes) : Prop where
  res : R[i]? = some r
  guard : (cguard ops o).test r.ts = r.v.isSome
  next : tsAt R tsE (i + 1) = some (putS r.ts o.dst (r.v.getD undef))
  chain : isV pl i o = true → H[lexN pl ops i + 1]? = some (A (i + 1))
  run : (isV pl i o = true ∨ inL pl.loose i = true) → (∀ v, r.v = some v → (copc P o).run cf (A i) r.ts = some (v, A (i + 1))) ∧ (r.v = none → A (i + 1) = A i)
  grow : isV pl i o = true → (A i).next ≤ (A (i + 1)).next
  read : isV pl i o = false → inL pl.loose i = false → (∃ h1, H[lexN pl ops i]? = some h1 ∧ ∀ v, r.v = some v → readAt (copc P o) cf h1 r.ts = some v) ∧ A (i + 1) = A i
theorem vAt_of {ops : Array Oper} {i : Nat} {o : Oper} (h : ops[i]? = some o) : vAt pl ops i = isV pl i o := by unfold vAt; rw [h]
theorem chAt_of {ops : Array Oper} {i : Nat} {o : Oper} (h : ops[i]? = some o) : chAt pl ops i = isCh pl i o := by unfold chAt; rw [h]
theorem pass_spec {cf : CallF} {ops : Array Oper} {tsE : Slots} {hE : AHeap} {hsF : List AHeap} {rsF : List OpRes} : ∀ (rest : List Oper) (k : Nat) (ts : Slots) (g h : AHeap) (hs : List AHeap) (rs : List OpRes),
    (∀ j, rest[j]? = ops[k + j]?) → rs.length = k → hs.length = lexN pl ops k → (cpass P pl ops rest k).run cf ts g h (g :: hs) rs = some (tsE, hE, hsF, rsF) →
    (∃ l, rsF.reverse = rs.reverse ++ l) ∧ (∃ l, hsF.reverse = (g :: hs).reverse ++ l) ∧ rsF.length = k + rest.length ∧ hsF.length = lexN pl ops (k + rest.length) + 1 ∧
    tsAt rsF.reverse tsE k = some ts ∧ ∃ A : Nat → AHeap, A k = h ∧ A (k + rest.length) = hE ∧ ∀ i o, k ≤ i → ops[i]? = some o → ∃ r, OpFact P cf pl ops rsF.reverse hsF.reverse A tsE i o r := by
  intro rest
  induction rest with
  | nil =>
    intro k ts g h hs rs ho hrs hhs hr
    simp only [cpass, Option.some.injEq, Prod.mk.injEq] at hr
    obtain ⟨rfl, rfl, rfl, rfl⟩ := hr
    have hend : ∀ i, k ≤ i → ops[i]? = none := fun i hi => by
      have := ho (i - k)
      rw [Nat.add_sub_cancel' hi] at this
      simpa using this.symm
    refine ⟨⟨[], by simp⟩, ⟨[], by simp⟩, by simpa using hrs, by simpa using hhs, ?_, fun _ => h, rfl, rfl, ?_⟩
    · unfold tsAt
      rw [List.getElem?_append_right (by simp [hrs])]
      simp [hrs]
    · intro i o hi hio
      rw [hend i hi] at hio
      cases hio
  | cons o rest ih =>
    intro k ts g h hs rs ho hrs hhs hr
    have hko : ops[k]? = some o := by have := ho 0; simpa using this.symm
    have ho' : ∀ j, rest[j]? = ops[k + 1 + j]? := fun j => by have := ho (j + 1); simpa [Nat.add_assoc, Nat.add_comm 1 j] using this
    have hlen : k + (o :: rest).length = k + 1 + rest.length := by simp; omega
    have hlx := lexN_succ (pl := pl) ops k
    rw [vAt_of hko] at hlx
    rw [hlen]
    -- whatever the first one was
    have fin : ∀ (v : Option Value) (g1 h1 : AHeap) (hs1 : List AHeap), (cguard ops o).test ts = v.isSome → (g1 :: hs1 = g :: hs ∧ isV pl k o = false ∨ hs1 = g :: hs ∧ g1 = h1 ∧ isV pl k o = true) →
        ((isV pl k o = true ∨ inL pl.loose k = true) → (∀ u, v = some u → (copc P o).run cf h ts = some (u, h1)) ∧ (v = none → h1 = h)) → (isV pl k o = true → h.next ≤ h1.next) → (isV pl k o = false → inL pl.loose k = false → (∀ u, v = some u → readAt (copc P o) cf g ts = some u) ∧ h1 = h) →
        (cpass P pl ops rest (k + 1)).run cf (putS ts o.dst (v.getD undef)) g1 h1 (g1 :: hs1) (⟨ts, v⟩ :: rs) = some (tsE, hE, hsF, rsF) →
        (∃ l, rsF.reverse = rs.reverse ++ l) ∧ (∃ l, hsF.reverse = (g :: hs).reverse ++ l) ∧ rsF.length = k + 1 + rest.length ∧ hsF.length = lexN pl ops (k + 1 + rest.length) + 1 ∧
        tsAt rsF.reverse tsE k = some ts ∧ ∃ A : Nat → AHeap, A k = h ∧ A (k + 1 + rest.length) = hE ∧ ∀ i o, k ≤ i → ops[i]? = some o → ∃ r, OpFact P cf pl ops rsF.reverse hsF.reverse A tsE i o r := by
      intro v g1 h1 hs1 hg hhs1 hch hgr hrd hr
      have hl1 : hs1.length = lexN pl ops (k + 1) := by
        rcases hhs1 with ⟨e, hc⟩ | ⟨e, _, hc⟩
        · rw [hlx, hc]
          have : hs1 = hs := by injection e
          subst this
          simpa using hhs
        · rw [hlx, hc, e]
          simpa using hhs
      obtain ⟨⟨l1, e1⟩, ⟨l2, e2⟩, q3, q4, q6, A, qa1, qa2, q7⟩ := ih (k + 1) _ g1 h1 hs1 (⟨ts, v⟩ :: rs) ho' (by simp [hrs]) hl1 hr
      have e1' : rsF.reverse = rs.reverse ++ (⟨ts, v⟩ :: l1) := by rw [e1]; simp
      have e2' : ∃ l, hsF.reverse = (g :: hs).reverse ++ l := by
        rcases hhs1 with ⟨e, hc⟩ | ⟨e, _, hc⟩
        · exact ⟨l2, by rw [e2, e]⟩
        · exact ⟨g1 :: l2, by rw [e2, e]; simp⟩
      have hRk : rsF.reverse[k]? = some ⟨ts, v⟩ := by
        rw [e1', List.getElem?_append_right (by simp [hrs])]
        simp [hrs]
      have hHk : hsF.reverse[lexN pl ops k]? = some g := by
        obtain ⟨l, hl⟩ := e2'
        rw [hl, List.reverse_cons, List.append_assoc, List.getElem?_append_right (by simp [hhs])]
        simp [hhs]
      obtain ⟨B, hB0, hA⟩ : ∃ B : Nat → AHeap, B k = h ∧ ∀ i, k + 1 ≤ i → B i = A i := ⟨fun i => if i = k then h else A i, if_pos rfl, fun i hi => if_neg (by omega)⟩
      refine ⟨⟨_, e1'⟩, e2', q3, q4, ?_, B, hB0, ?_, ?_⟩
      · unfold tsAt
        rw [List.getElem?_append_left (by simp; rw [q3]; omega), List.getElem?_map, hRk]
        rfl
      · rw [hA _ (by omega)]; exact qa2
      · intro i o' hi hio
        by_cases hik : i = k
        · subst hik
          rw [hko] at hio
          cases hio
          refine ⟨⟨ts, v⟩, hRk, hg, q6, ?_, ?_, ?_, ?_⟩
          · intro hc
            rw [hA _ (Nat.le_refl _), qa1]
            rcases hhs1 with ⟨_, hc'⟩ | ⟨e, e', _⟩
            · rw [hc] at hc'; cases hc'
            · rw [e2, List.reverse_cons, List.append_assoc, List.getElem?_append_right (by simp [e, hhs])]
              simp [e, e', hhs]
          · intro hc
            rw [hA _ (Nat.le_refl _), qa1, hB0]
            exact hch hc
          · intro hc
            rw [hA _ (Nat.le_refl _), qa1, hB0]
            exact hgr hc
          · intro hc hc'
            rw [hA _ (Nat.le_refl _), qa1, hB0]
            exact ⟨⟨g, hHk, (hrd hc hc').1⟩, (hrd hc hc').2⟩
        · obtain ⟨r, F⟩ := q7 i o' (by omega) hio
          refine ⟨r, F.res, F.guard, F.next, ?_, ?_, ?_, ?_⟩
          · rw [hA _ (by omega)]; exact F.chain
          · rw [hA _ (by omega), hA _ (by omega)]; exact F.run
          · rw [hA _ (by omega), hA _ (by omega)]; exact F.grow
          · rw [hA _ (by omega), hA _ (by omega)]; exact F.read
    simp only [cpass] at hr
    cases hc : isV pl k o with
    | true =>
      simp only [hc, cond_true, passChain, putT_putS] at hr
      cases hg : (cguard ops o).test ts with
      | true =>
        simp only [hg, cond_true] at hr
        split at hr
        · rename_i v h' hrun
          obtain ⟨hle, hr⟩ := cond_some hr
          exact fin (some v) h' h' (g :: hs) (by rw [hg]; rfl) (.inr ⟨rfl, rfl, hc⟩) (fun _ => ⟨fun u hu => by cases hu; exact hrun, fun e => by cases e⟩) (fun _ => ble_iff.1 hle) (fun e => by rw [hc] at e; cases e) hr
        · simp at hr
      | false =>
        simp only [hg, cond_false] at hr
        exact fin none h h (g :: hs) (by rw [hg]; rfl) (.inr ⟨rfl, rfl, hc⟩) (fun _ => ⟨fun u hu => (nomatch hu), fun _ => rfl⟩) (fun _ => Nat.le_refl _) (fun e => by rw [hc] at e; cases e) hr
    | false =>
      simp only [hc, cond_false] at hr
      cases hl : inL pl.loose k with
      | true =>
        simp only [hl, cond_true, passLoose, putT_putS] at hr
        cases hg : (cguard ops o).test ts with
        | true =>
          simp only [hg, cond_true] at hr
          split at hr
          · rename_i v h' hrun
            exact fin (some v) g h' hs (by rw [hg]; rfl) (.inl ⟨rfl, hc⟩) (fun _ => ⟨fun u hu => by cases hu; exact hrun, fun e => by cases e⟩) (fun e => by rw [hc] at e; cases e) (fun _ e => by rw [hl] at e; cases e) hr
          · simp at hr
        | false =>
          simp only [hg, cond_false] at hr
          exact fin none g h hs (by rw [hg]; rfl) (.inl ⟨rfl, hc⟩) (fun _ => ⟨fun u hu => (nomatch hu), fun _ => rfl⟩) (fun e => by rw [hc] at e; cases e) (fun _ e => by rw [hl] at e; cases e) hr
      | false =>
        simp only [hl, cond_false, passRead, putT_putS] at hr
        cases hg : (cguard ops o).test ts with
        | true =>
          simp only [hg, cond_true] at hr
          split at hr
          · rename_i v hrun
            exact fin (some v) g h hs (by rw [hg]; rfl) (.inl ⟨rfl, hc⟩) (fun e => by rcases e with e | e; (rw [hc] at e; cases e); (rw [hl] at e; cases e)) (fun e => by rw [hc] at e; cases e) (fun _ _ => ⟨fun u hu => by cases hu; exact hrun, rfl⟩) hr
          · simp at hr
        | false =>
          simp only [hg, cond_false] at hr
          exact fin none g h hs (by rw [hg]; rfl) (.inl ⟨rfl, hc⟩) (fun e => by rcases e with e | e; (rw [hc] at e; cases e); (rw [hl] at e; cases e)) (fun e => by rw [hc] at e; cases e) (fun _ _ => ⟨fun u hu => (nomatch hu), rfl⟩) hr
theorem forceNats_eq (l : List Nat) (f : List Nat → FStages) : forceNats l f = f l := by
  induction l generalizing f with
  | nil => rfl
  | cons n l ih => show seqNat n (fun n => forceNats l fun l => f (n :: l)) = _; rw [seqNat_eq, ih]
theorem nthH_eq (l : List AHeap) (n : Nat) : nthH l n = l[n]? := by
  induction l generalizing n with
  | nil => rfl
  | cons x l ih => cases n with
    | zero => rfl
    | succ n => exact ih n
theorem checkAt_spec {c : FCall} {cf : CallF} {hs : List AHeap} {ts : Slots} {v : Value} : ∀ {stages : List Nat}, checkAt c cf hs ts v stages = true → ∀ m ∈ stages, ∃ h, hs[m]? = some h ∧ readAt c cf h ts = some v := by
  intro stages
  induction stages with
  | nil => intro _ m hm; simp at hm
  | cons x l ih =>
    intro hr m hm
    have hr' : (match nthH hs x with
      | some h => match readAt c cf h ts with
        | some u => bif eqV u v then checkAt c cf hs ts v l else false
        | none => false
      | none => false) = true := hr
    split at hr'
    · rename_i h hh
      split at hr'
      · rename_i u hu
        cases he : eqV u v with
        | false => simp [he] at hr'
        | true =>
          simp only [he, cond_true] at hr'
          rcases List.mem_cons.1 hm with rfl | hm
          · exact ⟨h, by rw [← nthH_eq]; exact hh, by rw [hu, eqV_eq he]⟩
          · exact ih hr' m hm
      · simp at hr'
    · simp at hr'
theorem check_spec {cf : CallF} {ops : Array Oper} {info : DrawInfo} {H : List AHeap} : ∀ (rest : List Oper) (k : Nat) (R : List OpRes), (∀ j, rest[j]? = ops[k + j]?) →
    (ccheck P info rest k (lexN info.plan ops k)).run cf H R = true → ∀ j o, rest[j]? = some o → isV info.plan (k + j) o = false → (inL info.plan.loose (k + j) || heapFree o) = false → ∃ r, R[j]? = some r ∧ ∀ v, r.v = some v → ∀ m, m ≤ info.chain.length → mayAt info.masks info.chain (k + j) m = true → m ≠ lexN info.plan ops (k + j) →
      ∃ h, H[m]? = some h ∧ readAt (copc P o) cf h r.ts = some v := by
  intro rest
  induction rest with
  | nil => intro k R _ _ j o hj; simp at hj
  | cons o rest ih =>
    intro k R ho hr j o' hj hc hl'
    have hko : ops[k]? = some o := by have := ho 0; simpa using this.symm
    have ho' : ∀ j, rest[j]? = ops[k + 1 + j]? := fun j => by have := ho (j + 1); simpa [Nat.add_assoc, Nat.add_comm 1 j] using this
    have hlx := lexN_succ (pl := info.plan) ops k
    rw [vAt_of hko] at hlx
    have next : ∀ R', (ccheck P info rest (k + 1) (lexN info.plan ops (k + 1))).run cf H R' = true → ∀ r0, ∀ j, (o :: rest)[j + 1]? = some o' → isV info.plan (k + (j + 1)) o' = false → (inL info.plan.loose (k + (j + 1)) || heapFree o') = false →
        ∃ r, (r0 :: R')[j + 1]? = some r ∧ ∀ v, r.v = some v → ∀ m, m ≤ info.chain.length → mayAt info.masks info.chain (k + (j + 1)) m = true → m ≠ lexN info.plan ops (k + (j + 1)) →
        ∃ h, H[m]? = some h ∧ readAt (copc P o') cf h r.ts = some v := by
      intro R' hr r0 j hj hc hl'
      have e : k + (j + 1) = k + 1 + j := by omega
      rw [e] at hc hl' ⊢
      obtain ⟨r', h1, h2⟩ := ih (k + 1) R' ho' hr j o' (by simpa using hj) hc hl'
      exact ⟨r', by simpa using h1, h2⟩
    simp only [ccheck] at hr
    cases hco : isV info.plan k o with
    | true =>
      simp only [hco, cond_true, skipStep] at hr
      rw [hco] at hlx
      simp only [if_true] at hlx
      rw [← hlx] at hr
      split at hr
      · rename_i r R'
        cases j with
        | zero => simp only [List.getElem?_cons_zero, Option.some.injEq] at hj; subst hj; rw [Nat.add_zero, hco] at hc; cases hc
        | succ j => exact next R' hr r j hj hc hl'
      · simp at hr
    | false =>
      rw [hco] at hlx
      simp only [Bool.false_eq_true, if_false, Nat.add_zero] at hlx
      simp only [hco, cond_false] at hr
      cases hl : (inL info.plan.loose k || heapFree o) with
      | true =>
        simp only [hl, cond_true, skipStep] at hr
        rw [← hlx] at hr
        split at hr
        · rename_i r R'
          cases j with
          | zero => simp only [List.getElem?_cons_zero, Option.some.injEq] at hj; subst hj; rw [Nat.add_zero, hl] at hl'; cases hl'
          | succ j => exact next R' hr r j hj hc hl'
        · simp at hr
      | false =>
        simp only [hl, cond_false, checkStep] at hr
        split at hr
        · rename_i ts v R'
          obtain ⟨hck, hr⟩ : checkAt (copc P o) cf H ts v (cstages info k (lexN info.plan ops k)).l = true ∧ _ := by
            cases hck : checkAt (copc P o) cf H ts v (cstages info k (lexN info.plan ops k)).l with
            | false => simp [hck] at hr
            | true => rw [hck] at hr; exact ⟨rfl, hr⟩
          simp only [cond_true] at hr
          cases j with
          | zero =>
            simp only [List.getElem?_cons_zero, Option.some.injEq] at hj
            subst hj
            refine ⟨⟨ts, some v⟩, rfl, fun u hu m hm hmay hne => ?_⟩
            cases hu
            refine checkAt_spec hck m ?_
            unfold cstages
            rw [forceNats_eq]
            simp only [List.mem_filter, List.mem_range, Bool.and_eq_true]
            refine ⟨by omega, by simpa using hmay, ?_⟩
            cases hb : Nat.beq m (lexN info.plan ops k) with
            | false => rfl
            | true => exact absurd (beq_iff.1 hb) (by simpa using hne)
          | succ j => rw [← hlx] at hr; exact next R' hr ⟨ts, some v⟩ j hj hc hl'
        · rename_i ts R'
          cases j with
          | zero =>
            simp only [List.getElem?_cons_zero, Option.some.injEq] at hj
            subst hj
            exact ⟨⟨ts, none⟩, rfl, fun u hu => by cases hu⟩
          | succ j => rw [← hlx] at hr; exact next R' hr ⟨ts, none⟩ j hj hc hl'
        · simp at hr
end Go.Vm
