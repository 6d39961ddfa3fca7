/- A text of the proofs of this seat: an evaluator of the model's code, its soundness, and what it has run. -/
import Derived.Test.YtjbbefkbbagdfaaVmOps
import Derived.Orders
import Derived.IntWalk
namespace Go.Vm
variable {P : Program} {φ : Emb} {h : AHeap} {w : World}

theorem mapA_off (φ : Emb) (a : Addr) (n : Nat) : mapA φ ⟨a.block, a.off + n, none⟩ = (mapA φ a).add n := by
  unfold mapA; simp only; rw [add_add]

theorem cfieldAddr_sound {s : TypeId} {x r : Value} {f : Nat} (hx : okV φ h.next x) (hr : (cfieldAddr P s f).run x = some r) :
    (Instr.fieldAt s (mapV φ x) f).run P w = .ok (mapV φ r) w ∧ okV φ h.next r := by
  unfold cfieldAddr at hr
  split at hr
  · rename_i fs hs
    split at hr
    · rename_i fd hfd
      split at hr
      · rename_i n hn
        cases hb : Nat.beq n 0 with
        | true => simp [hb] at hr
        | false =>
          simp only [hb, cond_false] at hr
          have hn0 : n ≠ 0 := fun e => by subst e; simp at hb
          unfold Vm.fieldAt at hr
          split at hr
          · rename_i a
            simp only [Option.some.injEq] at hr
            subst hr
            simp only [okV_ptr] at hx
            refine ⟨?_, by simp [hx.1]⟩
            simp [Instr.fieldAt, run_underlying hs, hfd, Instr.sureAddr, fieldPlace, run_sizeOf_of hn, hn0, mapA_off]
          · simp at hr
      · simp at hr
    · simp at hr
  · simp at hr

theorem placeAt_sound {a : Addr} {n : Int} {len s : Nat} {r : Value} (ha : a.block < h.next) (hr : placeAt a n len s = some r) :
    0 ≤ n ∧ n < len ∧ mapV φ r = .pointer (some ((mapA φ a).add (n.toNat * s))) ∧ okV φ h.next r := by
  unfold placeAt at hr
  split at hr
  · rename_i i
    obtain ⟨h1, hr⟩ := cond_some hr
    rw [blt_iff] at h1
    simp only [Option.some.injEq] at hr
    subst hr
    refine ⟨Int.natCast_nonneg i, by simpa using h1, ?_, by simp [ha]⟩
    simp [mapA_off]
  · simp at hr

theorem cindexAddr_sound {t : TypeId} {x i r : Value} (hx : okV φ h.next x) (hr : (cindexAddr P t).run x i = some r) :
    (Instr.indexAt t (mapV φ x) (mapV φ i)).run P w = .ok (mapV φ r) w ∧ okV φ h.next r := by
  unfold cindexAddr at hr
  split at hr
  · rename_i len e hu
    split at hr
    · rename_i s hs
      simp only [indexArr] at hr
      split at hr
      · rename_i a k n
        simp only [okV_ptr] at hx
        obtain ⟨h1, h2, h3, h4⟩ := placeAt_sound (φ := φ) hx.1 hr
        refine ⟨?_, h4⟩
        simp [Instr.indexAt, asIntOf, run_underlying hu, Instr.sureAddr, h1, h2, run_sizeOf_of hs, h3]
      · simp at hr
    · simp at hr
  · rename_i e hu
    split at hr
    · rename_i s hs
      simp only [indexSl] at hr
      split at hr
      · rename_i a len c k n
        simp only [okV_slice] at hx
        obtain ⟨h1, h2, h3, h4⟩ := placeAt_sound (φ := φ) hx.1 hr
        refine ⟨?_, h4⟩
        simp [Instr.indexAt, asIntOf, run_underlying hu, h1, h2, run_sizeOf_of hs, h3]
      · simp at hr
    · simp at hr
  · simp at hr

/-! ### Parts -/
theorem run_part_agg {t : TypeId} {n off : Nat} {cs : Array Value} {d : TypeDesc} (hd : P.underlying t = some d) (ha : isAggT P t = true) (hn : sizeT P t = some n) :
    (part t cs off).run P w = .ok (.agg (cs.extract off (off + n))) w := by
  simp [part, run_isAgg_of hd, ha, run_sizeOf_of hn]
theorem run_part_one {t : TypeId} {off : Nat} {cs : Array Value} {d : TypeDesc} {v : Value} (hd : P.underlying t = some d) (ha : isAggT P t = false) (hv : cs[off]? = some v) :
    (part t cs off).run P w = .ok v w := by
  simp [part, run_isAgg_of hd, ha, hv]

theorem cfield_sound {t : TypeId} {x : FVal} {f : Nat} {ts : Slots} {r : Value} {h' : AHeap} (hx : okV φ h.next (x.get ts)) (hr : (cfield P t x f).run h ts = some (r, h')) :
    h' = h ∧ (Instr.field t (mapV φ (x.get ts)) f).run P w = .ok (mapV φ r) w ∧ okV φ h.next r := by
  unfold cfield at hr
  split at hr
  · rename_i fs hs
    split at hr
    · rename_i fd hfd
      split at hr
      · rename_i d hd
        cases ha : isAggT P fd.type with
        | true =>
          simp only [ha, cond_true] at hr
          split at hr
          · rename_i n hn
            simp only [partAgg] at hr
            split at hr
            · rename_i l hl
              rw [hl] at hx
              simp only [okV_agg] at hx
              simp only [dropK_eq, takeK_eq] at hr
              obtain ⟨k1, hr⟩ := ite_some hr
              obtain ⟨k2, hr⟩ := ite_some hr
              simp only [Option.some.injEq, Prod.mk.injEq] at hr
              obtain ⟨rfl, rfl⟩ := hr
              refine ⟨rfl, ?_, ?_⟩
              · rw [hl]
                simp only [mapV_agg]
                simp only [Instr.field, Sem.run_bind, run_underlying hs, Result.andThen_ok, hfd, asAgg, Sem.run_pure, run_part_agg hd ha hn]
                congr 2
                apply Array.ext'
                simp [List.map_drop, List.map_take]
              · simp only [okV_agg]
                intro v hv
                exact hx v (List.mem_of_mem_drop (List.mem_of_mem_take hv))
            · simp at hr
          · simp [bad] at hr
        | false =>
          simp only [ha, cond_false] at hr
          simp only [partOne] at hr
          split at hr
          · rename_i l hl
            rw [hl] at hx
            simp only [okV_agg] at hx
            rw [nthO_eq] at hr
            split at hr
            · rename_i v hv
              simp only [Option.some.injEq, Prod.mk.injEq] at hr
              obtain ⟨rfl, rfl⟩ := hr
              refine ⟨rfl, ?_, hx v (List.mem_of_getElem? hv)⟩
              rw [hl]
              simp only [mapV_agg]
              have hv' : ((Array.mk l).map (mapV φ))[fd.offset]? = some (mapV φ v) := by simp [hv]
              simp only [Instr.field, Sem.run_bind, run_underlying hs, Result.andThen_ok, hfd, asAgg, Sem.run_pure, run_part_one hd ha hv']
            · simp at hr
          · simp at hr
      · simp [bad] at hr
    · simp [bad] at hr
  · simp [bad] at hr

theorem plain_cells {v : Value} (hv : plainV v = true) (φ : Emb) : v.cells.map (mapV φ) = v.cells := by rw [← cells_map, plainV_map hv]
theorem plain_cells_ok {v : Value} (hv : plainV v = true) (φ : Emb) (n : Nat) : ∀ x ∈ v.cells.toList, okV φ n x := cells_ok (plainV_ok hv)

theorem buildA_sound {place : Nat → Option (Nat × Nat)} {zero : Array Value} {is : List Nat} {vs : List Value} {r : Value} {h' : AHeap} (hz : zero.map (mapV φ) = zero) (hzo : ∀ v ∈ zero.toList, okV φ h.next v)
    (hvs : ∀ x ∈ is.zip vs, okV φ h.next x.2) (hr : buildA place zero is h vs = some (r, h')) :
    h' = h ∧ ∃ cs, r = .agg cs ∧ Instr.fill place zero ((is.zip vs).map fun p => (p.1, mapV φ p.2)) = some (cs.map (mapV φ)) ∧ okV φ h.next r := by
  unfold buildA at hr
  split at hr
  · rename_i cs hcs
    simp only [Option.some.injEq, Prod.mk.injEq] at hr
    obtain ⟨rfl, rfl⟩ := hr
    refine ⟨rfl, cs, rfl, ?_, ?_⟩
    · have := fill_map (place := place) (f := mapV φ) (fun v => cells_map) (is.zip vs) zero
      rw [hz] at this
      rw [this, hcs]; rfl
    · simp only [okV_agg]
      exact fill_all (p := okV φ h.next) _ (fun x hx v hv => cells_ok (hvs x hx) v hv) zero cs hzo hcs
  · simp at hr

theorem cbuild_sound {t : TypeId} {parts : Array (Nat × Operand)} {ts : Slots} {ρ : Operand → Value} {r : Value} {h' : AHeap} (hρ : ∀ x ∈ parts.toList.map (·.2), OpRel φ h.next ts ρ x)
    (hr : (cbuild P t (parts.toList.map (·.1)) (cvals (parts.toList.map (·.2)))).run h ts = some (r, h')) :
    h' = h ∧ (Instr.build t (parts.map fun (i, x) => (i, ρ x))).run P w = .ok (mapV φ r) w ∧ okV φ h.next r := by
  obtain ⟨p1, p2⟩ := parts_eq parts hρ
  unfold cbuild at hr
  split at hr
  · rename_i z hz
    cases hp : plainV z with
    | false => simp [hp, bad] at hr
    | true =>
      simp only [hp, cond_true] at hr
      split at hr
      · rename_i fs hs
        split at hr
        · rename_i places hpl
          simp only [seqArr_eq] at hr
          obtain ⟨rfl, cs, rfl, k1, k2⟩ := buildA_sound (plain_cells hp φ) (plain_cells_ok hp φ _) p2 hr
          refine ⟨rfl, ?_, k2⟩
          have hrun := pureRun_sound _ _ hpl w
          simp only [Instr.build, Sem.run_bind, run_zero_of hz, Result.andThen_ok, run_underlying hs, hrun, p1, k1]
          simp
        · simp [bad] at hr
      · rename_i len e hs
        split at hr
        · rename_i s hsz
          simp only [seqArr_eq] at hr
          obtain ⟨rfl, cs, rfl, k1, k2⟩ := buildA_sound (plain_cells hp φ) (plain_cells_ok hp φ _) p2 hr
          refine ⟨rfl, ?_, k2⟩
          simp only [Instr.build, Sem.run_bind, run_zero_of hz, Result.andThen_ok, run_underlying hs, run_sizeOf_of hsz, p1, k1]
          simp
        · simp [bad] at hr
      · simp [bad] at hr
  · simp [bad] at hr

/-! ### Rows that are made -/
theorem repl_map {f : Value → Value} {z : List Value} (hz : z.map f = z) (n : Nat) : (repl z n).map f = repl z n := by
  induction n with
  | zero => rfl
  | succ n ih => simp [repl, hz, ih]
theorem repl_mem {z : List Value} {n : Nat} {v : Value} (hv : v ∈ repl z n) : v ∈ z := by
  induction n with
  | zero => simp [repl] at hv
  | succ n ih => simp only [repl, List.mem_append] at hv; exact hv.elim id ih
theorem repl_length {z : List Value} {n : Nat} : (repl z n).length = n * z.length := by
  induction n with
  | zero => simp [repl]
  | succ n ih => simp [repl, ih, Nat.succ_mul]; omega
/-- the model's way to spell a row of zero values -/
theorem range_repl (z : Array Value) (n : Nat) : (Array.range (n * z.size)).map (fun i => z[i % z.size]!) = (repl z.toList n).toArray := by
  apply Array.ext'
  simp only [Array.toList_map, Array.toList_range]
  induction n with
  | zero => simp [repl]
  | succ n ih =>
    have hlen : (repl z.toList n).length = n * z.size := by rw [repl_length]; simp
    have key : ∀ m, repl z.toList (m + 1) = repl z.toList m ++ z.toList := by
      intro m
      induction m with
      | zero => simp [repl]
      | succ m ihm => show z.toList ++ repl z.toList (m + 1) = (z.toList ++ repl z.toList m) ++ z.toList; rw [List.append_assoc, ← ihm]
    rw [key, Nat.succ_mul, List.range_add, List.map_append]
    rw [ih]
    congr 1
    · apply List.ext_getElem
      · simp
      · intro i h1 h2
        simp only [List.length_map, List.length_range] at h1
        simp [Nat.mul_add_mod_self_right, Nat.mod_eq_of_lt h1, h1]

theorem zero_map {z : Value} (hz : plainV z = true) (φ : Emb) : z.cells.toList.map (mapV φ) = z.cells.toList := by
  have := plain_cells hz φ
  rw [← Array.toList_map, this]

theorem makeSl_sound (H : HRel φ h w) {t e : TypeId} {i : TypeInfo} {z l c r : Value} {h' : AHeap} (hu : P.underlying t = some (.slice e)) (hi : P.info? e = some i) (hz : i.zero = some z) (hs : 0 < i.size) (hzs : z.cells.size = i.size)
    (hp : plainV z = true) (hr : makeSl i.size i.bytes z.cells.toList h l c = some (r, h')) : Done P (Instr.makeSlice t (mapV φ l) (mapV φ c)) φ h w r h' := by
  unfold makeSl at hr
  split at hr
  · rename_i k n k' m
    obtain ⟨hc, hr⟩ := cond_some hr
    simp only [Bool.and_eq_true, ble_iff] at hc
    obtain ⟨⟨h1, h2⟩, h3⟩ := hc
    have hmax : maxBytes = 1099511627776 := rfl
    have hzt : zeroT P e = some z := by simp [zeroT, hi, hz]
    have hst : sizeT P e = some i.size := by simp [sizeT, hi]
    have hwn : IntKind.i64.wrap (n : Int) = n := IntWalk.i64_in _ (by omega)
    have hwm : IntKind.i64.wrap (m : Int) = m := IntWalk.i64_in _ (by omega)
    have hd := newSlice_sound (P := P) (cp := m) H e [] (fun v hv => plain_cells_ok hp φ _ v (repl_mem hv)) hr (fun h0 => absurd rfl h0) h1 (.inl ⟨rfl, by unfold unk; omega⟩)
    rw [repl_map (zero_map hp φ)] at hd
    simp only [List.append_nil] at hd
    obtain ⟨φ', w', k1, k2, k3, k4⟩ := hd
    refine ⟨φ', w', ?_, k2, k3, k4⟩
    rw [← k1]
    have hm0 : m * i.size = 0 → repl z.cells.toList m = [] := by
      intro h0
      have : m = 0 := by rcases Nat.mul_eq_zero.1 h0 with h | h <;> omega
      subst this; rfl
    have e1 : (i.bytes : Int) * (m : Int) ≤ 2 ^ 48 := by
      have : m * i.bytes ≤ 1099511627776 := by omega
      have h5 : (i.bytes : Int) * (m : Int) = ((m * i.bytes : Nat) : Int) := by rw [Int.natCast_mul, Int.mul_comm]
      omega
    have hroom : (askRoom (m * i.bytes)).run P w = .ok () w := by
      unfold askRoom
      split <;> rfl
    by_cases hm : m * i.size = 0
    · have hm' : m = 0 := by rcases Nat.mul_eq_zero.1 hm with h | h <;> omega
      subst hm'
      have hn' : n = 0 := by omega
      subst hn'
      simp only [Nat.zero_mul] at hroom
      simp [Instr.makeSlice, run_underlying hu, asInt, asIntOf, run_typeInfo w hi, run_sizeOf_of hst, repl, show IntKind.i64.wrap 0 = 0 from hwm, show Array.range 0 = #[] from rfl]
    · have hrr := range_repl z.cells m
      rw [hzs] at hrr
      simp [Instr.makeSlice, run_underlying hu, asInt, asIntOf, run_typeInfo w hi, hwn, hwm, run_sizeOf_of hst, hm, run_zero_of hzt, hzs, hrr]
      intro hc
      exfalso
      simp only [Int.reducePow] at e1
      rcases hc with ((hc | hc) | hc) | hc <;> omega
  · simp at hr

theorem buildSl_sound (H : HRel φ h w) {t e : TypeId} {s len : Nat} {z r : Value} {parts : Array (Nat × Operand)} {ts : Slots} {ρ : Operand → Value} {h' : AHeap} (hρ : ∀ x ∈ parts.toList.map (·.2), OpRel φ h.next ts ρ x)
    (hu : P.underlying t = some (.slice e)) (hst : sizeT P e = some s) (hzt : zeroT P e = some z) (hl : len * s ≤ 16777216) (hs : 0 < s) (hzs : z.cells.size = s) (hp : plainV z = true)
    (hr : buildSl s len z.cells.toList (parts.toList.map (·.1)) h ((cvals (parts.toList.map (·.2))).get ts) = some (r, h')) :
    Done P (Instr.buildSlice t len (parts.map fun (i, x) => (i, ρ x))) φ h w r h' := by
  obtain ⟨p1, p2⟩ := parts_eq parts hρ
  unfold buildSl at hr
  split at hr
  · rename_i cs hcs
    have hz0 : (repl z.cells.toList len).toArray.map (mapV φ) = (repl z.cells.toList len).toArray := by
      simp [repl_map (zero_map hp φ)]
    have hfill := fill_map (place := fun i => some (i * s, s)) (f := mapV φ) (fun v => cells_map) ((parts.toList.map (·.1)).zip ((cvals (parts.toList.map (·.2))).get ts)) (repl z.cells.toList len).toArray
    rw [hz0, hcs] at hfill
    have hok := fill_all (p := okV φ h.next) _ (fun x hx v hv => cells_ok (p2 x hx) v hv) (repl z.cells.toList len).toArray cs (fun v hv => plain_cells_ok hp φ _ v (repl_mem hv)) hcs
    have hlen : len ≤ 16777216 := Nat.le_trans (Nat.le_mul_of_pos_right len hs) hl
    have hd := newSlice_sound (P := P) (cp := len) H e [] hok hr (fun h0 => absurd rfl h0) (Nat.le_refl _) (.inl ⟨rfl, by unfold unk; omega⟩)
    simp only [List.append_nil] at hd
    obtain ⟨φ', w', k1, k2, k3, k4⟩ := hd
    refine ⟨φ', w', ?_, k2, k3, k4⟩
    rw [← k1]
    have hcs' : (cs.toList.map (mapV φ)).toArray = cs.map (mapV φ) := by apply Array.ext'; simp
    have hl' : ¬ (2 ^ 24 < len * s) := by omega
    by_cases hm : len * s = 0
    · have : len = 0 := by rcases Nat.mul_eq_zero.1 hm with h | h <;> omega
      subst this
      have e1 : (Array.range (0 * s)).map (fun x => (#[] : Array Value)[x % (#[] : Array Value).size]!) = (repl z.cells.toList 0).toArray := by simp [repl]
      simp only [Instr.buildSlice, Sem.run_bind, run_underlying hu, Result.andThen_ok, run_sizeOf_of hst, Nat.zero_mul, if_true, Sem.run_pure, show ¬ (2 ^ 24 < 0) by omega, if_false, p1] at e1 ⊢
      simp only [e1, hfill, hcs']
      simp
    · have hrr := range_repl z.cells len
      rw [hzs] at hrr
      simp only [Instr.buildSlice, Sem.run_bind, run_underlying hu, Result.andThen_ok, run_sizeOf_of hst, Sem.run_ite, hm, if_false, Sem.run_pure, gt_iff_lt, hl', run_zero_of hzt, hzs, hrr, p1, hfill, hcs']
      simp
  · simp at hr
end Go.Vm
