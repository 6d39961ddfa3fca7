/- A text of the proofs of this seat: an evaluator of the model's code, its soundness, and what it has run. -/
import Derived.Test.YtjbbefkbbagdfaaVmOps4
namespace Go.Vm
variable {P : Program} {φ : Emb} {h : AHeap} {w : World}

/-! ### Maps -/
theorem pureRun_bind {α β : Type} (s : Sem α) (f : α → Sem β) : pureRun P (s >>= f) = (pureRun P s).bind fun a => pureRun P (f a) := by
  show pureRun P (s.bind f) = _
  induction s with
  | pure a => rfl
  | program k ih => exact ih P
  | mark m k ih => exact ih
  | _ => rfl

theorem amap_some {m : Value} {r c : Nat} {es : Array MapEntry} (hm : amap h m = some (r, es, c)) : m = .map (some r) ∧ h.get r = some (.map es c) := by
  unfold amap at hm
  split at hm
  · split at hm
    · rename_i r' es' c' hg
      simp only [Option.some.injEq, Prod.mk.injEq] at hm
      obtain ⟨rfl, rfl, rfl⟩ := hm
      exact ⟨rfl, hg⟩
    · simp at hm
  · simp at hm

theorem run_getMap (H : HRel φ h w) {r c : Nat} {es : Array MapEntry} (hg : h.get r = some (.map es c)) : (getObj (φ.at_ r).block).run P w = .ok (.map es c) w := by
  have := (H.live _ _ hg).1
  simp [getObj, Sem.run, this]

theorem findA_sound {empty : Bool} {kt : TypeId} {k : Value} {es : Array MapEntry} {x : Option (Nat × Value)} (hf : findA P empty kt k es = some x) :
    (Instr.checkKey empty 10000 kt k).run P w = .ok () w ∧ (Instr.findKey kt k es.toList).run P w = .ok x w := by
  unfold findA at hf
  rw [pureRun_bind] at hf
  cases hc : pureRun P (Instr.checkKey empty 10000 kt k) with
  | none => simp [hc] at hf
  | some u =>
    simp only [hc, Option.bind_some] at hf
    exact ⟨pureRun_sound _ _ hc w, pureRun_sound _ _ hf w⟩

theorem plain_agg {b : Bool} {v : Value} (hv : plainV v = true) (φ : Emb) (n : Nat) : mapV φ (.tuple #[v, .bool b]) = .tuple #[v, .bool b] ∧ okV φ n (.tuple #[v, .bool b]) := by
  refine ⟨by simp [plainV_map hv], ?_⟩
  simp only [okV_tuple]
  intro x hx
  simp at hx
  rcases hx with rfl | rfl
  · exact plainV_ok hv
  · simp

theorem lookupA_sound (H : HRel φ h w) {t kt e : TypeId} {z m k r : Value} {ok : Bool} {h' : AHeap} (hu : P.underlying t = some (.map kt e)) (hz : zeroT P e = some z) (hr : lookupA P kt z ok h m k = some (r, h')) :
    Done P (Instr.lookup t (mapV φ m) (mapV φ k) ok) φ h w r h' := by
  unfold lookupA at hr
  split at hr
  rotate_left
  · simp at hr
  rename_i r0 es c hm
  obtain ⟨rfl, hg⟩ := amap_some hm
  obtain ⟨hc, hr⟩ := cond_some hr
  rw [Bool.and_eq_true] at hc
  obtain ⟨hk, hzp⟩ := hc
  have hget := run_getMap (P := P) H hg
  rw [plainV_map hk]
  split at hr
  · rename_i i v hf
    obtain ⟨hv, hr⟩ := cond_some hr
    simp only [Option.some.injEq, Prod.mk.injEq] at hr
    obtain ⟨rfl, rfl⟩ := hr
    obtain ⟨f1, f2⟩ := findA_sound (w := w) hf
    cases ok with
    | true =>
      refine Done.same H ?_ (plain_agg hv φ _).2
      rw [cond_true, (plain_agg hv φ 0).1]
      simp [Instr.lookup, run_underlying hu, hget, f1, f2]
    | false =>
      refine Done.same H ?_ (plainV_ok hv)
      rw [cond_false, plainV_map hv]
      simp [Instr.lookup, run_underlying hu, hget, f1, f2]
  · rename_i hf
    simp only [Option.some.injEq, Prod.mk.injEq] at hr
    obtain ⟨rfl, rfl⟩ := hr
    obtain ⟨f1, f2⟩ := findA_sound (w := w) hf
    cases ok with
    | true =>
      refine Done.same H ?_ (plain_agg hzp φ _).2
      rw [cond_true, (plain_agg hzp φ 0).1]
      simp [Instr.lookup, run_underlying hu, hget, f1, f2, run_zero_of hz]
    | false =>
      refine Done.same H ?_ (plainV_ok hzp)
      rw [cond_false, plainV_map hzp]
      simp [Instr.lookup, run_underlying hu, hget, f1, f2, run_zero_of hz]
  · simp at hr

theorem mem_modify {p : MapEntry → Prop} {es : Array MapEntry} {i : Nat} {f : MapEntry → MapEntry} (hes : ∀ e ∈ es.toList, p e) (hf : ∀ e, p e → p (f e)) : ∀ e ∈ (es.modify i f).toList, p e := by
  intro e he
  obtain ⟨j, hj⟩ := List.getElem?_of_mem he
  rw [Array.getElem?_toList, Array.getElem?_modify] at hj
  by_cases hij : i = j
  · simp only [hij, if_true] at hj
    cases hx : es[j]? with
    | none => simp [hx] at hj
    | some x =>
      simp [hx] at hj
      subst hj
      exact hf x (hes x (List.mem_of_getElem? (by rw [Array.getElem?_toList]; exact hx)))
  · simp only [hij, if_false] at hj
    exact hes e (List.mem_of_getElem? (by rw [Array.getElem?_toList]; exact hj))

theorem setMap_sound (H : HRel φ h w) {r c c' : Nat} {es es' : Array MapEntry} {v v' : Value} {h' : AHeap} (hg : h.get r = some (.map es c)) (hfl : h.floor ≤ r) (hes : ∀ e ∈ es'.toList, plainV e.key = true ∧ plainV e.val = true)
    (hr : setMap h r es' c' v = some (v', h')) :
    v' = v ∧ ∃ w', (setObj (φ.at_ r).block (.map es' c')).run P w = .ok () w' ∧ HRel φ h' w' ∧ Ext φ h w φ h' w' ∧ h'.next = h.next := by
  unfold setMap at hr
  rw [AHeap.put_eq] at hr
  simp only [Option.some.injEq, Prod.mk.injEq] at hr
  obtain ⟨rfl, rfl⟩ := hr
  have hb := (H.live _ _ hg).1
  have hlt := (Array.getElem?_eq_some_iff.1 hb).1
  refine ⟨rfl, { w with heap := w.heap.setIfInBounds (φ.at_ r).block (.map es' c') }, by simp [setObj, Sem.run, hb], ?_⟩
  have hk := H.turn (w' := { w with heap := w.heap.setIfInBounds (φ.at_ r).block (.map es' c') }) (o' := .map es' c') hg rfl hfl (by simp) (fun b hb => by
    show (w.heap.setIfInBounds (φ.at_ r).block (.map es' c'))[b]? = _
    rw [Array.getElem?_setIfInBounds_ne (Ne.symm hb)]) ⟨by
      show (w.heap.setIfInBounds (φ.at_ r).block (.map es' c'))[(φ.at_ r).block]? = _
      simp [hlt], hes⟩
  exact ⟨hk.1, hk.2, rfl⟩

theorem mapEntryA_sound (H : HRel φ h w) {t kt e : TypeId} {z m k r : Value} {h' : AHeap} (hu : P.underlying t = some (.map kt e)) (hz : zeroT P e = some z) (hr : mapEntryA P kt z h m k = some (r, h')) :
    Done P (Instr.mapEntry t (mapV φ m) (mapV φ k)) φ h w r h' := by
  unfold mapEntryA at hr
  split at hr
  rotate_left
  · simp at hr
  rename_i r0 es c hm
  obtain ⟨rfl, hg⟩ := amap_some hm
  obtain ⟨hc, hr⟩ := cond_some hr
  simp only [Bool.and_eq_true, ble_iff] at hc
  obtain ⟨⟨hk, hzp⟩, hfl⟩ := hc
  have hget := run_getMap (P := P) H hg
  have hes := (H.live _ _ hg).2
  rw [plainV_map hk]
  have tup : ∀ (v : Value) (n : Int), plainV v = true → mapV φ (.tuple #[v, goInt n]) = .tuple #[v, goInt n] ∧ ∀ n', okV φ n' (.tuple #[v, goInt n]) := by
    intro v n hv
    refine ⟨by simp [plainV_map hv, goInt], fun n' => ?_⟩
    simp only [okV_tuple]
    intro x hx
    simp at hx
    rcases hx with rfl | rfl
    · exact plainV_ok hv
    · simp [goInt]
  split at hr
  · rename_i i v hf
    obtain ⟨hb, hr⟩ := cond_some hr
    rw [Bool.and_eq_true] at hb
    obtain ⟨f1, f2⟩ := findA_sound (w := w) hf
    obtain ⟨rfl, w', k1, k2, k3, k4⟩ := setMap_sound (P := P) H hg hfl (mem_modify (f := fun e => { e with key := k }) hes fun e he => ⟨hk, he.2⟩) hr
    refine ⟨φ, w', ?_, k2, k3, (tup v _ hb.2).2 _⟩
    rw [(tup v _ hb.2).1]
    have hks : (Instr.keyThatStays (((es[i]?).map (·.key)).getD k) k).run P w = .ok k w := by
      unfold Instr.keyThatStays
      rw [if_pos hb.1]; rfl
    simp [Instr.mapEntry, run_underlying hu, hget, f1, f2, hks, k1]
  · rename_i hf
    obtain ⟨f1, f2⟩ := findA_sound (w := w) hf
    obtain ⟨rfl, w', k1, k2, k3, k4⟩ := setMap_sound (P := P) H hg hfl (fun e he => by
      simp only [Array.toList_push, List.mem_append, List.mem_singleton] at he
      rcases he with he | rfl
      · exact hes e he
      · exact ⟨hk, hzp⟩) hr
    refine ⟨φ, w', ?_, k2, k3, (tup z _ hzp).2 _⟩
    rw [(tup z _ hzp).1]
    simp [Instr.mapEntry, run_underlying hu, hget, f1, f2, run_zero_of hz, k1]
  · simp at hr

theorem entryStoreA_sound (H : HRel φ h w) {t : TypeId} {m s x r : Value} {h' : AHeap} (hr : entryStoreA h m s x = some (r, h')) :
    r = undef ∧ ∃ w', (Instr.entryStore t (mapV φ m) (mapV φ s) (mapV φ x)).run P w = .ok () w' ∧ HRel φ h' w' ∧ Ext φ h w φ h' w' := by
  unfold entryStoreA at hr
  split at hr
  rotate_left
  · simp at hr
  rename_i r0 es c k born hm
  obtain ⟨rfl, hg⟩ := amap_some hm
  obtain ⟨hc, hr⟩ := cond_some hr
  simp only [Bool.and_eq_true, ble_iff] at hc
  obtain ⟨hx, hfl⟩ := hc
  have hget := run_getMap (P := P) H hg
  have hes := (H.live _ _ hg).2
  rw [plainV_map hx]
  split at hr
  · rename_i i hi
    obtain ⟨rfl, w', k1, k2, k3, k4⟩ := setMap_sound (P := P) H hg hfl (mem_modify (f := fun e => { e with val := x }) hes fun e he => ⟨he.1, hx⟩) hr
    refine ⟨rfl, w', ?_, k2, k3⟩
    simp [Instr.entryStore, hget, asInt, asIntOf, hi, k1]
  · simp at hr

theorem mapUpdateA_sound (H : HRel φ h w) {t kt e : TypeId} {m k x r : Value} {h' : AHeap} (hu : P.underlying t = some (.map kt e)) (hr : mapUpdateA P kt h m k x = some (r, h')) :
    r = undef ∧ ∃ w', (Instr.mapUpdate t (mapV φ m) (mapV φ k) (mapV φ x)).run P w = .ok () w' ∧ HRel φ h' w' ∧ Ext φ h w φ h' w' := by
  unfold mapUpdateA at hr
  split at hr
  rotate_left
  · simp at hr
  rename_i r0 es c hm
  obtain ⟨rfl, hg⟩ := amap_some hm
  obtain ⟨hc, hr⟩ := cond_some hr
  simp only [Bool.and_eq_true, ble_iff] at hc
  obtain ⟨⟨hk, hx⟩, hfl⟩ := hc
  have hget := run_getMap (P := P) H hg
  have hes := (H.live _ _ hg).2
  rw [plainV_map hk, plainV_map hx]
  split at hr
  · rename_i i v hf
    obtain ⟨hb, hr⟩ := cond_some hr
    obtain ⟨f1, f2⟩ := findA_sound (w := w) hf
    obtain ⟨rfl, w', k1, k2, k3, k4⟩ := setMap_sound (P := P) H hg hfl (mem_modify (f := fun e => { e with key := k, val := x }) hes fun e he => ⟨hk, hx⟩) hr
    refine ⟨rfl, w', ?_, k2, k3⟩
    have hks : (Instr.keyThatStays (((es[i]?).map (·.key)).getD k) k).run P w = .ok k w := by
      unfold Instr.keyThatStays
      rw [if_pos hb]; rfl
    simp [Instr.mapUpdate, run_underlying hu, hget, f1, f2, hks, k1]
  · rename_i hf
    obtain ⟨f1, f2⟩ := findA_sound (w := w) hf
    obtain ⟨rfl, w', k1, k2, k3, k4⟩ := setMap_sound (P := P) H hg hfl (fun e he => by
      simp only [Array.toList_push, List.mem_append, List.mem_singleton] at he
      rcases he with he | rfl
      · exact hes e he
      · exact ⟨hk, hx⟩) hr
    refine ⟨rfl, w', ?_, k2, k3⟩
    simp [Instr.mapUpdate, run_underlying hu, hget, f1, f2, k1]
  · simp at hr

/-! ### Numbers -/
theorem wrapF_eq (k : IntKind) (z : Int) : wrapF k z = k.wrap z := by
  unfold wrapF
  split
  · rename_i n
    by_cases hn : n < 9223372036854775808
    · rw [blt_iff.2 hn, cond_true]
      exact (IntWalk.i64_in _ (by simp; omega)).symm
    · rw [blt_false hn]; rfl
  · rfl
theorem ltI_eq (a b : Int) : ltI a b = decide (a < b) := by
  unfold ltI
  split
  · rename_i m n
    rw [Bool.eq_iff_iff, blt_iff]; simp
  · rfl
theorem eqI_eq (a b : Int) : eqI a b = decide (a = b) := by
  unfold eqI
  split
  · rename_i m n
    rw [Bool.eq_iff_iff, beq_iff, decide_eq_true_iff]
    exact ⟨fun h => by rw [h], fun h => Int.ofNat.inj h⟩
  · rfl
theorem sameK_eq {k k' : IntKind} (hk : sameK k k' = true) : k = k' := by
  unfold sameK at hk
  split at hk
  · rfl
  · simpa using hk
theorem run_eqGuard_int (op : BinOp) (t : TypeId) (x y : Operand) (k k' : IntKind) (a b : Int) : (eqGuard op t x y (.int k a) (.int k' b)).run P w = .ok () w := by
  unfold eqGuard
  split <;> rfl

/-- what 'execOp' does at a binary operation -/
def binSem (op : BinOp) (t : TypeId) (x y : Operand) (a b : Value) : Sem Value := do eqGuard op t x y a b; Go.binOp op t a b
theorem intTwo_sound {f : IntKind → Int → Int → Value} {alt : AHeap → Slots → Option (Value × AHeap)} {x y : FVal} {ts : Slots} {r : Value} {h' : AHeap} (hr : intTwo f alt x y h ts = some (r, h')) :
    (∃ k a b, x.get ts = .int k a ∧ y.get ts = .int k b ∧ r = f k a b ∧ h' = h) ∨ alt h ts = some (r, h') := by
  unfold intTwo at hr
  split at hr
  · rename_i k a k' b hx hy
    obtain ⟨hk, hr⟩ := cond_some hr
    simp only [Option.some.injEq, Prod.mk.injEq] at hr
    obtain ⟨rfl, rfl⟩ := hr
    have := sameK_eq hk
    subst this
    exact .inl ⟨k, a, b, hx, hy, rfl, rfl⟩
  · exact .inr hr

theorem plainRun_sound (H : HRel φ h w) {o : Oper} {ts : Slots} {ρ : Operand → Value} {r : Value} {h' : AHeap} (hs : ∀ cs b, o.op ≠ .select cs b) (hρ : ∀ x ∈ o.op.operands.toList, OpRel φ h.next ts ρ x) (hr : plainRun P o h ts = some (r, h')) :
    OpDone P (execOp ρ o) φ h w r h' := by
  unfold plainRun at hr
  obtain ⟨hp, hr⟩ := cond_some hr
  rw [allB_iff] at hp
  split at hr
  · rename_i v hv
    obtain ⟨hpv, hr⟩ := cond_some hr
    simp only [Option.some.injEq, Prod.mk.injEq] at hr
    obtain ⟨rfl, rfl⟩ := hr
    have hcongr : execOp ρ o = execOp (fun x => (cval x).get ts) o := execOp_congr o hs fun x hx => by
      rw [(hρ x (by simpa using hx)).1, plainV_map (hp x (by simpa using hx))]
    have hrun : pureRun P (execOp (fun x => (cval x).get ts) o) = some (.value v) := by
      unfold valueOnly at hv
      split at hv
      · rename_i heq; simp only [Option.some.injEq] at hv; subst hv; exact heq
      · simp at hv
    refine OpDone.same H ?_ (plainV_ok hpv)
    rw [hcongr, pureRun_sound _ _ hrun w, plainV_map hpv]
  · simp at hr

end Go.Vm
