/- A text of the proofs of this seat: an evaluator of the model's code, its soundness, and what it has run. -/
import Derived.Test.YtjbbefkbbagdfaaVmCode
import Derived.RangeFuncRecord
import Derived.Laws.Sem
namespace Go.Vm
variable {P : Program}

section scope
variable {b : Frame} {a : Act} {k : List Item} {cs : List Frame} {w : World} {F : Fence} {n : Nat} {Q : Exit → Act → World → Prop}
theorem stepR_scope' {c : Code} : step P (lone (b.atR a (.code (.scope c) :: k)) cs w) = .next (lone (b.atR a (.code c :: .inScope c :: k)) cs w) :=
  step_lone_go (by simp [stepG, stepG.exec, Frame.atR])
theorem stepR_inScope' {c : Code} : step P (lone (b.atR a (.inScope c :: k)) cs w) = .next (lone (b.atR a k) cs w) :=
  step_lone_go (by simp [stepG, stepG.exec, Frame.atR])
theorem wpIn_scope' {c : Code} (h : c.wpIn F n P (Exit.noGoto Q) a w) : (Code.scope c).wpIn F n P Q a w := by
  intro b k cs hro hb hr
  have h0 : (lone (b.atR a (.code (.scope c) :: k)) cs w).fenced P F := fenced_calm hb hr rfl
  obtain ⟨e, a₁, w₁, hq, harr⟩ := h b (.inScope c :: k) cs hro hb hr
  cases e with
  | normal => exact ⟨.normal, a₁, w₁, hq, .head h0 stepR_scope' (StepsIn.trans harr (.one (fenced_calm hb hr rfl) stepR_inScope'))⟩
  | exit id =>
    have hx : exitTo id (.inScope c :: k) = exitTo id k := by simp [exitTo]
    exact ⟨.exit id, a₁, w₁, hq, fun k' hk => .head h0 stepR_scope' (harr.1 k' (by rw [hx]; exact hk)),
      fun hr' hk => let ⟨k₁, h1, h2⟩ := harr.2 hr' (by rw [hx]; exact hk); ⟨k₁, h1, .head h0 stepR_scope' h2⟩⟩
  | goto l => exact hq.elim
  | ret => exact ⟨_, a₁, w₁, hq, .of_steps (.one h0 stepR_scope') harr⟩
  | panic ch => exact ⟨_, a₁, w₁, hq, .of_steps (.one h0 stepR_scope') harr⟩
  | outgrown => exact ⟨_, a₁, w₁, hq, .of_steps (.one h0 stepR_scope') harr⟩
end scope

def exitOf : Ex → Exit
  | .norm => .normal
  | .exit i => .exit i
  | .ret => .ret

/-- what is asked of the regions that draw their order -/
def DrawSound (P : Program) (cf : CallF) : Prop :=
  ∀ (ops : Array Oper) (s s' : St) (φ : Emb) (a : Act) (w : World) (ro : Option Nat) (Q : Exit → Act → World → Prop), (cdraw P ops).run cf s = some s' → StRel φ s a w →
    (∀ φ' a' w', StRel φ' s' a' w' → Ext φ s.heap w φ' s'.heap w' → Q .normal a' w') → wpAnyIn (Wf ro) 0 P .any ops Q ops.size (Array.replicate ops.size false) a w

theorem StRel.congr {φ : Emb} {s : St} {a : Act} {w w' : World} (h : StRel φ s a w) (e : w'.heap = w.heap) : StRel φ s a w' := ⟨h.tmps, h.heap.congr e, h.marks, h.below⟩

def AroundOk (φ : Emb) (s : St) (ar ro : Option Nat) : Prop := (∀ l, ar = some l → ro = some (φ.at_ l).block ∧ l < s.heap.next) ∧ (ar = none → ro = none)
theorem AroundOk.ext {φ φ' : Emb} {s s' : St} {ar ro : Option Nat} {w w' : World} (h : AroundOk φ s ar ro) (e : Ext φ s.heap w φ' s'.heap w') : AroundOk φ' s' ar ro :=
  ⟨fun l hl => ⟨by rw [(e.agree l (h.1 l hl).2).1]; exact (h.1 l hl).1, Nat.lt_of_lt_of_le (h.1 l hl).2 e.next⟩, h.2⟩

def Post (φ : Emb) (s : St) (w : World) (s' : St) (e : Ex) (Q : Exit → Act → World → Prop) : Prop :=
  ∀ φ' a' w', StRel φ' s' a' w' → Ext φ s.heap w φ' s'.heap w' → Q (exitOf e) a' w'

theorem exitOf_then {K : Act → World → Prop} {Q : Exit → Act → World → Prop} {e : Ex} (he : e ≠ .norm) (a : Act) (w : World) : Exit.then K Q (exitOf e) a w = Q (exitOf e) a w := by
  cases e <;> first | exact absurd rfl he | rfl

/-- behind the one call of a range over a function -/
theorem endRange_sound {φ : Emb} {h : AHeap} {w : World} {l : Nat} {s s' : St} {e : Ex} {a : Act} {Q : Exit → Act → World → Prop} {ro : Option Nat} (H : HRel φ h w) (hr : endRange l s h = some (e, s'))
    (ht : SRel φ h.next s.tmps a.tmps) (hm : a.defers = s.marks.map (markOf φ)) (hb : ∀ d ∈ s.marks, d < h.next)
    (hQ : ∀ φ' a' w', StRel φ' s' a' w' → Ext φ h w φ' s'.heap w' → Q (exitOf e) a' w') (v : Value) :
    rangePost (Wf ro) 0 P (φ.at_ l).block Q a (.returned v) w := by
  unfold endRange at hr
  obtain ⟨hf, hr⟩ : h.floor ≤ l ∧ _ := by
    cases hf : Nat.ble h.floor l with
    | false => simp [hf] at hr
    | true => rw [hf] at hr; exact ⟨ble_iff.1 hf, hr⟩
  simp only [Bool.not_true, cond_false] at hr
  split at hr
  · rename_i r hg
    obtain ⟨fn, tm, h1, h2, h3⟩ := H.live _ _ hg
    have main : r.state ≠ .busy → ∃ w4, (Instr.endLoop (φ.at_ l).block).run P w = .ok r.pending w4 ∧ HRel φ (h.with l (some (.loop { r with state := .exhausted }))) w4 ∧
        Ext φ h w φ (h.with l (some (.loop { r with state := .exhausted }))) w4 := by
      intro hbusy
      have hlt := (H.live _ _ hg).lt
      refine ⟨_, run_endLoop h1 hbusy, ?_⟩
      exact HRel.turn H hg rfl hf World.putObj_size (fun b hb => World.putObj_heap_other hb) ⟨fn, tm, World.putObj_heap_same hlt, h2, h3⟩
    have fin : ∀ w4, HRel φ (h.with l (some (.loop { r with state := .exhausted }))) w4 → StRel φ ⟨s.tmps, h.with l (some (.loop { r with state := .exhausted })), s.marks⟩ a w4 :=
      fun w4 k => ⟨ht, k, hm, hb⟩
    split at hr
    · simp at hr
    · rename_i hp hbusy
      rw [AHeap.put_eq] at hr
      simp only [Option.some.injEq, Prod.mk.injEq] at hr
      obtain ⟨rfl, rfl⟩ := hr
      obtain ⟨w4, k1, k2, k3⟩ := main (by intro e; exact hbusy e)
      rw [hp] at k1
      exact ⟨none, w4, k1, hQ φ a w4 (fin w4 k2) k3⟩
    · rename_i i hp hbusy
      rw [AHeap.put_eq] at hr
      simp only [Option.some.injEq, Prod.mk.injEq] at hr
      obtain ⟨rfl, rfl⟩ := hr
      obtain ⟨w4, k1, k2, k3⟩ := main (by intro e; exact hbusy e)
      rw [hp] at k1
      exact ⟨some (.exit i), w4, k1, wpIn_exit (hQ φ a w4 (fin w4 k2) k3)⟩
    · rename_i hp hbusy
      rw [AHeap.put_eq] at hr
      simp only [Option.some.injEq, Prod.mk.injEq] at hr
      obtain ⟨rfl, rfl⟩ := hr
      obtain ⟨w4, k1, k2, k3⟩ := main (by intro e; exact hbusy e)
      rw [hp] at k1
      exact ⟨some .ret, w4, k1, wpIn_ret (hQ φ a w4 (fin w4 k2) k3)⟩
    · simp at hr
  · simp at hr

theorem thenDo_some {r : Option (Ex × St)} {k : St → Option (Ex × St)} {e : Ex} {s' : St} (h : thenDo r k = some (e, s')) :
    (∃ s1, r = some (.norm, s1) ∧ k s1 = some (e, s')) ∨ (e ≠ .norm ∧ r = some (e, s')) := by
  unfold thenDo at h
  split at h
  · exact .inl ⟨_, rfl, h⟩
  · cases h; exact .inr ⟨by simp, rfl⟩
  · cases h; exact .inr ⟨by simp, rfl⟩
  · simp at h

/-- a range over a function, its record laid -/
theorem rangeIn_sound {cf : CallF} (hcf : SoundCF P cf) (hP : NamesFine P) {φ : Emb} {f : Value} {s s' : St} {r : ALoop} {h : AHeap} {w : World} {e : Ex} {a a0 : Act} {Q : Exit → Act → World → Prop} {ro : Option Nat} {fn : FuncId} {g : Operand}
    (hr : rangeIn cf f s r h = some (e, s')) (H : HRel φ h w) (hf : okV φ h.next f) (hg : a0.eval g = mapV φ f) (hrt : SRel φ h.next r.tmps a.tmps) (hrd : r.defers < h.next)
    (ht : SRel φ h.next s.tmps a.tmps) (hm : a.defers = s.marks.map (markOf φ)) (hb : ∀ d ∈ s.marks, d < h.next)
    (hQ : ∀ φ' a' w', StRel φ' s' a' w' → Ext φ h w φ' s'.heap w' → Q (exitOf e) a' w') :
    ∃ (d : Deferred) (w₁' : World) (f : FuncId) (args : Array Value) (w₂ : World),
      (resolve a0.eval (rangeCall g w.heap.size) 0).run P (w.alloc (loopObj φ fn a.tmps r)) = .ok d w₁' ∧
      (invoke d.target d.args).run P w₁' = .ok (.enter f args) w₂ ∧
      CallsIn (Wf ro) 0 P f args w₂ (rangePost (Wf ro) 0 P w.heap.size Q a) := by
  unfold rangeIn at hr
  split at hr
  · rename_i g' xs ys
    obtain ⟨hfar, hr⟩ := AHeap.push_eq hr
    split at hr
    · rename_i v h2 hc
      have hobj : ORel (φ.put h.next ⟨w.heap.size, 0, none⟩ 0) (h.next + 1) (w.alloc (loopObj φ fn a.tmps r)) h.next (.loop r) := by
        have hag := φ.put_agree h.next ⟨w.heap.size, 0, none⟩ 0
        refine ⟨fn, a.tmps, ?_, hrt.agree hag (Nat.le_succ _), by omega⟩
        rw [Emb.put_at]
        show (w.alloc (loopObj φ fn a.tmps r)).heap[w.heap.size]? = _
        rw [World.alloc_heap_new]
        unfold loopObj
        rw [(hag _ hrd).1]
      obtain ⟨H1, E1⟩ := HRel.push H hfar (.loop r) (loopObj φ fn a.tmps r) 0 hobj
      have hat : ((φ.put h.next ⟨w.heap.size, 0, none⟩ 0).at_ h.next).block = w.heap.size := by rw [Emb.put_at]
      generalize φ.put h.next ⟨w.heap.size, 0, none⟩ 0 = φ1 at H1 E1 hobj hat
      have hn1 : (h.more (some (.loop r))).next = h.next + 1 := rfl
      have hargs : ∀ x ∈ [Value.func (.yield h.next) #[] #[]], okV φ1 (h.more (some (.loop r))).next x := by
        intro x hx
        simp only [List.mem_singleton] at hx
        subst hx
        simp [okV, okFn, okA, okL, hn1]
      have hfv := mapV_agree E1.agree E1.next _ hf
      have hcall := hcf _ _ _ _ _ hc φ1 _ H1 hfv.2 hargs
      obtain ⟨⟨fn', k1, k2⟩, hcall⟩ := hcall
      have hres : (resolve a0.eval (rangeCall g w.heap.size) 0).run P (w.alloc (loopObj φ fn a.tmps r)) = (Deferred.ofValue (a0.eval g) #[Value.func (.yield w.heap.size) #[] #[]]).run P (w.alloc (loopObj φ fn a.tmps r)) := by
        simp [resolve, Act.eval]
      rw [hg] at hres
      simp only [mapV_func, mapFn] at hres
      refine ⟨⟨.fn (.func g') (ys.map (mapV φ)), xs.map (mapV φ) ++ #[Value.func (.yield w.heap.size) #[] #[]]⟩, w.alloc (loopObj φ fn a.tmps r), g', (xs.map (mapV φ) ++ #[Value.func (.yield w.heap.size) #[] #[]]) ++ ys.map (mapV φ), w.alloc (loopObj φ fn a.tmps r), hres.trans (by simp [Deferred.ofValue]), ?_, ?_⟩
      · exact run_callFunc hP k1 k2 _
      · simp only [mapV_func, mapFn] at hfv
        have hx : xs.map (mapV φ1) = xs.map (mapV φ) ∧ ys.map (mapV φ1) = ys.map (mapV φ) := by
          have := hfv.1
          injection this with _ h1 h2
          exact ⟨h1, h2⟩
        have hA : (List.map (mapV φ1) (xs.toList ++ ([Value.func (.yield h.next) #[] #[]] ++ ys.toList))).toArray = (xs.map (mapV φ) ++ #[Value.func (.yield w.heap.size) #[] #[]]) ++ ys.map (mapV φ) := by
          rw [← hx.1, ← hx.2]
          apply Array.ext'
          simp [mapV_func, mapFn, hat]
        rw [hA] at hcall
        refine CallsIn.mono (callsIn_wf hcall) fun en w' hen => ?_
        obtain ⟨φ', rfl, q1, q2, q3⟩ := hen
        have q0 := E1.trans q2
        have := endRange_sound (P := P) (ro := ro) (Q := Q) q1 hr (ht.agree q0.agree q0.next) (by rw [marks_agree q0.agree hb]; exact hm) (fun d hd => Nat.lt_of_lt_of_le (hb d hd) q0.next)
          (fun φ'' a' w'' p1 p2 => hQ φ'' a' w'' p1 (q0.trans p2)) (mapV φ' v)
        rw [(q2.agree h.next (by rw [hn1]; omega)).1, hat] at this
        exact this
    · simp at hr
  · simp at hr

theorem code_sound (hP : NamesFine P) (hm : P.follows .mixedOrders = true) {cf : CallF} (hcf : SoundCF P cf) (hd : DrawSound P cf) {fn m : Nat} {ar : Option Nat} : ∀ (c : Code) {s : St} {e : Ex} {s' : St} {φ : Emb} {a : Act} {w : World} {ro : Option Nat} {Q : Exit → Act → World → Prop},
    (ccode P c).run cf fn ar m s = some (e, s') → StRel φ s a w → AroundOk φ s ar ro → Post φ s w s' e Q → c.wpIn (Wf ro) 0 P Q a w := by
  intro c
  induction c with
  | skip =>
    intro s e s' φ a w ro Q hr hs ha hQ
    simp only [ccode, Option.some.injEq, Prod.mk.injEq] at hr
    obtain ⟨rfl, rfl⟩ := hr
    exact wpIn_skip (hQ φ a w hs (Ext.refl _ _ _))
  | label l =>
    intro s e s' φ a w ro Q hr hs ha hQ
    simp only [ccode, Option.some.injEq, Prod.mk.injEq] at hr
    obtain ⟨rfl, rfl⟩ := hr
    exact wpIn_label (hQ φ a w hs (Ext.refl _ _ _))
  | exit i =>
    intro s e s' φ a w ro Q hr hs ha hQ
    simp only [ccode, Option.some.injEq, Prod.mk.injEq] at hr
    obtain ⟨rfl, rfl⟩ := hr
    exact wpIn_exit (hQ φ a w hs (Ext.refl _ _ _))
  | ret =>
    intro s e s' φ a w ro Q hr hs ha hQ
    simp only [ccode, Option.some.injEq, Prod.mk.injEq] at hr
    obtain ⟨rfl, rfl⟩ := hr
    exact wpIn_ret (hQ φ a w hs (Ext.refl _ _ _))
  | goto l =>
    intro s e s' φ a w ro Q hr hs ha hQ
    simp [ccode] at hr
  | refuse l =>
    intro s e s' φ a w ro Q hr hs ha hQ
    simp [ccode] at hr
  | region id ops draw =>
    intro s e s' φ a w ro Q hr hs ha hQ
    cases draw with
    | false =>
      simp only [ccode, cond_false, normal] at hr
      split at hr
      · rename_i s1 hc
        simp only [Option.some.injEq, Prod.mk.injEq] at hr
        obtain ⟨rfl, rfl⟩ := hr
        refine wpIn_region ?_
        have := cops_sound (P := P) hP hcf (ops := ops) (ro := ro) (Q := Q) ops.toList 0 (by intro j; simp) s s1 φ a w hc hs (fun φ' a' w' h1 h2 => hQ φ' a' w' h1 h2)
        simpa using this
      · simp at hr
    | true =>
      simp only [ccode, cond_true, normal] at hr
      split at hr
      · rename_i s1 hc
        simp only [Option.some.injEq, Prod.mk.injEq] at hr
        obtain ⟨rfl, rfl⟩ := hr
        exact wpIn_region_any hm (hd ops s s1 φ a _ ro Q hc (hs.congr rfl) fun φ' a' w' h1 h2 => hQ φ' a' w' h1 (h2.congr rfl))
      · simp at hr
  | seq x y ihx ihy =>
    intro s e s' φ a w ro Q hr hs ha hQ
    simp only [ccode] at hr
    rcases thenDo_some hr with ⟨s1, h1, h2⟩ | ⟨he, h1⟩
    · exact wpIn_seq (ihx h1 hs ha fun φ1 a1 w1 q1 q2 => ihy h2 q1 (ha.ext q2) fun φ' a' w' p1 p2 => hQ φ' a' w' p1 (q2.trans p2))
    · exact wpIn_seq (ihx h1 hs ha fun φ1 a1 w1 q1 q2 => by rw [exitOf_then he]; exact hQ φ1 a1 w1 q1 q2)
  | cond o x y ihx ihy =>
    intro s e s' φ a w ro Q hr hs ha hQ
    cases hf : fineOp o with
    | false => simp [ccode, hf] at hr
    | true =>
      simp only [ccode, hf, Bool.not_true, cond_false] at hr
      have ho := (opRel_of hs.tmps hf).1
      unfold branch at hr
      split at hr
      · rename_i hv
        rw [hv] at ho
        simp only [mapV_bool] at ho
        exact wpIn_cond_true ho (ihx hr hs ha hQ)
      · rename_i hv
        rw [hv] at ho
        simp only [mapV_bool] at ho
        exact wpIn_cond_false ho (ihy hr hs ha hQ)
      · simp at hr
  | block id b ih =>
    intro s e s' φ a w ro Q hr hs ha hQ
    simp only [ccode, inBlock] at hr
    split at hr
    · rename_i s1 h1
      simp only [Option.some.injEq, Prod.mk.injEq] at hr
      obtain ⟨rfl, rfl⟩ := hr
      exact wpIn_block (ih h1 hs ha hQ)
    · rename_i i s1 h1
      cases hi : Nat.beq i id with
      | true =>
        simp only [hi, cond_true, Option.some.injEq, Prod.mk.injEq] at hr
        obtain ⟨rfl, rfl⟩ := hr
        refine wpIn_block (ih h1 hs ha fun φ1 a1 w1 q1 q2 => ?_)
        simp only [exitOf, Exit.inBlock, beq_iff.1 hi, if_true]
        exact hQ φ1 a1 w1 q1 q2
      | false =>
        simp only [hi, cond_false, Option.some.injEq, Prod.mk.injEq] at hr
        obtain ⟨rfl, rfl⟩ := hr
        refine wpIn_block (ih h1 hs ha fun φ1 a1 w1 q1 q2 => ?_)
        have hne : i ≠ id := fun e => by rw [beq_iff.2 e] at hi; cases hi
        simp only [exitOf, Exit.inBlock, hne, if_false]
        exact hQ φ1 a1 w1 q1 q2
    · rename_i s1 h1
      simp only [Option.some.injEq, Prod.mk.injEq] at hr
      obtain ⟨rfl, rfl⟩ := hr
      exact wpIn_block (ih h1 hs ha hQ)
    · simp at hr
  | scope b ih =>
    intro s e s' φ a w ro Q hr hs ha hQ
    simp only [ccode] at hr
    refine wpIn_scope' (ih hr hs ha fun φ1 a1 w1 q1 q2 => ?_)
    have := hQ φ1 a1 w1 q1 q2
    cases e <;> exact this
  | loop b ih =>
    intro s e s' φ a w ro Q hr hs ha hQ
    simp only [ccode] at hr
    refine wpIn_loop_rounds m ?_
    have key : ∀ k {s φ a w}, loopN (fun s => (ccode P b).run cf fn ar m s) k s = some (e, s') → StRel φ s a w → AroundOk φ s ar ro → Post φ s w s' e Q → Code.roundsIn (Wf ro) 0 P b Q k a w := by
      intro k
      induction k with
      | zero => intro s φ a w hr; simp [loopN] at hr
      | succ k ihk =>
        intro s φ a w hr hs ha hQ
        simp only [loopN] at hr
        rw [roundsIn_succ]
        rcases thenDo_some hr with ⟨s1, h1, h2⟩ | ⟨he, h1⟩
        · exact ih h1 hs ha fun φ1 a1 w1 q1 q2 => ihk h2 q1 (ha.ext q2) fun φ' a' w' p1 p2 => hQ φ' a' w' p1 (q2.trans p2)
        · exact ih h1 hs ha fun φ1 a1 w1 q1 q2 => by rw [exitOf_then he]; exact hQ φ1 a1 w1 q1 q2
    exact key m hr hs ha hQ
  | rangeFunc f params assign body ih1 ih2 =>
    intro s e s' φ a w ro Q hr hs ha hQ
    cases hf : fineOp f with
    | false => simp [ccode, hf] at hr
    | true =>
      simp only [ccode, hf, Bool.not_true, cond_false] at hr
      have ho := opRel_of hs.tmps hf
      refine wpIn_rangeFunc fun fn' _ => ?_
      unfold rangeA at hr
      cases ar with
      | some l =>
        obtain ⟨hro, hlt⟩ := ha.1 l rfl
        simp only at hr
        split at hr
        · rename_i r hg
          obtain ⟨fn2, tm, h1, h2, h3⟩ := hs.heap.live _ _ hg
          obtain ⟨d, w₁', g, args, w₂, k1, k2, k3⟩ := rangeIn_sound (P := P) (a := a) (a0 := a) (g := f) (fn := fn') (Q := Q) (ro := ro) hcf hP hr hs.heap ho.2 ho.1 hs.tmps h3 hs.tmps hs.marks hs.below hQ
          refine ⟨w.heap.size, [], w.alloc (loopObj φ fn' a.tmps _), d, w₁', g, args, w₂, ?_, k1, fun _ _ => trivial, k2, fun h => by simp [Wf, Fence.wide] at h, k3⟩
          show (Instr.enterLoop fn' a.tmps params assign body ro).run P w = _
          rw [hro]
          unfold Instr.enterLoop loopObj
          simp only [Sem.run_bind, run_getLoop h1, run_newObj_alloc, Result.andThen, Sem.run_pure]
        · simp at hr
      | none =>
        have hro := ha.2 rfl
        subst hro
        simp only at hr
        obtain ⟨hfar, hr⟩ := AHeap.push_eq hr
        have hobj : ORel (φ.put s.heap.next ⟨w.heap.size, 0, none⟩ 0) (s.heap.next + 1) (w.alloc (.deferred (some []))) s.heap.next .deferred := by
          show (w.alloc _).heap[_]? = _
          rw [Emb.put_at]
          exact World.alloc_heap_new _ _
        obtain ⟨H1, E1⟩ := HRel.push hs.heap hfar .deferred (.deferred (some [])) 0 hobj
        have hat : ((φ.put s.heap.next ⟨w.heap.size, 0, none⟩ 0).at_ s.heap.next).block = w.heap.size := by rw [Emb.put_at]
        have hn1 : (s.heap.more (some .deferred)).next = s.heap.next + 1 := rfl
        generalize φ.put s.heap.next ⟨w.heap.size, 0, none⟩ 0 = φ1 at H1 E1 hobj hat
        have ht1 := hs.tmps.agree E1.agree E1.next
        have ho1 := mapV_agree E1.agree E1.next _ ho.2
        obtain ⟨d, w₁', g, args, w₂, k1, k2, k3⟩ := rangeIn_sound (P := P) (a := { a with defers := [markOf φ1 s.heap.next] ++ a.defers }) (a0 := a) (g := f) (fn := fn') (Q := Q) (ro := none) hcf hP hr H1 ho1.2 (ho.1.trans ho1.1.symm) ht1 (by rw [hn1]; exact Nat.lt_succ_self _) ht1
          (by show [markOf φ1 s.heap.next] ++ a.defers = _; rw [List.map_cons, marks_agree E1.agree hs.below, hs.marks]; rfl)
          (by intro d hd; rcases List.mem_cons.1 hd with rfl | hd
              · rw [hn1]; exact Nat.lt_succ_self _
              · exact Nat.lt_of_lt_of_le (hs.below d hd) E1.next)
          (fun φ' a' w' p1 p2 => hQ φ' a' w' p1 (E1.trans p2))
        refine ⟨w.heap.size + 1, [markOf φ1 s.heap.next], (w.alloc (.deferred (some []))).alloc (loopObj φ1 fn' a.tmps { state := .ready, pending := none, fn, tmps := s.tmps, params, assign, body, defers := s.heap.next }), d, w₁', g, args, w₂, ?_, ?_, fun _ _ => trivial, k2, fun h => by simp [Wf, Fence.wide] at h, ?_⟩
        · show (Instr.enterLoop fn' a.tmps params assign body none).run P w = _
          rw [run_enterLoop_outer]
          unfold markOf loopObj
          rw [hat]
        · have : (w.alloc (.deferred (some []))).heap.size = w.heap.size + 1 := World.size_alloc ..
          rw [this] at k1
          exact k1
        · have : (w.alloc (.deferred (some []))).heap.size = w.heap.size + 1 := World.size_alloc ..
          rw [this] at k3
          exact k3

end Go.Vm
