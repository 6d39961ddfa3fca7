/- A text of the proofs of this seat: an evaluator of the model's code, its soundness, and what it has run. -/
import Derived.Test.YtjbbefkbbagdfaaVmOps7
import Derived.LoopNIn
import Derived.RangeFuncCalls
import Derived.RangeFuncLeaves
import Derived.Scope
namespace Go.Vm
variable {P : Program} {φ : Emb} {h : AHeap} {w : World}

/-- the fence that lets everything in; in a round of a range over a function, or in none -/
def Wf (ro : Option Nat) : Fence := { Fence.wide with round := ro }
theorem wf_fn (ro : Option Nat) (f : FuncId) : (Wf ro).fn f := trivial
theorem wf_depth (ro : Option Nat) : (Wf ro).depth.isSome = true → 1 ≤ 0 := fun h => by simp [Wf, Fence.wide] at h
theorem callsIn_wf {n : Nat} {f : FuncId} {args : Array Value} {R : Ending → World → Prop} {ro : Option Nat} (hc : CallsIn Fence.wide n P f args w R) : CallsIn (Wf ro) n P f args w R := hc
theorem roundIn_wf {n : Nat} {l : Nat} {f : FuncId} {tm : Array Value} {x y : Code} {R : Ending → World → Prop} {ro : Option Nat} (hc : RoundIn Fence.wide n P l f tm x y w R) : RoundIn (Wf ro) n P l f tm x y w R := hc

def CPost (φ : Emb) (h : AHeap) (w : World) (r : Value) (h' : AHeap) : Ending → World → Prop :=
  fun e w' => ∃ φ', e = .returned (mapV φ' r) ∧ HRel φ' h' w' ∧ Ext φ h w φ' h' w' ∧ okV φ' h'.next r

def CallOk (P : Program) (fv : Value) (args : List Value) (φ : Emb) (h : AHeap) (w : World) (r : Value) (h' : AHeap) : Prop :=
  match fv with
  | .func (.func f) a b => (∃ fn, P.funcs[f]? = some fn ∧ fn.body.isSome = true) ∧ CallsIn Fence.wide 0 P f ((a.toList ++ (args ++ b.toList)).map (mapV φ)).toArray w (CPost φ h w r h')
  | .func (.yield l) a b => a = #[] ∧ b = #[] ∧ ∃ lp fn tm, h.get l = some (.loop lp) ∧ args.length = lp.params.size ∧ w.heap[(φ.at_ l).block]? = some (loopObj φ fn tm lp) ∧
      RoundIn Fence.wide 0 P (φ.at_ l).block fn ((lp.params.toList.zip (args.map (mapV φ))).foldl (fun tmps (p : Tmp × Value) => tmps.setIfInBounds p.1 p.2) tm) lp.assign lp.body w (CPost φ h w r h')
  | _ => False

/-- what is asked of the calls -/
def SoundCF (P : Program) (cf : CallF) : Prop :=
  ∀ fv args h r h', cf fv args h = some (r, h') → ∀ φ w, HRel φ h w → okV φ h.next fv → (∀ a ∈ args, okV φ h.next a) → CallOk P fv args φ h w r h'

/-- what is asked of the program -/
def NamesFine (P : Program) : Prop := ∀ (f : FuncId) (fn : Func), P.funcs[f]? = some fn → (fn.name == "runtime.NumGoroutine") = false

def markOf (φ : Emb) (d : Nat) : Deferred := { target := .collected (φ.at_ d).block, args := #[] }
structure StRel (φ : Emb) (s : St) (a : Act) (w : World) : Prop where
  tmps : SRel φ s.heap.next s.tmps a.tmps
  heap : HRel φ s.heap w
  marks : a.defers = s.marks.map (markOf φ)
  below : ∀ d ∈ s.marks, d < s.heap.next

theorem marks_agree {n : Nat} {φ' : Emb} (ha : Agree n φ φ') {l : List Nat} (hl : ∀ d ∈ l, d < n) : l.map (markOf φ') = l.map (markOf φ) :=
  List.map_congr_left fun d hd => by unfold markOf; rw [(ha d (hl d hd)).1]

theorem run_callFunc (hP : NamesFine P) {f : FuncId} {fn : Func} (hf : P.funcs[f]? = some fn) (hb : fn.body.isSome = true) (args : Array Value) : (callFunc f args).run P w = .ok (.enter f args) w := by
  unfold NamesFine at hP
  have hn := hP f fn hf
  have hn' : fn.name ≠ "runtime.NumGoroutine" := by simpa using hn
  have hb' : ¬ fn.body = none := by intro h; simp [h] at hb
  simp [callFunc, program, Sem.run, hf, hn', hb']

theorem run_value_func (hP : NamesFine P) {f : FuncId} {fn : Func} (hf : P.funcs[f]? = some fn) (hb : fn.body.isSome = true) (a b args : Array Value) :
    (do let d ← Deferred.ofValue (.func (.func f) a b) args; invoke d.target d.args : Sem Next).run P w = .ok (.enter f (a ++ args ++ b)) w := by
  simp [Deferred.ofValue, invoke, run_callFunc hP hf hb]

theorem run_value_yield {l : Nat} {r : Loop} (hl : w.heap[l]? = some (.loop r)) (args : Array Value) (hs : args.size = r.params.size) :
    (do let d ← Deferred.ofValue (.func (.yield l) #[] #[]) args; invoke d.target d.args : Sem Next).run P w =
      .ok (.round l r.fn ((r.params.zip args).foldl (fun tmps (t, a) => tmps.setIfInBounds t a) r.tmps) r.assign r.body) w := by
  simp [Deferred.ofValue, invoke, Instr.yield, Instr.getLoop, getObj, Sem.run, hl, hs]

/-- one operation of a region -/
theorem opc_sound' (hP : NamesFine P) {cf : CallF} (hcf : SoundCF P cf) {ts : Slots} {a : Act} {o : Oper} {v : Value} {h' : AHeap} {ro : Option Nat} (H : HRel φ h w) (hs : ∀ x ∈ o.op.operands.toList, fineOp x = true → OpRel φ h.next ts a.eval x)
    (hr : (copc P o).run cf h ts = some (v, h')) {K : Act → World → Prop} {Q : Exit → Act → World → Prop}
    (hK : ∀ φ' w', HRel φ' h' w' → Ext φ h w φ' h' w' → okV φ' h'.next v → K (a.put o.dst (mapV φ' v)) w') : o.wpIn (Wf ro) 0 P a w K Q := by
  refine ⟨fun _ _ => trivial, ?_⟩
  unfold copc at hr
  cases hfine : allB fineOp o.op.operands.toList with
  | false => simp [hfine] at hr
  | true =>
    simp only [hfine, Bool.not_true, cond_false] at hr
    rw [allB_iff] at hfine
    have hρ : ∀ x ∈ o.op.operands.toList, OpRel φ h.next ts a.eval x := fun x hx => hs x hx (hfine x hx)
    split at hr
    · rename_i f args argTypes hop
      simp only [seqEs_eq] at hr
      have hdef : ∀ c, o.op ≠ .defer c := fun c e => by rw [hop] at e; cases e
      rw [Oper.semAt_eq _ _ _ hdef]
      have hfv := hρ f (by rw [hop]; simp [Op.operands, Call.operands])
      have hargs : ∀ x ∈ args.toList, OpRel φ h.next ts a.eval x := fun x hx => hρ x (by rw [hop]; simp only [Op.operands, Call.operands]; simp; exact .inr (by simpa using hx))
      have hvals : (args.map a.eval) = (((cvals args.toList).get ts).map (mapV φ)).toArray := by
        rw [cvals_get]
        apply Array.ext'
        simp only [Array.toList_map, List.map_map]
        exact List.map_congr_left fun x hx => (hargs x hx).1
      have hok : ∀ x ∈ (cvals args.toList).get ts, okV φ h.next x := by
        rw [cvals_get]
        intro x hx
        obtain ⟨y, hy, rfl⟩ := List.mem_map.1 hx
        exact (hargs y hy).2
      have hc := hcf _ _ _ _ _ hr φ w H hfv.2 hok
      have hexec : execOp a.eval o = (do let d ← Deferred.ofValue (mapV φ ((cval f).get ts)) (((cvals args.toList).get ts).map (mapV φ)).toArray; invoke d.target d.args) := by
        unfold execOp
        rw [hop]
        simp only [resolve, hvals, hfv.1]
      rw [hexec]
      generalize (cval f).get ts = fv at hc
      generalize (cvals args.toList).get ts = as at hc
      unfold CallOk at hc
      split at hc
      · rename_i g x y
        obtain ⟨⟨fn, h1, h2⟩, hc⟩ := hc
        simp only [mapV_func, mapFn]
        rw [run_value_func hP h1 h2]
        refine ⟨wf_depth ro, callsIn_wf ?_⟩
        have hA : (x.map (mapV φ) ++ (as.map (mapV φ)).toArray ++ y.map (mapV φ)) = ((x.toList ++ (as ++ y.toList)).map (mapV φ)).toArray := by
          apply Array.ext'; simp
        rw [hA]
        refine CallsIn.mono hc fun e w' he => ?_
        obtain ⟨φ', rfl, k1, k2, k3⟩ := he
        exact hK φ' w' k1 k2 k3
      · rename_i l x y
        obtain ⟨rfl, rfl, lp, fn, tm, h1, h2, h3, hc⟩ := hc
        simp only [mapV_func, mapFn, Array.map_empty]
        unfold loopObj at h3
        rw [run_value_yield h3 _ (by simpa using h2)]
        refine ⟨wf_depth ro, roundIn_wf ?_⟩
        have hz : ((lp.params.zip (as.map (mapV φ)).toArray).foldl (fun tmps (x : Tmp × Value) => match x with | (t, a) => tmps.setIfInBounds t a) tm) = (lp.params.toList.zip (as.map (mapV φ))).foldl (fun tmps (p : Tmp × Value) => tmps.setIfInBounds p.1 p.2) tm := by
          rw [← Array.foldl_toList, Array.toList_zip]
        rw [hz]
        refine RoundIn.mono hc fun e w' he => ?_
        obtain ⟨φ', rfl, k1, k2, k3⟩ := he
        exact hK φ' w' k1 k2 k3
      · exact hc.elim
    · rename_i hnc
      have hdef : ∀ c, o.op ≠ .defer c := fun c e => by
        have h0 : (cop P o).run h ts = none := by unfold cop; rw [e]; rfl
        exact absurd (h0.symm.trans hr) (by simp)
      rw [Oper.semAt_eq _ _ _ hdef]
      obtain ⟨φ', w', nx, k1, k2, k3, k4, k5⟩ := cop_sound (P := P) H (ρ := a.eval) hρ hr
      rw [k1]
      rcases k2 with rfl | ⟨rfl, rfl⟩
      · exact hK φ' w' k3 k4 k5
      · have := hK φ' w' k3 k4 k5
        rw [mapV_undef] at this
        exact this

theorem opc_sound (hP : NamesFine P) {cf : CallF} (hcf : SoundCF P cf) {ts : Slots} {a : Act} {o : Oper} {v : Value} {h' : AHeap} {ro : Option Nat} (H : HRel φ h w) (hs : SRel φ h.next ts a.tmps)
    (hr : (copc P o).run cf h ts = some (v, h')) {K : Act → World → Prop} {Q : Exit → Act → World → Prop}
    (hK : ∀ φ' w', HRel φ' h' w' → Ext φ h w φ' h' w' → okV φ' h'.next v → K (a.put o.dst (mapV φ' v)) w') : o.wpIn (Wf ro) 0 P a w K Q :=
  opc_sound' hP hcf H (fun _ _ hf => opRel_of hs hf) hr hK

theorem putT_eq {α : Type} (ts : Slots) (dst : Option Tmp) (v : Value) (f : Slots → α) : putT ts dst v f = f (match dst with | some d => Slots.set (cway d).way ts v | none => ts) := by
  unfold putT
  cases dst with
  | none => rfl
  | some d => simp

theorem SRel.put {n : Nat} {ts : Slots} {a : Act} (hs : SRel φ n ts a.tmps) (dst : Option Tmp) {v : Value} (hv : okV φ n v) :
    SRel φ n (match dst with | some d => Slots.set (cway d).way ts v | none => ts) (a.put dst (mapV φ v)).tmps := by
  cases dst with
  | none => exact hs
  | some d => exact hs.set d hv

theorem wanted_sound' {ts : Slots} {tm : Array Value} (ops : Array Oper) (o : Oper) (hs : ∀ j want d, o.guard = some (j, want) → (ops[j]?).bind (·.dst) = some d → tm[d]? = (Slots.get? (cway d).way ts).map (mapV φ)) : Region.wanted o (yielded ops tm) = (cguard ops o).test ts := by
  unfold Region.wanted cguard
  cases hg0 : o.guard with
  | none => rfl
  | some p =>
    obtain ⟨j, want⟩ := p
    simp only [yielded]
    cases hd : (ops[j]?).bind (·.dst) with
    | none => simp
    | some d =>
      simp only [Option.bind_some, hs j want d hg0 hd, Slots.get_eq]
      cases hg : Slots.get? (cway d).way ts with
      | none => simp [isB, undef]
      | some v =>
        simp only [Option.map_some, Option.getD_some]
        cases v with
        | bool b => cases b <;> cases want <;> simp [isB]
        | pointer a => cases a <;> simp [isB]
        | slice a => cases a <;> simp [isB]
        | map a => cases a <;> simp [isB]
        | chan a => rw [mapV] <;> simp [isB]
        | float => rw [mapV] <;> simp [isB]
        | complex => rw [mapV] <;> simp [isB]
        | iface => rw [mapV] <;> simp [isB]
        | _ => simp [isB]

theorem wanted_sound {n : Nat} {ts : Slots} {tm : Array Value} (hs : SRel φ n ts tm) (ops : Array Oper) (o : Oper) : Region.wanted o (yielded ops tm) = (cguard ops o).test ts :=
  wanted_sound' (φ := φ) ops o fun _ _ d _ _ => (hs d).1

/-- the operations of a region one behind the other -/
theorem cops_sound (hP : NamesFine P) {cf : CallF} (hcf : SoundCF P cf) {ops : Array Oper} {ro : Option Nat} {Q : Exit → Act → World → Prop} : ∀ (rest : List Oper) (k : Nat), (∀ j, rest[j]? = ops[k + j]?) →
    ∀ (s s' : St) (φ : Emb) (a : Act) (w : World), (cops P ops rest).run cf s = some s' → StRel φ s a w →
    (∀ φ' a' w', StRel φ' s' a' w' → Ext φ s.heap w φ' s'.heap w' → Q .normal a' w') → wpOpsIn (Wf ro) 0 P ops Q ((List.range rest.length).map (k + ·)) a w := by
  intro rest
  induction rest with
  | nil =>
    intro k _ s s' φ a w hr hs hQ
    simp only [cops, Option.some.injEq] at hr
    subst hr
    exact hQ φ a w hs (Ext.refl _ _ _)
  | cons o rest ih =>
    intro k hk s s' φ a w hr hs hQ
    have hko : ops[k]? = some o := by have := hk 0; simpa using this.symm
    have hk' : ∀ j, rest[j]? = ops[k + 1 + j]? := fun j => by have := hk (j + 1); simpa [Nat.add_assoc, Nat.add_comm 1 j] using this
    have hl : ((List.range (o :: rest).length).map (k + ·)) = k :: ((List.range rest.length).map (k + 1 + ·)) := by
      rw [List.length_cons, List.range_succ_eq_map]
      simp [List.map_map, Function.comp_def, Nat.add_assoc, Nat.add_comm 1]
    rw [hl]
    simp only [wpOpsIn, hko]
    simp only [cops, stepOp] at hr
    have hw := wanted_sound hs.tmps ops o
    cases ht : (cguard ops o).test s.tmps with
    | true =>
      rw [ht] at hw
      simp only [hw, if_true]
      simp only [ht, cond_true] at hr
      cases hc : (copc P o).run cf s.heap s.tmps with
      | none => simp [hc] at hr
      | some vh =>
        obtain ⟨v, h1⟩ := vh
        simp only [hc, putT_eq] at hr
        refine opc_sound hP hcf hs.heap hs.tmps hc fun φ1 w1 k1 k2 k3 => ?_
        refine ih (k + 1) hk' _ s' φ1 _ w1 hr ⟨?_, k1, ?_, ?_⟩ fun φ' a' w' q1 q2 => hQ φ' a' w' q1 (k2.trans q2)
        · exact SRel.put (hs.tmps.agree k2.agree k2.next) o.dst k3
        · show (a.put o.dst _).defers = _
          rw [marks_agree k2.agree hs.below, ← hs.marks]
          unfold Act.put
          cases o.dst <;> rfl
        · exact fun d hd => Nat.lt_of_lt_of_le (hs.below d hd) k2.next
    | false =>
      rw [ht] at hw
      simp only [hw, Bool.false_eq_true, if_false]
      simp only [ht, cond_false, putT_eq] at hr
      refine ⟨fun _ _ => trivial, ?_⟩
      refine ih (k + 1) hk' _ s' φ _ w hr ⟨?_, hs.heap, ?_, hs.below⟩ hQ
      · have := SRel.put hs.tmps o.dst (v := undef) okV_undef
        rw [mapV_undef] at this
        exact this
      · show (a.put o.dst _).defers = _
        rw [← hs.marks]
        unfold Act.put
        cases o.dst <;> rfl
end Go.Vm
