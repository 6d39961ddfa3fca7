/- A text of the proofs of this seat: an evaluator of the model's code, its soundness, and what it has run. -/
import Derived.Test.YtjbbefkbbagdfaaVmDraw3
namespace Go.Vm
variable {P : Program}

/-- a call that has been run: what it was called on, what came of it -/
structure Entry where
  next : Nat
  f : Nat
  args : List Value
  objs : List (Nat × AObj)
  val : Value
  next' : Nat
  objs' : List (Nat × AObj)

noncomputable section
def eqB (a b : Bool) : Bool := match a, b with
  | true, true => true
  | false, false => true
  | _, _ => false
def eqObj (a b : AObj) : Bool := match a, b with
  | .row c x g, .row c' x' g' => eqCells c c' && eqB x x' && Nat.beq g g'
  | _, _ => false
def eqVs (l : List Value) : List Value → Bool :=
  List.rec (motive := fun _ => List Value → Bool) (fun r => List.casesOn (motive := fun _ => Bool) r true (fun _ _ => false))
    (fun v _ ih r => List.casesOn (motive := fun _ => Bool) r false (fun u r => bif eqV v u then ih r else false)) l
def eqT (a b : Value) : Bool := match a, b with
  | .tuple ⟨l⟩, .tuple ⟨r⟩ => eqVs l r
  | a, b => eqV a b
def hasObj (h : AHeap) (p : Nat × AObj) : Bool := match h.get p.1 with
  | some o => eqObj o p.2
  | none => false
def lay (l : List (Nat × AObj)) : Trie → Trie :=
  List.rec (motive := fun _ => Trie → Trie) (fun t => t) (fun p _ ih t => Trie.setK 40 t p.1 (some p.2) ih) l
def Entry.heap (E : Entry) : AHeap := ⟨lay E.objs .leaf, E.next, far, E.next⟩
def newObj (E : Entry) (h : AHeap) (p : Nat × AObj) : Bool := Nat.ble E.next p.1 && Nat.blt p.1 E.next' && hasObj h p && (match p.2 with | .row _ x _ => x | _ => false)
def entryEnd (E : Entry) (r : Option (Value × AHeap)) : Bool := match r with
  | some (v, h) => eqT v E.val && Nat.beq h.next E.next' && Nat.ble E.next' far && Nat.ble E.next E.next' && allB (newObj E h) E.objs' && allB (fun p => Nat.blt p.1 E.next) E.objs
  | none => false
/-- 'the call runs so', under calls 'cf' -/
def entryOk (cf : CallF) (E : Entry) : Bool := entryEnd E (cf (.func (.func E.f) #[] #[]) E.args E.heap)

def findE (f nx : Nat) (T : List Entry) : Option Entry :=
  List.rec (motive := fun _ => Option Entry) none (fun E _ ih => bif Nat.beq E.next nx && Nat.beq E.f f then some E else ih) T
def useE (E : Entry) (args : List Value) (h : AHeap) (other : Option (Value × AHeap)) : Option (Value × AHeap) :=
  bif eqVs args E.args && allB (hasObj h) E.objs then
    match h with
    | ⟨t, _, lw, fl⟩ => some (E.val, ⟨lay E.objs' t, E.next', lw, fl⟩)
  else other
/-- calls that have been run are looked up -/
def orc (T : List Entry) (cf : CallF) : CallF := fun fv args h =>
  match fv with
  | .func (.func f) ⟨[]⟩ ⟨[]⟩ =>
    match findE f h.next T with
    | some E => useE E args h (cf (.func (.func f) #[] #[]) args h)
    | none => cf (.func (.func f) #[] #[]) args h
  | fv => cf fv args h
end

theorem eqB_eq {a b : Bool} (h : eqB a b = true) : a = b := by cases a <;> cases b <;> first | rfl | cases h
theorem eqObj_eq {a b : AObj} (h : eqObj a b = true) : a = b := by
  unfold eqObj at h
  split at h
  · simp only [Bool.and_eq_true] at h
    rw [eqCells_eq h.1.1, eqB_eq h.1.2, beq_iff.1 h.2]
  · cases h
theorem eqVs_eq : ∀ {l r : List Value}, eqVs l r = true → l = r := by
  intro l
  induction l with
  | nil => intro r h; cases r with | nil => rfl | cons _ _ => simp [eqVs] at h
  | cons x l ih =>
    intro r h
    cases r with
    | nil => simp [eqVs] at h
    | cons y r =>
      have h' : (bif eqV x y then eqVs l r else false) = true := h
      cases hx : eqV x y with
      | false => simp [hx] at h'
      | true => simp only [hx, cond_true] at h'; rw [eqV_eq hx, ih h']
theorem eqT_eq {a b : Value} (h : eqT a b = true) : a = b := by
  unfold eqT at h
  split at h
  · rw [eqVs_eq h]
  · exact eqV_eq h
theorem hasObj_eq {h : AHeap} {p : Nat × AObj} (hp : hasObj h p = true) : h.get p.1 = some p.2 := by
  unfold hasObj at hp
  split at hp
  · rename_i o ho; rw [ho, eqObj_eq hp]
  · cases hp
theorem lay_cons (p : Nat × AObj) (l : List (Nat × AObj)) (t : Trie) : lay (p :: l) t = lay l (t.set 40 p.1 (some p.2)) := by
  show Trie.setK 40 t p.1 (some p.2) (lay l) = _
  rw [Trie.setK_eq]
theorem lay_get : ∀ (l : List (Nat × AObj)) (t : Trie), (∀ p ∈ l, p.1 < far) → ∀ i o, (lay l t).get i = some o → (i, o) ∈ l ∨ t.get i = some o := by
  intro l
  induction l with
  | nil => intro t _ i o h; exact .inr h
  | cons p l ih =>
    intro t hb i o h
    rw [lay_cons] at h
    rcases ih _ (fun q hq => hb q (by simp [hq])) i o h with h | h
    · exact .inl (by simp [h])
    · have := hb p (by simp)
      rw [Trie.get_set _ _ _ _ _ (by unfold far at this; omega)] at h
      by_cases e : p.1 = i
      · rw [if_pos e] at h
        cases h
        subst e
        exact .inl (by simp)
      · rw [if_neg e] at h
        exact .inr h
theorem lay_none : ∀ (l : List (Nat × AObj)) (t : Trie), (∀ p ∈ l, p.1 < far) → ∀ i, (∀ p ∈ l, p.1 ≠ i) → (lay l t).get i = t.get i := by
  intro l
  induction l with
  | nil => intro t _ i _; rfl
  | cons p l ih =>
    intro t hb i h
    have := hb p (by simp)
    rw [lay_cons, ih _ (fun q hq => hb q (by simp [hq])) i (fun q hq => h q (by simp [hq])), Trie.get_set _ _ _ _ _ (by unfold far at this; omega), if_neg (h p (by simp))]
theorem findE_some {f nx : Nat} : ∀ {T : List Entry} {E : Entry}, findE f nx T = some E → E ∈ T ∧ E.next = nx ∧ E.f = f := by
  intro T
  induction T with
  | nil => intro E h; cases h
  | cons x T ih =>
    intro E h
    have h' : (bif Nat.beq x.next nx && Nat.beq x.f f then some x else findE f nx T) = some E := h
    cases hc : Nat.beq x.next nx && Nat.beq x.f f with
    | true =>
      simp only [hc, cond_true, Option.some.injEq] at h'
      subst h'
      simp only [Bool.and_eq_true] at hc
      exact ⟨by simp, beq_iff.1 hc.1, beq_iff.1 hc.2⟩
    | false =>
      simp only [hc, cond_false] at h'
      obtain ⟨h1, h2⟩ := ih h'
      exact ⟨by simp [h1], h2⟩

/-- what has been run may be looked up -/
theorem orc_sound {T : List Entry} (hT : ∀ E ∈ T, ∃ cf, SoundCF P cf ∧ entryOk cf E = true) {cf : CallF} (hcf : SoundCF P cf) : SoundCF P (orc T cf) := by
  intro fv args h r h' hr φ w H hfv hargs
  unfold orc at hr
  split at hr
  · rename_i f
    split at hr
    · rename_i E hE
      obtain ⟨hmem, hnx, hf⟩ := findE_some hE
      unfold useE at hr
      cases hc : eqVs args E.args && allB (hasObj h) E.objs with
      | false =>
        simp only [hc, cond_false] at hr
        exact hcf _ _ _ _ _ hr φ w H hfv hargs
      | true =>
        simp only [hc, cond_true, Option.some.injEq, Prod.mk.injEq] at hr
        obtain ⟨rfl, rfl⟩ := hr
        simp only [Bool.and_eq_true] at hc
        have ha := eqVs_eq hc.1
        have hob := allB_iff.1 hc.2
        obtain ⟨cf', hs', hok⟩ := hT E hmem
        unfold entryOk entryEnd at hok
        split at hok
        · rename_i v h1 hrun
          simp only [Bool.and_eq_true] at hok
          obtain ⟨⟨⟨⟨⟨e1, e2⟩, e3⟩, e4⟩, e5⟩, e6⟩ := hok
          have e1 := eqT_eq e1
          have e2 := beq_iff.1 e2
          have e3 := ble_iff.1 e3
          have e4 := ble_iff.1 e4
          have e5 := allB_iff.1 e5
          have e6 := fun p hp => blt_iff.1 (allB_iff.1 e6 p hp)
          subst e1
          have hnew : ∀ p ∈ E.objs', E.next ≤ p.1 ∧ p.1 < E.next' ∧ h1.get p.1 = some p.2 ∧ p.2.writable = true := by
            intro p hp
            have := e5 p hp
            unfold newObj at this
            simp only [Bool.and_eq_true] at this
            refine ⟨ble_iff.1 this.1.1.1, blt_iff.1 this.1.1.2, hasObj_eq this.1.2, ?_⟩
            have h4 := this.2
            split at h4
            · rename_i hx; rw [hx]; exact h4
            · cases h4
          have hlt : ∀ p ∈ E.objs, p.1 < far := fun p hp => Nat.lt_of_lt_of_le (Nat.lt_of_lt_of_le (e6 p hp) e4) e3
          have hlt' : ∀ p ∈ E.objs', p.1 < far := fun p hp => Nat.lt_of_lt_of_le (hnew p hp).2.1 e3
          have hsub : ∀ i o, E.heap.get i = some o → h.get i = some o := by
            intro i o hio
            rw [AHeap.get_def] at hio
            split at hio
            · rcases lay_get E.objs .leaf hlt i o hio with h2 | h2
              · exact hasObj_eq (hob _ h2)
              · simp [Trie.get_leaf] at h2
            · cases hio
          have hk : HRel φ E.heap w := by
            refine ⟨fun i o hio => ?_, fun i j o o' hi hj => H.apart i j o o' (hsub i o hi) (hsub j o' hj), ?_, ?_⟩
            · have := H.live i o (hsub i o hio)
              rw [← hnx] at this
              exact this
            · show E.next ≤ far
              omega
            · intro i hi
              show (lay E.objs .leaf).get i = none
              have hi' : E.next ≤ i := hi
              rw [lay_none _ _ hlt i (fun p hp => by have := e6 p hp; omega)]
              rfl
          have hargs' : ∀ a ∈ E.args, okV φ E.heap.next a := by
            intro a ha'
            rw [← ha] at ha'
            have := hargs a ha'
            rw [← hnx] at this
            exact this
          have hcall := hs' _ _ _ _ _ hrun φ w hk (by simp [okV, okFn, okA, okL]) hargs'
          rw [hf, ← ha] at hcall
          obtain ⟨q1, q2⟩ := hcall
          refine ⟨q1, CallsIn.mono q2 fun e w' he => ?_⟩
          obtain ⟨φ', he, H1, X, hv⟩ := he
          have hno : ∀ b, ¬ Wr φ E.heap b := by
            rintro b ⟨i, o, hi, hfl, _⟩
            have h2 := AHeap.lt_of_get hi
            have h3 : E.next ≤ i := hfl
            have h4 : i < E.next := h2
            omega
          have hfr : ∀ b, b < w.heap.size → w'.heap[b]? = w.heap[b]? := fun b hb => X.frame b hb (hno b)
          have hag : Agree h.next φ φ' := by rw [← hnx]; exact X.agree
          have hne : h.next ≤ E.next' := by omega
          have hget : ∀ i o, (⟨lay E.objs' h.t, E.next', h.low, h.floor⟩ : AHeap).get i = some o → ((i, o) ∈ E.objs' ∨ h.get i = some o) := by
            intro i o hio
            rw [AHeap.get_def] at hio
            split at hio
            · rcases lay_get E.objs' h.t hlt' i o hio with h2 | h2
              · exact .inl h2
              · right
                rw [AHeap.get_def]
                rcases Nat.lt_or_ge i h.next with h3 | h3
                · rw [if_pos h3]; exact h2
                · rw [H.fresh i h3] at h2; cases h2
            · cases hio
          have hbnew : ∀ p ∈ E.objs', w.heap.size ≤ (φ'.at_ p.1).block := by
            intro p hp
            obtain ⟨k1, k2, k3, k4⟩ := hnew p hp
            have : Wr φ' h1 (φ'.at_ p.1).block := ⟨p.1, p.2, k3, by rw [X.floor]; exact k1, k4, rfl⟩
            exact (X.wr _ this).resolve_right (hno _)
          have hbold : ∀ i o, h.get i = some o → (φ'.at_ i).block < w.heap.size := by
            intro i o hio
            rw [(hag i (AHeap.lt_of_get hio)).1]
            exact (H.live i o hio).lt
          refine ⟨φ', he, ⟨fun i o hio => ?_, fun i j o o' hi hj hij hw => ?_, e3, fun i hi => ?_⟩, ⟨hag, hne, X.size, fun b hb _ => hfr b hb, ?_, rfl, X.same, ?_⟩, ?_⟩
          · rcases hget i o hio with h2 | h2
            · have := H1.live i o (hnew _ h2).2.2.1
              rw [e2] at this
              exact this
            · exact ((H.live i o h2).same (hfr _ (H.live i o h2).lt)).agree hag hne (AHeap.lt_of_get h2)
          · rcases hget i o hi with h2 | h2 <;> rcases hget j o' hj with h3 | h3
            · exact H1.apart i j o o' (hnew _ h2).2.2.1 (hnew _ h3).2.2.1 hij hw
            · have k1 : w.heap.size ≤ (φ'.at_ i).block := hbnew _ h2
              have k2 := hbold _ _ h3
              omega
            · have k1 : w.heap.size ≤ (φ'.at_ j).block := hbnew _ h3
              have k2 := hbold _ _ h2
              omega
            · rw [(hag i (AHeap.lt_of_get h2)).1, (hag j (AHeap.lt_of_get h3)).1]
              exact H.apart i j o o' h2 h3 hij hw
          · have hi' : E.next' ≤ i := hi
            show (lay E.objs' h.t).get i = none
            rw [lay_none _ _ hlt' i (fun p hp => by have := (hnew p hp).2.1; omega)]
            exact H.fresh i (by omega)
          · rintro b ⟨i, o, hi, hfl, hw, rfl⟩
            rcases hget i o hi with h2 | h2
            · exact .inl (hbnew _ h2)
            · right
              exact ⟨i, o, h2, hfl, hw, by rw [(hag i (AHeap.lt_of_get h2)).1]⟩
          · intro i o hi
            rcases hget i o hi with h2 | h2
            · exact .inl (hbnew _ h2)
            · exact .inr ⟨i, o, h2, by rw [(hag i (AHeap.lt_of_get h2)).1]⟩
          · rw [← e2]; exact hv
        · cases hok
    · exact hcf _ _ _ _ _ hr φ w H hfv hargs
  · exact hcf _ _ _ _ _ hr φ w H hfv hargs

/-- the evaluator, with a table of calls that have been run -/
noncomputable def acallO (P : Program) (A : List Nat) (T : List Entry) : Nat → CallF
  | 0, _, _, _ => none
  | n + 1, f, args, h =>
    match f with
    | .func (.func f) a b => callQ A f (fun h => (cfunc P f).run (orc T (acallO P A T n)) n (app a.toList (app args b.toList)) h) h
    | .func (.yield l) ⟨[]⟩ ⟨[]⟩ => roundA P (orc T (acallO P A T n)) n l args h
    | _ => none

theorem acallO_sound (hP : NamesFine P) (hm : P.follows .mixedOrders = true) (A : List Nat) {T : List Entry} (hT : ∀ E ∈ T, ∃ cf, SoundCF P cf ∧ entryOk cf E = true) : ∀ n, SoundCF P (acallO P A T n) := by
  intro n
  induction n with
  | zero => intro fv args h r h' hr; simp [acallO] at hr
  | succ n ih =>
    intro fv args h r h' hr φ w H hfv hargs
    have ih' := orc_sound hT ih
    simp only [acallO] at hr
    split at hr
    · rename_i f xs ys
      simp only [app_eq] at hr
      refine callQ_sound (fun g r h' hr H hn => func_sound hP hm ih' (draw_sound hP ih') hr H ?_) hr H
      rw [hn]
      simp only [okV] at hfv
      intro x hx
      simp only [List.mem_append] at hx
      rcases hx with hx | hx | hx
      · exact okA_iff.1 hfv.2.1 x hx
      · exact hargs x hx
      · exact okA_iff.1 hfv.2.2 x hx
    · exact round_sound hP hm ih' (draw_sound hP ih') hr H hargs
    · simp at hr

theorem empty_rel (φ : Emb) (w : World) : HRel φ AHeap.empty w := by
  have hg : ∀ i, AHeap.empty.get i = none := fun i => by rw [AHeap.get_def, if_neg]; simp [AHeap.empty]
  exact ⟨fun i o h => absurd (h.symm.trans (hg i)) (by simp), fun i j o o' h => absurd (h.symm.trans (hg i)) (by simp), Nat.zero_le _, fun i _ => rfl⟩

theorem kept_of {φ φ' : Emb} {h' : AHeap} {w w' : World} (X : Ext φ AHeap.empty w φ' h' w') : w.keptBut w' (fun _ => False) := by
  have hno : ∀ b, ¬ Wr φ AHeap.empty b := by
    rintro b ⟨i, o, hi, _⟩
    have := AHeap.lt_of_get hi
    simp [AHeap.empty] at this
  refine ⟨X.same.1, X.same.2, fun i hi => ?_⟩
  rw [X.frame i hi (hno i)]
  cases w.heap[i]? with
  | none => rfl
  | some o => cases o <;> simp

/-- what the evaluator says of a call without arguments, the model says -/
theorem vm_calls {cf : CallF} (hcf : SoundCF P cf) {f : FuncId} {v : Value} {h' : AHeap} (hr : cf (.func (.func f) #[] #[]) [] AHeap.empty = some (v, h')) (hv : plainV v = true) (w : World) :
    Calls P f #[] w fun e w' => e = .returned v ∧ w.keptBut w' (fun _ => False) := by
  have φ : Emb := ⟨fun _ => ⟨0, 0, none⟩, fun _ => 0⟩
  obtain ⟨_, hc⟩ := hcf _ _ _ _ _ hr φ w (empty_rel φ w) (by simp [okV, okFn, okA, okL]) (by simp)
  refine callsIn_wide.1 (CallsIn.mono hc fun e w' he => ?_)
  obtain ⟨φ', rfl, _, X, _⟩ := he
  exact ⟨by rw [plainV_map hv], kept_of X⟩
end Go.Vm
