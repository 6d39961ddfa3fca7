/- A text of the proofs of this seat: an evaluator of the model's code, its soundness, and what it has run. -/
import Derived.Test.YtjbbefkbbagdfaaVmSound
namespace Go.Vm
variable {P : Program} {φ : Emb} {h : AHeap} {w : World}

/-- the results of a function -/
theorem oneRes_sound (H : HRel φ h w) {ts : Slots} {tm : Array Value} (hs : SRel φ h.next ts tm) {r : ResultVar} {v : Value} {m : List Nat} (hr : oneRes P r ⟨ts, h, m⟩ = some v) :
    (match r with | .tmp t => (Pure.pure (tm.getD t undef) : Sem Value) | .cell a t => do loadVar t (← asAddr (tm.getD a undef))).run P w = .ok (mapV φ v) w ∧ okV φ h.next v := by
  cases r with
  | tmp t =>
    simp only [oneRes, Option.some.injEq] at hr
    subst hr
    refine ⟨?_, (hs.get t).2⟩
    have := (hs.get t).1
    simp only [this]
    rfl
  | cell a t =>
    simp only [oneRes] at hr
    have hg := hs.get a
    obtain ⟨k1, k2⟩ := cload_sound (P := P) H hg.2 hr
    refine ⟨?_, k2⟩
    simp only
    rw [hg.1]
    generalize mapV φ (ts.get (cway a).way) = p at k1
    unfold Instr.loadAt at k1
    rw [Sem.run_bind] at k1 ⊢
    cases p with
    | pointer q =>
      cases q with
      | some q => simpa [asAddr, Instr.sureAddr] using k1
      | none => simp [Instr.sureAddr, Result.andThen] at k1
    | _ => simp [Instr.sureAddr, Result.andThen, stuck] at k1

def resF (tm : Array Value) : ResultVar → Sem Value := fun x => match x with | .tmp t => pure (tm.getD t undef) | .cell a t => do loadVar t (← asAddr (tm.getD a undef))
theorem resList_sound (H : HRel φ h w) {ts : Slots} {tm : Array Value} (hs : SRel φ h.next ts tm) {m : List Nat} : ∀ (rs : List ResultVar) (l : List Value), resList P rs ⟨ts, h, m⟩ = some l →
    (rs.mapM (resF tm)).run P w = .ok (l.map (mapV φ)) w ∧ (∀ x ∈ l, okV φ h.next x) ∧ l.length = rs.length := by
  intro rs
  induction rs with
  | nil =>
    intro l hr
    simp only [resList, Option.some.injEq] at hr
    subst hr
    exact ⟨rfl, by simp, rfl⟩
  | cons r rs ih =>
    intro l hr
    simp only [resList] at hr
    split at hr
    · rename_i v hv
      split at hr
      · rename_i l' hl
        simp only [Option.some.injEq] at hr
        subst hr
        obtain ⟨k1, k2⟩ := oneRes_sound (P := P) H hs hv
        obtain ⟨q1, q2, q3⟩ := ih l' hl
        refine ⟨?_, ?_, by simp [q3]⟩
        · rw [List.mapM_cons, Sem.run_bind]
          have : (resF tm r).run P w = .ok (mapV φ v) w := k1
          rw [this]
          simp only [Result.andThen, Sem.run_bind, q1]
          rfl
        · intro x hx
          rcases List.mem_cons.1 hx with rfl | hx
          · exact k2
          · exact q2 x hx
      · simp at hr
    · simp at hr
theorem cres_sound (H : HRel φ h w) {ts : Slots} {tm : Array Value} (hs : SRel φ h.next ts tm) {m : List Nat} {fn : Func} {v : Value} (hr : (cres P fn).run ⟨ts, h, m⟩ = some v) :
    (results fn tm).run P w = .ok (mapV φ v) w ∧ okV φ h.next v := by
  have hR : (results fn tm).run P w = ((fn.results.toList.mapM (resF tm)).run P w).andThen fun l w' => .ok (if h : l.toArray.size = 1 then l.toArray[0] else .tuple l.toArray) w' := by
    unfold results
    rw [Array.mapM_eq_mapM_toList]
    simp only [Sem.run_bind, Sem.run_map]
    have : ∀ (x : Result (List Value)), (Result.andThen (x.andThen fun a w' => Result.ok a.toArray w') fun a w' => (Pure.pure (if h : a.size = 1 then a[0] else Value.tuple a) : Sem Value).run P w') = x.andThen fun l w' => .ok (if h : l.toArray.size = 1 then l.toArray[0] else .tuple l.toArray) w' := by
      intro x; cases x <;> rfl
    exact this _
  rw [hR]
  unfold cres at hr
  split at hr
  · rename_i r hl
    rw [hl]
    simp only at hr
    obtain ⟨k1, k2⟩ := oneRes_sound (P := P) H hs hr
    have : (resF tm r).run P w = .ok (mapV φ v) w := k1
    refine ⟨?_, k2⟩
    simp only [List.mapM_cons, List.mapM_nil, Sem.run_bind, this, Result.andThen, Sem.run_pure]
    rfl
  · rename_i hne
    simp only at hr
    split at hr
    · rename_i l hl
      simp only [Option.some.injEq] at hr
      subst hr
      obtain ⟨q1, q2, q3⟩ := resList_sound (P := P) H hs _ _ hl
      rw [q1]
      refine ⟨?_, ?_⟩
      · have : ¬ (l.map (mapV φ)).toArray.size = 1 := by
          intro e
          simp only [List.size_toArray, List.length_map] at e
          rw [q3] at e
          obtain ⟨r, hr⟩ := List.length_eq_one_iff.1 e
          exact hne r hr
        simp only [Result.andThen, this, dite_false]
        rw [mapV_tuple]
        simp
      · simp only [okV, okA]
        exact okL_iff.2 q2
    · simp at hr

theorem dropMarks_sound {β : Type} {F : Fence} {n : Nat} {fn : Func} {tmps : Array Value} {R : Ending → World → Prop} {f : AHeap → Option β} {r : β} : ∀ (l : List Nat) {h : AHeap} {w : World}, HRel φ h w → dropMarks l h f = some r →
    (∀ h' w', HRel φ h' w' → Ext φ h w φ h' w' → f h' = some r → LeavesInM F n P fn tmps R [] .returning w') → LeavesInM F n P fn tmps R (l.map (markOf φ)) .returning w := by
  intro l
  induction l with
  | nil =>
    intro h w H hr hK
    exact hK h w H (Ext.refl _ _ _) hr
  | cons d l ih =>
    intro h w H hr hK
    simp only [dropMarks] at hr
    split at hr
    · rename_i hg
      obtain ⟨hf, hr⟩ := cond_some hr
      rw [AHeap.put_eq] at hr
      have h1 : w.heap[(φ.at_ d).block]? = some (.deferred (some [])) := H.live _ _ hg
      have hlt := (H.live _ _ hg).lt
      obtain ⟨H1, E1⟩ := HRel.drop (w' := w.putObj (φ.at_ d).block (.deferred none)) H hg rfl (ble_iff.1 hf) World.putObj_size (fun b hb => World.putObj_heap_other hb)
      rw [List.map_cons]
      refine ⟨by simp, .inl ⟨(φ.at_ d).block, _, rfl, run_takeDeferred h1, ?_⟩⟩
      exact ih H1 hr fun h' w' p1 p2 p3 => hK h' w' p1 (E1.trans p2) p3
    · simp at hr

theorem len_le {l : List Value} {n : Nat} (h : Nat.ble (len l) n = true) : l.length ≤ n := by rw [len_eq] at h; exact ble_iff.1 h

/-- a function, called -/
theorem func_sound (hP : NamesFine P) (hm : P.follows .mixedOrders = true) {cf : CallF} (hcf : SoundCF P cf) (hd : DrawSound P cf) {f : FuncId} {m : Nat} {xs : List Value} {v : Value} {h' : AHeap}
    (hr : (cfunc P f).run cf m xs h = some (v, h')) (H : HRel φ h w) (hx : ∀ x ∈ xs, okV φ h.next x) :
    (∃ fn, P.funcs[f]? = some fn ∧ fn.body.isSome = true) ∧ CallsIn Fence.wide 0 P f (xs.map (mapV φ)).toArray w (CPost φ h w v h') := by
  unfold cfunc at hr
  cases hfn : P.funcs[f]? with
  | none => simp [hfn] at hr
  | some fn =>
    simp only [hfn] at hr
    cases hb : fn.body with
    | none => simp [hb] at hr
    | some c =>
      simp only [hb] at hr
      refine ⟨⟨fn, rfl, by rw [hb]; rfl⟩, ?_⟩
      cases hl : Nat.ble (len xs) fn.ntmps with
      | false => simp [hl] at hr
      | true =>
        simp only [hl, Bool.not_true, cond_false, fillK_eq] at hr
        refine callsIn_of_wp_marks hfn hb trivial ?_
        have hs := SRel.enter (φ := φ) hx (len_le hl)
        generalize (xs.foldl (fun (p : Nat × Slots) x => (p.1 + 1, Slots.set (cway p.1).way p.2 x)) (0, (cskel fn.ntmps).slots)).2 = ts at hr hs
        unfold funcEnd at hr
        have main : ∀ e s, (e = .norm ∨ e = .ret) → (ccode P c).run cf f none m ⟨ts, h, []⟩ = some (e, s) →
            (dropMarks s.marks s.heap fun h => match (cres P fn).run ⟨s.tmps, h, []⟩ with | some v => seqV v fun v => some (v, h) | none => none) = some (v, h') →
            c.wpIn Fence.wide 0 P (bodyPostM Fence.wide 0 P fn (CPost φ h w v h')) { tmps := (xs.map (mapV φ)).toArray ++ Array.replicate (fn.ntmps - (xs.map (mapV φ)).toArray.size) undef, defers := [] } w := by
          intro e s he hc hr
          refine code_sound (ro := none) hP hm hcf hd c hc (φ := φ) ⟨hs, H, rfl, by simp⟩ ⟨by simp, fun _ => rfl⟩ fun φ' a' w' q1 q2 => ?_
          have : LeavesInM Fence.wide 0 P fn a'.tmps (CPost φ h w v h') a'.defers .returning w' := by
            rw [q1.marks]
            refine dropMarks_sound (P := P) s.marks q1.heap hr fun h2 w2 p1 p2 p3 => ?_
            split at p3
            · rename_i u hu
              simp only [seqV_eq, Option.some.injEq, Prod.mk.injEq] at p3
              obtain ⟨rfl, rfl⟩ := p3
              obtain ⟨k1, k2⟩ := cres_sound (P := P) p1 (q1.tmps.agree p2.agree p2.next) hu
              exact ⟨_, k1, φ', rfl, p1, q2.trans p2, k2⟩
            · simp at p3
          rcases he with rfl | rfl <;> exact this
        split at hr
        · simp at hr
        · rename_i x e s hne hc
          refine main e s ?_ hc hr
          cases e with
          | norm => exact .inl rfl
          | ret => exact .inr rfl
          | exit i => exact (hne i rfl).elim
        · simp at hr

def jumpCode : Ex → Option Code := jumpOf
theorem roundPost_of {P : Program} {l : Nat} {R : Ending → World → Prop} {e : Ex} {a : Act} {w : World} (h : ∃ v w', (Instr.endRound l (jumpOf e)).run P w = .ok v w' ∧ R (.returned v) w') : roundPost P l R (exitOf e) a w := by
  cases e <;> exact h

theorem roundEnd_sound {φ : Emb} {s : St} {w : World} {l : Nat} {e : Ex} {v : Value} {h' : AHeap} (H : HRel φ s.heap w) (hr : roundEnd l (some (e, s)) = some (v, h')) :
    ∃ w', (Instr.endRound (φ.at_ l).block (jumpOf e)).run P w = .ok v w' ∧ HRel φ h' w' ∧ Ext φ s.heap w φ h' w' ∧ ∃ b, v = .bool b := by
  unfold roundEnd at hr
  simp only at hr
  split at hr
  · rename_i r hg
    obtain ⟨fn, tm, h1, h2, h3⟩ := H.live _ _ hg
    have hlt := (H.live _ _ hg).lt
    cases hf : Nat.ble s.heap.floor l with
    | false => simp [hf] at hr
    | true =>
      simp only [hf, Bool.not_true, cond_false, AHeap.put_eq, Option.some.injEq, Prod.mk.injEq] at hr
      obtain ⟨rfl, rfl⟩ := hr
      obtain ⟨k1, k2⟩ := HRel.turn (w' := w.putObj (φ.at_ l).block (.loop { (⟨r.state, r.pending, fn, tm, r.params, r.assign, r.body, (φ.at_ r.defers).block⟩ : Loop) with state := if (jumpOf e).isNone then .ready else .done, pending := jumpOf e }))
        (o' := .loop { r with state := if (jumpOf e).isNone then .ready else .done, pending := jumpOf e }) H hg rfl (ble_iff.1 hf) World.putObj_size (fun b hb => World.putObj_heap_other hb) ⟨fn, tm, World.putObj_heap_same hlt, h2, h3⟩
      exact ⟨_, run_endRound _ h1, k1, k2, _, rfl⟩
  · simp at hr

/-- a round -/
theorem round_sound (hP : NamesFine P) (hm : P.follows .mixedOrders = true) {cf : CallF} (hcf : SoundCF P cf) (hd : DrawSound P cf) {l m : Nat} {args : List Value} {v : Value} {h' : AHeap}
    (hr : roundA P cf m l args h = some (v, h')) (H : HRel φ h w) (hx : ∀ x ∈ args, okV φ h.next x) : CallOk P (.func (.yield l) #[] #[]) args φ h w v h' := by
  unfold roundA at hr
  split at hr
  · rename_i r hg
    obtain ⟨hc, hr⟩ := cond_some hr
    simp only [Bool.and_eq_true] at hc
    obtain ⟨fn, tm, h1, h2, h3⟩ := H.live _ _ hg
    refine ⟨rfl, rfl, r, fn, tm, hg, beq_iff.1 hc.1, h1, ?_⟩
    rw [setAllK_eq] at hr
    have hs := SRel.setAll r.params.toList args hx _ _ h2
    generalize ((r.params.toList.zip args).foldl (fun s (p : Tmp × Value) => Slots.set (cway p.1).way s p.2) r.tmps) = ts at hr hs
    refine roundIn_of_wpIn trivial ?_
    have hlt := AHeap.lt_of_get hg
    generalize (r.params.toList.zip (args.map (mapV φ))).foldl (fun tmps (p : Tmp × Value) => tmps.setIfInBounds p.1 p.2) tm = tm1 at hs
    have har : AroundOk φ ⟨ts, h, []⟩ (some l) (some (φ.at_ l).block) := ⟨fun l' e => by cases e; exact ⟨rfl, hlt⟩, fun e => by cases e⟩
    cases ha : (ccode P r.assign).run cf r.fn (some l) m ⟨ts, h, []⟩ with
    | none => simp [ha, roundBegin, roundEnd] at hr
    | some es =>
      obtain ⟨e, s1⟩ := es
      cases e with
      | exit i => simp [ha, roundBegin, roundEnd] at hr
      | ret => simp [ha, roundBegin, roundEnd] at hr
      | norm =>
        refine code_sound (ro := some (φ.at_ l).block) hP hm hcf hd r.assign ha (φ := φ) (a := { tmps := tm1, defers := [] }) ⟨hs, H, rfl, by simp⟩ har fun φ1 a1 w1 q1 q2 => ?_
        simp only [ha, roundBegin] at hr
        split at hr
        · rename_i r1 hg1
          split at hr
          · rename_i hst
            rw [AHeap.put_eq] at hr
            obtain ⟨fn1, tm1', g1, g2, g3⟩ := q1.heap.live _ _ hg1
            have hlt1 := (q1.heap.live _ _ hg1).lt
            have hfl : s1.heap.floor ≤ l := by rw [q2.floor]; exact ble_iff.1 hc.2
            obtain ⟨k1, k2⟩ := HRel.turn (w' := w1.putObj (φ1.at_ l).block (.loop { (⟨r1.state, r1.pending, fn1, tm1', r1.params, r1.assign, r1.body, (φ1.at_ r1.defers).block⟩ : Loop) with state := .busy }))
              (o' := .loop { r1 with state := .busy }) q1.heap hg1 rfl hfl World.putObj_size (fun b hb => World.putObj_heap_other hb) ⟨fn1, tm1', World.putObj_heap_same hlt1, g2, g3⟩
            have hb : (φ1.at_ l).block = (φ.at_ l).block := by rw [(q2.agree l hlt).1]
            have hbr := run_beginRound (P := P) g1 hst
            rw [hb] at hbr
            rw [hb] at k1 k2
            refine ⟨_, hbr, ?_⟩
            cases hbd : (ccode P r.body).run cf r.fn (some l) m ⟨s1.tmps, s1.heap.with l (some (.loop { r1 with state := .busy })), s1.marks⟩ with
            | none => simp [hbd, roundEnd] at hr
            | some es2 =>
              obtain ⟨e2, s2⟩ := es2
              rw [hbd] at hr
              refine code_sound (ro := some (φ.at_ l).block) hP hm hcf hd r.body hbd (φ := φ1) (a := a1) ⟨q1.tmps, k1, q1.marks, q1.below⟩ ((har.ext q2).ext (s' := ⟨s1.tmps, s1.heap.with l (some (.loop { r1 with state := .busy })), s1.marks⟩) k2) fun φ2 a2 w2 p1 p2 => ?_
              obtain ⟨w3, z1, z2, z3, b, rfl⟩ := roundEnd_sound (P := P) p1.heap hr
              have hq := (q2.trans k2).trans p2
              rw [(hq.agree l hlt).1] at z1
              exact roundPost_of ⟨_, w3, z1, φ2, by rw [mapV_bool], z2, hq.trans z3, by simp [okV]⟩
          · simp [roundEnd] at hr
        · simp [roundEnd] at hr
  · simp at hr

/-- **the evaluator is sound**, if the regions that draw are -/
theorem CallOk.plain {fv : Value} {f : FuncId} {a b : Array Value} (hf : fv = .func (.func f) a b) {args : List Value} {h g h1 : AHeap} {v : Value} {φ : Emb} {w : World} (hv : plainV v = true)
    (H : HRel φ h w) (hg : ∀ i, g.get i = h.get i) (hfl : h.next ≤ g.floor) (hc : CallOk P fv args φ g w v h1) : CallOk P fv args φ h w v h := by
  subst hf
  obtain ⟨q1, q2⟩ := hc
  refine ⟨q1, CallsIn.mono q2 fun e w' he => ?_⟩
  obtain ⟨φ', rfl, _, X, _⟩ := he
  have hno : ∀ b, ¬ Wr φ g b := by
    rintro b ⟨i, o, hi, hfl', _⟩
    rw [hg] at hi
    have h2 : i < h.next := AHeap.lt_of_get hi
    omega
  have hfr : ∀ b, b < w.heap.size → w'.heap[b]? = w.heap[b]? := fun b hb => X.frame b hb (hno b)
  refine ⟨φ, by rw [plainV_map hv, plainV_map hv], ⟨fun i o hi => (H.live i o hi).same (hfr _ (H.live i o hi).lt), H.apart, H.bound, H.fresh⟩, ⟨Agree.refl _ _, Nat.le_refl _, X.size, fun b hb _ => hfr b hb, fun b hb => .inr hb, rfl, X.same, fun j o hj => .inr ⟨j, o, hj, rfl⟩⟩, plainV_ok hv⟩

theorem callQ_sound {A : List Nat} {f : Nat} {a b : Array Value} {args : List Value} {run : AHeap → Option (Value × AHeap)} {h : AHeap} {w : World} {φ : Emb}
    (hs : ∀ g r h', run g = some (r, h') → HRel φ g w → g.next = h.next → CallOk P (.func (.func f) a b) args φ g w r h') {r : Value} {h' : AHeap} (hr : callQ A f run h = some (r, h')) (H : HRel φ h w) :
    CallOk P (.func (.func f) a b) args φ h w r h' := by
  unfold callQ at hr
  cases hq : inL A f with
  | false => simp only [hq, cond_false] at hr; exact hs h r h' hr H rfl
  | true =>
    simp only [hq, cond_true] at hr
    obtain ⟨t, nx, lw, fl⟩ := h
    simp only at hr
    split at hr
    · rename_i v h1 hrun
      obtain ⟨hv, hr⟩ := cond_some hr
      cases hr
      have H' : HRel φ ⟨t, nx, lw, nx⟩ w := ⟨H.live, H.apart, H.bound, H.fresh⟩
      exact CallOk.plain (g := ⟨t, nx, lw, nx⟩) rfl hv H (fun _ => rfl) (Nat.le_refl _) (hs _ _ _ hrun H' rfl)
    · cases hr

theorem acall_sound (hP : NamesFine P) (hm : P.follows .mixedOrders = true) (hD : ∀ cf, SoundCF P cf → DrawSound P cf) (A : List Nat) : ∀ n, SoundCF P (acall P A n) := by
  intro n
  induction n with
  | zero => intro fv args h r h' hr; simp [acall] at hr
  | succ n ih =>
    intro fv args h r h' hr φ w H hfv hargs
    simp only [acall] at hr
    split at hr
    · rename_i f xs ys
      simp only [app_eq] at hr
      refine callQ_sound (fun g r h' hr H hn => func_sound hP hm ih (hD _ ih) hr H ?_) hr H
      rw [hn]
      simp only [okV] at hfv
      intro x hx
      simp only [List.mem_append] at hx
      rcases hx with hx | hx | hx
      · exact okA_iff.1 hfv.2.1 x hx
      · exact hargs x hx
      · exact okA_iff.1 hfv.2.2 x hx
    · exact round_sound hP hm ih (hD _ ih) hr H hargs
    · simp at hr
end Go.Vm
