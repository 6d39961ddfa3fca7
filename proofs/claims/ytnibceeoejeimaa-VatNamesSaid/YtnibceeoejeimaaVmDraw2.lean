/- A text of the proofs of this seat: an evaluator of the model's code, its soundness, and what it has run. -/
import Derived.Test.YtnibceeoejeimaaVmDraw
import Derived.Orders
namespace Go.Vm
variable {P : Program}

def PRel (φ : Emb) (n : Nat) (s : Slots) (tm : Array Value) (t : Nat) : Prop :=
  tm[t]? = (Slots.get? (cway t).way s).map (mapV φ) ∧ ∀ v, Slots.get? (cway t).way s = some v → okV φ n v
theorem PRel.get {φ : Emb} {n : Nat} {s : Slots} {tm : Array Value} {t : Nat} (h : PRel φ n s tm t) : tm.getD t undef = mapV φ (s.get (cway t).way) ∧ okV φ n (s.get (cway t).way) := by
  obtain ⟨h1, h2⟩ := h
  rw [Slots.get_eq]
  rw [Array.getD_eq_getD_getElem?, h1]
  cases hg : Slots.get? (cway t).way s with
  | none => simp
  | some v => simpa using h2 v hg
theorem PRel.set {φ : Emb} {n : Nat} {s : Slots} {tm : Array Value} {t : Nat} (h : PRel φ n s tm t) {v : Value} (hv : okV φ n v) : PRel φ n (Slots.set (cway t).way s v) (tm.setIfInBounds t (mapV φ v)) t := by
  unfold PRel
  rw [Slots.get?_set]
  simp only [if_true]
  obtain ⟨h1, h2⟩ := h
  cases hg : Slots.get? (cway t).way s with
  | none =>
    rw [hg] at h1
    have : tm.size ≤ t := by simpa using h1
    simp [this]
  | some u =>
    rw [hg] at h1
    have : t < tm.size := by
      rcases Nat.lt_or_ge t tm.size with h | h
      · exact h
      · rw [Array.getElem?_eq_none h] at h1; simp at h1
    simp [this, hv]
theorem PRel.agree {φ φ' : Emb} {n n' : Nat} {s : Slots} {tm : Array Value} {t : Nat} (h : PRel φ n s tm t) (ha : Agree n φ φ') (hn : n ≤ n') : PRel φ' n' s tm t := by
  obtain ⟨h1, h2⟩ := h
  refine ⟨?_, fun v hv => (mapV_agree ha hn v (h2 v hv)).2⟩
  rw [h1]
  cases hg : Slots.get? (cway t).way s with
  | none => rfl
  | some v => simp [(mapV_agree ha hn v (h2 v hg)).1]
theorem get?_putS {ts : Slots} {dst : Option Tmp} {v : Value} {t : Nat} (h : dst ≠ some t) : Slots.get? (cway t).way (putS ts dst v) = Slots.get? (cway t).way ts := by
  unfold putS
  cases dst with
  | none => rfl
  | some d =>
    simp only
    rw [Slots.get?_set, if_neg]
    intro e
    exact h (by rw [cway_inj e])

theorem drawOk_spec {ops : Array Oper} {masks : List Nat} (h : drawOk ops masks = true) {i : Nat} {o : Oper} (hi : ops[i]? = some o) :
    (∀ e ∈ directs o, e < i) ∧ ∀ j q, j < i → ops[j]? = some q → (clash ops q o = true → hasBit (masks.getD i 0) j = true) ∧ (isChain q = true → isChain o = true → hasBit (masks.getD i 0) j = true) := by
  unfold drawOk at h
  rw [List.all_eq_true] at h
  have hlt := (Array.getElem?_eq_some_iff.1 hi).1
  have h1 := h i (List.mem_range.2 hlt)
  simp only [hi, Bool.and_eq_true, List.all_eq_true] at h1
  refine ⟨fun e he => blt_iff.1 (h1.1 e he), fun j q hj hq => ?_⟩
  have h2 := h1.2 j (List.mem_range.2 hj)
  simp only [hq, Bool.and_eq_true, Bool.or_eq_true, Bool.not_eq_true'] at h2
  refine ⟨fun hc => h2.1.resolve_left (by simp [hc]), fun hc hc' => h2.2.resolve_left (by simp [hc, hc'])⟩

section main
variable {ops : Array Oper} {H : List AHeap} {R : List OpRes} {tsE : Slots} {φ0 : Emb} {h0 : AHeap} {w0 : World} {d0 : List Deferred} {cf : CallF} {listed : Array Bool} {a : Act} {w : World}

def Lst (listed : Array Bool) (i : Nat) : Prop := listed.getD i false = true

structure DIn (ops : Array Oper) (H : List AHeap) (R : List OpRes) (tsE : Slots) (φ0 : Emb) (h0 : AHeap) (w0 : World) (listed : Array Bool) (a : Act) (w : World) (φ : Emb) (m : Nat) (hm : AHeap) : Prop where
  chain : ∀ i, chainAt ops i = true → (Lst listed i ↔ lexN ops i < m)
  heap : H[m]? = some hm
  rel : HRel φ hm w
  ext : Ext φ0 h0 w0 φ hm w
  slots : ∀ i ts, i ≤ ops.size → tsAt R tsE i = some ts → ∀ t, (∀ j q, ops[j]? = some q → q.dst = some t → (Lst listed j ↔ j < i)) → PRel φ hm.next ts a.tmps t
structure DInv (ops : Array Oper) (H : List AHeap) (R : List OpRes) (tsE : Slots) (φ0 : Emb) (h0 : AHeap) (w0 : World) (d0 : List Deferred) (listed : Array Bool) (a : Act) (w : World) : Prop where
  size : listed.size = ops.size
  closed : ∀ i, Lst listed i → ∀ e ∈ dirsAt ops.toList i, Lst listed e
  ex : ∃ φ m hm, DIn ops H R tsE φ0 h0 w0 listed a w φ m hm
  defers : a.defers = d0

/-- what is given of the region -/
structure Ctx (P : Program) (cf : CallF) (ops : Array Oper) (H : List AHeap) (R : List OpRes) (tsE : Slots) : Prop where
  ok : drawOk ops (masksOf ops.toList []) = true
  fact : ∀ i o, ops[i]? = some o → ∃ r, OpFact P cf ops R H tsE i o r
  chk : ∀ i o r, ops[i]? = some o → R[i]? = some r → isChain o = false → ∀ v, r.v = some v → ∀ m, m ≤ lexN ops ops.size → mayAt (masksOf ops.toList []) ((List.range ops.size).filter (chainAt ops)) i m = true → m ≠ lexN ops i → ∃ h, H[m]? = some h ∧ readAt (copc P o) cf h r.ts = some v
  hlen : H.length = lexN ops ops.size + 1
  rlen : R.length = ops.size

theorem Ctx.mask (_C : Ctx P cf ops H R tsE) (hcl : ∀ i, Lst listed i → ∀ e ∈ dirsAt ops.toList i, Lst listed e) {i j : Nat} (hb : hasBit ((masksOf ops.toList []).getD i 0) j = true) (hd : ∀ e ∈ dirsAt ops.toList i, Lst listed e) : Lst listed j :=
  masksOf_spec (fun i => Lst listed i) ops.toList hcl ops.toList [] (by intro j; simp) (by intro i hi; simp at hi) i j hb hd

theorem tsAt_res {i : Nat} {r : OpRes} (h : R[i]? = some r) : tsAt R tsE i = some r.ts := by
  unfold tsAt
  have hlt : i < R.length := (List.getElem?_eq_some_iff.1 h).1
  rw [List.getElem?_append_left (by simpa using hlt), List.getElem?_map, h]
  rfl

/-- a slot stands from one operation to a later one, where none between writes it -/
theorem Ctx.const (C : Ctx P cf ops H R tsE) {t : Nat} : ∀ (k i : Nat) {A B : Slots}, tsAt R tsE i = some A → tsAt R tsE (i + k) = some B → i + k ≤ ops.size → (∀ j q, i ≤ j → j < i + k → ops[j]? = some q → q.dst ≠ some t) →
    Slots.get? (cway t).way B = Slots.get? (cway t).way A := by
  intro k
  induction k with
  | zero => intro i A B hA hB _ _; rw [Nat.add_zero, hA] at hB; cases hB; rfl
  | succ k ih =>
    intro i A B hA hB hle hne
    have hlt : i + k < ops.size := by omega
    obtain ⟨r, F⟩ := C.fact (i + k) ops[i + k] (Array.getElem?_eq_getElem hlt)
    have h1 := tsAt_res (tsE := tsE) F.res
    have h2 := F.next
    rw [show i + (k + 1) = i + k + 1 from rfl, h2] at hB
    cases hB
    rw [get?_putS (hne (i + k) _ (by omega) (by omega) (Array.getElem?_eq_getElem hlt))]
    exact ih i hA h1 (by omega) fun j q h1 h2 h3 => hne j q h1 (by omega) h3

/-- whoever touches a slot that the operation at hand touches stands in the text's order -/
theorem Ctx.touch (C : Ctx P cf ops H R tsE) (hcl : ∀ i, Lst listed i → ∀ e ∈ dirsAt ops.toList i, Lst listed e) {i : Nat} {o : Oper} (ho : ops[i]? = some o) (hu : ¬ Lst listed i) (hd : ∀ e ∈ directs o, Lst listed e) {t : Nat}
    (ht : t ∈ tmpsOf ops o ∨ o.dst = some t) : ∀ j q, ops[j]? = some q → q.dst = some t → (Lst listed j ↔ j < i) := by
  intro j q hq hqt
  have hdi : ∀ e ∈ dirsAt ops.toList i, Lst listed e := by unfold dirsAt; simpa [ho] using hd
  rcases Nat.lt_trichotomy j i with hlt | heq | hgt
  · refine ⟨fun _ => hlt, fun _ => ?_⟩
    refine C.mask hcl (((drawOk_spec C.ok ho).2 j q hlt hq).1 ?_) hdi
    unfold clash
    rw [hqt]
    rcases ht with ht | ht
    · simp [ht]
    · simp [ht]
  · subst heq
    exact ⟨fun h => absurd h hu, fun h => absurd h (Nat.lt_irrefl _)⟩
  · refine ⟨fun hj => ?_, fun h => absurd h (by omega)⟩
    exfalso
    refine hu (C.mask hcl (((drawOk_spec C.ok hq).2 i o hgt ho).1 ?_) (hcl j hj))
    unfold clash
    rw [hqt]
    rcases ht with ht | ht
    · simp [ht]
    · simp [ht]

theorem lst_set {i j : Nat} (hi : i < listed.size) : Lst (listed.setIfInBounds i true) j ↔ (i = j ∨ Lst listed j) := by
  unfold Lst
  by_cases hij : i = j
  · subst hij
    simp [hi]
  · rw [getD_set_ne false hij]
    simp [hij]

/-- one operation more has come -/
theorem Ctx.step (C : Ctx P cf ops H R tsE) (hD : DInv ops H R tsE φ0 h0 w0 d0 listed a w) {φ : Emb} {m : Nat} {hm : AHeap} (hI : DIn ops H R tsE φ0 h0 w0 listed a w φ m hm) {i : Nat} {o : Oper} {r : OpRes} (ho : ops[i]? = some o) (F : OpFact P cf ops R H tsE i o r)
    (hu : ¬ Lst listed i) (hd : ∀ e ∈ directs o, Lst listed e) {φ' : Emb} {m' : Nat} {h' : AHeap} {w' : World} (hc' : ∀ k, chainAt ops k = true → ((i = k ∨ Lst listed k) ↔ lexN ops k < m')) (hh' : H[m']? = some h') (H' : HRel φ' h' w') (E' : Ext φ hm w φ' h' w')
    (hv : okV φ' h'.next (r.v.getD undef)) : DInv ops H R tsE φ0 h0 w0 d0 (listed.setIfInBounds i true) (a.put o.dst (mapV φ' (r.v.getD undef))) w' := by
  have hi : i < ops.size := (Array.getElem?_eq_some_iff.1 ho).1
  have hil : i < listed.size := by rw [hD.size]; exact hi
  have hT := tsAt_res (tsE := tsE) F.res
  refine ⟨by simp [hD.size], ?_, ⟨φ', m', h', ?_, hh', H', hI.ext.trans E', ?_⟩, ?_⟩
  · intro k hk e he
    rw [lst_set hil] at hk ⊢
    right
    rcases hk with rfl | hk
    · unfold dirsAt at he
      simp only [Array.getElem?_toList, ho] at he
      exact hd e he
    · exact hD.closed k hk e he
  · intro k hk
    rw [lst_set hil]
    exact hc' k hk
  · intro i' ts' hi' hts t hcond
    have hcond' : ∀ j q, ops[j]? = some q → q.dst = some t → ((i = j ∨ Lst listed j) ↔ j < i') := fun j q h1 h2 => by rw [← lst_set hil]; exact hcond j q h1 h2
    by_cases hdt : o.dst = some t
    · have htouch := C.touch hD.closed ho hu hd (.inr hdt)
      have hP := (hI.slots i r.ts (Nat.le_of_lt hi) hT t htouch).agree E'.agree E'.next
      have hlt : i < i' := (hcond' i o ho hdt).1 (.inl rfl)
      have hset := hP.set hv
      have hnext := F.next
      have hconst := C.const (i' - (i + 1)) (i + 1) (t := t) hnext (by rw [show i + 1 + (i' - (i + 1)) = i' by omega]; exact hts) (by omega) (fun j q h1 h2 h3 h4 => by
        have h5 : i = j ∨ Lst listed j := (hcond' j q h3 h4).2 (by omega)
        rcases h5 with h5 | h5
        · omega
        · have := (htouch j q h3 h4).1 h5
          omega)
      have hput : putS r.ts o.dst (r.v.getD undef) = Slots.set (cway t).way r.ts (r.v.getD undef) := by unfold putS; rw [hdt]
      rw [hput] at hconst
      have hput' : (a.put o.dst (mapV φ' (r.v.getD undef))).tmps = a.tmps.setIfInBounds t (mapV φ' (r.v.getD undef)) := by unfold Act.put; rw [hdt]
      rw [hput']
      unfold PRel
      rw [hconst]
      exact hset
    · have hP := (hI.slots i' ts' hi' hts t (fun j q h1 h2 => by
        have := hcond' j q h1 h2
        by_cases hij : i = j
        · subst hij
          rw [ho] at h1
          cases h1
          exact absurd h2 hdt
        · simpa [hij] using this)).agree E'.agree E'.next
      unfold PRel at hP ⊢
      refine ⟨?_, hP.2⟩
      rw [← hP.1]
      unfold Act.put
      cases hod : o.dst with
      | none => rfl
      | some d =>
        simp only
        rw [Array.getElem?_setIfInBounds_ne]
        intro e
        exact hdt (by rw [hod, e])
  · rw [← hD.defers]
    unfold Act.put
    cases o.dst <;> rfl

theorem count_set_lt {i : Nat} (hi : i < listed.size) (hu : ¬ Lst listed i) {fuel : Nat} (hf : listed.toList.count false ≤ fuel + 1) : (listed.setIfInBounds i true).toList.count false ≤ fuel := by
  rw [Array.toList_setIfInBounds, List.count_set (by simpa using hi)]
  have : listed.toList[i]'(by simpa using hi) = false := by
    unfold Lst at hu
    simp [hi] at hu
    simpa using hu
  rw [this]
  simp only [beq_self_eq_true, if_true]
  have h2 : (true == false) = false := rfl
  simp only [h2, Bool.false_eq_true, if_false]
  omega

theorem read_sound (hP : NamesFine P) (hcf : SoundCF P cf) {φ : Emb} {h : AHeap} {ts : Slots} {o : Oper} {v : Value} {ro : Option Nat} (H' : HRel φ h w) (hs : ∀ x ∈ o.op.operands.toList, fineOp x = true → OpRel φ h.next ts a.eval x)
    (hr : readAt (copc P o) cf h ts = some v) {K : Act → World → Prop} {Q : Exit → Act → World → Prop} (hK : ∀ w', HRel φ h w' → Ext φ h w φ h w' → okV φ h.next v → K (a.put o.dst (mapV φ v)) w') : o.wpIn (Wf ro) 0 P a w K Q := by
  unfold readAt at hr
  obtain ⟨t, nx, lw, fl⟩ := h
  simp only at hr
  split at hr
  · rename_i v' h' hc
    obtain ⟨hn, hr⟩ := cond_some hr
    cases hr
    have hn := beq_iff.1 hn
    have H2 : HRel φ ⟨t, nx, lw, nx⟩ w := ⟨H'.live, H'.apart, H'.bound, H'.fresh⟩
    refine opc_sound' hP hcf H2 hs hc fun φ' w' k1 k2 k3 => ?_
    have hno : ∀ b, ¬ Wr φ ⟨t, nx, lw, nx⟩ b := by
      rintro b ⟨i, o, hi, hf, _⟩
      have := AHeap.lt_of_get hi
      simp only at hf this
      omega
    have hfr : ∀ b, b < w.heap.size → w'.heap[b]? = w.heap[b]? := fun b hb => k2.frame b hb (hno b)
    have H3 : HRel φ ⟨t, nx, lw, fl⟩ w' := ⟨fun i o hi => (H'.live i o hi).same (hfr _ (H'.live i o hi).lt), H'.apart, H'.bound, H'.fresh⟩
    have hag : Agree h'.next φ' φ := fun i hi => by
      rw [hn] at hi
      have := k2.agree i hi
      exact ⟨this.1.symm, this.2.symm⟩
    obtain ⟨e1, e2⟩ := mapV_agree hag (Nat.le_refl _) v k3
    rw [← e1]
    rw [hn] at e2
    exact hK w' H3 ⟨Agree.refl _ _, Nat.le_refl _, k2.size, fun b hb _ => hfr b hb, fun b hb => .inr hb, rfl, k2.same⟩ e2
  · simp at hr

theorem all_listed {k : Nat} (C : Ctx P cf ops H R tsE) (hr : Region.ready .any ops listed = []) (hs : listed.size = ops.size) : k < ops.size → Lst listed k := by
  induction k using Nat.strongRecOn with
  | _ k ih =>
    intro hk
    by_cases hl : Lst listed k
    · exact hl
    · exfalso
      have ho := Array.getElem?_eq_getElem hk
      have : k ∈ Region.ready .any ops listed := by
        rw [mem_ready]
        refine ⟨?_, ops[k], ho, fun e he hb => ?_⟩
        · unfold Lst at hl
          have : k < listed.size := by omega
          simp [this] at hl ⊢
          exact hl
        · have hd : e.on ∈ directs ops[k] := by
            unfold directs
            rw [List.mem_map]
            exact ⟨e, by rw [List.mem_filter]; exact ⟨by simpa using he, hb⟩, rfl⟩
          have hlt := (drawOk_spec C.ok ho).1 _ hd
          exact ih e.on hlt (by omega)
      rw [hr] at this
      cases this

theorem draw_any (hP : NamesFine P) (hcf : SoundCF P cf) (C : Ctx P cf ops H R tsE) {hE : AHeap} (hlast : H[lexN ops ops.size]? = some hE) {ro : Option Nat} {Q : Exit → Act → World → Prop}
    (hend : tsAt R tsE ops.size = some tsE)
    (hQ : ∀ φ' a' w', SRel φ' hE.next tsE a'.tmps → a'.defers = d0 → HRel φ' hE w' → Ext φ0 h0 w0 φ' hE w' → Q .normal a' w') :
    ∀ (fuel : Nat) {listed : Array Bool} {a : Act} {w : World}, listed.toList.count false ≤ fuel → DInv ops H R tsE φ0 h0 w0 d0 listed a w → wpAnyIn (Wf ro) 0 P .any ops Q fuel listed a w := by
  have fin : ∀ {listed : Array Bool} {a : Act} {w : World}, DInv ops H R tsE φ0 h0 w0 d0 listed a w → Region.ready .any ops listed = [] → Q .normal a w := by
    intro listed a w hD hr
    obtain ⟨φ, m, hm, hI⟩ := hD.ex
    have hall : ∀ k, k < ops.size → Lst listed k := fun k hk => all_listed C hr hD.size hk
    have hmle : m ≤ lexN ops ops.size := by
      have := (List.getElem?_eq_some_iff.1 hI.heap).1
      rw [C.hlen] at this
      omega
    have hmeq : m = lexN ops ops.size := by
      rcases Nat.lt_or_ge m (lexN ops ops.size) with h | h
      · obtain ⟨j, h1, h2, h3⟩ := lexN_inv ops _ _ h
        have := (hI.chain j h2).1 (hall j h1)
        omega
      · omega
    subst hmeq
    have hh : hm = hE := by
      have := hI.heap
      rw [hlast] at this
      cases this
      rfl
    subst hh
    refine hQ φ a w (fun t => ?_) hD.defers hI.rel hI.ext
    exact hI.slots ops.size tsE (Nat.le_refl _) hend t fun j q hq _ => ⟨fun _ => (Array.getElem?_eq_some_iff.1 hq).1, fun h => hall j h⟩
  intro fuel
  induction fuel with
  | zero =>
    intro listed a w hf hD
    have hr : Region.ready .any ops listed = [] := by
      rw [List.eq_nil_iff_forall_not_mem]
      intro i hi
      obtain ⟨h1, o, ho, _⟩ := mem_ready.1 hi
      have hlt : i < listed.size := by rw [hD.size]; exact (Array.getElem?_eq_some_iff.1 ho).1
      have : false ∈ listed.toList := by
        rw [Array.mem_toList_iff, Array.mem_iff_getElem]
        refine ⟨i, hlt, ?_⟩
        simpa [hlt] using h1
      have := List.count_pos_iff.2 this
      omega
    exact ⟨hr, fin hD hr⟩
  | succ fuel ih =>
    intro listed a w hf hD
    refine ⟨fin hD, fun i hi => ?_⟩
    obtain ⟨h1, o, ho, hdir⟩ := mem_ready.1 hi
    have hlt : i < ops.size := (Array.getElem?_eq_some_iff.1 ho).1
    have hltl : i < listed.size := by rw [hD.size]; exact hlt
    have hu : ¬ Lst listed i := by
      unfold Lst
      simp [hltl] at h1 ⊢
      exact h1
    have hd : ∀ e ∈ directs o, Lst listed e := by
      intro e he
      unfold directs at he
      rw [List.mem_map] at he
      obtain ⟨e', h2, rfl⟩ := he
      rw [List.mem_filter] at h2
      exact hdir e' (by simpa using h2.1) h2.2
    have hdi : ∀ e ∈ dirsAt ops.toList i, Lst listed e := by unfold dirsAt; simpa [ho] using hd
    obtain ⟨φ, m, hm, hI⟩ := hD.ex
    obtain ⟨r, F⟩ := C.fact i o ho
    have hT := tsAt_res (tsE := tsE) F.res
    have hslot : ∀ t ∈ tmpsOf ops o, PRel φ hm.next r.ts a.tmps t := fun t ht => hI.slots i r.ts (Nat.le_of_lt hlt) hT t (C.touch hD.closed ho hu hd (.inl ht))
    have hops : ∀ x ∈ o.op.operands.toList, fineOp x = true → OpRel φ hm.next r.ts a.eval x := by
      intro x hx hfx
      cases x with
      | tmp t => exact (hslot t (by unfold tmpsOf; rw [List.mem_append, List.mem_filterMap]; exact .inl ⟨.tmp t, hx, rfl⟩)).get
      | const v => unfold OpRel; rw [cval_const]; exact ⟨(plainV_map hfx).symm, plainV_ok hfx⟩
      | global g => simp [fineOp] at hfx
      | func f => refine ⟨?_, ?_⟩ <;> simp [cval, Act.eval, mapFn, okFn]
    have hw : Region.wanted o (yielded ops a.tmps) = (cguard ops o).test r.ts := wanted_sound' (φ := φ) ops o fun j want d hg hdst => (hslot d (by
      unfold tmpsOf
      rw [List.mem_append]
      right
      rw [hg]
      simp only [hdst]
      simp)).1
    have hchm : isChain o = true → m = lexN ops i := by
      intro hc
      have hci : chainAt ops i = true := by rw [chainAt_of ho]; exact hc
      have h2 : m ≤ lexN ops i := by
        rcases Nat.lt_or_ge (lexN ops i) m with h | h
        · exact absurd ((hI.chain i hci).2 h) hu
        · exact h
      rcases Nat.lt_or_ge m (lexN ops i) with h | h
      · obtain ⟨j, k1, k2, k3⟩ := lexN_inv ops _ _ h
        have hjlt : j < ops.size := by omega
        have hoj := Array.getElem?_eq_getElem hjlt
        have hcj : isChain ops[j] = true := by rw [← chainAt_of hoj]; exact k2
        have := C.mask hD.closed (((drawOk_spec C.ok ho).2 j _ k1 hoj).2 hcj hc) hdi
        have := (hI.chain j k2).1 this
        omega
      · omega
    unfold wpOpIn
    simp only [ho]
    rw [hw, F.guard]
    cases hc : isChain o with
    | true =>
      have hmi := hchm hc
      subst hmi
      obtain ⟨h1', h2', q1, q2, q3, q4⟩ := F.chain hc
      have e1 : h1' = hm := by have := hI.heap; rw [q1] at this; cases this; rfl
      subst e1
      have hc' : ∀ k, chainAt ops k = true → ((i = k ∨ Lst listed k) ↔ lexN ops k < lexN ops i + 1) := by
        intro k hk
        rw [hI.chain k hk]
        constructor
        · rintro (rfl | h) <;> omega
        · intro h
          rcases Nat.lt_trichotomy k i with h3 | h3 | h3
          · exact .inr (lexN_lt ops hk h3)
          · exact .inl h3.symm
          · have := lexN_lt ops (show chainAt ops i = true by rw [chainAt_of ho]; exact hc) h3
            omega
      cases hv : r.v with
      | none =>
        simp only [Option.isSome_none, Bool.false_eq_true, if_false]
        refine ⟨fun _ _ => trivial, ih (count_set_lt hltl hu hf) ?_⟩
        have e2 := q4 hv
        subst e2
        have := C.step hD hI ho F hu hd hc' q2 hI.rel (Ext.refl _ _ _) (by rw [hv]; exact okV_undef)
        rw [hv] at this
        simp only [Option.getD_none, mapV_undef] at this
        exact this
      | some v =>
        simp only [Option.isSome_some, if_true]
        refine opc_sound' hP hcf hI.rel hops (q3 v hv) fun φ' w' k1 k2 k3 => ih (count_set_lt hltl hu hf) ?_
        have := C.step hD hI ho F hu hd hc' q2 k1 k2 (by rw [hv]; exact k3)
        rw [hv] at this
        exact this
    | false =>
      have hc' : ∀ k, chainAt ops k = true → ((i = k ∨ Lst listed k) ↔ lexN ops k < m) := by
        intro k hk
        rw [← hI.chain k hk]
        constructor
        · rintro (rfl | h)
          · rw [chainAt_of ho, hc] at hk; cases hk
          · exact h
        · exact .inr
      cases hv : r.v with
      | none =>
        simp only [Option.isSome_none, Bool.false_eq_true, if_false]
        refine ⟨fun _ _ => trivial, ih (count_set_lt hltl hu hf) ?_⟩
        have := C.step hD hI ho F hu hd hc' hI.heap hI.rel (Ext.refl _ _ _) (by rw [hv]; exact okV_undef)
        rw [hv] at this
        simp only [Option.getD_none, mapV_undef] at this
        exact this
      | some v =>
        simp only [Option.isSome_some, if_true]
        have hread : readAt (copc P o) cf hm r.ts = some v := by
          by_cases hml : m = lexN ops i
          · subst hml
            obtain ⟨h1', q1, q2⟩ := F.read hc
            have e1 : h1' = hm := by have := hI.heap; rw [q1] at this; cases this; rfl
            subst e1
            exact q2 v hv
          · have hmle : m ≤ lexN ops ops.size := by
              have := (List.getElem?_eq_some_iff.1 hI.heap).1
              rw [C.hlen] at this
              omega
            obtain ⟨h', q1, q2⟩ := C.chk i o r ho F.res hc v hv m hmle (by
              unfold mayAt
              rw [Bool.and_eq_true, List.all_eq_true, List.all_eq_true]
              refine ⟨fun c hcm => ?_, fun c hcm => ?_⟩
              · obtain ⟨k1, k2, k3⟩ := chain_take ops hcm
                cases hb : hasBit ((masksOf ops.toList []).getD c 0) i with
                | false => rfl
                | true =>
                  have hlc := (hI.chain c k2).2 k3
                  exact absurd (C.mask hD.closed hb (hD.closed c hlc)) hu
              · obtain ⟨k1, k2, k3⟩ := chain_drop ops hcm
                cases hb : hasBit ((masksOf ops.toList []).getD i 0) c with
                | false => rfl
                | true =>
                  have := (hI.chain c k2).1 (C.mask hD.closed hb hdi)
                  omega) hml
            have e1 : h' = hm := by have := hI.heap; rw [q1] at this; cases this; rfl
            subst e1
            exact q2
        refine read_sound hP hcf hI.rel hops hread fun w' k1 k2 k3 => ih (count_set_lt hltl hu hf) ?_
        have := C.step hD hI ho F hu hd hc' hI.heap k1 k2 (by rw [hv]; exact k3)
        rw [hv] at this
        exact this
end main

theorem draw_sound (hP : NamesFine P) {cf : CallF} (hcf : SoundCF P cf) : DrawSound P cf := by
  intro ops s s' φ0 a0 w0 ro Q hr hs hQ
  unfold cdraw at hr
  cases hok : (cinfo ops).ok with
  | false => simp [hok] at hr
  | true =>
    simp only [hok, cond_true] at hr
    unfold drawEnd at hr
    split at hr
    · rename_i tsE hE hsF rsF hp
      obtain ⟨hck, hr⟩ := cond_some hr
      cases hr
      obtain ⟨_, ⟨l2, e2⟩, q3, q4, q5, q6, q7⟩ := pass_spec (P := P) ops.toList 0 s.tmps s.heap [] [] (by intro j; simp) rfl rfl hp
      have hlen : 0 + ops.toList.length = ops.size := by simp
      rw [hlen] at q3 q4 q5
      have hci : (cinfo ops).chain = (List.range ops.size).filter (chainAt ops) := rfl
      have hchk := check_spec (P := P) (cf := cf) (ops := ops) (info := cinfo ops) (H := hsF.reverse) ops.toList 0 rsF.reverse (by intro j; simp) hck
      have C : Ctx P cf ops hsF.reverse rsF.reverse tsE := {
        ok := hok
        fact := fun i o ho => q7 i o (Nat.zero_le _) ho
        chk := fun i o r ho hri hc v hv m hm hmay hne => by
          obtain ⟨r', h1, h2⟩ := hchk i o (by simpa using ho) hc
          rw [hri] at h1
          cases h1
          exact h2 v hv m (by rw [hci]; exact hm) (by rw [Nat.zero_add]; exact hmay) (by rw [Nat.zero_add]; exact hne)
        hlen := by rw [List.length_reverse]; exact q4
        rlen := by rw [List.length_reverse]; exact q3 }
      have hend : tsAt rsF.reverse tsE ops.size = some tsE := by
        unfold tsAt
        rw [List.getElem?_append_right (by simp [q3])]
        simp [q3]
      have hH0 : hsF.reverse[0]? = some s.heap := by rw [e2]; rfl
      refine draw_any (φ0 := φ0) (h0 := s.heap) (w0 := w0) (d0 := a0.defers) hP hcf C q5 hend (fun φ' a' w' k1 k2 k3 k4 => hQ φ' a' w' ⟨k1, k3, ?_, ?_⟩ k4) ops.size ?_ ?_
      · rw [k2, hs.marks, marks_agree k4.agree hs.below]
      · exact fun d hd => Nat.lt_of_lt_of_le (hs.below d hd) k4.next
      · simp
      · have hno : ∀ k, ¬ Lst (Array.replicate ops.size false) k := by
          intro k hk
          unfold Lst at hk
          simp only [Array.getD_eq_getD_getElem?, Array.getElem?_replicate] at hk
          split at hk <;> simp at hk
        refine ⟨by simp, fun i hi => absurd hi (hno i), ⟨φ0, 0, s.heap, ?_, hH0, hs.heap, Ext.refl _ _ _, ?_⟩, rfl⟩
        · exact fun k _ => ⟨fun h => absurd h (hno k), fun h => by omega⟩
        · intro i ts hi hts t hcond
          have hsame : Slots.get? (cway t).way ts = Slots.get? (cway t).way s.tmps := C.const i 0 q6 (by rw [Nat.zero_add]; exact hts) (by omega) (fun j q _ h2 h3 h4 => hno j ((hcond j q h3 h4).2 (by omega)))
          unfold PRel
          rw [hsame]
          exact hs.tmps t
    · simp at hr

/-- **the evaluator is sound** -/
theorem vm_sound (hP : NamesFine P) (hm : P.follows .mixedOrders = true) (n : Nat) : SoundCF P (acall P n) := acall_sound hP hm (fun _ h => draw_sound hP h) n
end Go.Vm
