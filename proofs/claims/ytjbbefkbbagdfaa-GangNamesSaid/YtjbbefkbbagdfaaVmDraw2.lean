/- A text of the proofs of this seat: an evaluator of the model's code, its soundness, and what it has run. -/
import Derived.Test.YtjbbefkbbagdfaaVmFloat
import Derived.Orders
namespace Go.Vm
variable {P : Program} {pl : Plan}

def PRel (φ : Emb) (n : Nat) (s : Slots) (tm : Array Value) (t : Nat) : Prop :=
  tm[t]? = (Slots.get? (cway t).way s).map (mapV φ) ∧ ∀ v, Slots.get? (cway t).way s = some v → okV φ n v
theorem PRel.get {φ : Emb} {n : Nat} {s : Slots} {tm : Array Value} {t : Nat} (h : PRel φ n s tm t) : tm.getD t undef = mapV φ (s.get (cway t).way) ∧ okV φ n (s.get (cway t).way) := by
  obtain ⟨h1, h2⟩ := h
  rw [Slots.get_eq]
  rw [Array.getD_eq_getD_getElem?, h1]
  cases hg : Slots.get? (cway t).way s with
  | none => simp
  | some v => simpa using h2 v hg
theorem PRel.set {φ : Emb} {n : Nat} {s : Slots} {tm : Array Value} {t : Nat} (h : PRel φ n s tm t) {v : Value} (hv : okV φ n v) : PRel φ n (Slots.set (cway t).way s v) (tm.setIfInBounds t (mapV φ v)) t := by
  unfold PRel
  rw [Slots.get?_set]
  simp only [if_true]
  obtain ⟨h1, h2⟩ := h
  cases hg : Slots.get? (cway t).way s with
  | none =>
    rw [hg] at h1
    have : tm.size ≤ t := by simpa using h1
    simp [this]
  | some u =>
    rw [hg] at h1
    have : t < tm.size := by
      rcases Nat.lt_or_ge t tm.size with h | h
      · exact h
      · rw [Array.getElem?_eq_none h] at h1; simp at h1
    simp [this, hv]
theorem PRel.agree {φ φ' : Emb} {n n' : Nat} {s : Slots} {tm : Array Value} {t : Nat} (h : PRel φ n s tm t) (ha : Agree n φ φ') (hn : n ≤ n') : PRel φ' n' s tm t := by
  obtain ⟨h1, h2⟩ := h
  refine ⟨?_, fun v hv => (mapV_agree ha hn v (h2 v hv)).2⟩
  rw [h1]
  cases hg : Slots.get? (cway t).way s with
  | none => rfl
  | some v => simp [(mapV_agree ha hn v (h2 v hg)).1]
theorem get?_putS {ts : Slots} {dst : Option Tmp} {v : Value} {t : Nat} (h : dst ≠ some t) : Slots.get? (cway t).way (putS ts dst v) = Slots.get? (cway t).way ts := by
  unfold putS
  cases dst with
  | none => rfl
  | some d =>
    simp only
    rw [Slots.get?_set, if_neg]
    intro e
    exact h (by rw [cway_inj e])

theorem inL_iff {l : List Nat} {i : Nat} : inL l i = true ↔ i ∈ l := by
  induction l with
  | nil => simp [inL]
  | cons x l ih =>
    have e : inL (x :: l) i = (bif Nat.beq x i then true else inL l i) := rfl
    rw [e]
    cases h : Nat.beq x i with
    | true => simp [beq_iff.1 h]
    | false =>
      have : ¬ x = i := fun e => by rw [beq_iff.2 e] at h; cases h
      simp [ih, Ne.symm this]

section main
variable {ops : Array Oper} {H : List AHeap} {R : List OpRes} {A : Nat → AHeap} {tsE : Slots} {φ0 : Emb} {h0 : AHeap} {w0 : World} {d0 : List Deferred} {cf : CallF} {listed : Array Bool} {a : Act} {w : World}

def bitOf (ops : Array Oper) (i j : Nat) : Prop := hasBit ((masksOf ops.toList []).getD i 0) j = true
/-- what the look at the region's text has found -/
structure Look (pl : Plan) (ops : Array Oper) : Prop where
  lim : ∀ l ∈ pl.loose, l < ops.size ∧ ∃ k, pl.loose.getLast? = some k ∧ l ≤ k
  dir : ∀ i o, ops[i]? = some o → ∀ e ∈ directs o, e < i
  cl : ∀ i o j q, ops[i]? = some o → j < i → ops[j]? = some q → clash ops q o = true → bitOf ops i j
  cc : ∀ i o j q, ops[i]? = some o → j < i → ops[j]? = some q → isCh pl j q = true → isCh pl i o = true → bitOf ops i j
  ch : ∀ i o, ops[i]? = some o → isCh pl i o = true → (∀ l ∈ pl.loose, i < l) ∨ ∀ l ∈ pl.loose, l < i ∧ bitOf ops i l
  lo : ∀ i o, ops[i]? = some o → i ∈ pl.loose → isFloat o = true ∧ (∀ l ∈ pl.loose, ¬ bitOf ops i l) ∧ ∃ d, o.dst = some d ∧ ∀ j q, ops[j]? = some q → j ≠ i → q.dst ≠ some d
  rd : ∀ i o, ops[i]? = some o → isCh pl i o = false → i ∉ pl.loose → (∀ l ∈ pl.loose, ¬ bitOf ops i l) ∨ ((∀ l ∈ pl.loose, bitOf ops i l) ∧ ∀ j, chAt pl ops j = true → (∀ l ∈ pl.loose, j < l) → bitOf ops i j)

theorem isCh_notL {i : Nat} {o : Oper} (h : isCh pl i o = true) : i ∉ pl.loose := by
  unfold isCh at h
  simp only [Bool.and_eq_true, Bool.not_eq_true'] at h
  intro e
  rw [inL_iff.2 e] at h
  simp at h

theorem look_of {masks : List Nat} (hm : masks = masksOf ops.toList []) (h : drawOk pl ops masks = true) : Look pl ops := by
  subst hm
  unfold drawOk at h
  rw [Bool.and_eq_true, List.all_eq_true, List.all_eq_true] at h
  obtain ⟨h0, h⟩ := h
  have hi : ∀ i o, ops[i]? = some o → _ := fun i o ho => by
    have h1 := h i (List.mem_range.2 (Array.getElem?_eq_some_iff.1 ho).1)
    simp only [ho] at h1
    exact h1
  have hA : ∀ i o, ops[i]? = some o → (∀ e ∈ directs o, e < i) ∧ ∀ j q, j < i → ops[j]? = some q → (clash ops q o = true → bitOf ops i j) ∧ (isCh pl j q = true → isCh pl i o = true → bitOf ops i j) := by
    intro i o ho
    have h1 := hi i o ho
    rw [Bool.and_eq_true, Bool.and_eq_true, List.all_eq_true, List.all_eq_true] at h1
    refine ⟨fun e he => blt_iff.1 (h1.1.1 e he), fun j q hj hq => ?_⟩
    have h2 := h1.1.2 j (List.mem_range.2 hj)
    simp only [hq, Bool.and_eq_true, Bool.or_eq_true, Bool.not_eq_true'] at h2
    exact ⟨fun hc => h2.1.resolve_left (by simp [hc]), fun hc hc' => h2.2.resolve_left (by simp [hc, hc'])⟩
  refine ⟨fun l hl => ?_, fun i o ho => (hA i o ho).1, fun i o j q ho hj hq => ((hA i o ho).2 j q hj hq).1, fun i o j q ho hj hq => ((hA i o ho).2 j q hj hq).2, fun i o ho hc => ?_, fun i o ho hl => ?_, fun i o ho hc hl => ?_⟩
  · have h1 := h0 l hl
    rw [Bool.and_eq_true] at h1
    refine ⟨blt_iff.1 h1.1, ?_⟩
    have h2 := h1.2
    split at h2
    · rename_i k hk; exact ⟨k, hk, ble_iff.1 h2⟩
    · cases h2
  · have h1 := hi i o ho
    rw [Bool.and_eq_true] at h1
    have h2 := h1.2
    rw [hc, cond_true, Bool.or_eq_true, List.all_eq_true, List.all_eq_true] at h2
    rcases h2 with h2 | h2
    · exact .inl fun l hl => blt_iff.1 (h2 l hl)
    · right
      intro l hl
      have := h2 l hl
      rw [Bool.and_eq_true] at this
      exact ⟨blt_iff.1 this.1, this.2⟩
  · have h1 := hi i o ho
    rw [Bool.and_eq_true] at h1
    have h2 := h1.2
    have hc : isCh pl i o = false := by
      cases hq : isCh pl i o with
      | false => rfl
      | true => exact absurd hl (isCh_notL hq)
    rw [hc, cond_false, inL_iff.2 hl, cond_true, Bool.and_eq_true, Bool.and_eq_true, List.all_eq_true] at h2
    refine ⟨h2.1.1, fun l hl hb => ?_, ?_⟩
    · have := h2.1.2 l hl
      have hb' : mBit (masksOf ops.toList []) i l = true := hb
      rw [hb'] at this
      cases this
    · have h3 := h2.2
      split at h3
      · rename_i d hd
        refine ⟨d, hd, fun j q hq hne e => ?_⟩
        rw [List.all_eq_true] at h3
        have := h3 j (List.mem_range.2 (Array.getElem?_eq_some_iff.1 hq).1)
        simp only [hq, Option.bind_some, e, beq_self_eq_true, Bool.not_true, Bool.or_false] at this
        exact hne (beq_iff.1 this)
      · cases h3
  · have h1 := hi i o ho
    rw [Bool.and_eq_true] at h1
    have h2 := h1.2
    have hl' : inL pl.loose i = false := by
      cases hq : inL pl.loose i with
      | false => rfl
      | true => exact absurd (inL_iff.1 hq) hl
    rw [hc, cond_false, hl', cond_false, Bool.or_eq_true, Bool.and_eq_true, List.all_eq_true, List.all_eq_true, List.all_eq_true] at h2
    rcases h2 with h2 | ⟨h2, h3⟩
    · left
      intro l hl hb
      have := h2 l hl
      have hb' : mBit (masksOf ops.toList []) i l = true := hb
      rw [hb'] at this
      cases this
    · right
      refine ⟨h2, fun j hj hjl => ?_⟩
      have hjs : j < ops.size := by
        unfold chAt at hj
        split at hj
        · rename_i o' ho'; exact (Array.getElem?_eq_some_iff.1 ho').1
        · cases hj
      have := h3 j (List.mem_range.2 hjs)
      have hall : pl.loose.all (fun l => Nat.blt j l) = true := by
        rw [List.all_eq_true]; exact fun l hl => blt_iff.2 (hjl l hl)
      rw [hj, hall] at this
      have h5 : mBit (masksOf ops.toList []) i j = true := by simpa using this
      exact h5

theorem isV_iff {i : Nat} {o : Oper} : isV pl i o = true ↔ isCh pl i o = true ∨ pl.loose.getLast? = some i := by
  unfold isV lastIs
  rw [Bool.or_eq_true]
  cases h : pl.loose.getLast? with
  | none => simp
  | some k => simp
theorem last_mem {k : Nat} (h : pl.loose.getLast? = some k) : k ∈ pl.loose := List.mem_of_getLast? h

def Lst (listed : Array Bool) (i : Nat) : Prop := listed.getD i false = true

/-- what is given of the region -/
structure Ctx (P : Program) (cf : CallF) (pl : Plan) (ops : Array Oper) (H : List AHeap) (R : List OpRes) (A : Nat → AHeap) (tsE : Slots) : Prop where
  ok : Look pl ops
  fact : ∀ i o, ops[i]? = some o → ∃ r, OpFact P cf pl ops R H A tsE i o r
  chk : ∀ i o r, ops[i]? = some o → R[i]? = some r → isV pl i o = false → i ∉ pl.loose → heapFree o = false → ∀ v, r.v = some v → ∀ m, m ≤ lexN pl ops ops.size → mayAt (masksOf ops.toList []) ((List.range ops.size).filter (vAt pl ops)) i m = true → m ≠ lexN pl ops i → ∃ h, H[m]? = some h ∧ readAt (copc P o) cf h r.ts = some v
  hlen : H.length = lexN pl ops ops.size + 1
  rlen : R.length = ops.size
  first : H[0]? = some (A 0)

theorem mask_lst (hcl : ∀ i, Lst listed i → ∀ e ∈ dirsAt ops.toList i, Lst listed e) {i j : Nat} (hb : bitOf ops i j) (hd : ∀ e ∈ dirsAt ops.toList i, Lst listed e) : Lst listed j :=
  masksOf_spec (fun i => Lst listed i) ops.toList hcl ops.toList [] (by intro j; simp) (by intro i hi; simp at hi) i j hb hd

theorem tsAt_res {i : Nat} {r : OpRes} (h : R[i]? = some r) : tsAt R tsE i = some r.ts := by
  unfold tsAt
  have hlt : i < R.length := (List.getElem?_eq_some_iff.1 h).1
  rw [List.getElem?_append_left (by simpa using hlt), List.getElem?_map, h]
  rfl

/-- a slot stands from one operation to a later one, where none between writes it -/
theorem Ctx.const (C : Ctx P cf pl ops H R A tsE) {t : Nat} : ∀ (k i : Nat) {X Y : Slots}, tsAt R tsE i = some X → tsAt R tsE (i + k) = some Y → i + k ≤ ops.size → (∀ j q, i ≤ j → j < i + k → ops[j]? = some q → q.dst ≠ some t) →
    Slots.get? (cway t).way Y = Slots.get? (cway t).way X := by
  intro k
  induction k with
  | zero => intro i A B hA hB _ _; rw [Nat.add_zero, hA] at hB; cases hB; rfl
  | succ k ih =>
    intro i A B hA hB hle hne
    have hlt : i + k < ops.size := by omega
    obtain ⟨r, F⟩ := C.fact (i + k) ops[i + k] (Array.getElem?_eq_getElem hlt)
    have h1 := tsAt_res (tsE := tsE) F.res
    have h2 := F.next
    rw [show i + (k + 1) = i + k + 1 from rfl, h2] at hB
    cases hB
    rw [get?_putS (hne (i + k) _ (by omega) (by omega) (Array.getElem?_eq_getElem hlt))]
    exact ih i hA h1 (by omega) fun j q h1 h2 h3 => hne j q h1 (by omega) h3

/-- whoever touches a slot that the operation at hand touches stands in the text's order -/
theorem Ctx.touch (C : Ctx P cf pl ops H R A tsE) (hcl : ∀ i, Lst listed i → ∀ e ∈ dirsAt ops.toList i, Lst listed e) {i : Nat} {o : Oper} (ho : ops[i]? = some o) (hu : ¬ Lst listed i) (hd : ∀ e ∈ directs o, Lst listed e) {t : Nat}
    (ht : t ∈ tmpsOf ops o ∨ o.dst = some t) : ∀ j q, ops[j]? = some q → q.dst = some t → (Lst listed j ↔ j < i) := by
  intro j q hq hqt
  have hdi : ∀ e ∈ dirsAt ops.toList i, Lst listed e := by unfold dirsAt; simpa [ho] using hd
  rcases Nat.lt_trichotomy j i with hlt | heq | hgt
  · refine ⟨fun _ => hlt, fun _ => ?_⟩
    refine mask_lst hcl (C.ok.cl i o j q ho hlt hq ?_) hdi
    unfold clash
    rw [hqt]
    rcases ht with ht | ht
    · simp [ht]
    · simp [ht]
  · subst heq
    exact ⟨fun h => absurd h hu, fun h => absurd h (Nat.lt_irrefl _)⟩
  · refine ⟨fun hj => ?_, fun h => absurd h (by omega)⟩
    exfalso
    refine hu (mask_lst hcl (C.ok.cl j q i o hq hgt ho ?_) (hcl j hj))
    unfold clash
    rw [hqt]
    rcases ht with ht | ht
    · simp [ht]
    · simp [ht]

theorem lst_set {i j : Nat} (hi : i < listed.size) : Lst (listed.setIfInBounds i true) j ↔ (i = j ∨ Lst listed j) := by
  unfold Lst
  by_cases hij : i = j
  · subst hij
    simp [hi]
  · rw [getD_set_ne false hij]
    simp [hij]

def Slotted (ops : Array Oper) (R : List OpRes) (tsE : Slots) (listed : Array Bool) (a : Act) (φ : Emb) (n : Nat) (T : Nat → Prop) : Prop :=
  ∀ i ts, i ≤ ops.size → tsAt R tsE i = some ts → ∀ t, T t → (∀ j q, ops[j]? = some q → q.dst = some t → (Lst listed j ↔ j < i)) → PRel φ n ts a.tmps t

/-- one operation more has come: the slots -/
theorem Ctx.slots (C : Ctx P cf pl ops H R A tsE) (hcl : ∀ i, Lst listed i → ∀ e ∈ dirsAt ops.toList i, Lst listed e) {T : Nat → Prop} {φ φ' : Emb} {n n' : Nat} (hS : Slotted ops R tsE listed a φ n T) {i : Nat} {o : Oper} {r : OpRes} (ho : ops[i]? = some o)
    (F : OpFact P cf pl ops R H A tsE i o r) (hil : i < listed.size) (hu : ¬ Lst listed i) (hd : ∀ e ∈ directs o, Lst listed e) (hag : Agree n φ φ') (hn : n ≤ n') (hv : ∀ t, o.dst = some t → T t → okV φ' n' (r.v.getD undef)) {u : Value}
    (hu' : ∀ t, o.dst = some t → T t → u = mapV φ' (r.v.getD undef)) : Slotted ops R tsE (listed.setIfInBounds i true) (a.put o.dst u) φ' n' T := by
  have hi : i < ops.size := (Array.getElem?_eq_some_iff.1 ho).1
  have hT := tsAt_res (tsE := tsE) F.res
  intro i' ts' hi' hts t hTt hcond
  have hcond' : ∀ j q, ops[j]? = some q → q.dst = some t → ((i = j ∨ Lst listed j) ↔ j < i') := fun j q h1 h2 => by rw [← lst_set hil]; exact hcond j q h1 h2
  by_cases hdt : o.dst = some t
  · have htouch := C.touch hcl ho hu hd (.inr hdt)
    have hP := (hS i r.ts (Nat.le_of_lt hi) hT t hTt htouch).agree hag hn
    have hlt : i < i' := (hcond' i o ho hdt).1 (.inl rfl)
    have hset := hP.set (hv t hdt hTt)
    have hnext := F.next
    have hconst := C.const (i' - (i + 1)) (i + 1) (t := t) hnext (by rw [show i + 1 + (i' - (i + 1)) = i' by omega]; exact hts) (by omega) (fun j q h1 h2 h3 h4 => by
      have h5 : i = j ∨ Lst listed j := (hcond' j q h3 h4).2 (by omega)
      rcases h5 with h5 | h5
      · omega
      · have := (htouch j q h3 h4).1 h5
        omega)
    have hput : putS r.ts o.dst (r.v.getD undef) = Slots.set (cway t).way r.ts (r.v.getD undef) := by unfold putS; rw [hdt]
    rw [hput] at hconst
    have hput' : (a.put o.dst u).tmps = a.tmps.setIfInBounds t (mapV φ' (r.v.getD undef)) := by unfold Act.put; rw [hdt, hu' t hdt hTt]
    rw [hput']
    unfold PRel
    rw [hconst]
    exact hset
  · have hP := (hS i' ts' hi' hts t hTt (fun j q h1 h2 => by
      have := hcond' j q h1 h2
      by_cases hij : i = j
      · subst hij
        rw [ho] at h1
        cases h1
        exact absurd h2 hdt
      · simpa [hij] using this)).agree hag hn
    unfold PRel at hP ⊢
    refine ⟨?_, hP.2⟩
    rw [← hP.1]
    unfold Act.put
    cases hod : o.dst with
    | none => rfl
    | some d =>
      simp only
      rw [Array.getElem?_setIfInBounds_ne]
      intro e
      exact hdt (by rw [hod, e])
theorem put_defers (a : Act) (d : Option Tmp) (v : Value) : (a.put d v).defers = a.defers := by unfold Act.put; cases d <;> rfl
theorem closed_set (hcl : ∀ i, Lst listed i → ∀ e ∈ dirsAt ops.toList i, Lst listed e) {i : Nat} {o : Oper} (ho : ops[i]? = some o) (hil : i < listed.size) (hd : ∀ e ∈ directs o, Lst listed e) :
    ∀ k, Lst (listed.setIfInBounds i true) k → ∀ e ∈ dirsAt ops.toList k, Lst (listed.setIfInBounds i true) e := by
  intro k hk e he
  rw [lst_set hil] at hk ⊢
  right
  rcases hk with rfl | hk
  · unfold dirsAt at he
    simp only [Array.getElem?_toList, ho] at he
    exact hd e he
  · exact hcl k hk e he

theorem count_set_lt {i : Nat} (hi : i < listed.size) (hu : ¬ Lst listed i) {fuel : Nat} (hf : listed.toList.count false ≤ fuel + 1) : (listed.setIfInBounds i true).toList.count false ≤ fuel := by
  rw [Array.toList_setIfInBounds, List.count_set (by simpa using hi)]
  have : listed.toList[i]'(by simpa using hi) = false := by
    unfold Lst at hu
    simp [hi] at hu
    simpa using hu
  rw [this]
  simp only [beq_self_eq_true, if_true]
  have h2 : (true == false) = false := rfl
  simp only [h2, Bool.false_eq_true, if_false]
  omega

theorem read_sound (hP : NamesFine P) (hcf : SoundCF P cf) {φ : Emb} {h : AHeap} {ts : Slots} {o : Oper} {v : Value} {ro : Option Nat} (H' : HRel φ h w) (hs : ∀ x ∈ o.op.operands.toList, fineOp x = true → OpRel φ h.next ts a.eval x)
    (hr : readAt (copc P o) cf h ts = some v) {K : Act → World → Prop} {Q : Exit → Act → World → Prop} (hK : ∀ w', HRel φ h w' → Ext φ h w φ h w' → okV φ h.next v → K (a.put o.dst (mapV φ v)) w') : o.wpIn (Wf ro) 0 P a w K Q := by
  unfold readAt at hr
  obtain ⟨t, nx, lw, fl⟩ := h
  simp only at hr
  split at hr
  · rename_i v' h' hc
    obtain ⟨hn, hr⟩ := cond_some hr
    cases hr
    have hn := beq_iff.1 hn
    have H2 : HRel φ ⟨t, nx, lw, nx⟩ w := ⟨H'.live, H'.apart, H'.bound, H'.fresh⟩
    refine opc_sound' hP hcf H2 hs hc fun φ' w' k1 k2 k3 => ?_
    have hno : ∀ b, ¬ Wr φ ⟨t, nx, lw, nx⟩ b := by
      rintro b ⟨i, o, hi, hf, _⟩
      have := AHeap.lt_of_get hi
      simp only at hf this
      omega
    have hfr : ∀ b, b < w.heap.size → w'.heap[b]? = w.heap[b]? := fun b hb => k2.frame b hb (hno b)
    have H3 : HRel φ ⟨t, nx, lw, fl⟩ w' := ⟨fun i o hi => (H'.live i o hi).same (hfr _ (H'.live i o hi).lt), H'.apart, H'.bound, H'.fresh⟩
    have hag : Agree h'.next φ' φ := fun i hi => by
      rw [hn] at hi
      have := k2.agree i hi
      exact ⟨this.1.symm, this.2.symm⟩
    obtain ⟨e1, e2⟩ := mapV_agree hag (Nat.le_refl _) v k3
    rw [← e1]
    rw [hn] at e2
    exact hK w' H3 ⟨Agree.refl _ _, Nat.le_refl _, k2.size, fun b hb _ => hfr b hb, fun b hb => .inr hb, rfl, k2.same, fun j o hj => .inr ⟨j, o, hj, rfl⟩⟩ e2
  · simp at hr

theorem all_listed {k : Nat} (C : Ctx P cf pl ops H R A tsE) (hr : Region.ready .any ops listed = []) (hs : listed.size = ops.size) : k < ops.size → Lst listed k := by
  induction k using Nat.strongRecOn with
  | _ k ih =>
    intro hk
    by_cases hl : Lst listed k
    · exact hl
    · exfalso
      have ho := Array.getElem?_eq_getElem hk
      have : k ∈ Region.ready .any ops listed := by
        rw [mem_ready]
        refine ⟨?_, ops[k], ho, fun e he hb => ?_⟩
        · unfold Lst at hl
          have : k < listed.size := by omega
          simp [this] at hl ⊢
          exact hl
        · have hd : e.on ∈ directs ops[k] := by
            unfold directs
            rw [List.mem_map]
            exact ⟨e, by rw [List.mem_filter]; exact ⟨by simpa using he, hb⟩, rfl⟩
          have hlt := C.ok.dir k _ ho _ hd
          exact ih e.on hlt (by omega)
      rw [hr] at this
      cases this
/-- what is known of an operation that is ready -/
theorem ready_spec {i : Nat} (hs : listed.size = ops.size) (hi : i ∈ Region.ready .any ops listed) : ∃ o, ops[i]? = some o ∧ i < listed.size ∧ ¬ Lst listed i ∧ ∀ e ∈ directs o, Lst listed e := by
  obtain ⟨h1, o, ho, hdir⟩ := mem_ready.1 hi
  have hlt : i < ops.size := (Array.getElem?_eq_some_iff.1 ho).1
  have hltl : i < listed.size := by rw [hs]; exact hlt
  refine ⟨o, ho, hltl, ?_, ?_⟩
  · unfold Lst
    simp [hltl] at h1 ⊢
    exact h1
  · intro e he
    unfold directs at he
    rw [List.mem_map] at he
    obtain ⟨e', h2, rfl⟩ := he
    rw [List.mem_filter] at h2
    exact hdir e' (by simpa using h2.1) h2.2
theorem dirs_of {i : Nat} {o : Oper} (ho : ops[i]? = some o) (hd : ∀ e ∈ directs o, Lst listed e) : ∀ e ∈ dirsAt ops.toList i, Lst listed e := by unfold dirsAt; simpa [ho] using hd
theorem done_of_zero (hs : listed.size = ops.size) (hf : listed.toList.count false ≤ 0) : Region.ready .any ops listed = [] := by
  rw [List.eq_nil_iff_forall_not_mem]
  intro i hi
  obtain ⟨h1, o, ho, _⟩ := mem_ready.1 hi
  have hlt : i < listed.size := by rw [hs]; exact (Array.getElem?_eq_some_iff.1 ho).1
  have : false ∈ listed.toList := by
    rw [Array.mem_toList_iff, Array.mem_iff_getElem]
    refine ⟨i, hlt, ?_⟩
    simpa [hlt] using h1
  have := List.count_pos_iff.2 this
  omega

/-! ### the heaps of the pass -/
theorem Ctx.stage (C : Ctx P cf pl ops H R A tsE) : ∀ i, i ≤ ops.size → ((∀ l ∈ pl.loose, i ≤ l) ∨ ∀ l ∈ pl.loose, l < i) → H[lexN pl ops i]? = some (A i) := by
  intro i
  induction i with
  | zero => intro _ _; exact C.first
  | succ i ih =>
    intro hi hc
    have ho := Array.getElem?_eq_getElem (show i < ops.size by omega)
    obtain ⟨r, F⟩ := C.fact i _ ho
    have hlx := lexN_succ (pl := pl) ops i
    rw [vAt_of ho] at hlx
    cases hV : isV pl i ops[i] with
    | true => rw [hlx, hV]; exact F.chain hV
    | false =>
      rw [hV] at hlx
      simp only [Bool.false_eq_true, if_false, Nat.add_zero] at hlx
      rw [hlx]
      have hnl : i ∉ pl.loose := by
        intro hl
        rcases hc with hc | hc
        · have := hc i hl; omega
        · obtain ⟨_, k, hk, hik⟩ := C.ok.lim i hl
          have := hc k (last_mem hk)
          have : k = i := by omega
          subst this
          rw [isV_iff.2 (.inr hk)] at hV
          cases hV
      have hl' : inL pl.loose i = false := by
        cases hq : inL pl.loose i with
        | false => rfl
        | true => exact absurd (inL_iff.1 hq) hnl
      rw [(F.read hV hl').2]
      refine ih (by omega) ?_
      rcases hc with hc | hc
      · exact .inl fun l hl => by have := hc l hl; omega
      · refine .inr fun l hl => ?_
        have := hc l hl
        have : l ≠ i := fun e => hnl (e ▸ hl)
        omega
theorem Ctx.grows (C : Ctx P cf pl ops H R A tsE) {i : Nat} : ∀ j, i ≤ j → j ≤ ops.size → (A i).next ≤ (A j).next := by
  intro j hij
  induction hij with
  | refl => intro _; exact Nat.le_refl _
  | @step j hj ih =>
    intro hjs
    have ho := Array.getElem?_eq_getElem (show j < ops.size from hjs)
    obtain ⟨r, F⟩ := C.fact j _ ho
    have h1 := ih (by omega)
    refine Nat.le_trans h1 ?_
    cases hV : isV pl j ops[j] with
    | true => exact F.grow hV
    | false =>
      cases hl : inL pl.loose j with
      | true =>
        obtain ⟨q1, q2⟩ := F.run (.inr hl)
        cases hv : r.v with
        | none => rw [q2 hv]; exact Nat.le_refl _
        | some v =>
          obtain ⟨cs, g, _, e, _⟩ := float_spec (C.ok.lo j _ ho (inL_iff.1 hl)).1 (q1 v hv)
          rw [e]
          exact Nat.le_succ _
      | false => rw [(F.read hV hl).2]; exact Nat.le_refl _

/-! ### behind the point where all loose blocks have come -/
structure DIn2 (pl : Plan) (ops : Array Oper) (H : List AHeap) (R : List OpRes) (tsE : Slots) (φ0 : Emb) (h0 : AHeap) (w0 : World) (listed : Array Bool) (a : Act) (w : World) (φ : Emb) (m : Nat) (hm : AHeap) : Prop where
  chain : ∀ i, vAt pl ops i = true → (Lst listed i ↔ lexN pl ops i < m)
  heap : H[m]? = some hm
  rel : HRel φ hm w
  ext : Ext φ0 h0 w0 φ hm w
  slots : Slotted ops R tsE listed a φ hm.next fun _ => True
structure DInv2 (pl : Plan) (ops : Array Oper) (H : List AHeap) (R : List OpRes) (tsE : Slots) (φ0 : Emb) (h0 : AHeap) (w0 : World) (d0 : List Deferred) (listed : Array Bool) (a : Act) (w : World) : Prop where
  size : listed.size = ops.size
  closed : ∀ i, Lst listed i → ∀ e ∈ dirsAt ops.toList i, Lst listed e
  all : ∀ l ∈ pl.loose, Lst listed l
  ex : ∃ φ m hm, DIn2 pl ops H R tsE φ0 h0 w0 listed a w φ m hm
  defers : a.defers = d0

theorem oprel_of {φ : Emb} {n : Nat} {ts : Slots} {o : Oper} (hslot : ∀ t ∈ tmpsOf ops o, PRel φ n ts a.tmps t) : ∀ x ∈ o.op.operands.toList, fineOp x = true → OpRel φ n ts a.eval x := by
  intro x hx hfx
  cases x with
  | tmp t => exact (hslot t (by unfold tmpsOf; rw [List.mem_append, List.mem_filterMap]; exact .inl ⟨.tmp t, hx, rfl⟩)).get
  | const v => unfold OpRel; rw [cval_const]; exact ⟨(plainV_map hfx).symm, plainV_ok hfx⟩
  | global g => simp [fineOp] at hfx
  | func f => refine ⟨?_, ?_⟩ <;> simp [cval, Act.eval, mapFn, okFn]
theorem wanted_of {φ : Emb} {n : Nat} {ts : Slots} {o : Oper} (hslot : ∀ t ∈ tmpsOf ops o, PRel φ n ts a.tmps t) : Region.wanted o (yielded ops a.tmps) = (cguard ops o).test ts :=
  wanted_sound' (φ := φ) ops o fun j want d hg hdst => (hslot d (by
    unfold tmpsOf
    rw [List.mem_append]
    right
    rw [hg]
    simp only [hdst]
    simp)).1

theorem draw2 (hP : NamesFine P) (hcf : SoundCF P cf) (C : Ctx P cf pl ops H R A tsE) {ro : Option Nat} {Q : Exit → Act → World → Prop}
    (hend : tsAt R tsE ops.size = some tsE)
    (hQ : ∀ φ' a' w', SRel φ' (A ops.size).next tsE a'.tmps → a'.defers = d0 → HRel φ' (A ops.size) w' → Ext φ0 h0 w0 φ' (A ops.size) w' → Q .normal a' w') :
    ∀ (fuel : Nat) {listed : Array Bool} {a : Act} {w : World}, listed.toList.count false ≤ fuel → DInv2 pl ops H R tsE φ0 h0 w0 d0 listed a w → wpAnyIn (Wf ro) 0 P .any ops Q fuel listed a w := by
  have hlast : H[lexN pl ops ops.size]? = some (A ops.size) := C.stage _ (Nat.le_refl _) (.inr fun l hl => (C.ok.lim l hl).1)
  have fin : ∀ {listed : Array Bool} {a : Act} {w : World}, DInv2 pl ops H R tsE φ0 h0 w0 d0 listed a w → Region.ready .any ops listed = [] → Q .normal a w := by
    intro listed a w hD hr
    obtain ⟨φ, m, hm, hI⟩ := hD.ex
    have hall : ∀ k, k < ops.size → Lst listed k := fun k hk => all_listed C hr hD.size hk
    have hmle : m ≤ lexN pl ops ops.size := by
      have := (List.getElem?_eq_some_iff.1 hI.heap).1
      rw [C.hlen] at this
      omega
    have hmeq : m = lexN pl ops ops.size := by
      rcases Nat.lt_or_ge m (lexN pl ops ops.size) with h | h
      · obtain ⟨j, h1, h2, h3⟩ := lexN_inv ops _ _ h
        have := (hI.chain j h2).1 (hall j h1)
        omega
      · omega
    subst hmeq
    have hh : hm = A ops.size := by
      have := hI.heap
      rw [hlast] at this
      cases this
      rfl
    subst hh
    refine hQ φ a w (fun t => ?_) hD.defers hI.rel hI.ext
    exact hI.slots ops.size tsE (Nat.le_refl _) hend t trivial fun j q hq _ => ⟨fun _ => (Array.getElem?_eq_some_iff.1 hq).1, fun h => hall j h⟩
  intro fuel
  induction fuel with
  | zero =>
    intro listed a w hf hD
    have hr := done_of_zero hD.size hf
    exact ⟨hr, fin hD hr⟩
  | succ fuel ih =>
    intro listed a w hf hD
    refine ⟨fin hD, fun i hi => ?_⟩
    obtain ⟨o, ho, hltl, hu, hd⟩ := ready_spec hD.size hi
    have hlt : i < ops.size := (Array.getElem?_eq_some_iff.1 ho).1
    have hdi := dirs_of ho hd
    obtain ⟨φ, m, hm, hI⟩ := hD.ex
    obtain ⟨r, F⟩ := C.fact i o ho
    have hT := tsAt_res (tsE := tsE) F.res
    have hnl : i ∉ pl.loose := fun hl => hu (hD.all i hl)
    have hl' : inL pl.loose i = false := by
      cases hq : inL pl.loose i with
      | false => rfl
      | true => exact absurd (inL_iff.1 hq) hnl
    have hslot : ∀ t ∈ tmpsOf ops o, PRel φ hm.next r.ts a.tmps t := fun t ht => hI.slots i r.ts (Nat.le_of_lt hlt) hT t trivial (C.touch hD.closed ho hu hd (.inl ht))
    have hops := oprel_of hslot
    -- whatever came of it
    have step : ∀ {φ' : Emb} {m' : Nat} {h' : AHeap} {w' : World}, (∀ k, vAt pl ops k = true → ((i = k ∨ Lst listed k) ↔ lexN pl ops k < m')) → H[m']? = some h' → HRel φ' h' w' → Ext φ hm w φ' h' w' → okV φ' h'.next (r.v.getD undef) →
        DInv2 pl ops H R tsE φ0 h0 w0 d0 (listed.setIfInBounds i true) (a.put o.dst (mapV φ' (r.v.getD undef))) w' := by
      intro φ' m' h' w' hc' hh' H' E' hv
      refine ⟨by simp [hD.size], closed_set hD.closed ho hltl hd, fun l hl => by rw [lst_set hltl]; exact .inr (hD.all l hl), ⟨φ', m', h', ?_, hh', H', hI.ext.trans E', ?_⟩, by rw [put_defers]; exact hD.defers⟩
      · intro k hk
        rw [lst_set hltl]
        exact hc' k hk
      · exact C.slots hD.closed hI.slots ho F hltl hu hd E'.agree E'.next (fun _ _ _ => hv) (fun _ _ _ => rfl)
    unfold wpOpIn
    simp only [ho]
    rw [wanted_of hslot, F.guard]
    cases hc : isV pl i o with
    | true =>
      have hcc : isCh pl i o = true := (isV_iff.1 hc).resolve_right fun e => hnl (last_mem e)
      have hci : vAt pl ops i = true := by rw [vAt_of ho]; exact hc
      have hmi : m = lexN pl ops i := by
        have h2 : m ≤ lexN pl ops i := by
          rcases Nat.lt_or_ge (lexN pl ops i) m with h | h
          · exact absurd ((hI.chain i hci).2 h) hu
          · exact h
        rcases Nat.lt_or_ge m (lexN pl ops i) with h | h
        · obtain ⟨j, k1, k2, k3⟩ := lexN_inv ops _ _ h
          have hoj := Array.getElem?_eq_getElem (show j < ops.size by omega)
          have hLj : Lst listed j := by
            rw [vAt_of hoj] at k2
            rcases isV_iff.1 k2 with k2 | k2
            · exact mask_lst hD.closed (C.ok.cc i o j _ ho k1 hoj k2 hcc) hdi
            · exact hD.all j (last_mem k2)
          have := (hI.chain j k2).1 hLj
          omega
        · omega
      subst hmi
      obtain ⟨q3, q4⟩ := F.run (.inl hc)
      have e1 : A i = hm := by
        have h1 := C.stage i (by omega) (by
          rcases C.ok.ch i o ho hcc with h | h
          · exact .inl fun l hl => Nat.le_of_lt (h l hl)
          · exact .inr fun l hl => (h l hl).1)
        have := hI.heap
        rw [h1] at this
        cases this
        rfl
      rw [e1] at q3 q4
      have q2 := F.chain hc
      have hc' : ∀ k, vAt pl ops k = true → ((i = k ∨ Lst listed k) ↔ lexN pl ops k < lexN pl ops i + 1) := by
        intro k hk
        rw [hI.chain k hk]
        constructor
        · rintro (rfl | h) <;> omega
        · intro h
          rcases Nat.lt_trichotomy k i with h3 | h3 | h3
          · exact .inr (lexN_lt ops hk h3)
          · exact .inl h3.symm
          · have := lexN_lt ops hci h3
            omega
      cases hv : r.v with
      | none =>
        simp only [Option.isSome_none, Bool.false_eq_true, if_false]
        refine ⟨fun _ _ => trivial, ih (count_set_lt hltl hu hf) ?_⟩
        have e2 := q4 hv
        have := step hc' (by rw [q2, e2]) hI.rel (Ext.refl _ _ _) (by rw [hv]; exact okV_undef)
        rw [hv] at this
        simp only [Option.getD_none, mapV_undef] at this
        exact this
      | some v =>
        simp only [Option.isSome_some, if_true]
        refine opc_sound' hP hcf hI.rel hops (q3 v hv) fun φ' w' k1 k2 k3 => ih (count_set_lt hltl hu hf) ?_
        have := step hc' q2 k1 k2 (by rw [hv]; exact k3)
        rw [hv] at this
        exact this
    | false =>
      have hc' : ∀ k, vAt pl ops k = true → ((i = k ∨ Lst listed k) ↔ lexN pl ops k < m) := by
        intro k hk
        rw [← hI.chain k hk]
        constructor
        · rintro (rfl | h)
          · rw [vAt_of ho, hc] at hk; cases hk
          · exact h
        · exact .inr
      cases hv : r.v with
      | none =>
        simp only [Option.isSome_none, Bool.false_eq_true, if_false]
        refine ⟨fun _ _ => trivial, ih (count_set_lt hltl hu hf) ?_⟩
        have := step hc' hI.heap hI.rel (Ext.refl _ _ _) (by rw [hv]; exact okV_undef)
        rw [hv] at this
        simp only [Option.getD_none, mapV_undef] at this
        exact this
      | some v =>
        simp only [Option.isSome_some, if_true]
        have hread : readAt (copc P o) cf hm r.ts = some v := by
          by_cases hml : m = lexN pl ops i
          · subst hml
            obtain ⟨⟨h1', q1, q2⟩, _⟩ := F.read hc hl'
            have e1 : h1' = hm := by have := hI.heap; rw [q1] at this; cases this; rfl
            subst e1
            exact q2 v hv
          · by_cases hhf : heapFree o = true
            · obtain ⟨⟨h1', _, q2⟩, _⟩ := F.read hc hl'
              exact read_free hhf (q2 v hv)
            have hmle : m ≤ lexN pl ops ops.size := by
              have := (List.getElem?_eq_some_iff.1 hI.heap).1
              rw [C.hlen] at this
              omega
            obtain ⟨h', q1, q2⟩ := C.chk i o r ho F.res hc hnl (by simpa using hhf) v hv m hmle (by
              unfold mayAt
              rw [Bool.and_eq_true, List.all_eq_true, List.all_eq_true]
              refine ⟨fun c hcm => ?_, fun c hcm => ?_⟩
              · obtain ⟨k1, k2, k3⟩ := chain_take ops hcm
                cases hb : hasBit ((masksOf ops.toList []).getD c 0) i with
                | false => rfl
                | true =>
                  have hlc := (hI.chain c k2).2 k3
                  exact absurd (mask_lst hD.closed hb (hD.closed c hlc)) hu
              · obtain ⟨k1, k2, k3⟩ := chain_drop ops hcm
                cases hb : hasBit ((masksOf ops.toList []).getD i 0) c with
                | false => rfl
                | true =>
                  have := (hI.chain c k2).1 (mask_lst hD.closed hb hdi)
                  omega) hml
            have e1 : h' = hm := by have := hI.heap; rw [q1] at this; cases this; rfl
            subst e1
            exact q2
        refine read_sound hP hcf hI.rel hops hread fun w' k1 k2 k3 => ih (count_set_lt hltl hu hf) ?_
        have := step hc' hI.heap k1 k2 (by rw [hv]; exact k3)
        rw [hv] at this
        exact this
end main
end Go.Vm
