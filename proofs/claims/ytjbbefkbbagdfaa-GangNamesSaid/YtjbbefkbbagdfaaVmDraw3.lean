/- A text of the proofs of this seat: an evaluator of the model's code, its soundness, and what it has run. -/
import Derived.Test.YtjbbefkbbagdfaaVmDraw2
namespace Go.Vm
variable {P : Program} {pl : Plan}
variable {ops : Array Oper} {H : List AHeap} {R : List OpRes} {A : Nat → AHeap} {tsE : Slots} {φ0 : Emb} {h0 : AHeap} {w0 : World} {d0 : List Deferred} {cf : CallF} {listed : Array Bool} {a : Act} {w : World}

theorem least {l : List Nat} (h : l ≠ []) : ∃ f ∈ l, ∀ x ∈ l, f ≤ x := by
  induction l with
  | nil => exact absurd rfl h
  | cons x l ih =>
    by_cases hl : l = []
    · subst hl; exact ⟨x, by simp, by simp⟩
    · obtain ⟨f, h1, h2⟩ := ih hl
      by_cases hx : x ≤ f
      · exact ⟨x, by simp, fun y hy => by
          rcases List.mem_cons.1 hy with rfl | hy
          · exact Nat.le_refl _
          · exact Nat.le_trans hx (h2 y hy)⟩
      · exact ⟨f, by simp [h1], fun y hy => by
          rcases List.mem_cons.1 hy with rfl | hy
          · omega
          · exact h2 y hy⟩
theorem lexN_const {f : Nat} : ∀ k, f ≤ k → (∀ j, f ≤ j → j < k → vAt pl ops j = false) → lexN pl ops k = lexN pl ops f := by
  intro k hk
  induction hk with
  | refl => intro _; rfl
  | @step k hk ih =>
    intro h
    rw [lexN_succ, h k hk (Nat.lt_succ_self _), ih fun j h1 h2 => h j h1 (by omega)]
    simp
theorem bit_lt (L : Look pl ops) {i j : Nat} (_hi : i < ops.size) (hb : bitOf ops i j) : j < i := by
  have hdir : ∀ k e, e ∈ dirsAt ops.toList k → e < k := by
    intro k e he
    unfold dirsAt at he
    split at he
    · rename_i o ho; exact L.dir k o (by simpa using ho) e he
    · cases he
  exact masksOf_spec (fun j => j < i) ops.toList (fun k hk e he => Nat.lt_trans (hdir k e he) hk) ops.toList [] (by intro j; simp) (by intro i hi; simp at hi) i j hb (fun e he => hdir i e he)
theorem put_self (φ : Emb) (n : Nat) : φ.put n (φ.at_ n) (φ.cap n) = φ := by
  obtain ⟨x, c⟩ := φ
  unfold Emb.put
  congr 1 <;> funext j <;> by_cases h : j = n <;> simp [h]
theorem Ext.emb {φ φ' φ2 : Emb} {h h' : AHeap} {w w' : World} (E : Ext φ h w φ' h' w') (ha : Agree h'.next φ' φ2) : Ext φ h w φ2 h' w' where
  agree := E.agree.trans ha E.next
  next := E.next
  size := E.size
  frame := E.frame
  wr := fun b ⟨i, o, h1, h2, h3, h4⟩ => E.wr b ⟨i, o, h1, h2, h3, by rw [← (ha i (AHeap.lt_of_get h1)).1]; exact h4⟩
  floor := E.floor
  same := E.same
  live := fun j o hj => by rw [(ha j (AHeap.lt_of_get hj)).1]; exact E.live j o hj

/-- a loose block that has come before its place -/
def Pend (A : Nat → AHeap) (φ : Emb) (gm : AHeap) (w w0 : World) (a : Act) (l : Nat) (o : Oper) (r : OpRes) : Prop :=
  (∀ d, o.dst = some d → ∀ φ2 : Emb, (∀ v, r.v = some v → φ2.at_ (A l).next = φ.at_ (A l).next ∧ φ2.cap (A l).next = φ.cap (A l).next) → PRel φ2 (A (l + 1)).next (putS r.ts o.dst (r.v.getD undef)) a.tmps d) ∧
  ∀ v, r.v = some v → ∃ cs g, A (l + 1) = (A l).more (some (.row cs true g)) ∧ (A l).next < far ∧ RowAt φ gm.next w (φ.at_ (A l).next) (φ.cap (A l).next) cs g ∧ w0.heap.size ≤ (φ.at_ (A l).next).block ∧
    ∀ j oj, gm.get j = some oj → (φ.at_ j).block ≠ (φ.at_ (A l).next).block
def Tof (pl : Plan) (ops : Array Oper) (listed : Array Bool) (t : Nat) : Prop := ∀ l o, l ∈ pl.loose → Lst listed l → ops[l]? = some o → o.dst ≠ some t

structure DIn1 (pl : Plan) (ops : Array Oper) (H : List AHeap) (R : List OpRes) (A : Nat → AHeap) (tsE : Slots) (φ0 : Emb) (h0 : AHeap) (w0 : World) (k : Nat) (listed : Array Bool) (a : Act) (w : World) (φ : Emb) (m : Nat) (gm : AHeap) : Prop where
  chain : ∀ i, chAt pl ops i = true → (∀ l ∈ pl.loose, i < l) → (Lst listed i ↔ lexN pl ops i < m)
  dep : ∀ i l, i < ops.size → l ∈ pl.loose → bitOf ops i l → ¬ Lst listed i
  small : m ≤ lexN pl ops k
  heap : H[m]? = some gm
  rel : HRel φ gm w
  ext : Ext φ0 h0 w0 φ gm w
  slots : Slotted ops R tsE listed a φ gm.next (Tof pl ops listed)
  pend : ∀ l o r, l ∈ pl.loose → Lst listed l → ops[l]? = some o → R[l]? = some r → Pend A φ gm w w0 a l o r
  disj : ∀ l l' r r' v v', l ∈ pl.loose → l' ∈ pl.loose → l ≠ l' → Lst listed l → Lst listed l' → R[l]? = some r → R[l']? = some r' → r.v = some v → r'.v = some v' → (φ.at_ (A l).next).block ≠ (φ.at_ (A l').next).block
structure DInv1 (pl : Plan) (ops : Array Oper) (H : List AHeap) (R : List OpRes) (A : Nat → AHeap) (tsE : Slots) (φ0 : Emb) (h0 : AHeap) (w0 : World) (k : Nat) (d0 : List Deferred) (listed : Array Bool) (a : Act) (w : World) : Prop where
  size : listed.size = ops.size
  closed : ∀ i, Lst listed i → ∀ e ∈ dirsAt ops.toList i, Lst listed e
  ex : ∃ φ m gm, DIn1 pl ops H R A tsE φ0 h0 w0 k listed a w φ m gm
  defers : a.defers = d0

/-- what stands in the chain before the last loose one is before all of them -/
theorem before_of (L : Look pl ops) {k j : Nat} (hk : pl.loose.getLast? = some k) (hj : j < k) (hv : vAt pl ops j = true) : chAt pl ops j = true ∧ ∀ l ∈ pl.loose, j < l := by
  unfold vAt at hv
  split at hv
  · rename_i o ho
    rcases isV_iff.1 hv with h | h
    · refine ⟨by rw [chAt_of ho]; exact h, ?_⟩
      rcases L.ch j o ho h with h2 | h2
      · exact h2
      · have := (h2 k (last_mem hk)).1; omega
    · rw [hk] at h; cases h; omega
  · cases hv
theorem vAt_ch {i : Nat} (h : chAt pl ops i = true) : vAt pl ops i = true := by
  unfold chAt at h
  split at h
  · rename_i o ho; rw [vAt_of ho]; exact isV_iff.2 (.inl h)
  · cases h

/-- all loose ones have come, and all that stands before them: they take their places -/
theorem absorb (C : Ctx P cf pl ops H R A tsE) {k : Nat} (hk : pl.loose.getLast? = some k) {φ : Emb} {m : Nat} {gm : AHeap} (hI : DIn1 pl ops H R A tsE φ0 h0 w0 k listed a w φ m gm) (hall : ∀ l ∈ pl.loose, Lst listed l) (hm : m = lexN pl ops k) :
    DIn2 pl ops H R tsE φ0 h0 w0 listed a w φ (lexN pl ops k + 1) (A (k + 1)) := by
  have hkm := last_mem hk
  have hkS := (C.ok.lim k hkm).1
  obtain ⟨f, hf, hmin⟩ := least (l := pl.loose) (by intro e; rw [e] at hkm; cases hkm)
  have hfk := hmin k hkm
  have hnoV : ∀ j, f ≤ j → j < k → vAt pl ops j = false := by
    intro j h1 h2
    cases hv : vAt pl ops j with
    | false => rfl
    | true => have := (before_of C.ok hk h2 hv).2 f hf; omega
  have hlx := lexN_const k hfk hnoV
  have hAf : A f = gm := by
    have h1 := C.stage f (by omega) (.inl hmin)
    have h2 := hI.heap
    rw [hm, hlx, h1] at h2
    cases h2
    rfl
  have hok := Array.getElem?_eq_getElem hkS
  have hVk : isV pl k ops[k] = true := isV_iff.2 (.inr hk)
  have claim : ∀ d, f + d ≤ k + 1 → HRel φ (A (f + d)) w ∧ (A (f + d)).floor = gm.floor ∧ ∀ j oj, (A (f + d)).get j = some oj → gm.get j = some oj ∨ ∃ l o r v, l ∈ pl.loose ∧ l < f + d ∧ ops[l]? = some o ∧ R[l]? = some r ∧ r.v = some v ∧ j = (A l).next := by
    intro d
    induction d with
    | zero => intro _; rw [Nat.add_zero, hAf]; exact ⟨hI.rel, rfl, fun j oj h => .inl h⟩
    | succ d ih =>
      intro hd
      obtain ⟨i1, i2, i3⟩ := ih (by omega)
      have hi : f + d < ops.size := by omega
      have ho := Array.getElem?_eq_getElem hi
      obtain ⟨r, F⟩ := C.fact _ _ ho
      have keep : A (f + d + 1) = A (f + d) → HRel φ (A (f + (d + 1))) w ∧ (A (f + (d + 1))).floor = gm.floor ∧ ∀ j oj, (A (f + (d + 1))).get j = some oj → gm.get j = some oj ∨ ∃ l o r v, l ∈ pl.loose ∧ l < f + (d + 1) ∧ ops[l]? = some o ∧ R[l]? = some r ∧ r.v = some v ∧ j = (A l).next := by
        intro e
        rw [show f + (d + 1) = f + d + 1 from rfl, e]
        refine ⟨i1, i2, fun j oj hj => ?_⟩
        rcases i3 j oj hj with h | ⟨l, o, r, v, q1, q2, q3⟩
        · exact .inl h
        · exact .inr ⟨l, o, r, v, q1, by omega, q3⟩
      by_cases hl : f + d ∈ pl.loose
      · have hinl : inL pl.loose (f + d) = true := inL_iff.2 hl
        obtain ⟨_, q2⟩ := F.run (.inr hinl)
        cases hv : r.v with
        | none => exact keep (q2 hv)
        | some v =>
          obtain ⟨_, hp⟩ := hI.pend _ _ _ hl (hall _ hl) ho F.res
          obtain ⟨cs, g, e1, e2, e3, e4, e5⟩ := hp v hv
          rw [show f + (d + 1) = f + d + 1 from rfl, e1]
          have hle : gm.next ≤ (A (f + d)).next := by rw [← hAf]; exact C.grows _ (by omega) (by omega)
          have hplace := HRel.placeH (w' := w) i1 e2 (some (.row cs true g)) (φ.at_ (A (f + d)).next) (φ.cap (A (f + d)).next) (fun _ _ => rfl) (fun o' e => by
            cases e
            rw [put_self]
            exact (e3.agree (Agree.refl _ _) (Nat.le_succ_of_le hle)).to) (fun o' _ j oj hj => by
            rcases i3 j oj hj with h | ⟨l, o, r', v', q1, q2, q3, q4, q5, rfl⟩
            · exact e5 j oj h
            · exact hI.disj l (f + d) r' r v' v q1 hl (by omega) (hall l q1) (hall _ hl) q4 F.res q5 hv)
          rw [put_self] at hplace
          refine ⟨hplace, i2, fun j oj hj => ?_⟩
          rw [AHeap.get_more e2] at hj
          by_cases hn : (A (f + d)).next = j
          · exact .inr ⟨f + d, _, r, v, hl, by omega, ho, F.res, hv, hn.symm⟩
          · rw [if_neg hn] at hj
            rcases i3 j oj hj with h | ⟨l, o, r, v, q1, q2, q3⟩
            · exact .inl h
            · exact .inr ⟨l, o, r, v, q1, by omega, q3⟩
      · have hne : f + d ≠ k := fun e => hl (e ▸ hkm)
        have hV : isV pl (f + d) ops[f + d] = false := by rw [← vAt_of ho]; exact hnoV _ (by omega) (by omega)
        have hinl : inL pl.loose (f + d) = false := by
          cases hq : inL pl.loose (f + d) with
          | false => rfl
          | true => exact absurd (inL_iff.1 hq) hl
        exact keep (F.read hV hinl).2
  obtain ⟨c1, c2, c3⟩ := claim (k + 1 - f) (by omega)
  rw [show f + (k + 1 - f) = k + 1 by omega] at c1 c2 c3
  have hle : gm.next ≤ (A (k + 1)).next := by rw [← hAf]; exact C.grows _ (by omega) (by omega)
  have hpre : ∀ j oj, (A (k + 1)).get j = some oj → gm.get j = some oj ∨ w0.heap.size ≤ (φ.at_ j).block := by
    intro j oj hj
    rcases c3 j oj hj with h | ⟨l, o, r, v, q1, q2, q3, q4, q5, rfl⟩
    · exact .inl h
    · obtain ⟨_, hp⟩ := hI.pend l o r q1 (hall l q1) q3 q4
      obtain ⟨cs, g, _, _, _, e4, _⟩ := hp v q5
      exact .inr e4
  refine ⟨fun i hi => ?_, ?_, c1, ⟨hI.ext.agree, Nat.le_trans hI.ext.next hle, hI.ext.size, hI.ext.frame, ?_, c2.trans hI.ext.floor, hI.ext.same, ?_⟩, ?_⟩
  · rcases Nat.lt_trichotomy i k with h | h | h
    · obtain ⟨h1, h2⟩ := before_of C.ok hk h hi
      rw [hI.chain i h1 h2, hm]
      have := lexN_lt ops hi h
      omega
    · subst h
      exact ⟨fun _ => Nat.lt_succ_self _, fun _ => hall _ hkm⟩
    · have hlt : i < ops.size := by
        unfold vAt at hi
        split at hi
        · rename_i o ho; exact (Array.getElem?_eq_some_iff.1 ho).1
        · cases hi
      have ho := Array.getElem?_eq_getElem hlt
      rw [vAt_of ho] at hi
      have hch : isCh pl i ops[i] = true := (isV_iff.1 hi).resolve_right (by rw [hk]; intro e; cases e; omega)
      have hb : bitOf ops i k := by
        rcases C.ok.ch i _ ho hch with h2 | h2
        · have := h2 k hkm; omega
        · exact (h2 k hkm).2
      refine ⟨fun hL => absurd hL (hI.dep i k hlt hkm hb), fun hx => ?_⟩
      have h3 := lexN_lt (pl := pl) ops (show vAt pl ops k = true by rw [vAt_of hok]; exact hVk) h
      omega
  · obtain ⟨r, F⟩ := C.fact k _ hok
    exact F.chain hVk
  · rintro b ⟨i, o, h1, h2, h3, h4⟩
    rcases hpre i o h1 with h | h
    · exact hI.ext.wr b ⟨i, o, h, by rw [← c2]; exact h2, h3, h4⟩
    · exact .inl (by rw [← h4]; exact h)
  · intro j o hj
    rcases hpre j o hj with h | h
    · exact hI.ext.live j o h
    · exact .inl h
  · intro i' ts' hi' hts t _ hcond
    by_cases hT : Tof pl ops listed t
    · exact (hI.slots i' ts' hi' hts t hT hcond).agree (Agree.refl _ _) hle
    · unfold Tof at hT
      simp only [Classical.not_forall] at hT
      obtain ⟨l, o, hl, hL, ho, hd⟩ := hT
      have hd := Classical.not_not.1 hd
      have hls := (Array.getElem?_eq_some_iff.1 ho).1
      obtain ⟨r, F⟩ := C.fact l o ho
      obtain ⟨_, _, d, hd', huniq⟩ := C.ok.lo l o ho hl
      rw [hd] at hd'
      cases hd'
      have hlt : l < i' := (hcond l o ho hd).1 hL
      obtain ⟨hp, _⟩ := hI.pend l o r hl hL ho F.res
      have hP := hp t hd φ (fun _ _ => ⟨rfl, rfl⟩)
      have hconst := C.const (i' - (l + 1)) (l + 1) (t := t) F.next (by rw [show l + 1 + (i' - (l + 1)) = i' by omega]; exact hts) (by omega) (fun j q h1 h2 h3 h4 => huniq j q h3 (by omega) h4)
      obtain ⟨_, k', hk', hlk⟩ := C.ok.lim l hl
      rw [hk] at hk'
      cases hk'
      have hP' := hP.agree (Agree.refl _ _) (C.grows (i := l + 1) (k + 1) (by omega) (by omega))
      unfold PRel
      rw [hconst]
      exact hP'

theorem tof_of (C : Ctx P cf pl ops H R A tsE) (hcl : ∀ i, Lst listed i → ∀ e ∈ dirsAt ops.toList i, Lst listed e) {i : Nat} {o : Oper} (ho : ops[i]? = some o) (hu : ¬ Lst listed i) (hd : ∀ e ∈ directs o, Lst listed e) (hfree : ∀ l ∈ pl.loose, ¬ bitOf ops i l) {t : Nat}
    (ht : t ∈ tmpsOf ops o ∨ o.dst = some t) : Tof pl ops listed t := by
  intro l q hl hL hq hqt
  have hlt := (C.touch hcl ho hu hd ht l q hq hqt).1 hL
  refine hfree l hl (C.ok.cl i o l q ho hlt hq ?_)
  unfold clash
  rw [hqt]
  rcases ht with ht | ht
  · simp [ht]
  · simp [ht]
theorem prel_put {φ : Emb} {n : Nat} {ts : Slots} {d : Nat} {dst : Option Tmp} {u : Value} (h : PRel φ n ts a.tmps d) (hne : dst ≠ some d) : PRel φ n ts (a.put dst u).tmps d := by
  unfold PRel at h ⊢
  refine ⟨?_, h.2⟩
  rw [← h.1]
  unfold Act.put
  cases dst with
  | none => rfl
  | some e =>
    simp only
    rw [Array.getElem?_setIfInBounds_ne]
    intro e'
    exact hne (by rw [e'])

theorem draw1 (hP : NamesFine P) (hcf : SoundCF P cf) (C : Ctx P cf pl ops H R A tsE) {k : Nat} (hk : pl.loose.getLast? = some k) {ro : Option Nat} {Q : Exit → Act → World → Prop}
    (hend : tsAt R tsE ops.size = some tsE)
    (hQ : ∀ φ' a' w', SRel φ' (A ops.size).next tsE a'.tmps → a'.defers = d0 → HRel φ' (A ops.size) w' → Ext φ0 h0 w0 φ' (A ops.size) w' → Q .normal a' w') :
    ∀ (fuel : Nat) {listed : Array Bool} {a : Act} {w : World}, listed.toList.count false ≤ fuel → DInv1 pl ops H R A tsE φ0 h0 w0 k d0 listed a w → wpAnyIn (Wf ro) 0 P .any ops Q fuel listed a w := by
  have hkm := last_mem hk
  have hkS := (C.ok.lim k hkm).1
  intro fuel
  induction fuel with
  | zero =>
    intro listed a w hf hD
    obtain ⟨φ, m, gm, hI⟩ := hD.ex
    have hr := done_of_zero hD.size hf
    have hall : ∀ i, i < ops.size → Lst listed i := fun i hi => all_listed C hr hD.size hi
    have hm : m = lexN pl ops k := by
      rcases Nat.lt_or_ge m (lexN pl ops k) with h | h
      · obtain ⟨j, h1, h2, h3⟩ := lexN_inv ops _ _ h
        obtain ⟨h4, h5⟩ := before_of C.ok hk h1 h2
        have := (hI.chain j h4 h5).1 (hall j (by omega))
        omega
      · have := hI.small; omega
    exact draw2 hP hcf C hend hQ 0 hf ⟨hD.size, hD.closed, fun l hl => hall l (C.ok.lim l hl).1, ⟨φ, _, _, absorb C hk hI (fun l hl => hall l (C.ok.lim l hl).1) hm⟩, hD.defers⟩
  | succ fuel ih =>
    intro listed a w hf hD
    obtain ⟨φ, m, gm, hI⟩ := hD.ex
    by_cases hdone : (∀ l ∈ pl.loose, Lst listed l) ∧ m = lexN pl ops k
    · exact draw2 hP hcf C hend hQ (fuel + 1) hf ⟨hD.size, hD.closed, hdone.1, ⟨φ, _, _, absorb C hk hI hdone.1 hdone.2⟩, hD.defers⟩
    -- those before the loose ones: if they have all come, the stage is there
    have hmk : (∀ j, j < k → vAt pl ops j = true → Lst listed j) → m = lexN pl ops k := by
      intro h
      rcases Nat.lt_or_ge m (lexN pl ops k) with h' | h'
      · obtain ⟨j, h1, h2, h3⟩ := lexN_inv ops _ _ h'
        obtain ⟨h4, h5⟩ := before_of C.ok hk h1 h2
        have := (hI.chain j h4 h5).1 (h j h1 h2)
        omega
      · have := hI.small; omega
    refine ⟨fun hr => absurd ⟨fun l hl => all_listed C hr hD.size (C.ok.lim l hl).1, hmk fun j hj _ => all_listed C hr hD.size (by omega)⟩ hdone, fun i hi => ?_⟩
    obtain ⟨o, ho, hltl, hu, hd⟩ := ready_spec hD.size hi
    have hlt : i < ops.size := (Array.getElem?_eq_some_iff.1 ho).1
    have hdi := dirs_of ho hd
    obtain ⟨r, F⟩ := C.fact i o ho
    have hT := tsAt_res (tsE := tsE) F.res
    -- whoever stands behind all loose ones is not ready
    have hfree : ∀ l ∈ pl.loose, ¬ bitOf ops i l := by
      cases hc : isCh pl i o with
      | true =>
        rcases C.ok.ch i o ho hc with h | h
        · intro l hl hb
          have := bit_lt C.ok hlt hb
          have := h l hl
          omega
        · refine absurd ⟨fun l hl => mask_lst hD.closed (h l hl).2 hdi, hmk fun j hj hv => ?_⟩ hdone
          obtain ⟨h4, h5⟩ := before_of C.ok hk hj hv
          have hoj := Array.getElem?_eq_getElem (show j < ops.size by omega)
          rw [chAt_of hoj] at h4
          have hji : j < i := Nat.lt_trans (h5 k hkm) (h k hkm).1
          exact mask_lst hD.closed (C.ok.cc i o j _ ho hji hoj h4 hc) hdi
      | false =>
        by_cases hl : i ∈ pl.loose
        · exact (C.ok.lo i o ho hl).2.1
        · rcases C.ok.rd i o ho hc hl with h | ⟨h, h'⟩
          · exact h
          · refine absurd ⟨fun l hl => mask_lst hD.closed (h l hl) hdi, hmk fun j hj hv => ?_⟩ hdone
            obtain ⟨h4, h5⟩ := before_of C.ok hk hj hv
            exact mask_lst hD.closed (h' j h4 h5) hdi
    have hslot : ∀ t ∈ tmpsOf ops o, PRel φ gm.next r.ts a.tmps t := fun t ht => hI.slots i r.ts (Nat.le_of_lt hlt) hT t (tof_of C hD.closed ho hu hd hfree (.inl ht)) (C.touch hD.closed ho hu hd (.inl ht))
    have hops := oprel_of hslot
    have hTmono : ∀ t, Tof pl ops (listed.setIfInBounds i true) t → Tof pl ops listed t := fun t h l q hl hL hq => h l q hl (by rw [lst_set hltl]; exact .inr hL) hq
    have hdep : ∀ i' l, i' < ops.size → l ∈ pl.loose → bitOf ops i' l → ¬ Lst (listed.setIfInBounds i true) i' := by
      intro i' l hi' hl hb
      rw [lst_set hltl]
      rintro (rfl | h)
      · exact hfree l hl hb
      · exact hI.dep i' l hi' hl hb h
    have hfr : ∀ {φ' : Emb} {h' : AHeap} {w' : World}, Ext φ gm w φ' h' w' → ∀ l q r' v cs g, RowAt φ gm.next w (φ.at_ (A l).next) (φ.cap (A l).next) cs g → (∀ j oj, gm.get j = some oj → (φ.at_ j).block ≠ (φ.at_ (A l).next).block) → (q : Oper) = q → (r' : OpRes) = r' → (v : Value) = v →
        w'.heap[(φ.at_ (A l).next).block]? = w.heap[(φ.at_ (A l).next).block]? := by
      intro φ' h' w' E l q r' v cs g e3 e5 _ _ _
      refine E.frame _ e3.lt ?_
      rintro ⟨j, oj, h1, _, _, h4⟩
      exact e5 j oj h1 h4
    -- an operation of the chain, or one that reads
    have step : i ∉ pl.loose → ∀ {φ' : Emb} {m' : Nat} {h' : AHeap} {w' : World}, (∀ j, chAt pl ops j = true → (∀ l ∈ pl.loose, j < l) → ((i = j ∨ Lst listed j) ↔ lexN pl ops j < m')) → m' ≤ lexN pl ops k → H[m']? = some h' → HRel φ' h' w' → Ext φ gm w φ' h' w' → okV φ' h'.next (r.v.getD undef) →
        (∀ l ∈ pl.loose, Lst listed l → φ'.at_ (A l).next = φ.at_ (A l).next ∧ φ'.cap (A l).next = φ.cap (A l).next) →
        DInv1 pl ops H R A tsE φ0 h0 w0 k d0 (listed.setIfInBounds i true) (a.put o.dst (mapV φ' (r.v.getD undef))) w' := by
      intro hnl φ' m' h' w' hc' hsm hh' H' E' hv hsame
      have hlst : ∀ l ∈ pl.loose, Lst (listed.setIfInBounds i true) l → Lst listed l := by
        intro l hl hL
        rw [lst_set hltl] at hL
        exact hL.resolve_left fun e => hnl (e ▸ hl)
      refine ⟨by simp [hD.size], closed_set hD.closed ho hltl hd, ⟨φ', m', h', ?_, hdep, hsm, hh', H', hI.ext.trans E', ?_, ?_, ?_⟩, by rw [put_defers]; exact hD.defers⟩
      · intro j hj hjl
        rw [lst_set hltl]
        exact hc' j hj hjl
      · exact C.slots hD.closed (fun i ts h1 h2 t ht hc => hI.slots i ts h1 h2 t (hTmono t ht) hc) ho F hltl hu hd E'.agree E'.next (fun _ _ _ => hv) (fun _ _ _ => rfl)
      · intro l q r' hl hL hq hr'
        have hL := hlst l hl hL
        obtain ⟨p1, p2⟩ := hI.pend l q r' hl hL hq hr'
        obtain ⟨s1, s2⟩ := hsame l hl hL
        obtain ⟨_, _, d0', hd0', huniq⟩ := C.ok.lo l q hq hl
        refine ⟨fun d hdd φ2 h2 => prel_put (p1 d hdd φ2 fun v hv => ⟨(h2 v hv).1.trans s1, (h2 v hv).2.trans s2⟩) ?_, fun v hv => ?_⟩
        · rw [hd0'] at hdd
          cases hdd
          exact huniq i o ho (fun e => hnl (e ▸ hl))
        · obtain ⟨cs, g, e1, e2, e3, e4, e5⟩ := p2 v hv
          have hb := hfr E' l q r' v cs g e3 e5 rfl rfl rfl
          refine ⟨cs, g, e1, e2, ?_, by rw [s1]; exact e4, fun j oj hj => ?_⟩
          · rw [s1, s2]
            exact (e3.same hb).agree E'.agree E'.next
          · rw [s1]
            rcases E'.live j oj hj with h | ⟨j', o', h1, h2⟩
            · have := e3.lt; omega
            · rw [← h2]; exact e5 j' o' h1
      · intro l l' r1 r2 v v' hl hl' hne hL hL' h1 h2 h3 h4
        have hL := hlst l hl hL
        have hL' := hlst l' hl' hL'
        rw [(hsame l hl hL).1, (hsame l' hl' hL').1]
        exact hI.disj l l' r1 r2 v v' hl hl' hne hL hL' h1 h2 h3 h4
    unfold wpOpIn
    simp only [ho]
    rw [wanted_of hslot, F.guard]
    by_cases hl : i ∈ pl.loose
    · -- a loose one
      have hinl := inL_iff.2 hl
      obtain ⟨hflo, hnb, dd, hdd, huniq⟩ := C.ok.lo i o ho hl
      obtain ⟨q3, q4⟩ := F.run (.inr hinl)
      have hnch : ∀ j, chAt pl ops j = true → i ≠ j := by
        intro j hj e
        subst e
        rw [chAt_of ho] at hj
        exact isCh_notL hj hl
      have hle : gm.next ≤ (A i).next := by
        have h0' := hI.heap
        rcases Nat.eq_zero_or_pos m with e | e
        · subst e
          rw [C.first] at h0'
          cases h0'
          exact C.grows i (Nat.zero_le _) (Nat.le_of_lt hlt)
        · obtain ⟨j, h1, h2, h3⟩ := lexN_inv (pl := pl) ops k (m - 1) (by have := hI.small; omega)
          obtain ⟨h4, h5⟩ := before_of C.ok hk h1 h2
          have hoj := Array.getElem?_eq_getElem (show j < ops.size by omega)
          obtain ⟨rj, Fj⟩ := C.fact j _ hoj
          rw [vAt_of hoj] at h2
          have h6 := Fj.chain h2
          rw [h3, show m - 1 + 1 = m by omega] at h6
          rw [h6] at h0'
          cases h0'
          exact C.grows i (h5 i hl) (Nat.le_of_lt hlt)
      have numne : ∀ l r' v v', l ∈ pl.loose → l ≠ i → R[l]? = some r' → r'.v = some v' → r.v = some v → (A l).next ≠ (A i).next := by
        intro l r' v v' hl' hne hr' hv' hv
        have hls := (C.ok.lim l hl').1
        have hol := Array.getElem?_eq_getElem hls
        obtain ⟨r2, F2⟩ := C.fact l _ hol
        have : r2 = r' := by have := F2.res; rw [hr'] at this; cases this; rfl
        subst this
        obtain ⟨c1, g1, _, e1, _⟩ := float_spec (C.ok.lo l _ hol hl').1 ((F2.run (.inr (inL_iff.2 hl'))).1 v' hv')
        obtain ⟨c2, g2, _, e2, _⟩ := float_spec hflo (q3 v hv)
        have n1 : (A (l + 1)).next = (A l).next + 1 := by rw [e1]; rfl
        have n2 : (A (i + 1)).next = (A i).next + 1 := by rw [e2]; rfl
        rcases Nat.lt_or_gt_of_ne hne with h | h
        · have := C.grows (i := l + 1) i h (Nat.le_of_lt hlt); omega
        · have := C.grows (i := i + 1) l h (Nat.le_of_lt hls); omega
      have hTd : ∀ t, o.dst = some t → Tof pl ops (listed.setIfInBounds i true) t → False := fun t ht hTt => hTt i o hl (by rw [lst_set hltl]; exact .inl rfl) ho ht
      have hchain' : ∀ j, chAt pl ops j = true → (∀ l ∈ pl.loose, j < l) → (Lst (listed.setIfInBounds i true) j ↔ lexN pl ops j < m) := by
        intro j hj hjl
        rw [lst_set hltl, ← hI.chain j hj hjl]
        exact ⟨fun h => h.resolve_left (hnch j hj), .inr⟩
      cases hv : r.v with
      | none =>
        simp only [Option.isSome_none, Bool.false_eq_true, if_false]
        refine ⟨fun _ _ => trivial, ih (count_set_lt hltl hu hf) ?_⟩
        refine ⟨by simp [hD.size], closed_set hD.closed ho hltl hd, ⟨φ, m, gm, hchain', hdep, hI.small, hI.heap, hI.rel, hI.ext, ?_, ?_, ?_⟩, by rw [put_defers]; exact hD.defers⟩
        · exact C.slots hD.closed (fun i ts h1 h2 t ht hc => hI.slots i ts h1 h2 t (hTmono t ht) hc) ho F hltl hu hd (Agree.refl _ _) (Nat.le_refl _) (fun t ht hTt => (hTd t ht hTt).elim) (fun t ht hTt => (hTd t ht hTt).elim)
        · intro l q r' hl' hL hq hr'
          by_cases hli : l = i
          · subst hli
            rw [ho] at hq
            cases hq
            rw [F.res] at hr'
            cases hr'
            refine ⟨fun d hd' φ2 _ => ?_, fun v hv' => by rw [hv] at hv'; cases hv'⟩
            have hP0 := hI.slots l r.ts (Nat.le_of_lt hlt) hT d (tof_of C hD.closed ho hu hd hfree (.inr hd')) (C.touch hD.closed ho hu hd (.inr hd'))
            rw [hv]
            simp only [Option.getD_none]
            unfold putS
            rw [hd']
            simp only
            have hset := hP0.set (v := undef) okV_undef
            unfold PRel at hset ⊢
            rw [Slots.get?_set, if_pos rfl] at hset ⊢
            have e9 : (a.put (some d) undef).tmps = a.tmps.setIfInBounds d undef := rfl
            rw [e9]
            rw [mapV_undef] at hset
            refine ⟨?_, fun u hu' => ?_⟩
            · rw [hset.1]
              cases Slots.get? (cway d).way r.ts <;> simp
            · cases hg : Slots.get? (cway d).way r.ts with
              | none => rw [hg] at hu'; cases hu'
              | some x => rw [hg] at hu'; simp only [Option.map_some, Option.some.injEq] at hu'; subst hu'; exact okV_undef
          · have hL' : Lst listed l := by rw [lst_set hltl] at hL; exact hL.resolve_left fun e => hli e.symm
            obtain ⟨p1, p2⟩ := hI.pend l q r' hl' hL' hq hr'
            obtain ⟨_, _, d1, hd1, huniq1⟩ := C.ok.lo l q hq hl'
            refine ⟨fun d hd' φ2 h2 => prel_put (p1 d hd' φ2 h2) ?_, p2⟩
            rw [hd1] at hd'
            cases hd'
            exact huniq1 i o ho (fun e => hli e.symm)
        · intro l l' r1 r2 v v' hl1 hl2 hne hL hL' h1 h2 h3 h4
          have hx : ∀ l r1 v, Lst (listed.setIfInBounds i true) l → R[l]? = some r1 → r1.v = some v → Lst listed l := by
            intro l r1 v hL h1 h3
            rw [lst_set hltl] at hL
            refine hL.resolve_left fun e => ?_
            subst e
            rw [F.res] at h1
            cases h1
            rw [hv] at h3
            cases h3
          exact hI.disj l l' r1 r2 v v' hl1 hl2 hne (hx l r1 v hL h1 h3) (hx l' r2 v' hL' h2 h4) h1 h2 h3 h4
      | some v =>
        simp only [Option.isSome_some, if_true]
        obtain ⟨cs, g, f1, f2, f3, f4, f5⟩ := float_spec hflo (q3 v hv)
        have hops' : ∀ x ∈ o.op.operands.toList, fineOp x = true → OpRel φ (⟨.leaf, (A i).next, far, (A i).next⟩ : AHeap).next r.ts a.eval x := fun x hx hfx => ⟨(hops x hx hfx).1, (hops x hx hfx).2.mono hle⟩
        refine opc_sound' hP hcf (empty_at (φ := φ) (w := w) (Nat.le_of_lt f1)) hops' (f3 ⟨.leaf, (A i).next, far, (A i).next⟩ rfl) fun φ' w' k1 k2 k3 => ih (count_set_lt hltl hu hf) ?_
        generalize hK : (A i).next = K at *
        have hnoW : ∀ b, ¬ Wr φ ⟨.leaf, K, far, K⟩ b := by
          rintro b ⟨j, oj, h1, _⟩
          rw [AHeap.get_def] at h1
          split at h1 <;> cases h1
        have hget : ((⟨.leaf, K, far, K⟩ : AHeap).more (some (.row cs true g))).get K = some (.row cs true g) := by
          rw [AHeap.get_more (h := ⟨.leaf, K, far, K⟩) f1]; simp
        have hrow := RowAt.of (k1.live K _ hget)
        have hfresh : w.heap.size ≤ (φ'.at_ K).block := by
          have : Wr φ' ((⟨.leaf, K, far, K⟩ : AHeap).more (some (.row cs true g))) (φ'.at_ K).block := ⟨K, _, hget, Nat.le_refl _, rfl, rfl⟩
          exact (k2.wr _ this).resolve_right (hnoW _)
        have hframe : ∀ b, b < w.heap.size → w'.heap[b]? = w.heap[b]? := fun b hb => k2.frame b hb (hnoW b)
        let φ2 : Emb := φ.put K (φ'.at_ K) (φ'.cap K)
        have ha1 : Agree K φ φ2 := φ.put_agree K _ _
        have ha2 : Agree (K + 1) φ' φ2 := by
          intro j hj
          by_cases e : j = K
          · subst e; exact ⟨by simp [φ2], by simp [φ2]⟩
          · have h1 := k2.agree j (show j < K by omega)
            have h2 := ha1 j (by omega)
            exact ⟨h2.1.trans h1.1.symm, h2.2.trans h1.2.symm⟩
        have hag : Agree gm.next φ φ2 := fun j hj => ha1 j (by omega)
        have hnK : ∀ j, j ≠ K → φ2.at_ j = φ.at_ j ∧ φ2.cap j = φ.cap j := fun j hj => by simp [φ2, Emb.put, hj]
        have hmv : mapV φ' v = mapV φ2 v := ((mapV_agree ha2 (Nat.le_refl _) v k3).1).symm
        have hlive : ∀ j oj, gm.get j = some oj → (φ.at_ j).block < w.heap.size := fun j oj hj => (hI.rel.live j oj hj).lt
        have E2 : Ext φ gm w φ2 gm w' := ⟨hag, Nat.le_refl _, k2.size, fun b hb _ => hframe b hb, fun b ⟨j, oj, h1, h2, h3, h4⟩ => .inr ⟨j, oj, h1, h2, h3, by rw [← (hag j (AHeap.lt_of_get h1)).1]; exact h4⟩, rfl, k2.same, fun j oj hj => .inr ⟨j, oj, hj, by rw [(hag j (AHeap.lt_of_get hj)).1]⟩⟩
        have H2 : HRel φ2 gm w' := hI.rel.turnEmb hag fun j oj hj => hframe _ (hlive j oj hj)
        have hrow2 : RowAt φ2 gm.next w' (φ2.at_ K) (φ2.cap K) cs g := by
          have h1 := hrow.agree ha2 (Nat.le_refl _)
          have e1 : φ2.at_ K = φ'.at_ K := by simp [φ2]
          have e2 : φ2.cap K = φ'.cap K := by simp [φ2]
          rw [e1, e2]
          exact h1.bound (f5 φ2 gm.next fun x hx hfx => (mapV_agree hag (Nat.le_refl _) _ (hops x hx hfx).2).2)
        have hwsz := hI.ext.size
        refine ⟨by simp [hD.size], closed_set hD.closed ho hltl hd, ⟨φ2, m, gm, hchain', hdep, hI.small, hI.heap, H2, hI.ext.trans E2, ?_, ?_, ?_⟩, by rw [put_defers]; exact hD.defers⟩
        · exact C.slots hD.closed (fun i ts h1 h2 t ht hc => hI.slots i ts h1 h2 t (hTmono t ht) hc) ho F hltl hu hd hag (Nat.le_refl _) (fun t ht hTt => (hTd t ht hTt).elim) (fun t ht hTt => (hTd t ht hTt).elim)
        · intro l q r' hl' hL hq hr'
          by_cases hli : l = i
          · subst hli
            rw [ho] at hq
            cases hq
            rw [F.res] at hr'
            cases hr'
            refine ⟨fun d hd' φ3 h3 => ?_, fun v2 hv2 => ?_⟩
            · have hP0 := hI.slots l r.ts (Nat.le_of_lt hlt) hT d (tof_of C hD.closed ho hu hd hfree (.inr hd')) (C.touch hD.closed ho hu hd (.inr hd'))
              have hn' : (A (l + 1)).next = K + 1 := by rw [f2, ← hK]; rfl
              rw [hn', hv]
              simp only [Option.getD_some]
              unfold putS
              rw [hd']
              simp only
              have hP1 := (hP0.agree hag (show gm.next ≤ K + 1 by omega)).set (v := v) (φ := φ2) ((mapV_agree ha2 (Nat.le_refl _) v k3).2)
              obtain ⟨z1, z2⟩ := h3 v hv
              rw [hK] at z1 z2
              have e9 : (a.put (some d) (mapV φ' v)).tmps = a.tmps.setIfInBounds d (mapV φ2 v) := by rw [hmv]; rfl
              rw [e9]
              exact PRel.atN f4 z1 z2 hP1
            · rw [hv] at hv2
              cases hv2
              refine ⟨cs, g, by rw [f2], by rw [hK]; exact f1, by rw [hK]; exact hrow2, ?_, ?_⟩
              · rw [hK]
                have e1 : φ2.at_ K = φ'.at_ K := by simp [φ2]
                rw [e1]; omega
              · intro j oj hj
                rw [hK]
                have e1 : φ2.at_ K = φ'.at_ K := by simp [φ2]
                rw [e1, (hag j (AHeap.lt_of_get hj)).1]
                have := hlive j oj hj
                omega
          · have hL' : Lst listed l := by rw [lst_set hltl] at hL; exact hL.resolve_left fun e => hli e.symm
            obtain ⟨p1, p2⟩ := hI.pend l q r' hl' hL' hq hr'
            obtain ⟨_, _, d1, hd1, huniq1⟩ := C.ok.lo l q hq hl'
            have hkl : ∀ v', r'.v = some v' → φ2.at_ (A l).next = φ.at_ (A l).next ∧ φ2.cap (A l).next = φ.cap (A l).next := fun v' hv' => hnK _ (numne l r' v v' hl' hli hr' hv' hv)
            refine ⟨fun d hd' φ3 h3 => prel_put (p1 d hd' φ3 fun v' hv' => ⟨(h3 v' hv').1.trans (hkl v' hv').1, (h3 v' hv').2.trans (hkl v' hv').2⟩) ?_, fun v' hv' => ?_⟩
            · rw [hd1] at hd'
              cases hd'
              exact huniq1 i o ho (fun e => hli e.symm)
            · obtain ⟨cs', g', e1, e2, e3, e4, e5⟩ := p2 v' hv'
              obtain ⟨s1, s2⟩ := hkl v' hv'
              refine ⟨cs', g', e1, e2, ?_, by rw [s1]; exact e4, fun j oj hj => ?_⟩
              · rw [s1, s2]
                exact (e3.same (hframe _ e3.lt)).agree hag (Nat.le_refl _)
              · rw [s1, (hag j (AHeap.lt_of_get hj)).1]
                exact e5 j oj hj
        · have hnew : ∀ l r1 v1, l ∈ pl.loose → l ≠ i → Lst (listed.setIfInBounds i true) l → R[l]? = some r1 → r1.v = some v1 → φ2.at_ (A l).next = φ.at_ (A l).next ∧ (φ.at_ (A l).next).block < w.heap.size ∧ Lst listed l := by
            intro l r1 v1 hl1 hne hL h1 h3
            have hL' : Lst listed l := by rw [lst_set hltl] at hL; exact hL.resolve_left fun e => hne e.symm
            have hol := Array.getElem?_eq_getElem (C.ok.lim l hl1).1
            obtain ⟨_, p2⟩ := hI.pend l _ r1 hl1 hL' hol h1
            obtain ⟨cs', g', _, _, e3, _, _⟩ := p2 v1 h3
            exact ⟨(hnK _ (numne l r1 v v1 hl1 hne h1 h3 hv)).1, e3.lt, hL'⟩
          have e1 : φ2.at_ (A i).next = φ'.at_ K := by rw [hK]; simp [φ2]
          intro l l' r1 r2 v1 v2 hl1 hl2 hne hL hL' h1 h2 h3 h4
          by_cases hli : l = i
          · subst hli
            obtain ⟨n1, n2, _⟩ := hnew l' r2 v2 hl2 (Ne.symm hne) hL' h2 h4
            rw [e1, n1]; omega
          · by_cases hli' : l' = i
            · subst hli'
              obtain ⟨n1, n2, _⟩ := hnew l r1 v1 hl1 hli hL h1 h3
              rw [e1, n1]; omega
            · obtain ⟨n1, _, n3⟩ := hnew l r1 v1 hl1 hli hL h1 h3
              obtain ⟨m1, _, m3⟩ := hnew l' r2 v2 hl2 hli' hL' h2 h4
              rw [n1, m1]
              exact hI.disj l l' r1 r2 v1 v2 hl1 hl2 hne n3 m3 h1 h2 h3 h4
    · have hinl : inL pl.loose i = false := by
        cases hq : inL pl.loose i with
        | false => rfl
        | true => exact absurd (inL_iff.1 hq) hl
      have hik : i ≠ k := fun e => hl (e ▸ hkm)
      cases hc : isV pl i o with
      | true =>
        have hcc : isCh pl i o = true := (isV_iff.1 hc).resolve_right fun e => hl (last_mem e)
        have hci : vAt pl ops i = true := by rw [vAt_of ho]; exact hc
        have hcA : chAt pl ops i = true := by rw [chAt_of ho]; exact hcc
        have hbef : ∀ l ∈ pl.loose, i < l := by
          rcases C.ok.ch i o ho hcc with h | h
          · exact h
          · exact absurd (h k hkm).2 (hfree k hkm)
        have hikl := hbef k hkm
        have hmi : m = lexN pl ops i := by
          have h2 : m ≤ lexN pl ops i := by
            rcases Nat.lt_or_ge (lexN pl ops i) m with h | h
            · exact absurd ((hI.chain i hcA hbef).2 h) hu
            · exact h
          rcases Nat.lt_or_ge m (lexN pl ops i) with h | h
          · obtain ⟨j, k1, k2, k3⟩ := lexN_inv ops _ _ h
            obtain ⟨h4, h5⟩ := before_of C.ok hk (show j < k by omega) k2
            have hoj := Array.getElem?_eq_getElem (show j < ops.size by omega)
            have h4' := h4
            rw [chAt_of hoj] at h4'
            have hLj : Lst listed j := mask_lst hD.closed (C.ok.cc i o j _ ho k1 hoj h4' hcc) hdi
            have := (hI.chain j h4 h5).1 hLj
            omega
          · omega
        subst hmi
        obtain ⟨q3, q4⟩ := F.run (.inl hc)
        have e1 : A i = gm := by
          have h1 := C.stage i (by omega) (.inl fun l hl => Nat.le_of_lt (hbef l hl))
          have := hI.heap
          rw [h1] at this
          cases this
          rfl
        rw [e1] at q3 q4
        have q2 := F.chain hc
        have hc' : ∀ j, chAt pl ops j = true → (∀ l ∈ pl.loose, j < l) → ((i = j ∨ Lst listed j) ↔ lexN pl ops j < lexN pl ops i + 1) := by
          intro j hj hjl
          rw [hI.chain j hj hjl]
          constructor
          · rintro (rfl | h) <;> omega
          · intro h
            rcases Nat.lt_trichotomy j i with h3 | h3 | h3
            · exact .inr (lexN_lt ops (vAt_ch hj) h3)
            · exact .inl h3.symm
            · have := lexN_lt ops hci h3
              omega
        have hsm : lexN pl ops i + 1 ≤ lexN pl ops k := lexN_lt ops hci hikl
        cases hv : r.v with
        | none =>
          simp only [Option.isSome_none, Bool.false_eq_true, if_false]
          refine ⟨fun _ _ => trivial, ih (count_set_lt hltl hu hf) ?_⟩
          have e2 := q4 hv
          have := step hl hc' hsm (by rw [q2, e2]) hI.rel (Ext.refl _ _ _) (by rw [hv]; exact okV_undef) (fun _ _ _ => ⟨rfl, rfl⟩)
          rw [hv] at this
          simp only [Option.getD_none, mapV_undef] at this
          exact this
        | some v =>
          simp only [Option.isSome_some, if_true]
          refine opc_sound' hP hcf hI.rel hops (q3 v hv) fun φ' w' k1 k2 k3 => ih (count_set_lt hltl hu hf) ?_
          let φ2 : Emb := ⟨fun j => if j < (A (i + 1)).next then φ'.at_ j else φ.at_ j, fun j => if j < (A (i + 1)).next then φ'.cap j else φ.cap j⟩
          have ha : Agree (A (i + 1)).next φ' φ2 := fun j hj => by simp [φ2, hj]
          have hmv : mapV φ2 v = mapV φ' v ∧ okV φ2 (A (i + 1)).next v := mapV_agree ha (Nat.le_refl _) v k3
          have := step hl hc' hsm q2 (k1.turnEmb ha fun _ _ _ => rfl) (k2.emb ha) (by rw [hv]; exact hmv.2) (fun l hl' _ => by
            have h1 := C.grows (i := i + 1) l (hbef l hl') (Nat.le_of_lt (C.ok.lim l hl').1)
            have h2 : ¬ (A l).next < (A (i + 1)).next := by omega
            simp [φ2, h2])
          rw [hv] at this
          simp only [Option.getD_some, hmv.1] at this
          exact this
      | false =>
        have hnc : isCh pl i o = false := by
          cases hq : isCh pl i o with
          | false => rfl
          | true => rw [isV_iff.2 (.inl hq)] at hc; cases hc
        have hc' : ∀ j, chAt pl ops j = true → (∀ l ∈ pl.loose, j < l) → ((i = j ∨ Lst listed j) ↔ lexN pl ops j < m) := by
          intro j hj hjl
          rw [← hI.chain j hj hjl]
          constructor
          · rintro (rfl | h)
            · rw [chAt_of ho, hnc] at hj; cases hj
            · exact h
          · exact .inr
        cases hv : r.v with
        | none =>
          simp only [Option.isSome_none, Bool.false_eq_true, if_false]
          refine ⟨fun _ _ => trivial, ih (count_set_lt hltl hu hf) ?_⟩
          have := step hl hc' hI.small hI.heap hI.rel (Ext.refl _ _ _) (by rw [hv]; exact okV_undef) (fun _ _ _ => ⟨rfl, rfl⟩)
          rw [hv] at this
          simp only [Option.getD_none, mapV_undef] at this
          exact this
        | some v =>
          simp only [Option.isSome_some, if_true]
          have hread : readAt (copc P o) cf gm r.ts = some v := by
            by_cases hml : m = lexN pl ops i
            · subst hml
              obtain ⟨⟨h1', q1, q2⟩, _⟩ := F.read hc hinl
              have e1 : h1' = gm := by have := hI.heap; rw [q1] at this; cases this; rfl
              subst e1
              exact q2 v hv
            · by_cases hhf : heapFree o = true
              · obtain ⟨⟨h1', _, q2⟩, _⟩ := F.read hc hinl
                exact read_free hhf (q2 v hv)
              have hmle : m ≤ lexN pl ops ops.size := by
                have := (List.getElem?_eq_some_iff.1 hI.heap).1
                rw [C.hlen] at this
                omega
              obtain ⟨h', q1, q2⟩ := C.chk i o r ho F.res hc hl (by simpa using hhf) v hv m hmle (by
                unfold mayAt
                rw [Bool.and_eq_true, List.all_eq_true, List.all_eq_true]
                refine ⟨fun c hcm => ?_, fun c hcm => ?_⟩
                · obtain ⟨k1, k2, k3⟩ := chain_take ops hcm
                  cases hb : hasBit ((masksOf ops.toList []).getD c 0) i with
                  | false => rfl
                  | true =>
                    have hck : c < k := by
                      rcases Nat.lt_or_ge c k with h | h
                      · exact h
                      · have := lexN_mono (pl := pl) ops h
                        have := hI.small
                        omega
                    obtain ⟨h4, h5⟩ := before_of C.ok hk hck k2
                    have hlc := (hI.chain c h4 h5).2 k3
                    exact absurd (mask_lst hD.closed hb (hD.closed c hlc)) hu
                · obtain ⟨k1, k2, k3⟩ := chain_drop ops hcm
                  cases hb : hasBit ((masksOf ops.toList []).getD i 0) c with
                  | false => rfl
                  | true =>
                    have hLc := mask_lst hD.closed hb hdi
                    rcases Nat.lt_trichotomy c k with h | h | h
                    · obtain ⟨h4, h5⟩ := before_of C.ok hk h k2
                      have := (hI.chain c h4 h5).1 hLc
                      omega
                    · subst h; exact absurd hb (hfree c hkm)
                    · have hoc := Array.getElem?_eq_getElem k1
                      rw [vAt_of hoc] at k2
                      have hch : isCh pl c ops[c] = true := (isV_iff.1 k2).resolve_right (by rw [hk]; intro e; cases e; omega)
                      rcases C.ok.ch c _ hoc hch with h2 | h2
                      · have := h2 k hkm; omega
                      · exact absurd hLc (hI.dep c k k1 hkm (h2 k hkm).2)) hml
              have e1 : h' = gm := by have := hI.heap; rw [q1] at this; cases this; rfl
              subst e1
              exact q2
          refine read_sound hP hcf hI.rel hops hread fun w' k1 k2 k3 => ih (count_set_lt hltl hu hf) ?_
          have := step hl hc' hI.small hI.heap k1 k2 (by rw [hv]; exact k3) (fun _ _ _ => ⟨rfl, rfl⟩)
          rw [hv] at this
          exact this

theorem plan_of {ops : Array Oper} (hok : (cinfo ops).ok = true) : (cinfo ops).masks = masksOf ops.toList [] ∧ (cinfo ops).chain = (List.range ops.size).filter (vAt (cinfo ops).plan ops) ∧ drawOk (cinfo ops).plan ops (masksOf ops.toList []) = true := by
  have hor : ∀ a b : DrawInfo, orElse a b = a ∨ orElse a b = b := by
    intro a b
    unfold orElse
    split
    · exact .inl rfl
    · exact .inr rfl
  have hI : ∀ pl, ∀ d : DrawInfo, d = infoOf pl ops (masksOf ops.toList []) → d.ok = true → d.masks = masksOf ops.toList [] ∧ d.chain = (List.range ops.size).filter (vAt d.plan ops) ∧ drawOk d.plan ops (masksOf ops.toList []) = true := by
    rintro pl d rfl h
    exact ⟨rfl, rfl, h⟩
  have : ∃ pl, cinfo ops = infoOf pl ops (masksOf ops.toList []) := by
    unfold cinfo
    simp only
    rcases hor (infoOf ⟨false, []⟩ ops (masksOf ops.toList [])) (orElse (infoOf ⟨false, looseOf false ops (masksOf ops.toList [])⟩ ops (masksOf ops.toList [])) (orElse (infoOf ⟨true, []⟩ ops (masksOf ops.toList [])) (infoOf ⟨true, looseOf true ops (masksOf ops.toList [])⟩ ops (masksOf ops.toList [])))) with e | e
    · exact ⟨_, e⟩
    · rw [e]
      rcases hor (infoOf ⟨false, looseOf false ops (masksOf ops.toList [])⟩ ops (masksOf ops.toList [])) (orElse (infoOf ⟨true, []⟩ ops (masksOf ops.toList [])) (infoOf ⟨true, looseOf true ops (masksOf ops.toList [])⟩ ops (masksOf ops.toList []))) with e | e
      · exact ⟨_, e⟩
      · rw [e]
        rcases hor (infoOf ⟨true, []⟩ ops (masksOf ops.toList [])) (infoOf ⟨true, looseOf true ops (masksOf ops.toList [])⟩ ops (masksOf ops.toList [])) with e | e
        · exact ⟨_, e⟩
        · exact ⟨_, e⟩
  obtain ⟨pl, e⟩ := this
  exact hI pl _ e hok

theorem draw_sound (hP : NamesFine P) {cf : CallF} (hcf : SoundCF P cf) : DrawSound P cf := by
  intro ops s s' φ0 a0 w0 ro Q hr hs hQ
  unfold cdraw at hr
  cases hok : (cinfo ops).ok with
  | false => simp [hok] at hr
  | true =>
    obtain ⟨hmk, hci, hdok⟩ := plan_of hok
    simp only [hok, cond_true] at hr
    unfold drawEnd at hr
    split at hr
    · rename_i tsE hE hsF rsF hp
      obtain ⟨hck, hr⟩ := cond_some hr
      cases hr
      obtain ⟨_, ⟨l2, e2⟩, q3, q4, q6, A, qa, qb, q7⟩ := pass_spec (P := P) ops.toList 0 s.tmps s.heap s.heap [] [] (by intro j; simp) rfl rfl hp
      have hlen : 0 + ops.toList.length = ops.size := by simp
      rw [hlen] at q3 q4 qb
      have hchk := check_spec (P := P) (cf := cf) (ops := ops) (info := cinfo ops) (H := hsF.reverse) ops.toList 0 rsF.reverse (by intro j; simp) hck
      have hH0 : hsF.reverse[0]? = some s.heap := by rw [e2]; rfl
      have C : Ctx P cf (cinfo ops).plan ops hsF.reverse rsF.reverse A tsE := {
        ok := look_of rfl hdok
        fact := fun i o ho => q7 i o (Nat.zero_le _) ho
        chk := fun i o r ho hri hc hl hhf v hv m hm hmay hne => by
          obtain ⟨r', h1, h2⟩ := hchk i o (by simpa using ho) (by rw [Nat.zero_add]; exact hc) (by
            rw [Nat.zero_add, hhf, Bool.or_false]
            cases hq : inL (cinfo ops).plan.loose i with
            | false => rfl
            | true => exact absurd (inL_iff.1 hq) hl)
          rw [hri] at h1
          cases h1
          exact h2 v hv m (by rw [hci]; exact hm) (by rw [Nat.zero_add, hmk, hci]; exact hmay) (by rw [Nat.zero_add]; exact hne)
        hlen := by rw [List.length_reverse]; exact q4
        rlen := by rw [List.length_reverse]; exact q3
        first := by rw [hH0, qa] }
      have hend : tsAt rsF.reverse tsE ops.size = some tsE := by
        unfold tsAt
        rw [List.getElem?_append_right (by simp [q3])]
        simp [q3]
      subst qb
      have hno : ∀ k, ¬ Lst (Array.replicate ops.size false) k := by
        intro k hk
        unfold Lst at hk
        simp only [Array.getD_eq_getD_getElem?, Array.getElem?_replicate] at hk
        split at hk <;> simp at hk
      have hQ' : ∀ φ' a' w', SRel φ' (A ops.size).next tsE a'.tmps → a'.defers = a0.defers → HRel φ' (A ops.size) w' → Ext φ0 s.heap w0 φ' (A ops.size) w' → Q .normal a' w' := by
        intro φ' a' w' k1 k2 k3 k4
        refine hQ φ' a' w' ⟨k1, k3, ?_, ?_⟩ k4
        · rw [k2, hs.marks, marks_agree k4.agree hs.below]
        · exact fun d hd => Nat.lt_of_lt_of_le (hs.below d hd) k4.next
      have hslots : ∀ T, Slotted ops rsF.reverse tsE (Array.replicate ops.size false) a0 φ0 s.heap.next T := by
        intro T i ts hi hts t _ hcond
        have hsame : Slots.get? (cway t).way ts = Slots.get? (cway t).way s.tmps := C.const i 0 q6 (by rw [Nat.zero_add]; exact hts) (by omega) (fun j q _ h2 h3 h4 => hno j ((hcond j q h3 h4).2 (by omega)))
        unfold PRel
        rw [hsame]
        exact hs.tmps t
      cases hlo : (cinfo ops).plan.loose.getLast? with
      | none =>
        have hnil : (cinfo ops).plan.loose = [] := List.getLast?_eq_none_iff.1 hlo
        refine draw2 (φ0 := φ0) (h0 := s.heap) (w0 := w0) (d0 := a0.defers) hP hcf C hend hQ' ops.size (by simp) ?_
        exact ⟨by simp, fun i hi => absurd hi (hno i), (by rw [hnil]; simp), ⟨φ0, 0, s.heap, fun k _ => ⟨fun h => absurd h (hno k), fun h => by omega⟩, hH0, hs.heap, Ext.refl _ _ _, hslots _⟩, rfl⟩
      | some k =>
        refine draw1 (φ0 := φ0) (h0 := s.heap) (w0 := w0) (d0 := a0.defers) hP hcf C hlo hend hQ' ops.size (by simp) ?_
        exact ⟨by simp, fun i hi => absurd hi (hno i), ⟨φ0, 0, s.heap, fun k _ _ => ⟨fun h => absurd h (hno k), fun h => by omega⟩, fun i _ _ _ _ h => hno i h, Nat.zero_le _, hH0, hs.heap, Ext.refl _ _ _, hslots _, fun l _ _ _ h => absurd h (hno l), fun l _ _ _ _ _ _ _ _ h => absurd h (hno l)⟩, rfl⟩
    · simp at hr

/-- **the evaluator is sound** -/
theorem vm_sound (hP : NamesFine P) (hm : P.follows .mixedOrders = true) (A : List Nat) (n : Nat) : SoundCF P (acall P A n) := acall_sound hP hm (fun _ h => draw_sound hP h) A n
end Go.Vm
