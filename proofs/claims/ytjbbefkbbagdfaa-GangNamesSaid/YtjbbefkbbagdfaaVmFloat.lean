/- A text of the proofs of this seat: an evaluator of the model's code, its soundness, and what it has run. -/
import Derived.Test.YtjbbefkbbagdfaaVmDraw
namespace Go.Vm
variable {P : Program}

/-! ### Operations that lay a new block, whatever else lies there -/
theorem push_run {β : Type} {h : AHeap} {o : Option AObj} {f : Nat → AHeap → Option β} (hn : h.next < far) : h.push o f = f h.next (h.more o) := by
  obtain ⟨t, nx, lw, fl⟩ := h
  unfold AHeap.push
  have : Nat.blt nx far = true := blt_iff.2 hn
  simp only [this, cond_true, Trie.setK_eq, seqNat_eq]
  rfl
/-- a value that leads to block k, and nowhere else -/
def atN (k : Nat) (v : Value) : Prop := v = .pointer (some ⟨k, 0, none⟩) ∨ ∃ n c, v = .slice (some ⟨k, 0, none⟩) n c
theorem newRow_spec {h h' : AHeap} {cs : List Value} {v : Value} (hr : newRowA h cs = some (v, h')) :
    h.next < far ∧ h' = h.more (some (.row cs true 0)) ∧ (∀ h2 : AHeap, h2.next = h.next → newRowA h2 cs = some (v, h2.more (some (.row cs true 0)))) ∧ atN h.next v := by
  unfold newRowA at *
  obtain ⟨h1, hr⟩ := cond_some hr
  rw [seqCells_eq] at hr
  obtain ⟨h2, hr⟩ := AHeap.push_eq hr
  cases hr
  refine ⟨h2, rfl, fun h3 e => ?_, .inl rfl⟩
  rw [h1, seqCells_eq, push_run (by rw [e]; exact h2), e]
  rfl
theorem newSlice_spec {h h' : AHeap} {cs : List Value} {v : Value} {n c g : Nat} (hr : newSlice h cs n c g = some (v, h')) :
    h.next < far ∧ h' = h.more (some (.row cs true g)) ∧ (∀ h2 : AHeap, h2.next = h.next → newSlice h2 cs n c g = some (v, h2.more (some (.row cs true g)))) ∧ atN h.next v := by
  unfold newSlice at *
  obtain ⟨h1, hr⟩ := cond_some hr
  rw [seqCells_eq] at hr
  obtain ⟨h2, hr⟩ := AHeap.push_eq hr
  cases hr
  refine ⟨h2, rfl, fun h3 e => ?_, .inr ⟨_, _, rfl⟩⟩
  rw [h1, seqCells_eq, push_run (by rw [e]; exact h2), e]
  rfl
theorem cvals_mem {ts : Slots} : ∀ {l : List Operand} {v : Value}, v ∈ (cvals l).get ts → ∃ x ∈ l, v = (cval x).get ts := by
  intro l
  induction l with
  | nil => intro v hv; simp [cvals] at hv
  | cons x l ih =>
    intro v hv
    have hv' : v ∈ (cval x).get ts :: (cvals l).get ts := hv
    rcases List.mem_cons.1 hv' with rfl | hv'
    · exact ⟨x, by simp, rfl⟩
    · obtain ⟨y, hy, e⟩ := ih hv'
      exact ⟨y, by simp [hy], e⟩

theorem float_spec {o : Oper} {cf : CallF} {h h' : AHeap} {ts : Slots} {v : Value} (hfl : isFloat o = true) (hr : (copc P o).run cf h ts = some (v, h')) :
    ∃ cs g, h.next < far ∧ h' = h.more (some (.row cs true g)) ∧ (∀ h2 : AHeap, h2.next = h.next → (copc P o).run cf h2 ts = some (v, h2.more (some (.row cs true g)))) ∧
      atN h.next v ∧ ∀ φ n, (∀ x ∈ o.op.operands.toList, fineOp x = true → okV φ n ((cval x).get ts)) → ∀ c ∈ cs, okV φ n c := by
  obtain ⟨dst, op, ty, pos, af, g⟩ := o
  have hfine : allB fineOp op.operands.toList = true := by
    cases hq : allB fineOp op.operands.toList with
    | true => rfl
    | false => unfold copc at hr; simp only [hq, Bool.not_false, cond_true] at hr; cases hr
  have hop : ∀ x ∈ op.operands.toList, fineOp x = true := allB_iff.1 hfine
  have hcop : (∀ f args ts, op ≠ .call { callee := .value f, args := args, argTypes := ts }) → ∀ h2, (copc P ⟨dst, op, ty, pos, af, g⟩).run cf h2 ts = (cop P ⟨dst, op, ty, pos, af, g⟩).run h2 ts := by
    intro hne h2
    unfold copc
    simp only [hfine, Bool.not_true, cond_false]
  cases op with
  | alloc e =>
    have hc := hcop (by simp)
    have hz : ∃ z, zeroT P e = some z ∧ plainV z = true := by
      rw [hc] at hr
      simp only [cop] at hr
      split at hr
      · rename_i z hz
        cases hp : plainV z with
        | false => simp only [hp, cond_false] at hr; cases hr
        | true => exact ⟨z, hz, hp⟩
      · cases hr
    obtain ⟨z, hz, hp⟩ := hz
    have key : ∀ h2, (copc P ⟨dst, .alloc e, ty, pos, af, g⟩).run cf h2 ts = newRowA h2 z.cells.toList := fun h2 => by
      rw [hc]; simp only [cop, hz, hp, cond_true]
    rw [key] at hr
    obtain ⟨h1, h2, h3, h9⟩ := newRow_spec hr
    exact ⟨_, _, h1, h2, fun h4 e4 => by rw [key]; exact h3 h4 e4, h9, fun φ n _ c hc => cells_ok (v := z) (plainV_ok hp) c hc⟩
  | box e x =>
    have hc := hcop (by simp)
    have key : ∀ h2, (copc P ⟨dst, .box e x, ty, pos, af, g⟩).run cf h2 ts = newRowA h2 (cellList ((cval x).get ts)) := fun h2 => by
      rw [hc]; simp only [cop]
    rw [key] at hr
    obtain ⟨h1, h2, h3, h9⟩ := newRow_spec hr
    exact ⟨_, _, h1, h2, fun h4 e4 => by rw [key]; exact h3 h4 e4, h9, fun φ n hx c hc => cells_ok (hx x (by simp [Op.operands]) (hop x (by simp [Op.operands]))) c hc⟩
  | buildSlice t len parts =>
    have hc := hcop (by simp)
    have hz : ∃ e sz z, elemT P t = some e ∧ sizeT P e = some sz ∧ zeroT P e = some z ∧ (Nat.ble (len * sz) 16777216 && Nat.blt 0 sz && Nat.beq z.cells.size sz && plainV z) = true := by
      rw [hc] at hr
      simp only [cop] at hr
      unfold cbuildSlice at hr
      split at hr
      · rename_i e he
        split at hr
        · rename_i sz z hsz hz
          cases hp : Nat.ble (len * sz) 16777216 && Nat.blt 0 sz && Nat.beq z.cells.size sz && plainV z with
          | false => simp only [hp, cond_false] at hr; cases hr
          | true => exact ⟨e, sz, z, he, hsz, hz, hp⟩
        · cases hr
      · cases hr
    obtain ⟨e, sz, z, he, hsz, hz, hp⟩ := hz
    have hpz : plainV z = true := by simp only [Bool.and_eq_true] at hp; exact hp.2
    have key : ∀ h2, (copc P ⟨dst, .buildSlice t len parts, ty, pos, af, g⟩).run cf h2 ts = buildSl sz len z.cells.toList (parts.toList.map (·.1)) h2 ((cvals (parts.toList.map (·.2))).get ts) := fun h2 => by
      rw [hc]; simp only [cop, cbuildSlice, he, hsz, hz, hp, cond_true, seqCells_eq]
    rw [key] at hr
    unfold buildSl at hr
    split at hr
    · rename_i cs hcs
      obtain ⟨h1, h2, h3, h9⟩ := newSlice_spec hr
      refine ⟨_, _, h1, h2, fun h4 e4 => by rw [key]; unfold buildSl; simp only [hcs]; exact h3 h4 e4, h9, fun φ n hx c hc => ?_⟩
      refine fill_all (p := okV φ n) _ ?_ _ _ ?_ hcs c hc
      · intro y hy u hu
        obtain ⟨x, hx1, hx2⟩ := cvals_mem (List.of_mem_zip hy).2
        have hmem : x ∈ (Op.buildSlice t len parts).operands.toList := by simpa [Op.operands] using hx1
        exact cells_ok (v := y.2) (by rw [hx2]; exact hx x hmem (hop x hmem)) u hu
      · intro u hu
        exact cells_ok (v := z) (plainV_ok hpz) u (repl_mem hu)
    · cases hr
  | makeSlice t l c =>
    have hc := hcop (by simp)
    have hz : ∃ e i z, elemT P t = some e ∧ P.info? e = some i ∧ i.zero = some z ∧ (Nat.blt 0 i.size && Nat.beq z.cells.size i.size && plainV z) = true := by
      rw [hc] at hr
      simp only [cop] at hr
      unfold cmakeSlice at hr
      split at hr
      · rename_i e he
        split at hr
        · rename_i i hi
          split at hr
          · rename_i z hz
            cases hp : Nat.blt 0 i.size && Nat.beq z.cells.size i.size && plainV z with
            | false => simp only [hp, cond_false] at hr; cases hr
            | true => exact ⟨e, i, z, he, hi, hz, hp⟩
          · cases hr
        · cases hr
      · cases hr
    obtain ⟨e, i, z, he, hi, hz, hp⟩ := hz
    have hpz : plainV z = true := by simp only [Bool.and_eq_true] at hp; exact hp.2
    have key : ∀ h2, (copc P ⟨dst, .makeSlice t l c, ty, pos, af, g⟩).run cf h2 ts = makeSl i.size i.bytes z.cells.toList h2 ((cval l).get ts) ((cval c).get ts) := fun h2 => by
      rw [hc]; simp only [cop, cmakeSlice, he, hi, hz, hp, cond_true, seqCells_eq]
    rw [key] at hr
    unfold makeSl at hr
    split at hr
    · rename_i n m q1 q2
      obtain ⟨q3, hr⟩ := cond_some hr
      obtain ⟨h1, h2, h3, h9⟩ := newSlice_spec hr
      refine ⟨_, _, h1, h2, fun h4 e4 => by rw [key]; unfold makeSl; simp only [q1, q2, q3, cond_true]; exact h3 h4 e4, h9, fun φ n _ c hc => cells_ok (v := z) (plainV_ok hpz) c (repl_mem hc)⟩
    · cases hr
  | _ => simp [isFloat] at hfl

/-! ### Operations that ask nothing of the heap -/
theorem withH_free {v : Option Value} {h h' : AHeap} {r : Value} (e : withH v h = some (r, h')) : h' = h ∧ ∀ h2, withH v h2 = some (r, h2) := by
  unfold withH at *
  split at e
  · cases e; exact ⟨rfl, fun _ => rfl⟩
  · cases e
theorem plainRun_free {o : Oper} {h h' : AHeap} {ts : Slots} {v : Value} (e : plainRun P o h ts = some (v, h')) : h' = h ∧ ∀ h2, plainRun P o h2 ts = some (v, h2) := by
  unfold plainRun at *
  obtain ⟨q1, e⟩ := cond_some e
  simp only [q1, cond_true]
  split at e
  · rename_i q2
    obtain ⟨q3, e⟩ := cond_some e
    cases e
    exact ⟨rfl, fun h2 => by simp only [q3, cond_true]⟩
  · cases e
theorem cop_free {o : Oper} {h h' : AHeap} {ts : Slots} {v : Value} (hf : heapFree o = true) (hn : ∀ f args ts, o.op ≠ .call { callee := .value f, args := args, argTypes := ts }) (e : (cop P o).run h ts = some (v, h')) : h' = h ∧ ∀ h2, (cop P o).run h2 ts = some (v, h2) := by
  obtain ⟨dst, op, ty, pos, af, g⟩ := o
  cases op <;> try (simp only [heapFree, Bool.false_eq_true] at hf; done)
  case move x => simp only [cop] at e ⊢; cases e; exact ⟨rfl, fun _ => rfl⟩
  case assign x => simp only [cop] at e ⊢; cases e; exact ⟨rfl, fun _ => rfl⟩
  case nilCheck x =>
    simp only [cop] at e ⊢
    unfold thereA at *
    split at e <;> first | (cases e; exact ⟨rfl, fun _ => rfl⟩) | cases e
  case pick c a b =>
    simp only [cop] at e ⊢
    unfold pickA at *
    split at e <;> first | (cases e; exact ⟨rfl, fun _ => rfl⟩) | cases e
  case build t parts =>
    simp only [cop] at e ⊢
    unfold cbuild at *
    split at e
    · rename_i z hz
      cases hp : plainV z with
      | false => simp only [hp, cond_false] at e; cases e
      | true =>
        simp only [hp, cond_true, seqArr_eq] at e ⊢
        split at e
        · rename_i fs hu
          split at e
          · rename_i pl hpl
            simp only [buildA] at e ⊢
            split at e
            · cases e; exact ⟨rfl, fun h2 => rfl⟩
            · cases e
          · cases e
        · rename_i m e' hu
          split at e
          · rename_i sz hsz
            simp only [buildA] at e ⊢
            split at e
            · cases e; exact ⟨rfl, fun h2 => rfl⟩
            · cases e
          · cases e
        · cases e
    · cases e
  case field t x k =>
    simp only [cop] at e ⊢
    unfold cfield at *
    split at e
    · rename_i fs hu
      split at e
      · rename_i fd hfd
        split at e
        · cases hag : isAggT P fd.type with
          | true =>
            simp only [hag, cond_true] at e ⊢
            split at e
            · rename_i m hm
              simp only [partAgg] at e ⊢
              split at e
              · rename_i q
                simp only [dropK_eq, takeK_eq] at e
                obtain ⟨q1, e⟩ := ite_some e
                obtain ⟨q2, e⟩ := ite_some e
                cases e
                exact ⟨rfl, fun h2 => by simp only [dropK_eq, takeK_eq]; rw [if_pos q1, if_pos q2]⟩
              · cases e
            · cases e
          | false =>
            simp only [hag, cond_false] at e ⊢
            simp only [partOne] at e ⊢
            split at e
            · rename_i q
              split at e
              · cases e; exact ⟨rfl, fun h2 => rfl⟩
              · cases e
            · cases e
        · cases e
      · cases e
    · cases e
  case fieldAddr t x k => simp only [cop] at e ⊢; exact withH_free e
  case indexAddr t x i => simp only [cop] at e ⊢; exact withH_free e
  case extract x i =>
    simp only [cop] at e ⊢
    unfold extractA at *
    split at e
    · split at e <;> first | (cases e; exact ⟨rfl, fun _ => rfl⟩) | cases e
    · cases e
  case makeFunc fn a b =>
    cases fn <;> simp only [cop] at e ⊢ <;> first | (cases e; exact ⟨rfl, fun _ => rfl⟩) | cases e
  case convert => simp only [cop] at e ⊢; exact plainRun_free e
  case index => simp only [cop] at e ⊢; exact plainRun_free e
  case unOp op t x =>
    cases op <;> simp only [cop] at e ⊢ <;> try (exact plainRun_free e)
    split at e
    · cases e; exact ⟨rfl, fun _ => rfl⟩
    · cases e
  case binOp op t x y u =>
    simp only [cop] at e ⊢
    have alt : ∀ {k : AHeap → Slots → Option (Value × AHeap)} {F : IntKind → Int → Int → Value}, (∀ h h' v, k h ts = some (v, h') → h' = h ∧ ∀ h2, k h2 ts = some (v, h2)) → intTwo F k (cval x) (cval y) h ts = some (v, h') → h' = h ∧ ∀ h2, intTwo F k (cval x) (cval y) h2 ts = some (v, h2) := by
      intro k F hk e
      unfold intTwo at *
      split at e
      · rename_i q1 q2
        obtain ⟨q3, e⟩ := cond_some e
        cases e
        exact ⟨rfl, fun h2 => by simp only [q3, cond_true]⟩
      · exact hk _ _ _ e
    have pl : ∀ h h' v, plainRun P ⟨dst, .binOp op t x y u, ty, pos, af, g⟩ h ts = some (v, h') → h' = h ∧ ∀ h2, plainRun P ⟨dst, .binOp op t x y u, ty, pos, af, g⟩ h2 ts = some (v, h2) := fun _ _ _ => plainRun_free
    have nl : ∀ want h h' v, orNil P t want (plainRun P ⟨dst, .binOp op t x y u, ty, pos, af, g⟩) (cval x) (cval y) h ts = some (v, h') → h' = h ∧ ∀ h2, orNil P t want (plainRun P ⟨dst, .binOp op t x y u, ty, pos, af, g⟩) (cval x) (cval y) h2 ts = some (v, h2) := by
      intro want h h' v e
      cases he : elemT P t with
      | some e' =>
        simp only [orNil, he, eqNil] at e ⊢
        split at e
        · cases e; exact ⟨rfl, fun _ => rfl⟩
        · cases e; exact ⟨rfl, fun _ => rfl⟩
        · exact pl _ _ _ e
      | none =>
        simp only [orNil, he] at e ⊢
        exact pl _ _ _ e
    cases op <;> simp only [cbin] at e ⊢ <;> first | exact pl _ _ _ e | exact alt pl e | exact alt (nl _) e
  case call c =>
    obtain ⟨callee, args, ats⟩ := c
    cases callee with
    | value f => exact (hn _ _ _ rfl).elim
    | invoke a b => simp only [cop] at e; cases e
    | builtin b =>
      simp only [cop] at e ⊢
      cases b <;> try (simp only [heapFree, Bool.false_eq_true] at hf; done)
      case len =>
        rcases hq : args.toList with _ | ⟨x, _ | ⟨y, l⟩⟩
        · simp only [cbuiltin, hq] at e; cases e
        · simp only [cbuiltin, hq] at e ⊢
          unfold clen at *
          split at e
          · split at e
            · simp only [lenA] at e ⊢
              split at e
              · cases e; exact ⟨rfl, fun _ => rfl⟩
              · cases e
            · cases e; exact ⟨rfl, fun _ => rfl⟩
            · cases e
          · cases e
        · simp only [cbuiltin, hq] at e; cases e
      case min => simp only [cbuiltin] at e ⊢; exact plainRun_free e
      case max => simp only [cbuiltin] at e ⊢; exact plainRun_free e
theorem run_free {o : Oper} {cf : CallF} {h h' : AHeap} {ts : Slots} {v : Value} (hf : heapFree o = true) (e : (copc P o).run cf h ts = some (v, h')) : h' = h ∧ ∀ h2, (copc P o).run cf h2 ts = some (v, h2) := by
  have hn : ∀ f args ts, o.op ≠ .call { callee := .value f, args := args, argTypes := ts } := by
    intro f args ts e
    obtain ⟨dst, op, ty, pos, af, g⟩ := o
    simp only at e
    subst e
    simp [heapFree] at hf
  unfold copc at e ⊢
  cases hq : allB fineOp o.op.operands.toList with
  | false => simp only [hq, Bool.not_false, cond_true] at e; cases e
  | true =>
    simp only [hq, Bool.not_true, cond_false] at e ⊢
    exact cop_free hf hn e
theorem readAt_run {c : FCall} {cf : CallF} {h : AHeap} {ts : Slots} {v : Value} (hr : ∀ h2, c.run cf h2 ts = some (v, h2)) : readAt c cf h ts = some v := by
  obtain ⟨t, nx, lw, fl⟩ := h
  simp only [readAt, hr]
  rw [beq_iff.2 rfl]
  rfl
theorem read_free {o : Oper} {cf : CallF} {h h2 : AHeap} {ts : Slots} {v : Value} (hf : heapFree o = true) (e : readAt (copc P o) cf h ts = some v) : readAt (copc P o) cf h2 ts = some v := by
  obtain ⟨t, nx, lw, fl⟩ := h
  simp only [readAt] at e
  split at e
  · rename_i v' h' hr
    obtain ⟨_, e⟩ := cond_some e
    cases e
    exact readAt_run (run_free hf hr).2
  · cases e

/-! ### A row that lies at an address -/
def RowAt (φ : Emb) (n : Nat) (w : World) (a : Addr) (c : Nat) (cs : List Value) (g : Nat) : Prop :=
  ∃ x e fz, w.heap[a.block]? = some (.cells x e fz) ∧ (∀ k v, cs[k]? = some v → okV φ n v ∧ oneCell v = true ∧ w.cell? (a.add k) = some (mapV φ v)) ∧
    (a = ⟨a.block, 0, none⟩ ∧ fz = (0, 0) ∧ cs.length ≤ x.size ∧ (g ≠ 0 → cs.length ≤ c * g ∧ c * g ≤ x.size))
theorem RowAt.of {φ : Emb} {n : Nat} {w : World} {i : Nat} {cs : List Value} {g : Nat} (h : ORel φ n w i (.row cs true g)) : RowAt φ n w (φ.at_ i) (φ.cap i) cs g := by
  obtain ⟨x, e, fz, h1, h2, h3⟩ := h
  exact ⟨x, e, fz, h1, h2, h3 rfl⟩
theorem RowAt.to {φ : Emb} {n : Nat} {w : World} {i : Nat} {cs : List Value} {g : Nat} (h : RowAt φ n w (φ.at_ i) (φ.cap i) cs g) : ORel φ n w i (.row cs true g) := by
  obtain ⟨x, e, fz, h1, h2, h3⟩ := h
  exact ⟨x, e, fz, h1, h2, fun _ => h3⟩
theorem RowAt.same {φ : Emb} {n : Nat} {w w' : World} {a : Addr} {c : Nat} {cs : List Value} {g : Nat} (h : RowAt φ n w a c cs g) (hs : w'.heap[a.block]? = w.heap[a.block]?) : RowAt φ n w' a c cs g := by
  obtain ⟨x, e, fz, h1, h2, h3⟩ := h
  exact ⟨x, e, fz, hs.trans h1, fun k v hk => ⟨(h2 k v hk).1, (h2 k v hk).2.1, (cell?_of_block (by rw [add_block]; exact hs)).trans (h2 k v hk).2.2⟩, h3⟩
theorem RowAt.agree {φ φ' : Emb} {n n' : Nat} {w : World} {a : Addr} {c : Nat} {cs : List Value} {g : Nat} (h : RowAt φ n w a c cs g) (ha : Agree n φ φ') (hn : n ≤ n') : RowAt φ' n' w a c cs g := by
  obtain ⟨x, e, fz, h1, h2, h3⟩ := h
  refine ⟨x, e, fz, h1, fun k v hk => ?_, h3⟩
  obtain ⟨k1, k2, k3⟩ := h2 k v hk
  obtain ⟨e1, e2⟩ := mapV_agree ha hn v k1
  exact ⟨e2, k2, by rw [e1]; exact k3⟩
/-- the contents are so, whatever the bound -/
theorem RowAt.bound {φ : Emb} {n n' : Nat} {w : World} {a : Addr} {c : Nat} {cs : List Value} {g : Nat} (h : RowAt φ n w a c cs g) (hk : ∀ v ∈ cs, okV φ n' v) : RowAt φ n' w a c cs g := by
  obtain ⟨x, e, fz, h1, h2, h3⟩ := h
  exact ⟨x, e, fz, h1, fun k v hv => ⟨hk v (List.mem_of_getElem? hv), (h2 k v hv).2⟩, h3⟩
theorem RowAt.lt {φ : Emb} {n : Nat} {w : World} {a : Addr} {c : Nat} {cs : List Value} {g : Nat} (h : RowAt φ n w a c cs g) : a.block < w.heap.size := by
  obtain ⟨x, e, fz, h1, _⟩ := h
  exact (Array.getElem?_eq_some_iff.1 h1).1
theorem HRel.turnEmb {φ φ' : Emb} {h : AHeap} {w w' : World} (H : HRel φ h w) (ha : Agree h.next φ φ') (hs : ∀ i o, h.get i = some o → w'.heap[(φ.at_ i).block]? = w.heap[(φ.at_ i).block]?) : HRel φ' h w' := by
  refine ⟨fun i o hi => ?_, fun i j o o' hi hj hne hw => ?_, H.bound, H.fresh⟩
  · exact ((H.live i o hi).same (hs i o hi)).agree ha (Nat.le_refl _) (AHeap.lt_of_get hi)
  · rw [(ha i (AHeap.lt_of_get hi)).1, (ha j (AHeap.lt_of_get hj)).1]
    exact H.apart i j o o' hi hj hne hw
theorem empty_at {φ : Emb} {w : World} {k : Nat} (hk : k ≤ far) : HRel φ ⟨.leaf, k, far, k⟩ w := by
  have hg : ∀ i, (⟨.leaf, k, far, k⟩ : AHeap).get i = none := fun i => by rw [AHeap.get_def]; split <;> rfl
  exact ⟨fun i o h => absurd (h.symm.trans (hg i)) (by simp), fun i j o o' h => absurd (h.symm.trans (hg i)) (by simp), hk, fun i _ => rfl⟩
theorem PRel.atN {φ φ2 : Emb} {n k : Nat} {ts : Slots} {tm : Array Value} {d : Nat} {v : Value} (hv : Vm.atN k v) (e1 : φ2.at_ k = φ.at_ k) (e2 : φ2.cap k = φ.cap k)
    (h : tm[d]? = (Slots.get? (cway d).way (Slots.set (cway d).way ts v)).map (mapV φ) ∧ ∀ u, Slots.get? (cway d).way (Slots.set (cway d).way ts v) = some u → okV φ n u) :
    tm[d]? = (Slots.get? (cway d).way (Slots.set (cway d).way ts v)).map (mapV φ2) ∧ ∀ u, Slots.get? (cway d).way (Slots.set (cway d).way ts v) = some u → okV φ2 n u := by
  have hm : mapV φ2 v = mapV φ v := by
    rcases hv with rfl | ⟨m, c, rfl⟩
    · simp [mapV, mapA, e1]
    · simp [mapV, mapA, mapC, e1, e2]
  have hk : okV φ n v → okV φ2 n v := by
    rcases hv with rfl | ⟨m, c, rfl⟩
    · simp
    · simp [mapC, e2]
  rw [Slots.get?_set, if_pos rfl] at h ⊢
  cases hg : Slots.get? (cway d).way ts with
  | none => rw [hg] at h; exact ⟨h.1, fun u hu => by simp at hu⟩
  | some x =>
    rw [hg] at h
    refine ⟨by rw [h.1]; simp [hm], fun u hu => ?_⟩
    simp only [Option.map_some, Option.some.injEq] at hu
    subst hu
    exact hk (h.2 _ rfl)
end Go.Vm
