/- Texts of the proofs of this seat, put together: VmFloat, VmDraw2, VmDraw3, VmOracle, VmPure, VmP, VmIR, VmSym, VmIRs. -/
import Derived.Test.YtlkambpieajplaaGreatPt1
import Derived.Orders

namespace Go.Vm
variable {P : Program}
theorem push_run {β : Type} {h : AHeap} {o : Option AObj} {f : Nat → AHeap → Option β} (hn : h.next < far) : h.push o f = f h.next (h.more o) := by
  obtain ⟨t, nx, lw, fl⟩ := h
  unfold AHeap.push
  have : Nat.blt nx far = true := blt_iff.2 hn
  simp only [this, cond_true, Trie.setK_eq, seqNat_eq]
  rfl
def atN (k : Nat) (v : Value) : Prop := v = .pointer (some ⟨k, 0, none⟩) ∨ ∃ n c, v = .slice (some ⟨k, 0, none⟩) n c
theorem newRow_spec {h h' : AHeap} {cs : List Value} {v : Value} (hr : newRowA h cs = some (v, h')) :
    h.next < far ∧ h' = h.more (some (.row cs true 0)) ∧ (∀ h2 : AHeap, h2.next = h.next → newRowA h2 cs = some (v, h2.more (some (.row cs true 0)))) ∧ atN h.next v := by
  unfold newRowA at *
  obtain ⟨h1, hr⟩ := cond_some hr
  rw [seqCells_eq] at hr
  obtain ⟨h2, hr⟩ := AHeap.push_eq hr
  cases hr
  refine ⟨h2, rfl, fun h3 e => ?_, .inl rfl⟩
  rw [h1, seqCells_eq, push_run (by rw [e]; exact h2), e]
  rfl
theorem newSlice_spec {h h' : AHeap} {cs : List Value} {v : Value} {n c g : Nat} (hr : newSlice h cs n c g = some (v, h')) :
    h.next < far ∧ h' = h.more (some (.row cs true g)) ∧ (∀ h2 : AHeap, h2.next = h.next → newSlice h2 cs n c g = some (v, h2.more (some (.row cs true g)))) ∧ atN h.next v := by
  unfold newSlice at *
  obtain ⟨h1, hr⟩ := cond_some hr
  rw [seqCells_eq] at hr
  obtain ⟨h2, hr⟩ := AHeap.push_eq hr
  cases hr
  refine ⟨h2, rfl, fun h3 e => ?_, .inr ⟨_, _, rfl⟩⟩
  rw [h1, seqCells_eq, push_run (by rw [e]; exact h2), e]
  rfl
theorem cvals_mem {ts : Slots} : ∀ {l : List Operand} {v : Value}, v ∈ (cvals l).get ts → ∃ x ∈ l, v = (cval x).get ts := by
  intro l
  induction l with
  | nil => intro v hv; simp [cvals] at hv
  | cons x l ih =>
    intro v hv
    have hv' : v ∈ (cval x).get ts :: (cvals l).get ts := hv
    rcases List.mem_cons.1 hv' with rfl | hv'
    · exact ⟨x, by simp, rfl⟩
    · obtain ⟨y, hy, e⟩ := ih hv'
      exact ⟨y, by simp [hy], e⟩
theorem float_spec {o : Oper} {cf : CallF} {h h' : AHeap} {ts : Slots} {v : Value} (hfl : isFloat o = true) (hr : (copc P o).run cf h ts = some (v, h')) :
    ∃ cs g, h.next < far ∧ h' = h.more (some (.row cs true g)) ∧ (∀ h2 : AHeap, h2.next = h.next → (copc P o).run cf h2 ts = some (v, h2.more (some (.row cs true g)))) ∧
      atN h.next v ∧ ∀ φ n, (∀ x ∈ o.op.operands.toList, fineOp x = true → okV φ n ((cval x).get ts)) → ∀ c ∈ cs, okV φ n c := by
  obtain ⟨dst, op, ty, pos, af, g⟩ := o
  have hfine : allB fineOp op.operands.toList = true := by
    cases hq : allB fineOp op.operands.toList with
    | true => rfl
    | false => unfold copc at hr; simp only [hq, Bool.not_false, cond_true] at hr; cases hr
  have hop : ∀ x ∈ op.operands.toList, fineOp x = true := allB_iff.1 hfine
  have hcop : (∀ f args ts, op ≠ .call { callee := .value f, args := args, argTypes := ts }) → ∀ h2, (copc P ⟨dst, op, ty, pos, af, g⟩).run cf h2 ts = (cop P ⟨dst, op, ty, pos, af, g⟩).run h2 ts := by
    intro hne h2
    unfold copc
    simp only [hfine, Bool.not_true, cond_false]
  cases op with
  | alloc e =>
    have hc := hcop (by simp)
    have hz : ∃ z, zeroT P e = some z ∧ plainV z = true := by
      rw [hc] at hr
      simp only [cop] at hr
      split at hr
      · rename_i z hz
        cases hp : plainV z with
        | false => simp only [hp, cond_false] at hr; cases hr
        | true => exact ⟨z, hz, hp⟩
      · cases hr
    obtain ⟨z, hz, hp⟩ := hz
    have key : ∀ h2, (copc P ⟨dst, .alloc e, ty, pos, af, g⟩).run cf h2 ts = newRowA h2 z.cells.toList := fun h2 => by
      rw [hc]; simp only [cop, hz, hp, cond_true]
    rw [key] at hr
    obtain ⟨h1, h2, h3, h9⟩ := newRow_spec hr
    exact ⟨_, _, h1, h2, fun h4 e4 => by rw [key]; exact h3 h4 e4, h9, fun φ n _ c hc => cells_ok (v := z) (plainV_ok hp) c hc⟩
  | box e x =>
    have hc := hcop (by simp)
    have key : ∀ h2, (copc P ⟨dst, .box e x, ty, pos, af, g⟩).run cf h2 ts = newRowA h2 (cellList ((cval x).get ts)) := fun h2 => by
      rw [hc]; simp only [cop]
    rw [key] at hr
    obtain ⟨h1, h2, h3, h9⟩ := newRow_spec hr
    exact ⟨_, _, h1, h2, fun h4 e4 => by rw [key]; exact h3 h4 e4, h9, fun φ n hx c hc => cells_ok (hx x (by simp [Op.operands]) (hop x (by simp [Op.operands]))) c hc⟩
  | buildSlice t len parts =>
    have hc := hcop (by simp)
    have hz : ∃ e sz z, elemT P t = some e ∧ sizeT P e = some sz ∧ zeroT P e = some z ∧ (Nat.ble (len * sz) 16777216 && Nat.blt 0 sz && Nat.beq z.cells.size sz && plainV z) = true := by
      rw [hc] at hr
      simp only [cop] at hr
      unfold cbuildSlice at hr
      split at hr
      · rename_i e he
        split at hr
        · rename_i sz z hsz hz
          cases hp : Nat.ble (len * sz) 16777216 && Nat.blt 0 sz && Nat.beq z.cells.size sz && plainV z with
          | false => simp only [hp, cond_false] at hr; cases hr
          | true => exact ⟨e, sz, z, he, hsz, hz, hp⟩
        · cases hr
      · cases hr
    obtain ⟨e, sz, z, he, hsz, hz, hp⟩ := hz
    have hpz : plainV z = true := by simp only [Bool.and_eq_true] at hp; exact hp.2
    have key : ∀ h2, (copc P ⟨dst, .buildSlice t len parts, ty, pos, af, g⟩).run cf h2 ts = buildSl sz len z.cells.toList (parts.toList.map (·.1)) h2 ((cvals (parts.toList.map (·.2))).get ts) := fun h2 => by
      rw [hc]; simp only [cop, cbuildSlice, he, hsz, hz, hp, cond_true, seqCells_eq]
    rw [key] at hr
    unfold buildSl at hr
    split at hr
    · rename_i cs hcs
      obtain ⟨h1, h2, h3, h9⟩ := newSlice_spec hr
      refine ⟨_, _, h1, h2, fun h4 e4 => by rw [key]; unfold buildSl; simp only [hcs]; exact h3 h4 e4, h9, fun φ n hx c hc => ?_⟩
      refine fill_all (p := okV φ n) _ ?_ _ _ ?_ hcs c hc
      · intro y hy u hu
        obtain ⟨x, hx1, hx2⟩ := cvals_mem (List.of_mem_zip hy).2
        have hmem : x ∈ (Op.buildSlice t len parts).operands.toList := by simpa [Op.operands] using hx1
        exact cells_ok (v := y.2) (by rw [hx2]; exact hx x hmem (hop x hmem)) u hu
      · intro u hu
        exact cells_ok (v := z) (plainV_ok hpz) u (repl_mem hu)
    · cases hr
  | makeSlice t l c =>
    have hc := hcop (by simp)
    have hz : ∃ e i z, elemT P t = some e ∧ P.info? e = some i ∧ i.zero = some z ∧ (Nat.blt 0 i.size && Nat.beq z.cells.size i.size && plainV z) = true := by
      rw [hc] at hr
      simp only [cop] at hr
      unfold cmakeSlice at hr
      split at hr
      · rename_i e he
        split at hr
        · rename_i i hi
          split at hr
          · rename_i z hz
            cases hp : Nat.blt 0 i.size && Nat.beq z.cells.size i.size && plainV z with
            | false => simp only [hp, cond_false] at hr; cases hr
            | true => exact ⟨e, i, z, he, hi, hz, hp⟩
          · cases hr
        · cases hr
      · cases hr
    obtain ⟨e, i, z, he, hi, hz, hp⟩ := hz
    have hpz : plainV z = true := by simp only [Bool.and_eq_true] at hp; exact hp.2
    have key : ∀ h2, (copc P ⟨dst, .makeSlice t l c, ty, pos, af, g⟩).run cf h2 ts = makeSl i.size i.bytes z.cells.toList h2 ((cval l).get ts) ((cval c).get ts) := fun h2 => by
      rw [hc]; simp only [cop, cmakeSlice, he, hi, hz, hp, cond_true, seqCells_eq]
    rw [key] at hr
    unfold makeSl at hr
    split at hr
    · rename_i n m q1 q2
      obtain ⟨q3, hr⟩ := cond_some hr
      obtain ⟨h1, h2, h3, h9⟩ := newSlice_spec hr
      refine ⟨_, _, h1, h2, fun h4 e4 => by rw [key]; unfold makeSl; simp only [q1, q2, q3, cond_true]; exact h3 h4 e4, h9, fun φ n _ c hc => cells_ok (v := z) (plainV_ok hpz) c (repl_mem hc)⟩
    · cases hr
  | _ => simp [isFloat] at hfl
theorem withH_free {v : Option Value} {h h' : AHeap} {r : Value} (e : withH v h = some (r, h')) : h' = h ∧ ∀ h2, withH v h2 = some (r, h2) := by
  unfold withH at *
  split at e
  · cases e; exact ⟨rfl, fun _ => rfl⟩
  · cases e
theorem plainRun_free {o : Oper} {h h' : AHeap} {ts : Slots} {v : Value} (e : plainRun P o h ts = some (v, h')) : h' = h ∧ ∀ h2, plainRun P o h2 ts = some (v, h2) := by
  unfold plainRun at *
  obtain ⟨q1, e⟩ := cond_some e
  simp only [q1, cond_true]
  split at e
  · rename_i q2
    obtain ⟨q3, e⟩ := cond_some e
    cases e
    exact ⟨rfl, fun h2 => by simp only [q3, cond_true]⟩
  · cases e
theorem cop_free {o : Oper} {h h' : AHeap} {ts : Slots} {v : Value} (hf : heapFree o = true) (hn : ∀ f args ts, o.op ≠ .call { callee := .value f, args := args, argTypes := ts }) (e : (cop P o).run h ts = some (v, h')) : h' = h ∧ ∀ h2, (cop P o).run h2 ts = some (v, h2) := by
  obtain ⟨dst, op, ty, pos, af, g⟩ := o
  cases op <;> try (simp only [heapFree, Bool.false_eq_true] at hf; done)
  case move x => simp only [cop] at e ⊢; cases e; exact ⟨rfl, fun _ => rfl⟩
  case assign x => simp only [cop] at e ⊢; cases e; exact ⟨rfl, fun _ => rfl⟩
  case nilCheck x =>
    simp only [cop] at e ⊢
    unfold thereA at *
    split at e <;> first | (cases e; exact ⟨rfl, fun _ => rfl⟩) | cases e
  case pick c a b =>
    simp only [cop] at e ⊢
    unfold pickA at *
    split at e <;> first | (cases e; exact ⟨rfl, fun _ => rfl⟩) | cases e
  case build t parts =>
    simp only [cop] at e ⊢
    unfold cbuild at *
    split at e
    · rename_i z hz
      cases hp : plainV z with
      | false => simp only [hp, cond_false] at e; cases e
      | true =>
        simp only [hp, cond_true, seqArr_eq] at e ⊢
        split at e
        · rename_i fs hu
          split at e
          · rename_i pl hpl
            simp only [buildA] at e ⊢
            split at e
            · cases e; exact ⟨rfl, fun h2 => rfl⟩
            · cases e
          · cases e
        · rename_i m e' hu
          split at e
          · rename_i sz hsz
            simp only [buildA] at e ⊢
            split at e
            · cases e; exact ⟨rfl, fun h2 => rfl⟩
            · cases e
          · cases e
        · cases e
    · cases e
  case field t x k =>
    simp only [cop] at e ⊢
    unfold cfield at *
    split at e
    · rename_i fs hu
      split at e
      · rename_i fd hfd
        split at e
        · cases hag : isAggT P fd.type with
          | true =>
            simp only [hag, cond_true] at e ⊢
            split at e
            · rename_i m hm
              simp only [partAgg] at e ⊢
              split at e
              · rename_i q
                simp only [dropK_eq, takeK_eq] at e
                obtain ⟨q1, e⟩ := ite_some e
                obtain ⟨q2, e⟩ := ite_some e
                cases e
                exact ⟨rfl, fun h2 => by simp only [dropK_eq, takeK_eq]; rw [if_pos q1, if_pos q2]⟩
              · cases e
            · cases e
          | false =>
            simp only [hag, cond_false] at e ⊢
            simp only [partOne] at e ⊢
            split at e
            · rename_i q
              split at e
              · cases e; exact ⟨rfl, fun h2 => rfl⟩
              · cases e
            · cases e
        · cases e
      · cases e
    · cases e
  case fieldAddr t x k => simp only [cop] at e ⊢; exact withH_free e
  case indexAddr t x i => simp only [cop] at e ⊢; exact withH_free e
  case extract x i =>
    simp only [cop] at e ⊢
    unfold extractA at *
    split at e
    · split at e <;> first | (cases e; exact ⟨rfl, fun _ => rfl⟩) | cases e
    · cases e
  case makeFunc fn a b =>
    cases fn <;> simp only [cop] at e ⊢ <;> first | (cases e; exact ⟨rfl, fun _ => rfl⟩) | cases e
  case convert => simp only [cop] at e ⊢; exact plainRun_free e
  case index => simp only [cop] at e ⊢; exact plainRun_free e
  case unOp op t x =>
    cases op <;> simp only [cop] at e ⊢ <;> try (exact plainRun_free e)
    split at e
    · cases e; exact ⟨rfl, fun _ => rfl⟩
    · cases e
  case binOp op t x y u =>
    simp only [cop] at e ⊢
    have alt : ∀ {k : AHeap → Slots → Option (Value × AHeap)} {F : IntKind → Int → Int → Value}, (∀ h h' v, k h ts = some (v, h') → h' = h ∧ ∀ h2, k h2 ts = some (v, h2)) → intTwo F k (cval x) (cval y) h ts = some (v, h') → h' = h ∧ ∀ h2, intTwo F k (cval x) (cval y) h2 ts = some (v, h2) := by
      intro k F hk e
      unfold intTwo at *
      split at e
      · rename_i q1 q2
        obtain ⟨q3, e⟩ := cond_some e
        cases e
        exact ⟨rfl, fun h2 => by simp only [q3, cond_true]⟩
      · exact hk _ _ _ e
    have pl : ∀ h h' v, plainRun P ⟨dst, .binOp op t x y u, ty, pos, af, g⟩ h ts = some (v, h') → h' = h ∧ ∀ h2, plainRun P ⟨dst, .binOp op t x y u, ty, pos, af, g⟩ h2 ts = some (v, h2) := fun _ _ _ => plainRun_free
    have nl : ∀ want h h' v, orNil P t want (plainRun P ⟨dst, .binOp op t x y u, ty, pos, af, g⟩) (cval x) (cval y) h ts = some (v, h') → h' = h ∧ ∀ h2, orNil P t want (plainRun P ⟨dst, .binOp op t x y u, ty, pos, af, g⟩) (cval x) (cval y) h2 ts = some (v, h2) := by
      intro want h h' v e
      cases he : elemT P t with
      | some e' =>
        simp only [orNil, he, eqNil] at e ⊢
        split at e
        · cases e; exact ⟨rfl, fun _ => rfl⟩
        · cases e; exact ⟨rfl, fun _ => rfl⟩
        · exact pl _ _ _ e
      | none =>
        simp only [orNil, he] at e ⊢
        exact pl _ _ _ e
    cases op <;> simp only [cbin] at e ⊢ <;> first | exact pl _ _ _ e | exact alt pl e | exact alt (nl _) e
  case call c =>
    obtain ⟨callee, args, ats⟩ := c
    cases callee with
    | value f => exact (hn _ _ _ rfl).elim
    | invoke a b => simp only [cop] at e; cases e
    | builtin b =>
      simp only [cop] at e ⊢
      cases b <;> try (simp only [heapFree, Bool.false_eq_true] at hf; done)
      case len =>
        rcases hq : args.toList with _ | ⟨x, _ | ⟨y, l⟩⟩
        · simp only [cbuiltin, hq] at e; cases e
        · simp only [cbuiltin, hq] at e ⊢
          unfold clen at *
          split at e
          · split at e
            · simp only [lenA] at e ⊢
              split at e
              · cases e; exact ⟨rfl, fun _ => rfl⟩
              · cases e
            · cases e; exact ⟨rfl, fun _ => rfl⟩
            · cases e
          · cases e
        · simp only [cbuiltin, hq] at e; cases e
      case min => simp only [cbuiltin] at e ⊢; exact plainRun_free e
      case max => simp only [cbuiltin] at e ⊢; exact plainRun_free e
theorem run_free {o : Oper} {cf : CallF} {h h' : AHeap} {ts : Slots} {v : Value} (hf : heapFree o = true) (e : (copc P o).run cf h ts = some (v, h')) : h' = h ∧ ∀ h2, (copc P o).run cf h2 ts = some (v, h2) := by
  have hn : ∀ f args ts, o.op ≠ .call { callee := .value f, args := args, argTypes := ts } := by
    intro f args ts e
    obtain ⟨dst, op, ty, pos, af, g⟩ := o
    simp only at e
    subst e
    simp [heapFree] at hf
  unfold copc at e ⊢
  cases hq : allB fineOp o.op.operands.toList with
  | false => simp only [hq, Bool.not_false, cond_true] at e; cases e
  | true =>
    simp only [hq, Bool.not_true, cond_false] at e ⊢
    exact cop_free hf hn e
theorem readAt_run {c : FCall} {cf : CallF} {h : AHeap} {ts : Slots} {v : Value} (hr : ∀ h2, c.run cf h2 ts = some (v, h2)) : readAt c cf h ts = some v := by
  obtain ⟨t, nx, lw, fl⟩ := h
  simp only [readAt, hr]
  rw [beq_iff.2 rfl]
  rfl
theorem read_free {o : Oper} {cf : CallF} {h h2 : AHeap} {ts : Slots} {v : Value} (hf : heapFree o = true) (e : readAt (copc P o) cf h ts = some v) : readAt (copc P o) cf h2 ts = some v := by
  obtain ⟨t, nx, lw, fl⟩ := h
  simp only [readAt] at e
  split at e
  · rename_i v' h' hr
    obtain ⟨_, e⟩ := cond_some e
    cases e
    exact readAt_run (run_free hf hr).2
  · cases e
def RowAt (φ : Emb) (n : Nat) (w : World) (a : Addr) (c : Nat) (cs : List Value) (g : Nat) : Prop :=
  ∃ x e fz, w.heap[a.block]? = some (.cells x e fz) ∧ (∀ k v, cs[k]? = some v → okV φ n v ∧ oneCell v = true ∧ w.cell? (a.add k) = some (mapV φ v)) ∧
    (a = ⟨a.block, 0, none⟩ ∧ fz = (0, 0) ∧ cs.length ≤ x.size ∧ (g ≠ 0 → cs.length ≤ c * g ∧ c * g ≤ x.size))
theorem RowAt.of {φ : Emb} {n : Nat} {w : World} {i : Nat} {cs : List Value} {g : Nat} (h : ORel φ n w i (.row cs true g)) : RowAt φ n w (φ.at_ i) (φ.cap i) cs g := by
  obtain ⟨x, e, fz, h1, h2, h3⟩ := h
  exact ⟨x, e, fz, h1, h2, h3 rfl⟩
theorem RowAt.to {φ : Emb} {n : Nat} {w : World} {i : Nat} {cs : List Value} {g : Nat} (h : RowAt φ n w (φ.at_ i) (φ.cap i) cs g) : ORel φ n w i (.row cs true g) := by
  obtain ⟨x, e, fz, h1, h2, h3⟩ := h
  exact ⟨x, e, fz, h1, h2, fun _ => h3⟩
theorem RowAt.same {φ : Emb} {n : Nat} {w w' : World} {a : Addr} {c : Nat} {cs : List Value} {g : Nat} (h : RowAt φ n w a c cs g) (hs : w'.heap[a.block]? = w.heap[a.block]?) : RowAt φ n w' a c cs g := by
  obtain ⟨x, e, fz, h1, h2, h3⟩ := h
  exact ⟨x, e, fz, hs.trans h1, fun k v hk => ⟨(h2 k v hk).1, (h2 k v hk).2.1, (cell?_of_block (by rw [add_block]; exact hs)).trans (h2 k v hk).2.2⟩, h3⟩
theorem RowAt.agree {φ φ' : Emb} {n n' : Nat} {w : World} {a : Addr} {c : Nat} {cs : List Value} {g : Nat} (h : RowAt φ n w a c cs g) (ha : Agree n φ φ') (hn : n ≤ n') : RowAt φ' n' w a c cs g := by
  obtain ⟨x, e, fz, h1, h2, h3⟩ := h
  refine ⟨x, e, fz, h1, fun k v hk => ?_, h3⟩
  obtain ⟨k1, k2, k3⟩ := h2 k v hk
  obtain ⟨e1, e2⟩ := mapV_agree ha hn v k1
  exact ⟨e2, k2, by rw [e1]; exact k3⟩
theorem RowAt.bound {φ : Emb} {n n' : Nat} {w : World} {a : Addr} {c : Nat} {cs : List Value} {g : Nat} (h : RowAt φ n w a c cs g) (hk : ∀ v ∈ cs, okV φ n' v) : RowAt φ n' w a c cs g := by
  obtain ⟨x, e, fz, h1, h2, h3⟩ := h
  exact ⟨x, e, fz, h1, fun k v hv => ⟨hk v (List.mem_of_getElem? hv), (h2 k v hv).2⟩, h3⟩
theorem RowAt.lt {φ : Emb} {n : Nat} {w : World} {a : Addr} {c : Nat} {cs : List Value} {g : Nat} (h : RowAt φ n w a c cs g) : a.block < w.heap.size := by
  obtain ⟨x, e, fz, h1, _⟩ := h
  exact (Array.getElem?_eq_some_iff.1 h1).1
theorem HRel.turnEmb {φ φ' : Emb} {h : AHeap} {w w' : World} (H : HRel φ h w) (ha : Agree h.next φ φ') (hs : ∀ i o, h.get i = some o → w'.heap[(φ.at_ i).block]? = w.heap[(φ.at_ i).block]?) : HRel φ' h w' := by
  refine ⟨fun i o hi => ?_, fun i j o o' hi hj hne hw => ?_, H.bound, H.fresh⟩
  · exact ((H.live i o hi).same (hs i o hi)).agree ha (Nat.le_refl _) (AHeap.lt_of_get hi)
  · rw [(ha i (AHeap.lt_of_get hi)).1, (ha j (AHeap.lt_of_get hj)).1]
    exact H.apart i j o o' hi hj hne hw
theorem empty_at {φ : Emb} {w : World} {k : Nat} (hk : k ≤ far) : HRel φ ⟨.leaf, k, far, k⟩ w := by
  have hg : ∀ i, (⟨.leaf, k, far, k⟩ : AHeap).get i = none := fun i => by rw [AHeap.get_def]; split <;> rfl
  exact ⟨fun i o h => absurd (h.symm.trans (hg i)) (by simp), fun i j o o' h => absurd (h.symm.trans (hg i)) (by simp), hk, fun i _ => rfl⟩
theorem PRel.atN {φ φ2 : Emb} {n k : Nat} {ts : Slots} {tm : Array Value} {d : Nat} {v : Value} (hv : Vm.atN k v) (e1 : φ2.at_ k = φ.at_ k) (e2 : φ2.cap k = φ.cap k)
    (h : tm[d]? = (Slots.get? (cway d).way (Slots.set (cway d).way ts v)).map (mapV φ) ∧ ∀ u, Slots.get? (cway d).way (Slots.set (cway d).way ts v) = some u → okV φ n u) :
    tm[d]? = (Slots.get? (cway d).way (Slots.set (cway d).way ts v)).map (mapV φ2) ∧ ∀ u, Slots.get? (cway d).way (Slots.set (cway d).way ts v) = some u → okV φ2 n u := by
  have hm : mapV φ2 v = mapV φ v := by
    rcases hv with rfl | ⟨m, c, rfl⟩
    · simp [mapV, mapA, e1]
    · simp [mapV, mapA, mapC, e1, e2]
  have hk : okV φ n v → okV φ2 n v := by
    rcases hv with rfl | ⟨m, c, rfl⟩
    · simp
    · simp [mapC, e2]
  rw [Slots.get?_set, if_pos rfl] at h ⊢
  cases hg : Slots.get? (cway d).way ts with
  | none => rw [hg] at h; exact ⟨h.1, fun u hu => by simp at hu⟩
  | some x =>
    rw [hg] at h
    refine ⟨by rw [h.1]; simp [hm], fun u hu => ?_⟩
    simp only [Option.map_some, Option.some.injEq] at hu
    subst hu
    exact hk (h.2 _ rfl)
end Go.Vm

namespace Go.Vm
variable {P : Program} {pl : Plan}
def PRel (φ : Emb) (n : Nat) (s : Slots) (tm : Array Value) (t : Nat) : Prop :=
  tm[t]? = (Slots.get? (cway t).way s).map (mapV φ) ∧ ∀ v, Slots.get? (cway t).way s = some v → okV φ n v
theorem PRel.get {φ : Emb} {n : Nat} {s : Slots} {tm : Array Value} {t : Nat} (h : PRel φ n s tm t) : tm.getD t undef = mapV φ (s.get (cway t).way) ∧ okV φ n (s.get (cway t).way) := by
  obtain ⟨h1, h2⟩ := h
  rw [Slots.get_eq]
  rw [Array.getD_eq_getD_getElem?, h1]
  cases hg : Slots.get? (cway t).way s with
  | none => simp
  | some v => simpa using h2 v hg
theorem PRel.set {φ : Emb} {n : Nat} {s : Slots} {tm : Array Value} {t : Nat} (h : PRel φ n s tm t) {v : Value} (hv : okV φ n v) : PRel φ n (Slots.set (cway t).way s v) (tm.setIfInBounds t (mapV φ v)) t := by
  unfold PRel
  rw [Slots.get?_set]
  simp only [if_true]
  obtain ⟨h1, h2⟩ := h
  cases hg : Slots.get? (cway t).way s with
  | none =>
    rw [hg] at h1
    have : tm.size ≤ t := by simpa using h1
    simp [this]
  | some u =>
    rw [hg] at h1
    have : t < tm.size := by
      rcases Nat.lt_or_ge t tm.size with h | h
      · exact h
      · rw [Array.getElem?_eq_none h] at h1; simp at h1
    simp [this, hv]
theorem PRel.agree {φ φ' : Emb} {n n' : Nat} {s : Slots} {tm : Array Value} {t : Nat} (h : PRel φ n s tm t) (ha : Agree n φ φ') (hn : n ≤ n') : PRel φ' n' s tm t := by
  obtain ⟨h1, h2⟩ := h
  refine ⟨?_, fun v hv => (mapV_agree ha hn v (h2 v hv)).2⟩
  rw [h1]
  cases hg : Slots.get? (cway t).way s with
  | none => rfl
  | some v => simp [(mapV_agree ha hn v (h2 v hg)).1]
theorem get?_putS {ts : Slots} {dst : Option Tmp} {v : Value} {t : Nat} (h : dst ≠ some t) : Slots.get? (cway t).way (putS ts dst v) = Slots.get? (cway t).way ts := by
  unfold putS
  cases dst with
  | none => rfl
  | some d =>
    simp only
    rw [Slots.get?_set, if_neg]
    intro e
    exact h (by rw [cway_inj e])
theorem inL_iff {l : List Nat} {i : Nat} : inL l i = true ↔ i ∈ l := by
  induction l with
  | nil => simp [inL]
  | cons x l ih =>
    have e : inL (x :: l) i = (bif Nat.beq x i then true else inL l i) := rfl
    rw [e]
    cases h : Nat.beq x i with
    | true => simp [beq_iff.1 h]
    | false =>
      have : ¬ x = i := fun e => by rw [beq_iff.2 e] at h; cases h
      simp [ih, Ne.symm this]
section main
variable {ops : Array Oper} {H : List AHeap} {R : List OpRes} {A : Nat → AHeap} {tsE : Slots} {φ0 : Emb} {h0 : AHeap} {w0 : World} {d0 : List Deferred} {cf : CallF} {listed : Array Bool} {a : Act} {w : World}
def bitOf (ops : Array Oper) (i j : Nat) : Prop := hasBit ((masksOf ops.toList []).getD i 0) j = true
structure Look (pl : Plan) (ops : Array Oper) : Prop where
  lim : ∀ l ∈ pl.loose, l < ops.size ∧ ∃ k, pl.loose.getLast? = some k ∧ l ≤ k
  dir : ∀ i o, ops[i]? = some o → ∀ e ∈ directs o, e < i
  cl : ∀ i o j q, ops[i]? = some o → j < i → ops[j]? = some q → clash ops q o = true → bitOf ops i j
  cc : ∀ i o j q, ops[i]? = some o → j < i → ops[j]? = some q → isCh pl j q = true → isCh pl i o = true → bitOf ops i j
  ch : ∀ i o, ops[i]? = some o → isCh pl i o = true → (∀ l ∈ pl.loose, i < l) ∨ ∀ l ∈ pl.loose, l < i ∧ bitOf ops i l
  lo : ∀ i o, ops[i]? = some o → i ∈ pl.loose → isFloat o = true ∧ (∀ l ∈ pl.loose, ¬ bitOf ops i l) ∧ ∃ d, o.dst = some d ∧ ∀ j q, ops[j]? = some q → j ≠ i → q.dst ≠ some d
  rd : ∀ i o, ops[i]? = some o → isCh pl i o = false → i ∉ pl.loose → (∀ l ∈ pl.loose, ¬ bitOf ops i l) ∨ ((∀ l ∈ pl.loose, bitOf ops i l) ∧ ∀ j, chAt pl ops j = true → (∀ l ∈ pl.loose, j < l) → bitOf ops i j)
theorem isCh_notL {i : Nat} {o : Oper} (h : isCh pl i o = true) : i ∉ pl.loose := by
  unfold isCh at h
  simp only [Bool.and_eq_true, Bool.not_eq_true'] at h
  intro e
  rw [inL_iff.2 e] at h
  simp at h
theorem look_of {masks : List Nat} (hm : masks = masksOf ops.toList []) (h : drawOk pl ops masks = true) : Look pl ops := by
  subst hm
  unfold drawOk at h
  rw [Bool.and_eq_true, List.all_eq_true, List.all_eq_true] at h
  obtain ⟨h0, h⟩ := h
  have hi : ∀ i o, ops[i]? = some o → _ := fun i o ho => by
    have h1 := h i (List.mem_range.2 (Array.getElem?_eq_some_iff.1 ho).1)
    simp only [ho] at h1
    exact h1
  have hA : ∀ i o, ops[i]? = some o → (∀ e ∈ directs o, e < i) ∧ ∀ j q, j < i → ops[j]? = some q → (clash ops q o = true → bitOf ops i j) ∧ (isCh pl j q = true → isCh pl i o = true → bitOf ops i j) := by
    intro i o ho
    have h1 := hi i o ho
    rw [Bool.and_eq_true, Bool.and_eq_true, List.all_eq_true, List.all_eq_true] at h1
    refine ⟨fun e he => blt_iff.1 (h1.1.1 e he), fun j q hj hq => ?_⟩
    have h2 := h1.1.2 j (List.mem_range.2 hj)
    simp only [hq, Bool.and_eq_true, Bool.or_eq_true, Bool.not_eq_true'] at h2
    exact ⟨fun hc => h2.1.resolve_left (by simp [hc]), fun hc hc' => h2.2.resolve_left (by simp [hc, hc'])⟩
  refine ⟨fun l hl => ?_, fun i o ho => (hA i o ho).1, fun i o j q ho hj hq => ((hA i o ho).2 j q hj hq).1, fun i o j q ho hj hq => ((hA i o ho).2 j q hj hq).2, fun i o ho hc => ?_, fun i o ho hl => ?_, fun i o ho hc hl => ?_⟩
  · have h1 := h0 l hl
    rw [Bool.and_eq_true] at h1
    refine ⟨blt_iff.1 h1.1, ?_⟩
    have h2 := h1.2
    split at h2
    · rename_i k hk; exact ⟨k, hk, ble_iff.1 h2⟩
    · cases h2
  · have h1 := hi i o ho
    rw [Bool.and_eq_true] at h1
    have h2 := h1.2
    rw [hc, cond_true, Bool.or_eq_true, List.all_eq_true, List.all_eq_true] at h2
    rcases h2 with h2 | h2
    · exact .inl fun l hl => blt_iff.1 (h2 l hl)
    · right
      intro l hl
      have := h2 l hl
      rw [Bool.and_eq_true] at this
      exact ⟨blt_iff.1 this.1, this.2⟩
  · have h1 := hi i o ho
    rw [Bool.and_eq_true] at h1
    have h2 := h1.2
    have hc : isCh pl i o = false := by
      cases hq : isCh pl i o with
      | false => rfl
      | true => exact absurd hl (isCh_notL hq)
    rw [hc, cond_false, inL_iff.2 hl, cond_true, Bool.and_eq_true, Bool.and_eq_true, List.all_eq_true] at h2
    refine ⟨h2.1.1, fun l hl hb => ?_, ?_⟩
    · have := h2.1.2 l hl
      have hb' : mBit (masksOf ops.toList []) i l = true := hb
      rw [hb'] at this
      cases this
    · have h3 := h2.2
      split at h3
      · rename_i d hd
        refine ⟨d, hd, fun j q hq hne e => ?_⟩
        rw [List.all_eq_true] at h3
        have := h3 j (List.mem_range.2 (Array.getElem?_eq_some_iff.1 hq).1)
        simp only [hq, Option.bind_some, e, beq_self_eq_true, Bool.not_true, Bool.or_false] at this
        exact hne (beq_iff.1 this)
      · cases h3
  · have h1 := hi i o ho
    rw [Bool.and_eq_true] at h1
    have h2 := h1.2
    have hl' : inL pl.loose i = false := by
      cases hq : inL pl.loose i with
      | false => rfl
      | true => exact absurd (inL_iff.1 hq) hl
    rw [hc, cond_false, hl', cond_false, Bool.or_eq_true, Bool.and_eq_true, List.all_eq_true, List.all_eq_true, List.all_eq_true] at h2
    rcases h2 with h2 | ⟨h2, h3⟩
    · left
      intro l hl hb
      have := h2 l hl
      have hb' : mBit (masksOf ops.toList []) i l = true := hb
      rw [hb'] at this
      cases this
    · right
      refine ⟨h2, fun j hj hjl => ?_⟩
      have hjs : j < ops.size := by
        unfold chAt at hj
        split at hj
        · rename_i o' ho'; exact (Array.getElem?_eq_some_iff.1 ho').1
        · cases hj
      have := h3 j (List.mem_range.2 hjs)
      have hall : pl.loose.all (fun l => Nat.blt j l) = true := by
        rw [List.all_eq_true]; exact fun l hl => blt_iff.2 (hjl l hl)
      rw [hj, hall] at this
      have h5 : mBit (masksOf ops.toList []) i j = true := by simpa using this
      exact h5
theorem isV_iff {i : Nat} {o : Oper} : isV pl i o = true ↔ isCh pl i o = true ∨ pl.loose.getLast? = some i := by
  unfold isV lastIs
  rw [Bool.or_eq_true]
  cases h : pl.loose.getLast? with
  | none => simp
  | some k => simp
theorem last_mem {k : Nat} (h : pl.loose.getLast? = some k) : k ∈ pl.loose := List.mem_of_getLast? h
def Lst (listed : Array Bool) (i : Nat) : Prop := listed.getD i false = true
structure Ctx (P : Program) (cf : CallF) (pl : Plan) (ops : Array Oper) (H : List AHeap) (R : List OpRes) (A : Nat → AHeap) (tsE : Slots) : Prop where
  ok : Look pl ops
  fact : ∀ i o, ops[i]? = some o → ∃ r, OpFact P cf pl ops R H A tsE i o r
  chk : ∀ i o r, ops[i]? = some o → R[i]? = some r → isV pl i o = false → i ∉ pl.loose → heapFree o = false → ∀ v, r.v = some v → ∀ m, m ≤ lexN pl ops ops.size → mayAt (masksOf ops.toList []) ((List.range ops.size).filter (vAt pl ops)) i m = true → m ≠ lexN pl ops i → ∃ h, H[m]? = some h ∧ readAt (copc P o) cf h r.ts = some v
  hlen : H.length = lexN pl ops ops.size + 1
  rlen : R.length = ops.size
  first : H[0]? = some (A 0)
theorem mask_lst (hcl : ∀ i, Lst listed i → ∀ e ∈ dirsAt ops.toList i, Lst listed e) {i j : Nat} (hb : bitOf ops i j) (hd : ∀ e ∈ dirsAt ops.toList i, Lst listed e) : Lst listed j :=
  masksOf_spec (fun i => Lst listed i) ops.toList hcl ops.toList [] (by intro j; simp) (by intro i hi; simp at hi) i j hb hd
theorem tsAt_res {i : Nat} {r : OpRes} (h : R[i]? = some r) : tsAt R tsE i = some r.ts := by
  unfold tsAt
  have hlt : i < R.length := (List.getElem?_eq_some_iff.1 h).1
  rw [List.getElem?_append_left (by simpa using hlt), List.getElem?_map, h]
  rfl
theorem Ctx.const (C : Ctx P cf pl ops H R A tsE) {t : Nat} : ∀ (k i : Nat) {X Y : Slots}, tsAt R tsE i = some X → tsAt R tsE (i + k) = some Y → i + k ≤ ops.size → (∀ j q, i ≤ j → j < i + k → ops[j]? = some q → q.dst ≠ some t) →
    Slots.get? (cway t).way Y = Slots.get? (cway t).way X := by
  intro k
  induction k with
  | zero => intro i A B hA hB _ _; rw [Nat.add_zero, hA] at hB; cases hB; rfl
  | succ k ih =>
    intro i A B hA hB hle hne
    have hlt : i + k < ops.size := by omega
    obtain ⟨r, F⟩ := C.fact (i + k) ops[i + k] (Array.getElem?_eq_getElem hlt)
    have h1 := tsAt_res (tsE := tsE) F.res
    have h2 := F.next
    rw [show i + (k + 1) = i + k + 1 from rfl, h2] at hB
    cases hB
    rw [get?_putS (hne (i + k) _ (by omega) (by omega) (Array.getElem?_eq_getElem hlt))]
    exact ih i hA h1 (by omega) fun j q h1 h2 h3 => hne j q h1 (by omega) h3
theorem Ctx.touch (C : Ctx P cf pl ops H R A tsE) (hcl : ∀ i, Lst listed i → ∀ e ∈ dirsAt ops.toList i, Lst listed e) {i : Nat} {o : Oper} (ho : ops[i]? = some o) (hu : ¬ Lst listed i) (hd : ∀ e ∈ directs o, Lst listed e) {t : Nat}
    (ht : t ∈ tmpsOf ops o ∨ o.dst = some t) : ∀ j q, ops[j]? = some q → q.dst = some t → (Lst listed j ↔ j < i) := by
  intro j q hq hqt
  have hdi : ∀ e ∈ dirsAt ops.toList i, Lst listed e := by unfold dirsAt; simpa [ho] using hd
  rcases Nat.lt_trichotomy j i with hlt | heq | hgt
  · refine ⟨fun _ => hlt, fun _ => ?_⟩
    refine mask_lst hcl (C.ok.cl i o j q ho hlt hq ?_) hdi
    unfold clash
    rw [hqt]
    rcases ht with ht | ht
    · simp [ht]
    · simp [ht]
  · subst heq
    exact ⟨fun h => absurd h hu, fun h => absurd h (Nat.lt_irrefl _)⟩
  · refine ⟨fun hj => ?_, fun h => absurd h (by omega)⟩
    exfalso
    refine hu (mask_lst hcl (C.ok.cl j q i o hq hgt ho ?_) (hcl j hj))
    unfold clash
    rw [hqt]
    rcases ht with ht | ht
    · simp [ht]
    · simp [ht]
theorem lst_set {i j : Nat} (hi : i < listed.size) : Lst (listed.setIfInBounds i true) j ↔ (i = j ∨ Lst listed j) := by
  unfold Lst
  by_cases hij : i = j
  · subst hij
    simp [hi]
  · rw [getD_set_ne false hij]
    simp [hij]
def Slotted (ops : Array Oper) (R : List OpRes) (tsE : Slots) (listed : Array Bool) (a : Act) (φ : Emb) (n : Nat) (T : Nat → Prop) : Prop :=
  ∀ i ts, i ≤ ops.size → tsAt R tsE i = some ts → ∀ t, T t → (∀ j q, ops[j]? = some q → q.dst = some t → (Lst listed j ↔ j < i)) → PRel φ n ts a.tmps t
theorem Ctx.slots (C : Ctx P cf pl ops H R A tsE) (hcl : ∀ i, Lst listed i → ∀ e ∈ dirsAt ops.toList i, Lst listed e) {T : Nat → Prop} {φ φ' : Emb} {n n' : Nat} (hS : Slotted ops R tsE listed a φ n T) {i : Nat} {o : Oper} {r : OpRes} (ho : ops[i]? = some o)
    (F : OpFact P cf pl ops R H A tsE i o r) (hil : i < listed.size) (hu : ¬ Lst listed i) (hd : ∀ e ∈ directs o, Lst listed e) (hag : Agree n φ φ') (hn : n ≤ n') (hv : ∀ t, o.dst = some t → T t → okV φ' n' (r.v.getD undef)) {u : Value}
    (hu' : ∀ t, o.dst = some t → T t → u = mapV φ' (r.v.getD undef)) : Slotted ops R tsE (listed.setIfInBounds i true) (a.put o.dst u) φ' n' T := by
  have hi : i < ops.size := (Array.getElem?_eq_some_iff.1 ho).1
  have hT := tsAt_res (tsE := tsE) F.res
  intro i' ts' hi' hts t hTt hcond
  have hcond' : ∀ j q, ops[j]? = some q → q.dst = some t → ((i = j ∨ Lst listed j) ↔ j < i') := fun j q h1 h2 => by rw [← lst_set hil]; exact hcond j q h1 h2
  by_cases hdt : o.dst = some t
  · have htouch := C.touch hcl ho hu hd (.inr hdt)
    have hP := (hS i r.ts (Nat.le_of_lt hi) hT t hTt htouch).agree hag hn
    have hlt : i < i' := (hcond' i o ho hdt).1 (.inl rfl)
    have hset := hP.set (hv t hdt hTt)
    have hnext := F.next
    have hconst := C.const (i' - (i + 1)) (i + 1) (t := t) hnext (by rw [show i + 1 + (i' - (i + 1)) = i' by omega]; exact hts) (by omega) (fun j q h1 h2 h3 h4 => by
      have h5 : i = j ∨ Lst listed j := (hcond' j q h3 h4).2 (by omega)
      rcases h5 with h5 | h5
      · omega
      · have := (htouch j q h3 h4).1 h5
        omega)
    have hput : putS r.ts o.dst (r.v.getD undef) = Slots.set (cway t).way r.ts (r.v.getD undef) := by unfold putS; rw [hdt]
    rw [hput] at hconst
    have hput' : (a.put o.dst u).tmps = a.tmps.setIfInBounds t (mapV φ' (r.v.getD undef)) := by unfold Act.put; rw [hdt, hu' t hdt hTt]
    rw [hput']
    unfold PRel
    rw [hconst]
    exact hset
  · have hP := (hS i' ts' hi' hts t hTt (fun j q h1 h2 => by
      have := hcond' j q h1 h2
      by_cases hij : i = j
      · subst hij
        rw [ho] at h1
        cases h1
        exact absurd h2 hdt
      · simpa [hij] using this)).agree hag hn
    unfold PRel at hP ⊢
    refine ⟨?_, hP.2⟩
    rw [← hP.1]
    unfold Act.put
    cases hod : o.dst with
    | none => rfl
    | some d =>
      simp only
      rw [Array.getElem?_setIfInBounds_ne]
      intro e
      exact hdt (by rw [hod, e])
theorem put_defers (a : Act) (d : Option Tmp) (v : Value) : (a.put d v).defers = a.defers := by unfold Act.put; cases d <;> rfl
theorem closed_set (hcl : ∀ i, Lst listed i → ∀ e ∈ dirsAt ops.toList i, Lst listed e) {i : Nat} {o : Oper} (ho : ops[i]? = some o) (hil : i < listed.size) (hd : ∀ e ∈ directs o, Lst listed e) :
    ∀ k, Lst (listed.setIfInBounds i true) k → ∀ e ∈ dirsAt ops.toList k, Lst (listed.setIfInBounds i true) e := by
  intro k hk e he
  rw [lst_set hil] at hk ⊢
  right
  rcases hk with rfl | hk
  · unfold dirsAt at he
    simp only [Array.getElem?_toList, ho] at he
    exact hd e he
  · exact hcl k hk e he
theorem count_set_lt {i : Nat} (hi : i < listed.size) (hu : ¬ Lst listed i) {fuel : Nat} (hf : listed.toList.count false ≤ fuel + 1) : (listed.setIfInBounds i true).toList.count false ≤ fuel := by
  rw [Array.toList_setIfInBounds, List.count_set (by simpa using hi)]
  have : listed.toList[i]'(by simpa using hi) = false := by
    unfold Lst at hu
    simp [hi] at hu
    simpa using hu
  rw [this]
  simp only [beq_self_eq_true, if_true]
  have h2 : (true == false) = false := rfl
  simp only [h2, Bool.false_eq_true, if_false]
  omega
theorem read_sound (hP : NamesFine P) (hcf : SoundCF P cf) {φ : Emb} {h : AHeap} {ts : Slots} {o : Oper} {v : Value} {ro : Option Nat} (H' : HRel φ h w) (hs : ∀ x ∈ o.op.operands.toList, fineOp x = true → OpRel φ h.next ts a.eval x)
    (hr : readAt (copc P o) cf h ts = some v) {K : Act → World → Prop} {Q : Exit → Act → World → Prop} (hK : ∀ w', HRel φ h w' → Ext φ h w φ h w' → okV φ h.next v → K (a.put o.dst (mapV φ v)) w') : o.wpIn (Wf ro) 0 P a w K Q := by
  unfold readAt at hr
  obtain ⟨t, nx, lw, fl⟩ := h
  simp only at hr
  split at hr
  · rename_i v' h' hc
    obtain ⟨hn, hr⟩ := cond_some hr
    cases hr
    have hn := beq_iff.1 hn
    have H2 : HRel φ ⟨t, nx, lw, nx⟩ w := ⟨H'.live, H'.apart, H'.bound, H'.fresh⟩
    refine opc_sound' hP hcf H2 hs hc fun φ' w' k1 k2 k3 => ?_
    have hno : ∀ b, ¬ Wr φ ⟨t, nx, lw, nx⟩ b := by
      rintro b ⟨i, o, hi, hf, _⟩
      have := AHeap.lt_of_get hi
      simp only at hf this
      omega
    have hfr : ∀ b, b < w.heap.size → w'.heap[b]? = w.heap[b]? := fun b hb => k2.frame b hb (hno b)
    have H3 : HRel φ ⟨t, nx, lw, fl⟩ w' := ⟨fun i o hi => (H'.live i o hi).same (hfr _ (H'.live i o hi).lt), H'.apart, H'.bound, H'.fresh⟩
    have hag : Agree h'.next φ' φ := fun i hi => by
      rw [hn] at hi
      have := k2.agree i hi
      exact ⟨this.1.symm, this.2.symm⟩
    obtain ⟨e1, e2⟩ := mapV_agree hag (Nat.le_refl _) v k3
    rw [← e1]
    rw [hn] at e2
    exact hK w' H3 ⟨Agree.refl _ _, Nat.le_refl _, k2.size, fun b hb _ => hfr b hb, fun b hb => .inr hb, rfl, k2.same, fun j o hj => .inr ⟨j, o, hj, rfl⟩⟩ e2
  · simp at hr
theorem all_listed {k : Nat} (C : Ctx P cf pl ops H R A tsE) (hr : Region.ready .any ops listed = []) (hs : listed.size = ops.size) : k < ops.size → Lst listed k := by
  induction k using Nat.strongRecOn with
  | _ k ih =>
    intro hk
    by_cases hl : Lst listed k
    · exact hl
    · exfalso
      have ho := Array.getElem?_eq_getElem hk
      have : k ∈ Region.ready .any ops listed := by
        rw [mem_ready]
        refine ⟨?_, ops[k], ho, fun e he hb => ?_⟩
        · unfold Lst at hl
          have : k < listed.size := by omega
          simp [this] at hl ⊢
          exact hl
        · have hd : e.on ∈ directs ops[k] := by
            unfold directs
            rw [List.mem_map]
            exact ⟨e, by rw [List.mem_filter]; exact ⟨by simpa using he, hb⟩, rfl⟩
          have hlt := C.ok.dir k _ ho _ hd
          exact ih e.on hlt (by omega)
      rw [hr] at this
      cases this
theorem ready_spec {i : Nat} (hs : listed.size = ops.size) (hi : i ∈ Region.ready .any ops listed) : ∃ o, ops[i]? = some o ∧ i < listed.size ∧ ¬ Lst listed i ∧ ∀ e ∈ directs o, Lst listed e := by
  obtain ⟨h1, o, ho, hdir⟩ := mem_ready.1 hi
  have hlt : i < ops.size := (Array.getElem?_eq_some_iff.1 ho).1
  have hltl : i < listed.size := by rw [hs]; exact hlt
  refine ⟨o, ho, hltl, ?_, ?_⟩
  · unfold Lst
    simp [hltl] at h1 ⊢
    exact h1
  · intro e he
    unfold directs at he
    rw [List.mem_map] at he
    obtain ⟨e', h2, rfl⟩ := he
    rw [List.mem_filter] at h2
    exact hdir e' (by simpa using h2.1) h2.2
theorem dirs_of {i : Nat} {o : Oper} (ho : ops[i]? = some o) (hd : ∀ e ∈ directs o, Lst listed e) : ∀ e ∈ dirsAt ops.toList i, Lst listed e := by unfold dirsAt; simpa [ho] using hd
theorem done_of_zero (hs : listed.size = ops.size) (hf : listed.toList.count false ≤ 0) : Region.ready .any ops listed = [] := by
  rw [List.eq_nil_iff_forall_not_mem]
  intro i hi
  obtain ⟨h1, o, ho, _⟩ := mem_ready.1 hi
  have hlt : i < listed.size := by rw [hs]; exact (Array.getElem?_eq_some_iff.1 ho).1
  have : false ∈ listed.toList := by
    rw [Array.mem_toList_iff, Array.mem_iff_getElem]
    refine ⟨i, hlt, ?_⟩
    simpa [hlt] using h1
  have := List.count_pos_iff.2 this
  omega
theorem Ctx.stage (C : Ctx P cf pl ops H R A tsE) : ∀ i, i ≤ ops.size → ((∀ l ∈ pl.loose, i ≤ l) ∨ ∀ l ∈ pl.loose, l < i) → H[lexN pl ops i]? = some (A i) := by
  intro i
  induction i with
  | zero => intro _ _; exact C.first
  | succ i ih =>
    intro hi hc
    have ho := Array.getElem?_eq_getElem (show i < ops.size by omega)
    obtain ⟨r, F⟩ := C.fact i _ ho
    have hlx := lexN_succ (pl := pl) ops i
    rw [vAt_of ho] at hlx
    cases hV : isV pl i ops[i] with
    | true => rw [hlx, hV]; exact F.chain hV
    | false =>
      rw [hV] at hlx
      simp only [Bool.false_eq_true, if_false, Nat.add_zero] at hlx
      rw [hlx]
      have hnl : i ∉ pl.loose := by
        intro hl
        rcases hc with hc | hc
        · have := hc i hl; omega
        · obtain ⟨_, k, hk, hik⟩ := C.ok.lim i hl
          have := hc k (last_mem hk)
          have : k = i := by omega
          subst this
          rw [isV_iff.2 (.inr hk)] at hV
          cases hV
      have hl' : inL pl.loose i = false := by
        cases hq : inL pl.loose i with
        | false => rfl
        | true => exact absurd (inL_iff.1 hq) hnl
      rw [(F.read hV hl').2]
      refine ih (by omega) ?_
      rcases hc with hc | hc
      · exact .inl fun l hl => by have := hc l hl; omega
      · refine .inr fun l hl => ?_
        have := hc l hl
        have : l ≠ i := fun e => hnl (e ▸ hl)
        omega
theorem Ctx.grows (C : Ctx P cf pl ops H R A tsE) {i : Nat} : ∀ j, i ≤ j → j ≤ ops.size → (A i).next ≤ (A j).next := by
  intro j hij
  induction hij with
  | refl => intro _; exact Nat.le_refl _
  | @step j hj ih =>
    intro hjs
    have ho := Array.getElem?_eq_getElem (show j < ops.size from hjs)
    obtain ⟨r, F⟩ := C.fact j _ ho
    have h1 := ih (by omega)
    refine Nat.le_trans h1 ?_
    cases hV : isV pl j ops[j] with
    | true => exact F.grow hV
    | false =>
      cases hl : inL pl.loose j with
      | true =>
        obtain ⟨q1, q2⟩ := F.run (.inr hl)
        cases hv : r.v with
        | none => rw [q2 hv]; exact Nat.le_refl _
        | some v =>
          obtain ⟨cs, g, _, e, _⟩ := float_spec (C.ok.lo j _ ho (inL_iff.1 hl)).1 (q1 v hv)
          rw [e]
          exact Nat.le_succ _
      | false => rw [(F.read hV hl).2]; exact Nat.le_refl _
structure DIn2 (pl : Plan) (ops : Array Oper) (H : List AHeap) (R : List OpRes) (tsE : Slots) (φ0 : Emb) (h0 : AHeap) (w0 : World) (listed : Array Bool) (a : Act) (w : World) (φ : Emb) (m : Nat) (hm : AHeap) : Prop where
  chain : ∀ i, vAt pl ops i = true → (Lst listed i ↔ lexN pl ops i < m)
  heap : H[m]? = some hm
  rel : HRel φ hm w
  ext : Ext φ0 h0 w0 φ hm w
  slots : Slotted ops R tsE listed a φ hm.next fun _ => True
structure DInv2 (pl : Plan) (ops : Array Oper) (H : List AHeap) (R : List OpRes) (tsE : Slots) (φ0 : Emb) (h0 : AHeap) (w0 : World) (d0 : List Deferred) (listed : Array Bool) (a : Act) (w : World) : Prop where
  size : listed.size = ops.size
  closed : ∀ i, Lst listed i → ∀ e ∈ dirsAt ops.toList i, Lst listed e
  all : ∀ l ∈ pl.loose, Lst listed l
  ex : ∃ φ m hm, DIn2 pl ops H R tsE φ0 h0 w0 listed a w φ m hm
  defers : a.defers = d0
theorem oprel_of {φ : Emb} {n : Nat} {ts : Slots} {o : Oper} (hslot : ∀ t ∈ tmpsOf ops o, PRel φ n ts a.tmps t) : ∀ x ∈ o.op.operands.toList, fineOp x = true → OpRel φ n ts a.eval x := by
  intro x hx hfx
  cases x with
  | tmp t => exact (hslot t (by unfold tmpsOf; rw [List.mem_append, List.mem_filterMap]; exact .inl ⟨.tmp t, hx, rfl⟩)).get
  | const v => unfold OpRel; rw [cval_const]; exact ⟨(plainV_map hfx).symm, plainV_ok hfx⟩
  | global g => simp [fineOp] at hfx
  | func f => refine ⟨?_, ?_⟩ <;> simp [cval, Act.eval, mapFn, okFn]
theorem wanted_of {φ : Emb} {n : Nat} {ts : Slots} {o : Oper} (hslot : ∀ t ∈ tmpsOf ops o, PRel φ n ts a.tmps t) : Region.wanted o (yielded ops a.tmps) = (cguard ops o).test ts :=
  wanted_sound' (φ := φ) ops o fun j want d hg hdst => (hslot d (by
    unfold tmpsOf
    rw [List.mem_append]
    right
    rw [hg]
    simp only [hdst]
    simp)).1
theorem draw2 (hP : NamesFine P) (hcf : SoundCF P cf) (C : Ctx P cf pl ops H R A tsE) {ro : Option Nat} {Q : Exit → Act → World → Prop}
    (hend : tsAt R tsE ops.size = some tsE)
    (hQ : ∀ φ' a' w', SRel φ' (A ops.size).next tsE a'.tmps → a'.defers = d0 → HRel φ' (A ops.size) w' → Ext φ0 h0 w0 φ' (A ops.size) w' → Q .normal a' w') :
    ∀ (fuel : Nat) {listed : Array Bool} {a : Act} {w : World}, listed.toList.count false ≤ fuel → DInv2 pl ops H R tsE φ0 h0 w0 d0 listed a w → wpAnyIn (Wf ro) 0 P .any ops Q fuel listed a w := by
  have hlast : H[lexN pl ops ops.size]? = some (A ops.size) := C.stage _ (Nat.le_refl _) (.inr fun l hl => (C.ok.lim l hl).1)
  have fin : ∀ {listed : Array Bool} {a : Act} {w : World}, DInv2 pl ops H R tsE φ0 h0 w0 d0 listed a w → Region.ready .any ops listed = [] → Q .normal a w := by
    intro listed a w hD hr
    obtain ⟨φ, m, hm, hI⟩ := hD.ex
    have hall : ∀ k, k < ops.size → Lst listed k := fun k hk => all_listed C hr hD.size hk
    have hmle : m ≤ lexN pl ops ops.size := by
      have := (List.getElem?_eq_some_iff.1 hI.heap).1
      rw [C.hlen] at this
      omega
    have hmeq : m = lexN pl ops ops.size := by
      rcases Nat.lt_or_ge m (lexN pl ops ops.size) with h | h
      · obtain ⟨j, h1, h2, h3⟩ := lexN_inv ops _ _ h
        have := (hI.chain j h2).1 (hall j h1)
        omega
      · omega
    subst hmeq
    have hh : hm = A ops.size := by
      have := hI.heap
      rw [hlast] at this
      cases this
      rfl
    subst hh
    refine hQ φ a w (fun t => ?_) hD.defers hI.rel hI.ext
    exact hI.slots ops.size tsE (Nat.le_refl _) hend t trivial fun j q hq _ => ⟨fun _ => (Array.getElem?_eq_some_iff.1 hq).1, fun h => hall j h⟩
  intro fuel
  induction fuel with
  | zero =>
    intro listed a w hf hD
    have hr := done_of_zero hD.size hf
    exact ⟨hr, fin hD hr⟩
  | succ fuel ih =>
    intro listed a w hf hD
    refine ⟨fin hD, fun i hi => ?_⟩
    obtain ⟨o, ho, hltl, hu, hd⟩ := ready_spec hD.size hi
    have hlt : i < ops.size := (Array.getElem?_eq_some_iff.1 ho).1
    have hdi := dirs_of ho hd
    obtain ⟨φ, m, hm, hI⟩ := hD.ex
    obtain ⟨r, F⟩ := C.fact i o ho
    have hT := tsAt_res (tsE := tsE) F.res
    have hnl : i ∉ pl.loose := fun hl => hu (hD.all i hl)
    have hl' : inL pl.loose i = false := by
      cases hq : inL pl.loose i with
      | false => rfl
      | true => exact absurd (inL_iff.1 hq) hnl
    have hslot : ∀ t ∈ tmpsOf ops o, PRel φ hm.next r.ts a.tmps t := fun t ht => hI.slots i r.ts (Nat.le_of_lt hlt) hT t trivial (C.touch hD.closed ho hu hd (.inl ht))
    have hops := oprel_of hslot
    -- whatever came of it
    have step : ∀ {φ' : Emb} {m' : Nat} {h' : AHeap} {w' : World}, (∀ k, vAt pl ops k = true → ((i = k ∨ Lst listed k) ↔ lexN pl ops k < m')) → H[m']? = some h' → HRel φ' h' w' → Ext φ hm w φ' h' w' → okV φ' h'.next (r.v.getD undef) →
        DInv2 pl ops H R tsE φ0 h0 w0 d0 (listed.setIfInBounds i true) (a.put o.dst (mapV φ' (r.v.getD undef))) w' := by
      intro φ' m' h' w' hc' hh' H' E' hv
      refine ⟨by simp [hD.size], closed_set hD.closed ho hltl hd, fun l hl => by rw [lst_set hltl]; exact .inr (hD.all l hl), ⟨φ', m', h', ?_, hh', H', hI.ext.trans E', ?_⟩, by rw [put_defers]; exact hD.defers⟩
      · intro k hk
        rw [lst_set hltl]
        exact hc' k hk
      · exact C.slots hD.closed hI.slots ho F hltl hu hd E'.agree E'.next (fun _ _ _ => hv) (fun _ _ _ => rfl)
    unfold wpOpIn
    simp only [ho]
    rw [wanted_of hslot, F.guard]
    cases hc : isV pl i o with
    | true =>
      have hcc : isCh pl i o = true := (isV_iff.1 hc).resolve_right fun e => hnl (last_mem e)
      have hci : vAt pl ops i = true := by rw [vAt_of ho]; exact hc
      have hmi : m = lexN pl ops i := by
        have h2 : m ≤ lexN pl ops i := by
          rcases Nat.lt_or_ge (lexN pl ops i) m with h | h
          · exact absurd ((hI.chain i hci).2 h) hu
          · exact h
        rcases Nat.lt_or_ge m (lexN pl ops i) with h | h
        · obtain ⟨j, k1, k2, k3⟩ := lexN_inv ops _ _ h
          have hoj := Array.getElem?_eq_getElem (show j < ops.size by omega)
          have hLj : Lst listed j := by
            rw [vAt_of hoj] at k2
            rcases isV_iff.1 k2 with k2 | k2
            · exact mask_lst hD.closed (C.ok.cc i o j _ ho k1 hoj k2 hcc) hdi
            · exact hD.all j (last_mem k2)
          have := (hI.chain j k2).1 hLj
          omega
        · omega
      subst hmi
      obtain ⟨q3, q4⟩ := F.run (.inl hc)
      have e1 : A i = hm := by
        have h1 := C.stage i (by omega) (by
          rcases C.ok.ch i o ho hcc with h | h
          · exact .inl fun l hl => Nat.le_of_lt (h l hl)
          · exact .inr fun l hl => (h l hl).1)
        have := hI.heap
        rw [h1] at this
        cases this
        rfl
      rw [e1] at q3 q4
      have q2 := F.chain hc
      have hc' : ∀ k, vAt pl ops k = true → ((i = k ∨ Lst listed k) ↔ lexN pl ops k < lexN pl ops i + 1) := by
        intro k hk
        rw [hI.chain k hk]
        constructor
        · rintro (rfl | h) <;> omega
        · intro h
          rcases Nat.lt_trichotomy k i with h3 | h3 | h3
          · exact .inr (lexN_lt ops hk h3)
          · exact .inl h3.symm
          · have := lexN_lt ops hci h3
            omega
      cases hv : r.v with
      | none =>
        simp only [Option.isSome_none, Bool.false_eq_true, if_false]
        refine ⟨fun _ _ => trivial, ih (count_set_lt hltl hu hf) ?_⟩
        have e2 := q4 hv
        have := step hc' (by rw [q2, e2]) hI.rel (Ext.refl _ _ _) (by rw [hv]; exact okV_undef)
        rw [hv] at this
        simp only [Option.getD_none, mapV_undef] at this
        exact this
      | some v =>
        simp only [Option.isSome_some, if_true]
        refine opc_sound' hP hcf hI.rel hops (q3 v hv) fun φ' w' k1 k2 k3 => ih (count_set_lt hltl hu hf) ?_
        have := step hc' q2 k1 k2 (by rw [hv]; exact k3)
        rw [hv] at this
        exact this
    | false =>
      have hc' : ∀ k, vAt pl ops k = true → ((i = k ∨ Lst listed k) ↔ lexN pl ops k < m) := by
        intro k hk
        rw [← hI.chain k hk]
        constructor
        · rintro (rfl | h)
          · rw [vAt_of ho, hc] at hk; cases hk
          · exact h
        · exact .inr
      cases hv : r.v with
      | none =>
        simp only [Option.isSome_none, Bool.false_eq_true, if_false]
        refine ⟨fun _ _ => trivial, ih (count_set_lt hltl hu hf) ?_⟩
        have := step hc' hI.heap hI.rel (Ext.refl _ _ _) (by rw [hv]; exact okV_undef)
        rw [hv] at this
        simp only [Option.getD_none, mapV_undef] at this
        exact this
      | some v =>
        simp only [Option.isSome_some, if_true]
        have hread : readAt (copc P o) cf hm r.ts = some v := by
          by_cases hml : m = lexN pl ops i
          · subst hml
            obtain ⟨⟨h1', q1, q2⟩, _⟩ := F.read hc hl'
            have e1 : h1' = hm := by have := hI.heap; rw [q1] at this; cases this; rfl
            subst e1
            exact q2 v hv
          · by_cases hhf : heapFree o = true
            · obtain ⟨⟨h1', _, q2⟩, _⟩ := F.read hc hl'
              exact read_free hhf (q2 v hv)
            have hmle : m ≤ lexN pl ops ops.size := by
              have := (List.getElem?_eq_some_iff.1 hI.heap).1
              rw [C.hlen] at this
              omega
            obtain ⟨h', q1, q2⟩ := C.chk i o r ho F.res hc hnl (by simpa using hhf) v hv m hmle (by
              unfold mayAt
              rw [Bool.and_eq_true, List.all_eq_true, List.all_eq_true]
              refine ⟨fun c hcm => ?_, fun c hcm => ?_⟩
              · obtain ⟨k1, k2, k3⟩ := chain_take ops hcm
                cases hb : hasBit ((masksOf ops.toList []).getD c 0) i with
                | false => rfl
                | true =>
                  have hlc := (hI.chain c k2).2 k3
                  exact absurd (mask_lst hD.closed hb (hD.closed c hlc)) hu
              · obtain ⟨k1, k2, k3⟩ := chain_drop ops hcm
                cases hb : hasBit ((masksOf ops.toList []).getD i 0) c with
                | false => rfl
                | true =>
                  have := (hI.chain c k2).1 (mask_lst hD.closed hb hdi)
                  omega) hml
            have e1 : h' = hm := by have := hI.heap; rw [q1] at this; cases this; rfl
            subst e1
            exact q2
        refine read_sound hP hcf hI.rel hops hread fun w' k1 k2 k3 => ih (count_set_lt hltl hu hf) ?_
        have := step hc' hI.heap k1 k2 (by rw [hv]; exact k3)
        rw [hv] at this
        exact this
end main
end Go.Vm

namespace Go.Vm
variable {P : Program} {pl : Plan}
variable {ops : Array Oper} {H : List AHeap} {R : List OpRes} {A : Nat → AHeap} {tsE : Slots} {φ0 : Emb} {h0 : AHeap} {w0 : World} {d0 : List Deferred} {cf : CallF} {listed : Array Bool} {a : Act} {w : World}
theorem least {l : List Nat} (h : l ≠ []) : ∃ f ∈ l, ∀ x ∈ l, f ≤ x := by
  induction l with
  | nil => exact absurd rfl h
  | cons x l ih =>
    by_cases hl : l = []
    · subst hl; exact ⟨x, by simp, by simp⟩
    · obtain ⟨f, h1, h2⟩ := ih hl
      by_cases hx : x ≤ f
      · exact ⟨x, by simp, fun y hy => by
          rcases List.mem_cons.1 hy with rfl | hy
          · exact Nat.le_refl _
          · exact Nat.le_trans hx (h2 y hy)⟩
      · exact ⟨f, by simp [h1], fun y hy => by
          rcases List.mem_cons.1 hy with rfl | hy
          · omega
          · exact h2 y hy⟩
theorem lexN_const {f : Nat} : ∀ k, f ≤ k → (∀ j, f ≤ j → j < k → vAt pl ops j = false) → lexN pl ops k = lexN pl ops f := by
  intro k hk
  induction hk with
  | refl => intro _; rfl
  | @step k hk ih =>
    intro h
    rw [lexN_succ, h k hk (Nat.lt_succ_self _), ih fun j h1 h2 => h j h1 (by omega)]
    simp
theorem bit_lt (L : Look pl ops) {i j : Nat} (_hi : i < ops.size) (hb : bitOf ops i j) : j < i := by
  have hdir : ∀ k e, e ∈ dirsAt ops.toList k → e < k := by
    intro k e he
    unfold dirsAt at he
    split at he
    · rename_i o ho; exact L.dir k o (by simpa using ho) e he
    · cases he
  exact masksOf_spec (fun j => j < i) ops.toList (fun k hk e he => Nat.lt_trans (hdir k e he) hk) ops.toList [] (by intro j; simp) (by intro i hi; simp at hi) i j hb (fun e he => hdir i e he)
theorem put_self (φ : Emb) (n : Nat) : φ.put n (φ.at_ n) (φ.cap n) = φ := by
  obtain ⟨x, c⟩ := φ
  unfold Emb.put
  congr 1 <;> funext j <;> by_cases h : j = n <;> simp [h]
theorem Ext.emb {φ φ' φ2 : Emb} {h h' : AHeap} {w w' : World} (E : Ext φ h w φ' h' w') (ha : Agree h'.next φ' φ2) : Ext φ h w φ2 h' w' where
  agree := E.agree.trans ha E.next
  next := E.next
  size := E.size
  frame := E.frame
  wr := fun b ⟨i, o, h1, h2, h3, h4⟩ => E.wr b ⟨i, o, h1, h2, h3, by rw [← (ha i (AHeap.lt_of_get h1)).1]; exact h4⟩
  floor := E.floor
  same := E.same
  live := fun j o hj => by rw [(ha j (AHeap.lt_of_get hj)).1]; exact E.live j o hj
def Pend (A : Nat → AHeap) (φ : Emb) (gm : AHeap) (w w0 : World) (a : Act) (l : Nat) (o : Oper) (r : OpRes) : Prop :=
  (∀ d, o.dst = some d → ∀ φ2 : Emb, (∀ v, r.v = some v → φ2.at_ (A l).next = φ.at_ (A l).next ∧ φ2.cap (A l).next = φ.cap (A l).next) → PRel φ2 (A (l + 1)).next (putS r.ts o.dst (r.v.getD undef)) a.tmps d) ∧
  ∀ v, r.v = some v → ∃ cs g, A (l + 1) = (A l).more (some (.row cs true g)) ∧ (A l).next < far ∧ RowAt φ gm.next w (φ.at_ (A l).next) (φ.cap (A l).next) cs g ∧ w0.heap.size ≤ (φ.at_ (A l).next).block ∧
    ∀ j oj, gm.get j = some oj → (φ.at_ j).block ≠ (φ.at_ (A l).next).block
def Tof (pl : Plan) (ops : Array Oper) (listed : Array Bool) (t : Nat) : Prop := ∀ l o, l ∈ pl.loose → Lst listed l → ops[l]? = some o → o.dst ≠ some t
structure DIn1 (pl : Plan) (ops : Array Oper) (H : List AHeap) (R : List OpRes) (A : Nat → AHeap) (tsE : Slots) (φ0 : Emb) (h0 : AHeap) (w0 : World) (k : Nat) (listed : Array Bool) (a : Act) (w : World) (φ : Emb) (m : Nat) (gm : AHeap) : Prop where
  chain : ∀ i, chAt pl ops i = true → (∀ l ∈ pl.loose, i < l) → (Lst listed i ↔ lexN pl ops i < m)
  dep : ∀ i l, i < ops.size → l ∈ pl.loose → bitOf ops i l → ¬ Lst listed i
  small : m ≤ lexN pl ops k
  heap : H[m]? = some gm
  rel : HRel φ gm w
  ext : Ext φ0 h0 w0 φ gm w
  slots : Slotted ops R tsE listed a φ gm.next (Tof pl ops listed)
  pend : ∀ l o r, l ∈ pl.loose → Lst listed l → ops[l]? = some o → R[l]? = some r → Pend A φ gm w w0 a l o r
  disj : ∀ l l' r r' v v', l ∈ pl.loose → l' ∈ pl.loose → l ≠ l' → Lst listed l → Lst listed l' → R[l]? = some r → R[l']? = some r' → r.v = some v → r'.v = some v' → (φ.at_ (A l).next).block ≠ (φ.at_ (A l').next).block
structure DInv1 (pl : Plan) (ops : Array Oper) (H : List AHeap) (R : List OpRes) (A : Nat → AHeap) (tsE : Slots) (φ0 : Emb) (h0 : AHeap) (w0 : World) (k : Nat) (d0 : List Deferred) (listed : Array Bool) (a : Act) (w : World) : Prop where
  size : listed.size = ops.size
  closed : ∀ i, Lst listed i → ∀ e ∈ dirsAt ops.toList i, Lst listed e
  ex : ∃ φ m gm, DIn1 pl ops H R A tsE φ0 h0 w0 k listed a w φ m gm
  defers : a.defers = d0
theorem before_of (L : Look pl ops) {k j : Nat} (hk : pl.loose.getLast? = some k) (hj : j < k) (hv : vAt pl ops j = true) : chAt pl ops j = true ∧ ∀ l ∈ pl.loose, j < l := by
  unfold vAt at hv
  split at hv
  · rename_i o ho
    rcases isV_iff.1 hv with h | h
    · refine ⟨by rw [chAt_of ho]; exact h, ?_⟩
      rcases L.ch j o ho h with h2 | h2
      · exact h2
      · have := (h2 k (last_mem hk)).1; omega
    · rw [hk] at h; cases h; omega
  · cases hv
theorem vAt_ch {i : Nat} (h : chAt pl ops i = true) : vAt pl ops i = true := by
  unfold chAt at h
  split at h
  · rename_i o ho; rw [vAt_of ho]; exact isV_iff.2 (.inl h)
  · cases h
theorem absorb (C : Ctx P cf pl ops H R A tsE) {k : Nat} (hk : pl.loose.getLast? = some k) {φ : Emb} {m : Nat} {gm : AHeap} (hI : DIn1 pl ops H R A tsE φ0 h0 w0 k listed a w φ m gm) (hall : ∀ l ∈ pl.loose, Lst listed l) (hm : m = lexN pl ops k) :
    DIn2 pl ops H R tsE φ0 h0 w0 listed a w φ (lexN pl ops k + 1) (A (k + 1)) := by
  have hkm := last_mem hk
  have hkS := (C.ok.lim k hkm).1
  obtain ⟨f, hf, hmin⟩ := least (l := pl.loose) (by intro e; rw [e] at hkm; cases hkm)
  have hfk := hmin k hkm
  have hnoV : ∀ j, f ≤ j → j < k → vAt pl ops j = false := by
    intro j h1 h2
    cases hv : vAt pl ops j with
    | false => rfl
    | true => have := (before_of C.ok hk h2 hv).2 f hf; omega
  have hlx := lexN_const k hfk hnoV
  have hAf : A f = gm := by
    have h1 := C.stage f (by omega) (.inl hmin)
    have h2 := hI.heap
    rw [hm, hlx, h1] at h2
    cases h2
    rfl
  have hok := Array.getElem?_eq_getElem hkS
  have hVk : isV pl k ops[k] = true := isV_iff.2 (.inr hk)
  have claim : ∀ d, f + d ≤ k + 1 → HRel φ (A (f + d)) w ∧ (A (f + d)).floor = gm.floor ∧ ∀ j oj, (A (f + d)).get j = some oj → gm.get j = some oj ∨ ∃ l o r v, l ∈ pl.loose ∧ l < f + d ∧ ops[l]? = some o ∧ R[l]? = some r ∧ r.v = some v ∧ j = (A l).next := by
    intro d
    induction d with
    | zero => intro _; rw [Nat.add_zero, hAf]; exact ⟨hI.rel, rfl, fun j oj h => .inl h⟩
    | succ d ih =>
      intro hd
      obtain ⟨i1, i2, i3⟩ := ih (by omega)
      have hi : f + d < ops.size := by omega
      have ho := Array.getElem?_eq_getElem hi
      obtain ⟨r, F⟩ := C.fact _ _ ho
      have keep : A (f + d + 1) = A (f + d) → HRel φ (A (f + (d + 1))) w ∧ (A (f + (d + 1))).floor = gm.floor ∧ ∀ j oj, (A (f + (d + 1))).get j = some oj → gm.get j = some oj ∨ ∃ l o r v, l ∈ pl.loose ∧ l < f + (d + 1) ∧ ops[l]? = some o ∧ R[l]? = some r ∧ r.v = some v ∧ j = (A l).next := by
        intro e
        rw [show f + (d + 1) = f + d + 1 from rfl, e]
        refine ⟨i1, i2, fun j oj hj => ?_⟩
        rcases i3 j oj hj with h | ⟨l, o, r, v, q1, q2, q3⟩
        · exact .inl h
        · exact .inr ⟨l, o, r, v, q1, by omega, q3⟩
      by_cases hl : f + d ∈ pl.loose
      · have hinl : inL pl.loose (f + d) = true := inL_iff.2 hl
        obtain ⟨_, q2⟩ := F.run (.inr hinl)
        cases hv : r.v with
        | none => exact keep (q2 hv)
        | some v =>
          obtain ⟨_, hp⟩ := hI.pend _ _ _ hl (hall _ hl) ho F.res
          obtain ⟨cs, g, e1, e2, e3, e4, e5⟩ := hp v hv
          rw [show f + (d + 1) = f + d + 1 from rfl, e1]
          have hle : gm.next ≤ (A (f + d)).next := by rw [← hAf]; exact C.grows _ (by omega) (by omega)
          have hplace := HRel.placeH (w' := w) i1 e2 (some (.row cs true g)) (φ.at_ (A (f + d)).next) (φ.cap (A (f + d)).next) (fun _ _ => rfl) (fun o' e => by
            cases e
            rw [put_self]
            exact (e3.agree (Agree.refl _ _) (Nat.le_succ_of_le hle)).to) (fun o' _ j oj hj => by
            rcases i3 j oj hj with h | ⟨l, o, r', v', q1, q2, q3, q4, q5, rfl⟩
            · exact e5 j oj h
            · exact hI.disj l (f + d) r' r v' v q1 hl (by omega) (hall l q1) (hall _ hl) q4 F.res q5 hv)
          rw [put_self] at hplace
          refine ⟨hplace, i2, fun j oj hj => ?_⟩
          rw [AHeap.get_more e2] at hj
          by_cases hn : (A (f + d)).next = j
          · exact .inr ⟨f + d, _, r, v, hl, by omega, ho, F.res, hv, hn.symm⟩
          · rw [if_neg hn] at hj
            rcases i3 j oj hj with h | ⟨l, o, r, v, q1, q2, q3⟩
            · exact .inl h
            · exact .inr ⟨l, o, r, v, q1, by omega, q3⟩
      · have hne : f + d ≠ k := fun e => hl (e ▸ hkm)
        have hV : isV pl (f + d) ops[f + d] = false := by rw [← vAt_of ho]; exact hnoV _ (by omega) (by omega)
        have hinl : inL pl.loose (f + d) = false := by
          cases hq : inL pl.loose (f + d) with
          | false => rfl
          | true => exact absurd (inL_iff.1 hq) hl
        exact keep (F.read hV hinl).2
  obtain ⟨c1, c2, c3⟩ := claim (k + 1 - f) (by omega)
  rw [show f + (k + 1 - f) = k + 1 by omega] at c1 c2 c3
  have hle : gm.next ≤ (A (k + 1)).next := by rw [← hAf]; exact C.grows _ (by omega) (by omega)
  have hpre : ∀ j oj, (A (k + 1)).get j = some oj → gm.get j = some oj ∨ w0.heap.size ≤ (φ.at_ j).block := by
    intro j oj hj
    rcases c3 j oj hj with h | ⟨l, o, r, v, q1, q2, q3, q4, q5, rfl⟩
    · exact .inl h
    · obtain ⟨_, hp⟩ := hI.pend l o r q1 (hall l q1) q3 q4
      obtain ⟨cs, g, _, _, _, e4, _⟩ := hp v q5
      exact .inr e4
  refine ⟨fun i hi => ?_, ?_, c1, ⟨hI.ext.agree, Nat.le_trans hI.ext.next hle, hI.ext.size, hI.ext.frame, ?_, c2.trans hI.ext.floor, hI.ext.same, ?_⟩, ?_⟩
  · rcases Nat.lt_trichotomy i k with h | h | h
    · obtain ⟨h1, h2⟩ := before_of C.ok hk h hi
      rw [hI.chain i h1 h2, hm]
      have := lexN_lt ops hi h
      omega
    · subst h
      exact ⟨fun _ => Nat.lt_succ_self _, fun _ => hall _ hkm⟩
    · have hlt : i < ops.size := by
        unfold vAt at hi
        split at hi
        · rename_i o ho; exact (Array.getElem?_eq_some_iff.1 ho).1
        · cases hi
      have ho := Array.getElem?_eq_getElem hlt
      rw [vAt_of ho] at hi
      have hch : isCh pl i ops[i] = true := (isV_iff.1 hi).resolve_right (by rw [hk]; intro e; cases e; omega)
      have hb : bitOf ops i k := by
        rcases C.ok.ch i _ ho hch with h2 | h2
        · have := h2 k hkm; omega
        · exact (h2 k hkm).2
      refine ⟨fun hL => absurd hL (hI.dep i k hlt hkm hb), fun hx => ?_⟩
      have h3 := lexN_lt (pl := pl) ops (show vAt pl ops k = true by rw [vAt_of hok]; exact hVk) h
      omega
  · obtain ⟨r, F⟩ := C.fact k _ hok
    exact F.chain hVk
  · rintro b ⟨i, o, h1, h2, h3, h4⟩
    rcases hpre i o h1 with h | h
    · exact hI.ext.wr b ⟨i, o, h, by rw [← c2]; exact h2, h3, h4⟩
    · exact .inl (by rw [← h4]; exact h)
  · intro j o hj
    rcases hpre j o hj with h | h
    · exact hI.ext.live j o h
    · exact .inl h
  · intro i' ts' hi' hts t _ hcond
    by_cases hT : Tof pl ops listed t
    · exact (hI.slots i' ts' hi' hts t hT hcond).agree (Agree.refl _ _) hle
    · unfold Tof at hT
      simp only [Classical.not_forall] at hT
      obtain ⟨l, o, hl, hL, ho, hd⟩ := hT
      have hd := Classical.not_not.1 hd
      have hls := (Array.getElem?_eq_some_iff.1 ho).1
      obtain ⟨r, F⟩ := C.fact l o ho
      obtain ⟨_, _, d, hd', huniq⟩ := C.ok.lo l o ho hl
      rw [hd] at hd'
      cases hd'
      have hlt : l < i' := (hcond l o ho hd).1 hL
      obtain ⟨hp, _⟩ := hI.pend l o r hl hL ho F.res
      have hP := hp t hd φ (fun _ _ => ⟨rfl, rfl⟩)
      have hconst := C.const (i' - (l + 1)) (l + 1) (t := t) F.next (by rw [show l + 1 + (i' - (l + 1)) = i' by omega]; exact hts) (by omega) (fun j q h1 h2 h3 h4 => huniq j q h3 (by omega) h4)
      obtain ⟨_, k', hk', hlk⟩ := C.ok.lim l hl
      rw [hk] at hk'
      cases hk'
      have hP' := hP.agree (Agree.refl _ _) (C.grows (i := l + 1) (k + 1) (by omega) (by omega))
      unfold PRel
      rw [hconst]
      exact hP'
theorem tof_of (C : Ctx P cf pl ops H R A tsE) (hcl : ∀ i, Lst listed i → ∀ e ∈ dirsAt ops.toList i, Lst listed e) {i : Nat} {o : Oper} (ho : ops[i]? = some o) (hu : ¬ Lst listed i) (hd : ∀ e ∈ directs o, Lst listed e) (hfree : ∀ l ∈ pl.loose, ¬ bitOf ops i l) {t : Nat}
    (ht : t ∈ tmpsOf ops o ∨ o.dst = some t) : Tof pl ops listed t := by
  intro l q hl hL hq hqt
  have hlt := (C.touch hcl ho hu hd ht l q hq hqt).1 hL
  refine hfree l hl (C.ok.cl i o l q ho hlt hq ?_)
  unfold clash
  rw [hqt]
  rcases ht with ht | ht
  · simp [ht]
  · simp [ht]
theorem prel_put {φ : Emb} {n : Nat} {ts : Slots} {d : Nat} {dst : Option Tmp} {u : Value} (h : PRel φ n ts a.tmps d) (hne : dst ≠ some d) : PRel φ n ts (a.put dst u).tmps d := by
  unfold PRel at h ⊢
  refine ⟨?_, h.2⟩
  rw [← h.1]
  unfold Act.put
  cases dst with
  | none => rfl
  | some e =>
    simp only
    rw [Array.getElem?_setIfInBounds_ne]
    intro e'
    exact hne (by rw [e'])
theorem draw1 (hP : NamesFine P) (hcf : SoundCF P cf) (C : Ctx P cf pl ops H R A tsE) {k : Nat} (hk : pl.loose.getLast? = some k) {ro : Option Nat} {Q : Exit → Act → World → Prop}
    (hend : tsAt R tsE ops.size = some tsE)
    (hQ : ∀ φ' a' w', SRel φ' (A ops.size).next tsE a'.tmps → a'.defers = d0 → HRel φ' (A ops.size) w' → Ext φ0 h0 w0 φ' (A ops.size) w' → Q .normal a' w') :
    ∀ (fuel : Nat) {listed : Array Bool} {a : Act} {w : World}, listed.toList.count false ≤ fuel → DInv1 pl ops H R A tsE φ0 h0 w0 k d0 listed a w → wpAnyIn (Wf ro) 0 P .any ops Q fuel listed a w := by
  have hkm := last_mem hk
  have hkS := (C.ok.lim k hkm).1
  intro fuel
  induction fuel with
  | zero =>
    intro listed a w hf hD
    obtain ⟨φ, m, gm, hI⟩ := hD.ex
    have hr := done_of_zero hD.size hf
    have hall : ∀ i, i < ops.size → Lst listed i := fun i hi => all_listed C hr hD.size hi
    have hm : m = lexN pl ops k := by
      rcases Nat.lt_or_ge m (lexN pl ops k) with h | h
      · obtain ⟨j, h1, h2, h3⟩ := lexN_inv ops _ _ h
        obtain ⟨h4, h5⟩ := before_of C.ok hk h1 h2
        have := (hI.chain j h4 h5).1 (hall j (by omega))
        omega
      · have := hI.small; omega
    exact draw2 hP hcf C hend hQ 0 hf ⟨hD.size, hD.closed, fun l hl => hall l (C.ok.lim l hl).1, ⟨φ, _, _, absorb C hk hI (fun l hl => hall l (C.ok.lim l hl).1) hm⟩, hD.defers⟩
  | succ fuel ih =>
    intro listed a w hf hD
    obtain ⟨φ, m, gm, hI⟩ := hD.ex
    by_cases hdone : (∀ l ∈ pl.loose, Lst listed l) ∧ m = lexN pl ops k
    · exact draw2 hP hcf C hend hQ (fuel + 1) hf ⟨hD.size, hD.closed, hdone.1, ⟨φ, _, _, absorb C hk hI hdone.1 hdone.2⟩, hD.defers⟩
    -- those before the loose ones: if they have all come, the stage is there
    have hmk : (∀ j, j < k → vAt pl ops j = true → Lst listed j) → m = lexN pl ops k := by
      intro h
      rcases Nat.lt_or_ge m (lexN pl ops k) with h' | h'
      · obtain ⟨j, h1, h2, h3⟩ := lexN_inv ops _ _ h'
        obtain ⟨h4, h5⟩ := before_of C.ok hk h1 h2
        have := (hI.chain j h4 h5).1 (h j h1 h2)
        omega
      · have := hI.small; omega
    refine ⟨fun hr => absurd ⟨fun l hl => all_listed C hr hD.size (C.ok.lim l hl).1, hmk fun j hj _ => all_listed C hr hD.size (by omega)⟩ hdone, fun i hi => ?_⟩
    obtain ⟨o, ho, hltl, hu, hd⟩ := ready_spec hD.size hi
    have hlt : i < ops.size := (Array.getElem?_eq_some_iff.1 ho).1
    have hdi := dirs_of ho hd
    obtain ⟨r, F⟩ := C.fact i o ho
    have hT := tsAt_res (tsE := tsE) F.res
    -- whoever stands behind all loose ones is not ready
    have hfree : ∀ l ∈ pl.loose, ¬ bitOf ops i l := by
      cases hc : isCh pl i o with
      | true =>
        rcases C.ok.ch i o ho hc with h | h
        · intro l hl hb
          have := bit_lt C.ok hlt hb
          have := h l hl
          omega
        · refine absurd ⟨fun l hl => mask_lst hD.closed (h l hl).2 hdi, hmk fun j hj hv => ?_⟩ hdone
          obtain ⟨h4, h5⟩ := before_of C.ok hk hj hv
          have hoj := Array.getElem?_eq_getElem (show j < ops.size by omega)
          rw [chAt_of hoj] at h4
          have hji : j < i := Nat.lt_trans (h5 k hkm) (h k hkm).1
          exact mask_lst hD.closed (C.ok.cc i o j _ ho hji hoj h4 hc) hdi
      | false =>
        by_cases hl : i ∈ pl.loose
        · exact (C.ok.lo i o ho hl).2.1
        · rcases C.ok.rd i o ho hc hl with h | ⟨h, h'⟩
          · exact h
          · refine absurd ⟨fun l hl => mask_lst hD.closed (h l hl) hdi, hmk fun j hj hv => ?_⟩ hdone
            obtain ⟨h4, h5⟩ := before_of C.ok hk hj hv
            exact mask_lst hD.closed (h' j h4 h5) hdi
    have hslot : ∀ t ∈ tmpsOf ops o, PRel φ gm.next r.ts a.tmps t := fun t ht => hI.slots i r.ts (Nat.le_of_lt hlt) hT t (tof_of C hD.closed ho hu hd hfree (.inl ht)) (C.touch hD.closed ho hu hd (.inl ht))
    have hops := oprel_of hslot
    have hTmono : ∀ t, Tof pl ops (listed.setIfInBounds i true) t → Tof pl ops listed t := fun t h l q hl hL hq => h l q hl (by rw [lst_set hltl]; exact .inr hL) hq
    have hdep : ∀ i' l, i' < ops.size → l ∈ pl.loose → bitOf ops i' l → ¬ Lst (listed.setIfInBounds i true) i' := by
      intro i' l hi' hl hb
      rw [lst_set hltl]
      rintro (rfl | h)
      · exact hfree l hl hb
      · exact hI.dep i' l hi' hl hb h
    have hfr : ∀ {φ' : Emb} {h' : AHeap} {w' : World}, Ext φ gm w φ' h' w' → ∀ l q r' v cs g, RowAt φ gm.next w (φ.at_ (A l).next) (φ.cap (A l).next) cs g → (∀ j oj, gm.get j = some oj → (φ.at_ j).block ≠ (φ.at_ (A l).next).block) → (q : Oper) = q → (r' : OpRes) = r' → (v : Value) = v →
        w'.heap[(φ.at_ (A l).next).block]? = w.heap[(φ.at_ (A l).next).block]? := by
      intro φ' h' w' E l q r' v cs g e3 e5 _ _ _
      refine E.frame _ e3.lt ?_
      rintro ⟨j, oj, h1, _, _, h4⟩
      exact e5 j oj h1 h4
    -- an operation of the chain, or one that reads
    have step : i ∉ pl.loose → ∀ {φ' : Emb} {m' : Nat} {h' : AHeap} {w' : World}, (∀ j, chAt pl ops j = true → (∀ l ∈ pl.loose, j < l) → ((i = j ∨ Lst listed j) ↔ lexN pl ops j < m')) → m' ≤ lexN pl ops k → H[m']? = some h' → HRel φ' h' w' → Ext φ gm w φ' h' w' → okV φ' h'.next (r.v.getD undef) →
        (∀ l ∈ pl.loose, Lst listed l → φ'.at_ (A l).next = φ.at_ (A l).next ∧ φ'.cap (A l).next = φ.cap (A l).next) →
        DInv1 pl ops H R A tsE φ0 h0 w0 k d0 (listed.setIfInBounds i true) (a.put o.dst (mapV φ' (r.v.getD undef))) w' := by
      intro hnl φ' m' h' w' hc' hsm hh' H' E' hv hsame
      have hlst : ∀ l ∈ pl.loose, Lst (listed.setIfInBounds i true) l → Lst listed l := by
        intro l hl hL
        rw [lst_set hltl] at hL
        exact hL.resolve_left fun e => hnl (e ▸ hl)
      refine ⟨by simp [hD.size], closed_set hD.closed ho hltl hd, ⟨φ', m', h', ?_, hdep, hsm, hh', H', hI.ext.trans E', ?_, ?_, ?_⟩, by rw [put_defers]; exact hD.defers⟩
      · intro j hj hjl
        rw [lst_set hltl]
        exact hc' j hj hjl
      · exact C.slots hD.closed (fun i ts h1 h2 t ht hc => hI.slots i ts h1 h2 t (hTmono t ht) hc) ho F hltl hu hd E'.agree E'.next (fun _ _ _ => hv) (fun _ _ _ => rfl)
      · intro l q r' hl hL hq hr'
        have hL := hlst l hl hL
        obtain ⟨p1, p2⟩ := hI.pend l q r' hl hL hq hr'
        obtain ⟨s1, s2⟩ := hsame l hl hL
        obtain ⟨_, _, d0', hd0', huniq⟩ := C.ok.lo l q hq hl
        refine ⟨fun d hdd φ2 h2 => prel_put (p1 d hdd φ2 fun v hv => ⟨(h2 v hv).1.trans s1, (h2 v hv).2.trans s2⟩) ?_, fun v hv => ?_⟩
        · rw [hd0'] at hdd
          cases hdd
          exact huniq i o ho (fun e => hnl (e ▸ hl))
        · obtain ⟨cs, g, e1, e2, e3, e4, e5⟩ := p2 v hv
          have hb := hfr E' l q r' v cs g e3 e5 rfl rfl rfl
          refine ⟨cs, g, e1, e2, ?_, by rw [s1]; exact e4, fun j oj hj => ?_⟩
          · rw [s1, s2]
            exact (e3.same hb).agree E'.agree E'.next
          · rw [s1]
            rcases E'.live j oj hj with h | ⟨j', o', h1, h2⟩
            · have := e3.lt; omega
            · rw [← h2]; exact e5 j' o' h1
      · intro l l' r1 r2 v v' hl hl' hne hL hL' h1 h2 h3 h4
        have hL := hlst l hl hL
        have hL' := hlst l' hl' hL'
        rw [(hsame l hl hL).1, (hsame l' hl' hL').1]
        exact hI.disj l l' r1 r2 v v' hl hl' hne hL hL' h1 h2 h3 h4
    unfold wpOpIn
    simp only [ho]
    rw [wanted_of hslot, F.guard]
    by_cases hl : i ∈ pl.loose
    · -- a loose one
      have hinl := inL_iff.2 hl
      obtain ⟨hflo, hnb, dd, hdd, huniq⟩ := C.ok.lo i o ho hl
      obtain ⟨q3, q4⟩ := F.run (.inr hinl)
      have hnch : ∀ j, chAt pl ops j = true → i ≠ j := by
        intro j hj e
        subst e
        rw [chAt_of ho] at hj
        exact isCh_notL hj hl
      have hle : gm.next ≤ (A i).next := by
        have h0' := hI.heap
        rcases Nat.eq_zero_or_pos m with e | e
        · subst e
          rw [C.first] at h0'
          cases h0'
          exact C.grows i (Nat.zero_le _) (Nat.le_of_lt hlt)
        · obtain ⟨j, h1, h2, h3⟩ := lexN_inv (pl := pl) ops k (m - 1) (by have := hI.small; omega)
          obtain ⟨h4, h5⟩ := before_of C.ok hk h1 h2
          have hoj := Array.getElem?_eq_getElem (show j < ops.size by omega)
          obtain ⟨rj, Fj⟩ := C.fact j _ hoj
          rw [vAt_of hoj] at h2
          have h6 := Fj.chain h2
          rw [h3, show m - 1 + 1 = m by omega] at h6
          rw [h6] at h0'
          cases h0'
          exact C.grows i (h5 i hl) (Nat.le_of_lt hlt)
      have numne : ∀ l r' v v', l ∈ pl.loose → l ≠ i → R[l]? = some r' → r'.v = some v' → r.v = some v → (A l).next ≠ (A i).next := by
        intro l r' v v' hl' hne hr' hv' hv
        have hls := (C.ok.lim l hl').1
        have hol := Array.getElem?_eq_getElem hls
        obtain ⟨r2, F2⟩ := C.fact l _ hol
        have : r2 = r' := by have := F2.res; rw [hr'] at this; cases this; rfl
        subst this
        obtain ⟨c1, g1, _, e1, _⟩ := float_spec (C.ok.lo l _ hol hl').1 ((F2.run (.inr (inL_iff.2 hl'))).1 v' hv')
        obtain ⟨c2, g2, _, e2, _⟩ := float_spec hflo (q3 v hv)
        have n1 : (A (l + 1)).next = (A l).next + 1 := by rw [e1]; rfl
        have n2 : (A (i + 1)).next = (A i).next + 1 := by rw [e2]; rfl
        rcases Nat.lt_or_gt_of_ne hne with h | h
        · have := C.grows (i := l + 1) i h (Nat.le_of_lt hlt); omega
        · have := C.grows (i := i + 1) l h (Nat.le_of_lt hls); omega
      have hTd : ∀ t, o.dst = some t → Tof pl ops (listed.setIfInBounds i true) t → False := fun t ht hTt => hTt i o hl (by rw [lst_set hltl]; exact .inl rfl) ho ht
      have hchain' : ∀ j, chAt pl ops j = true → (∀ l ∈ pl.loose, j < l) → (Lst (listed.setIfInBounds i true) j ↔ lexN pl ops j < m) := by
        intro j hj hjl
        rw [lst_set hltl, ← hI.chain j hj hjl]
        exact ⟨fun h => h.resolve_left (hnch j hj), .inr⟩
      cases hv : r.v with
      | none =>
        simp only [Option.isSome_none, Bool.false_eq_true, if_false]
        refine ⟨fun _ _ => trivial, ih (count_set_lt hltl hu hf) ?_⟩
        refine ⟨by simp [hD.size], closed_set hD.closed ho hltl hd, ⟨φ, m, gm, hchain', hdep, hI.small, hI.heap, hI.rel, hI.ext, ?_, ?_, ?_⟩, by rw [put_defers]; exact hD.defers⟩
        · exact C.slots hD.closed (fun i ts h1 h2 t ht hc => hI.slots i ts h1 h2 t (hTmono t ht) hc) ho F hltl hu hd (Agree.refl _ _) (Nat.le_refl _) (fun t ht hTt => (hTd t ht hTt).elim) (fun t ht hTt => (hTd t ht hTt).elim)
        · intro l q r' hl' hL hq hr'
          by_cases hli : l = i
          · subst hli
            rw [ho] at hq
            cases hq
            rw [F.res] at hr'
            cases hr'
            refine ⟨fun d hd' φ2 _ => ?_, fun v hv' => by rw [hv] at hv'; cases hv'⟩
            have hP0 := hI.slots l r.ts (Nat.le_of_lt hlt) hT d (tof_of C hD.closed ho hu hd hfree (.inr hd')) (C.touch hD.closed ho hu hd (.inr hd'))
            rw [hv]
            simp only [Option.getD_none]
            unfold putS
            rw [hd']
            simp only
            have hset := hP0.set (v := undef) okV_undef
            unfold PRel at hset ⊢
            rw [Slots.get?_set, if_pos rfl] at hset ⊢
            have e9 : (a.put (some d) undef).tmps = a.tmps.setIfInBounds d undef := rfl
            rw [e9]
            rw [mapV_undef] at hset
            refine ⟨?_, fun u hu' => ?_⟩
            · rw [hset.1]
              cases Slots.get? (cway d).way r.ts <;> simp
            · cases hg : Slots.get? (cway d).way r.ts with
              | none => rw [hg] at hu'; cases hu'
              | some x => rw [hg] at hu'; simp only [Option.map_some, Option.some.injEq] at hu'; subst hu'; exact okV_undef
          · have hL' : Lst listed l := by rw [lst_set hltl] at hL; exact hL.resolve_left fun e => hli e.symm
            obtain ⟨p1, p2⟩ := hI.pend l q r' hl' hL' hq hr'
            obtain ⟨_, _, d1, hd1, huniq1⟩ := C.ok.lo l q hq hl'
            refine ⟨fun d hd' φ2 h2 => prel_put (p1 d hd' φ2 h2) ?_, p2⟩
            rw [hd1] at hd'
            cases hd'
            exact huniq1 i o ho (fun e => hli e.symm)
        · intro l l' r1 r2 v v' hl1 hl2 hne hL hL' h1 h2 h3 h4
          have hx : ∀ l r1 v, Lst (listed.setIfInBounds i true) l → R[l]? = some r1 → r1.v = some v → Lst listed l := by
            intro l r1 v hL h1 h3
            rw [lst_set hltl] at hL
            refine hL.resolve_left fun e => ?_
            subst e
            rw [F.res] at h1
            cases h1
            rw [hv] at h3
            cases h3
          exact hI.disj l l' r1 r2 v v' hl1 hl2 hne (hx l r1 v hL h1 h3) (hx l' r2 v' hL' h2 h4) h1 h2 h3 h4
      | some v =>
        simp only [Option.isSome_some, if_true]
        obtain ⟨cs, g, f1, f2, f3, f4, f5⟩ := float_spec hflo (q3 v hv)
        have hops' : ∀ x ∈ o.op.operands.toList, fineOp x = true → OpRel φ (⟨.leaf, (A i).next, far, (A i).next⟩ : AHeap).next r.ts a.eval x := fun x hx hfx => ⟨(hops x hx hfx).1, (hops x hx hfx).2.mono hle⟩
        refine opc_sound' hP hcf (empty_at (φ := φ) (w := w) (Nat.le_of_lt f1)) hops' (f3 ⟨.leaf, (A i).next, far, (A i).next⟩ rfl) fun φ' w' k1 k2 k3 => ih (count_set_lt hltl hu hf) ?_
        generalize hK : (A i).next = K at *
        have hnoW : ∀ b, ¬ Wr φ ⟨.leaf, K, far, K⟩ b := by
          rintro b ⟨j, oj, h1, _⟩
          rw [AHeap.get_def] at h1
          split at h1 <;> cases h1
        have hget : ((⟨.leaf, K, far, K⟩ : AHeap).more (some (.row cs true g))).get K = some (.row cs true g) := by
          rw [AHeap.get_more (h := ⟨.leaf, K, far, K⟩) f1]; simp
        have hrow := RowAt.of (k1.live K _ hget)
        have hfresh : w.heap.size ≤ (φ'.at_ K).block := by
          have : Wr φ' ((⟨.leaf, K, far, K⟩ : AHeap).more (some (.row cs true g))) (φ'.at_ K).block := ⟨K, _, hget, Nat.le_refl _, rfl, rfl⟩
          exact (k2.wr _ this).resolve_right (hnoW _)
        have hframe : ∀ b, b < w.heap.size → w'.heap[b]? = w.heap[b]? := fun b hb => k2.frame b hb (hnoW b)
        let φ2 : Emb := φ.put K (φ'.at_ K) (φ'.cap K)
        have ha1 : Agree K φ φ2 := φ.put_agree K _ _
        have ha2 : Agree (K + 1) φ' φ2 := by
          intro j hj
          by_cases e : j = K
          · subst e; exact ⟨by simp [φ2], by simp [φ2]⟩
          · have h1 := k2.agree j (show j < K by omega)
            have h2 := ha1 j (by omega)
            exact ⟨h2.1.trans h1.1.symm, h2.2.trans h1.2.symm⟩
        have hag : Agree gm.next φ φ2 := fun j hj => ha1 j (by omega)
        have hnK : ∀ j, j ≠ K → φ2.at_ j = φ.at_ j ∧ φ2.cap j = φ.cap j := fun j hj => by simp [φ2, Emb.put, hj]
        have hmv : mapV φ' v = mapV φ2 v := ((mapV_agree ha2 (Nat.le_refl _) v k3).1).symm
        have hlive : ∀ j oj, gm.get j = some oj → (φ.at_ j).block < w.heap.size := fun j oj hj => (hI.rel.live j oj hj).lt
        have E2 : Ext φ gm w φ2 gm w' := ⟨hag, Nat.le_refl _, k2.size, fun b hb _ => hframe b hb, fun b ⟨j, oj, h1, h2, h3, h4⟩ => .inr ⟨j, oj, h1, h2, h3, by rw [← (hag j (AHeap.lt_of_get h1)).1]; exact h4⟩, rfl, k2.same, fun j oj hj => .inr ⟨j, oj, hj, by rw [(hag j (AHeap.lt_of_get hj)).1]⟩⟩
        have H2 : HRel φ2 gm w' := hI.rel.turnEmb hag fun j oj hj => hframe _ (hlive j oj hj)
        have hrow2 : RowAt φ2 gm.next w' (φ2.at_ K) (φ2.cap K) cs g := by
          have h1 := hrow.agree ha2 (Nat.le_refl _)
          have e1 : φ2.at_ K = φ'.at_ K := by simp [φ2]
          have e2 : φ2.cap K = φ'.cap K := by simp [φ2]
          rw [e1, e2]
          exact h1.bound (f5 φ2 gm.next fun x hx hfx => (mapV_agree hag (Nat.le_refl _) _ (hops x hx hfx).2).2)
        have hwsz := hI.ext.size
        refine ⟨by simp [hD.size], closed_set hD.closed ho hltl hd, ⟨φ2, m, gm, hchain', hdep, hI.small, hI.heap, H2, hI.ext.trans E2, ?_, ?_, ?_⟩, by rw [put_defers]; exact hD.defers⟩
        · exact C.slots hD.closed (fun i ts h1 h2 t ht hc => hI.slots i ts h1 h2 t (hTmono t ht) hc) ho F hltl hu hd hag (Nat.le_refl _) (fun t ht hTt => (hTd t ht hTt).elim) (fun t ht hTt => (hTd t ht hTt).elim)
        · intro l q r' hl' hL hq hr'
          by_cases hli : l = i
          · subst hli
            rw [ho] at hq
            cases hq
            rw [F.res] at hr'
            cases hr'
            refine ⟨fun d hd' φ3 h3 => ?_, fun v2 hv2 => ?_⟩
            · have hP0 := hI.slots l r.ts (Nat.le_of_lt hlt) hT d (tof_of C hD.closed ho hu hd hfree (.inr hd')) (C.touch hD.closed ho hu hd (.inr hd'))
              have hn' : (A (l + 1)).next = K + 1 := by rw [f2, ← hK]; rfl
              rw [hn', hv]
              simp only [Option.getD_some]
              unfold putS
              rw [hd']
              simp only
              have hP1 := (hP0.agree hag (show gm.next ≤ K + 1 by omega)).set (v := v) (φ := φ2) ((mapV_agree ha2 (Nat.le_refl _) v k3).2)
              obtain ⟨z1, z2⟩ := h3 v hv
              rw [hK] at z1 z2
              have e9 : (a.put (some d) (mapV φ' v)).tmps = a.tmps.setIfInBounds d (mapV φ2 v) := by rw [hmv]; rfl
              rw [e9]
              exact PRel.atN f4 z1 z2 hP1
            · rw [hv] at hv2
              cases hv2
              refine ⟨cs, g, by rw [f2], by rw [hK]; exact f1, by rw [hK]; exact hrow2, ?_, ?_⟩
              · rw [hK]
                have e1 : φ2.at_ K = φ'.at_ K := by simp [φ2]
                rw [e1]; omega
              · intro j oj hj
                rw [hK]
                have e1 : φ2.at_ K = φ'.at_ K := by simp [φ2]
                rw [e1, (hag j (AHeap.lt_of_get hj)).1]
                have := hlive j oj hj
                omega
          · have hL' : Lst listed l := by rw [lst_set hltl] at hL; exact hL.resolve_left fun e => hli e.symm
            obtain ⟨p1, p2⟩ := hI.pend l q r' hl' hL' hq hr'
            obtain ⟨_, _, d1, hd1, huniq1⟩ := C.ok.lo l q hq hl'
            have hkl : ∀ v', r'.v = some v' → φ2.at_ (A l).next = φ.at_ (A l).next ∧ φ2.cap (A l).next = φ.cap (A l).next := fun v' hv' => hnK _ (numne l r' v v' hl' hli hr' hv' hv)
            refine ⟨fun d hd' φ3 h3 => prel_put (p1 d hd' φ3 fun v' hv' => ⟨(h3 v' hv').1.trans (hkl v' hv').1, (h3 v' hv').2.trans (hkl v' hv').2⟩) ?_, fun v' hv' => ?_⟩
            · rw [hd1] at hd'
              cases hd'
              exact huniq1 i o ho (fun e => hli e.symm)
            · obtain ⟨cs', g', e1, e2, e3, e4, e5⟩ := p2 v' hv'
              obtain ⟨s1, s2⟩ := hkl v' hv'
              refine ⟨cs', g', e1, e2, ?_, by rw [s1]; exact e4, fun j oj hj => ?_⟩
              · rw [s1, s2]
                exact (e3.same (hframe _ e3.lt)).agree hag (Nat.le_refl _)
              · rw [s1, (hag j (AHeap.lt_of_get hj)).1]
                exact e5 j oj hj
        · have hnew : ∀ l r1 v1, l ∈ pl.loose → l ≠ i → Lst (listed.setIfInBounds i true) l → R[l]? = some r1 → r1.v = some v1 → φ2.at_ (A l).next = φ.at_ (A l).next ∧ (φ.at_ (A l).next).block < w.heap.size ∧ Lst listed l := by
            intro l r1 v1 hl1 hne hL h1 h3
            have hL' : Lst listed l := by rw [lst_set hltl] at hL; exact hL.resolve_left fun e => hne e.symm
            have hol := Array.getElem?_eq_getElem (C.ok.lim l hl1).1
            obtain ⟨_, p2⟩ := hI.pend l _ r1 hl1 hL' hol h1
            obtain ⟨cs', g', _, _, e3, _, _⟩ := p2 v1 h3
            exact ⟨(hnK _ (numne l r1 v v1 hl1 hne h1 h3 hv)).1, e3.lt, hL'⟩
          have e1 : φ2.at_ (A i).next = φ'.at_ K := by rw [hK]; simp [φ2]
          intro l l' r1 r2 v1 v2 hl1 hl2 hne hL hL' h1 h2 h3 h4
          by_cases hli : l = i
          · subst hli
            obtain ⟨n1, n2, _⟩ := hnew l' r2 v2 hl2 (Ne.symm hne) hL' h2 h4
            rw [e1, n1]; omega
          · by_cases hli' : l' = i
            · subst hli'
              obtain ⟨n1, n2, _⟩ := hnew l r1 v1 hl1 hli hL h1 h3
              rw [e1, n1]; omega
            · obtain ⟨n1, _, n3⟩ := hnew l r1 v1 hl1 hli hL h1 h3
              obtain ⟨m1, _, m3⟩ := hnew l' r2 v2 hl2 hli' hL' h2 h4
              rw [n1, m1]
              exact hI.disj l l' r1 r2 v1 v2 hl1 hl2 hne n3 m3 h1 h2 h3 h4
    · have hinl : inL pl.loose i = false := by
        cases hq : inL pl.loose i with
        | false => rfl
        | true => exact absurd (inL_iff.1 hq) hl
      have hik : i ≠ k := fun e => hl (e ▸ hkm)
      cases hc : isV pl i o with
      | true =>
        have hcc : isCh pl i o = true := (isV_iff.1 hc).resolve_right fun e => hl (last_mem e)
        have hci : vAt pl ops i = true := by rw [vAt_of ho]; exact hc
        have hcA : chAt pl ops i = true := by rw [chAt_of ho]; exact hcc
        have hbef : ∀ l ∈ pl.loose, i < l := by
          rcases C.ok.ch i o ho hcc with h | h
          · exact h
          · exact absurd (h k hkm).2 (hfree k hkm)
        have hikl := hbef k hkm
        have hmi : m = lexN pl ops i := by
          have h2 : m ≤ lexN pl ops i := by
            rcases Nat.lt_or_ge (lexN pl ops i) m with h | h
            · exact absurd ((hI.chain i hcA hbef).2 h) hu
            · exact h
          rcases Nat.lt_or_ge m (lexN pl ops i) with h | h
          · obtain ⟨j, k1, k2, k3⟩ := lexN_inv ops _ _ h
            obtain ⟨h4, h5⟩ := before_of C.ok hk (show j < k by omega) k2
            have hoj := Array.getElem?_eq_getElem (show j < ops.size by omega)
            have h4' := h4
            rw [chAt_of hoj] at h4'
            have hLj : Lst listed j := mask_lst hD.closed (C.ok.cc i o j _ ho k1 hoj h4' hcc) hdi
            have := (hI.chain j h4 h5).1 hLj
            omega
          · omega
        subst hmi
        obtain ⟨q3, q4⟩ := F.run (.inl hc)
        have e1 : A i = gm := by
          have h1 := C.stage i (by omega) (.inl fun l hl => Nat.le_of_lt (hbef l hl))
          have := hI.heap
          rw [h1] at this
          cases this
          rfl
        rw [e1] at q3 q4
        have q2 := F.chain hc
        have hc' : ∀ j, chAt pl ops j = true → (∀ l ∈ pl.loose, j < l) → ((i = j ∨ Lst listed j) ↔ lexN pl ops j < lexN pl ops i + 1) := by
          intro j hj hjl
          rw [hI.chain j hj hjl]
          constructor
          · rintro (rfl | h) <;> omega
          · intro h
            rcases Nat.lt_trichotomy j i with h3 | h3 | h3
            · exact .inr (lexN_lt ops (vAt_ch hj) h3)
            · exact .inl h3.symm
            · have := lexN_lt ops hci h3
              omega
        have hsm : lexN pl ops i + 1 ≤ lexN pl ops k := lexN_lt ops hci hikl
        cases hv : r.v with
        | none =>
          simp only [Option.isSome_none, Bool.false_eq_true, if_false]
          refine ⟨fun _ _ => trivial, ih (count_set_lt hltl hu hf) ?_⟩
          have e2 := q4 hv
          have := step hl hc' hsm (by rw [q2, e2]) hI.rel (Ext.refl _ _ _) (by rw [hv]; exact okV_undef) (fun _ _ _ => ⟨rfl, rfl⟩)
          rw [hv] at this
          simp only [Option.getD_none, mapV_undef] at this
          exact this
        | some v =>
          simp only [Option.isSome_some, if_true]
          refine opc_sound' hP hcf hI.rel hops (q3 v hv) fun φ' w' k1 k2 k3 => ih (count_set_lt hltl hu hf) ?_
          let φ2 : Emb := ⟨fun j => if j < (A (i + 1)).next then φ'.at_ j else φ.at_ j, fun j => if j < (A (i + 1)).next then φ'.cap j else φ.cap j⟩
          have ha : Agree (A (i + 1)).next φ' φ2 := fun j hj => by simp [φ2, hj]
          have hmv : mapV φ2 v = mapV φ' v ∧ okV φ2 (A (i + 1)).next v := mapV_agree ha (Nat.le_refl _) v k3
          have := step hl hc' hsm q2 (k1.turnEmb ha fun _ _ _ => rfl) (k2.emb ha) (by rw [hv]; exact hmv.2) (fun l hl' _ => by
            have h1 := C.grows (i := i + 1) l (hbef l hl') (Nat.le_of_lt (C.ok.lim l hl').1)
            have h2 : ¬ (A l).next < (A (i + 1)).next := by omega
            simp [φ2, h2])
          rw [hv] at this
          simp only [Option.getD_some, hmv.1] at this
          exact this
      | false =>
        have hnc : isCh pl i o = false := by
          cases hq : isCh pl i o with
          | false => rfl
          | true => rw [isV_iff.2 (.inl hq)] at hc; cases hc
        have hc' : ∀ j, chAt pl ops j = true → (∀ l ∈ pl.loose, j < l) → ((i = j ∨ Lst listed j) ↔ lexN pl ops j < m) := by
          intro j hj hjl
          rw [← hI.chain j hj hjl]
          constructor
          · rintro (rfl | h)
            · rw [chAt_of ho, hnc] at hj; cases hj
            · exact h
          · exact .inr
        cases hv : r.v with
        | none =>
          simp only [Option.isSome_none, Bool.false_eq_true, if_false]
          refine ⟨fun _ _ => trivial, ih (count_set_lt hltl hu hf) ?_⟩
          have := step hl hc' hI.small hI.heap hI.rel (Ext.refl _ _ _) (by rw [hv]; exact okV_undef) (fun _ _ _ => ⟨rfl, rfl⟩)
          rw [hv] at this
          simp only [Option.getD_none, mapV_undef] at this
          exact this
        | some v =>
          simp only [Option.isSome_some, if_true]
          have hread : readAt (copc P o) cf gm r.ts = some v := by
            by_cases hml : m = lexN pl ops i
            · subst hml
              obtain ⟨⟨h1', q1, q2⟩, _⟩ := F.read hc hinl
              have e1 : h1' = gm := by have := hI.heap; rw [q1] at this; cases this; rfl
              subst e1
              exact q2 v hv
            · by_cases hhf : heapFree o = true
              · obtain ⟨⟨h1', _, q2⟩, _⟩ := F.read hc hinl
                exact read_free hhf (q2 v hv)
              have hmle : m ≤ lexN pl ops ops.size := by
                have := (List.getElem?_eq_some_iff.1 hI.heap).1
                rw [C.hlen] at this
                omega
              obtain ⟨h', q1, q2⟩ := C.chk i o r ho F.res hc hl (by simpa using hhf) v hv m hmle (by
                unfold mayAt
                rw [Bool.and_eq_true, List.all_eq_true, List.all_eq_true]
                refine ⟨fun c hcm => ?_, fun c hcm => ?_⟩
                · obtain ⟨k1, k2, k3⟩ := chain_take ops hcm
                  cases hb : hasBit ((masksOf ops.toList []).getD c 0) i with
                  | false => rfl
                  | true =>
                    have hck : c < k := by
                      rcases Nat.lt_or_ge c k with h | h
                      · exact h
                      · have := lexN_mono (pl := pl) ops h
                        have := hI.small
                        omega
                    obtain ⟨h4, h5⟩ := before_of C.ok hk hck k2
                    have hlc := (hI.chain c h4 h5).2 k3
                    exact absurd (mask_lst hD.closed hb (hD.closed c hlc)) hu
                · obtain ⟨k1, k2, k3⟩ := chain_drop ops hcm
                  cases hb : hasBit ((masksOf ops.toList []).getD i 0) c with
                  | false => rfl
                  | true =>
                    have hLc := mask_lst hD.closed hb hdi
                    rcases Nat.lt_trichotomy c k with h | h | h
                    · obtain ⟨h4, h5⟩ := before_of C.ok hk h k2
                      have := (hI.chain c h4 h5).1 hLc
                      omega
                    · subst h; exact absurd hb (hfree c hkm)
                    · have hoc := Array.getElem?_eq_getElem k1
                      rw [vAt_of hoc] at k2
                      have hch : isCh pl c ops[c] = true := (isV_iff.1 k2).resolve_right (by rw [hk]; intro e; cases e; omega)
                      rcases C.ok.ch c _ hoc hch with h2 | h2
                      · have := h2 k hkm; omega
                      · exact absurd hLc (hI.dep c k k1 hkm (h2 k hkm).2)) hml
              have e1 : h' = gm := by have := hI.heap; rw [q1] at this; cases this; rfl
              subst e1
              exact q2
          refine read_sound hP hcf hI.rel hops hread fun w' k1 k2 k3 => ih (count_set_lt hltl hu hf) ?_
          have := step hl hc' hI.small hI.heap k1 k2 (by rw [hv]; exact k3) (fun _ _ _ => ⟨rfl, rfl⟩)
          rw [hv] at this
          exact this
theorem plan_of {ops : Array Oper} (hok : (cinfo ops).ok = true) : (cinfo ops).masks = masksOf ops.toList [] ∧ (cinfo ops).chain = (List.range ops.size).filter (vAt (cinfo ops).plan ops) ∧ drawOk (cinfo ops).plan ops (masksOf ops.toList []) = true := by
  have hor : ∀ a b : DrawInfo, orElse a b = a ∨ orElse a b = b := by
    intro a b
    unfold orElse
    split
    · exact .inl rfl
    · exact .inr rfl
  have hI : ∀ pl, ∀ d : DrawInfo, d = infoOf pl ops (masksOf ops.toList []) → d.ok = true → d.masks = masksOf ops.toList [] ∧ d.chain = (List.range ops.size).filter (vAt d.plan ops) ∧ drawOk d.plan ops (masksOf ops.toList []) = true := by
    rintro pl d rfl h
    exact ⟨rfl, rfl, h⟩
  have : ∃ pl, cinfo ops = infoOf pl ops (masksOf ops.toList []) := by
    unfold cinfo
    simp only
    rcases hor (infoOf ⟨false, []⟩ ops (masksOf ops.toList [])) (orElse (infoOf ⟨false, looseOf false ops (masksOf ops.toList [])⟩ ops (masksOf ops.toList [])) (orElse (infoOf ⟨true, []⟩ ops (masksOf ops.toList [])) (infoOf ⟨true, looseOf true ops (masksOf ops.toList [])⟩ ops (masksOf ops.toList [])))) with e | e
    · exact ⟨_, e⟩
    · rw [e]
      rcases hor (infoOf ⟨false, looseOf false ops (masksOf ops.toList [])⟩ ops (masksOf ops.toList [])) (orElse (infoOf ⟨true, []⟩ ops (masksOf ops.toList [])) (infoOf ⟨true, looseOf true ops (masksOf ops.toList [])⟩ ops (masksOf ops.toList []))) with e | e
      · exact ⟨_, e⟩
      · rw [e]
        rcases hor (infoOf ⟨true, []⟩ ops (masksOf ops.toList [])) (infoOf ⟨true, looseOf true ops (masksOf ops.toList [])⟩ ops (masksOf ops.toList [])) with e | e
        · exact ⟨_, e⟩
        · exact ⟨_, e⟩
  obtain ⟨pl, e⟩ := this
  exact hI pl _ e hok
theorem draw_sound (hP : NamesFine P) {cf : CallF} (hcf : SoundCF P cf) : DrawSound P cf := by
  intro ops s s' φ0 a0 w0 ro Q hr hs hQ
  unfold cdraw at hr
  cases hok : (cinfo ops).ok with
  | false => simp [hok] at hr
  | true =>
    obtain ⟨hmk, hci, hdok⟩ := plan_of hok
    simp only [hok, cond_true] at hr
    unfold drawEnd at hr
    split at hr
    · rename_i tsE hE hsF rsF hp
      obtain ⟨hck, hr⟩ := cond_some hr
      cases hr
      obtain ⟨_, ⟨l2, e2⟩, q3, q4, q6, A, qa, qb, q7⟩ := pass_spec (P := P) ops.toList 0 s.tmps s.heap s.heap [] [] (by intro j; simp) rfl rfl hp
      have hlen : 0 + ops.toList.length = ops.size := by simp
      rw [hlen] at q3 q4 qb
      have hchk := check_spec (P := P) (cf := cf) (ops := ops) (info := cinfo ops) (H := hsF.reverse) ops.toList 0 rsF.reverse (by intro j; simp) hck
      have hH0 : hsF.reverse[0]? = some s.heap := by rw [e2]; rfl
      have C : Ctx P cf (cinfo ops).plan ops hsF.reverse rsF.reverse A tsE := {
        ok := look_of rfl hdok
        fact := fun i o ho => q7 i o (Nat.zero_le _) ho
        chk := fun i o r ho hri hc hl hhf v hv m hm hmay hne => by
          obtain ⟨r', h1, h2⟩ := hchk i o (by simpa using ho) (by rw [Nat.zero_add]; exact hc) (by
            rw [Nat.zero_add, hhf, Bool.or_false]
            cases hq : inL (cinfo ops).plan.loose i with
            | false => rfl
            | true => exact absurd (inL_iff.1 hq) hl)
          rw [hri] at h1
          cases h1
          exact h2 v hv m (by rw [hci]; exact hm) (by rw [Nat.zero_add, hmk, hci]; exact hmay) (by rw [Nat.zero_add]; exact hne)
        hlen := by rw [List.length_reverse]; exact q4
        rlen := by rw [List.length_reverse]; exact q3
        first := by rw [hH0, qa] }
      have hend : tsAt rsF.reverse tsE ops.size = some tsE := by
        unfold tsAt
        rw [List.getElem?_append_right (by simp [q3])]
        simp [q3]
      subst qb
      have hno : ∀ k, ¬ Lst (Array.replicate ops.size false) k := by
        intro k hk
        unfold Lst at hk
        simp only [Array.getD_eq_getD_getElem?, Array.getElem?_replicate] at hk
        split at hk <;> simp at hk
      have hQ' : ∀ φ' a' w', SRel φ' (A ops.size).next tsE a'.tmps → a'.defers = a0.defers → HRel φ' (A ops.size) w' → Ext φ0 s.heap w0 φ' (A ops.size) w' → Q .normal a' w' := by
        intro φ' a' w' k1 k2 k3 k4
        refine hQ φ' a' w' ⟨k1, k3, ?_, ?_⟩ k4
        · rw [k2, hs.marks, marks_agree k4.agree hs.below]
        · exact fun d hd => Nat.lt_of_lt_of_le (hs.below d hd) k4.next
      have hslots : ∀ T, Slotted ops rsF.reverse tsE (Array.replicate ops.size false) a0 φ0 s.heap.next T := by
        intro T i ts hi hts t _ hcond
        have hsame : Slots.get? (cway t).way ts = Slots.get? (cway t).way s.tmps := C.const i 0 q6 (by rw [Nat.zero_add]; exact hts) (by omega) (fun j q _ h2 h3 h4 => hno j ((hcond j q h3 h4).2 (by omega)))
        unfold PRel
        rw [hsame]
        exact hs.tmps t
      cases hlo : (cinfo ops).plan.loose.getLast? with
      | none =>
        have hnil : (cinfo ops).plan.loose = [] := List.getLast?_eq_none_iff.1 hlo
        refine draw2 (φ0 := φ0) (h0 := s.heap) (w0 := w0) (d0 := a0.defers) hP hcf C hend hQ' ops.size (by simp) ?_
        exact ⟨by simp, fun i hi => absurd hi (hno i), (by rw [hnil]; simp), ⟨φ0, 0, s.heap, fun k _ => ⟨fun h => absurd h (hno k), fun h => by omega⟩, hH0, hs.heap, Ext.refl _ _ _, hslots _⟩, rfl⟩
      | some k =>
        refine draw1 (φ0 := φ0) (h0 := s.heap) (w0 := w0) (d0 := a0.defers) hP hcf C hlo hend hQ' ops.size (by simp) ?_
        exact ⟨by simp, fun i hi => absurd hi (hno i), ⟨φ0, 0, s.heap, fun k _ _ => ⟨fun h => absurd h (hno k), fun h => by omega⟩, fun i _ _ _ _ h => hno i h, Nat.zero_le _, hH0, hs.heap, Ext.refl _ _ _, hslots _, fun l _ _ _ h => absurd h (hno l), fun l _ _ _ _ _ _ _ _ h => absurd h (hno l)⟩, rfl⟩
    · simp at hr
end Go.Vm

namespace Go.Vm
variable {P : Program}
structure Entry where
  next : Nat
  f : Nat
  args : List Value
  objs : List (Nat × AObj)
  val : Value
  next' : Nat
  objs' : List (Nat × AObj)
noncomputable section
def eqB (a b : Bool) : Bool := match a, b with
  | true, true => true
  | false, false => true
  | _, _ => false
def eqObj (a b : AObj) : Bool := match a, b with
  | .row c x g, .row c' x' g' => eqCells c c' && eqB x x' && Nat.beq g g'
  | _, _ => false
def eqVs (l : List Value) : List Value → Bool :=
  List.rec (motive := fun _ => List Value → Bool) (fun r => List.casesOn (motive := fun _ => Bool) r true (fun _ _ => false))
    (fun v _ ih r => List.casesOn (motive := fun _ => Bool) r false (fun u r => bif eqV v u then ih r else false)) l
def eqT (a b : Value) : Bool := match a, b with
  | .tuple ⟨l⟩, .tuple ⟨r⟩ => eqVs l r
  | a, b => eqV a b
def hasObj (h : AHeap) (p : Nat × AObj) : Bool := match h.get p.1 with
  | some o => eqObj o p.2
  | none => false
def lay (l : List (Nat × AObj)) : Trie → Trie :=
  List.rec (motive := fun _ => Trie → Trie) (fun t => t) (fun p _ ih t => Trie.setK 40 t p.1 (some p.2) ih) l
def Entry.heap (E : Entry) : AHeap := ⟨lay E.objs .leaf, E.next, far, E.next⟩
def newObj (E : Entry) (h : AHeap) (p : Nat × AObj) : Bool := Nat.ble E.next p.1 && Nat.blt p.1 E.next' && hasObj h p && (match p.2 with | .row _ x _ => x | _ => false)
def entryEnd (E : Entry) (r : Option (Value × AHeap)) : Bool := match r with
  | some (v, h) => eqT v E.val && Nat.beq h.next E.next' && Nat.ble E.next' far && Nat.ble E.next E.next' && allB (newObj E h) E.objs' && allB (fun p => Nat.blt p.1 E.next) E.objs
  | none => false
def entryOk (cf : CallF) (E : Entry) : Bool := entryEnd E (cf (.func (.func E.f) #[] #[]) E.args E.heap)
end
theorem eqB_eq {a b : Bool} (h : eqB a b = true) : a = b := by cases a <;> cases b <;> first | rfl | cases h
theorem eqObj_eq {a b : AObj} (h : eqObj a b = true) : a = b := by
  unfold eqObj at h
  split at h
  · simp only [Bool.and_eq_true] at h
    rw [eqCells_eq h.1.1, eqB_eq h.1.2, beq_iff.1 h.2]
  · cases h
theorem eqVs_eq : ∀ {l r : List Value}, eqVs l r = true → l = r := by
  intro l
  induction l with
  | nil => intro r h; cases r with | nil => rfl | cons _ _ => simp [eqVs] at h
  | cons x l ih =>
    intro r h
    cases r with
    | nil => simp [eqVs] at h
    | cons y r =>
      have h' : (bif eqV x y then eqVs l r else false) = true := h
      cases hx : eqV x y with
      | false => simp [hx] at h'
      | true => simp only [hx, cond_true] at h'; rw [eqV_eq hx, ih h']
theorem eqT_eq {a b : Value} (h : eqT a b = true) : a = b := by
  unfold eqT at h
  split at h
  · rw [eqVs_eq h]
  · exact eqV_eq h
theorem hasObj_eq {h : AHeap} {p : Nat × AObj} (hp : hasObj h p = true) : h.get p.1 = some p.2 := by
  unfold hasObj at hp
  split at hp
  · rename_i o ho; rw [ho, eqObj_eq hp]
  · cases hp
theorem lay_cons (p : Nat × AObj) (l : List (Nat × AObj)) (t : Trie) : lay (p :: l) t = lay l (t.set 40 p.1 (some p.2)) := by
  show Trie.setK 40 t p.1 (some p.2) (lay l) = _
  rw [Trie.setK_eq]
theorem lay_get : ∀ (l : List (Nat × AObj)) (t : Trie), (∀ p ∈ l, p.1 < far) → ∀ i o, (lay l t).get i = some o → (i, o) ∈ l ∨ t.get i = some o := by
  intro l
  induction l with
  | nil => intro t _ i o h; exact .inr h
  | cons p l ih =>
    intro t hb i o h
    rw [lay_cons] at h
    rcases ih _ (fun q hq => hb q (by simp [hq])) i o h with h | h
    · exact .inl (by simp [h])
    · have := hb p (by simp)
      rw [Trie.get_set _ _ _ _ _ (by unfold far at this; omega)] at h
      by_cases e : p.1 = i
      · rw [if_pos e] at h
        cases h
        subst e
        exact .inl (by simp)
      · rw [if_neg e] at h
        exact .inr h
theorem lay_none : ∀ (l : List (Nat × AObj)) (t : Trie), (∀ p ∈ l, p.1 < far) → ∀ i, (∀ p ∈ l, p.1 ≠ i) → (lay l t).get i = t.get i := by
  intro l
  induction l with
  | nil => intro t _ i _; rfl
  | cons p l ih =>
    intro t hb i h
    have := hb p (by simp)
    rw [lay_cons, ih _ (fun q hq => hb q (by simp [hq])) i (fun q hq => h q (by simp [hq])), Trie.get_set _ _ _ _ _ (by unfold far at this; omega), if_neg (h p (by simp))]
theorem empty_rel (φ : Emb) (w : World) : HRel φ AHeap.empty w := by
  have hg : ∀ i, AHeap.empty.get i = none := fun i => by rw [AHeap.get_def, if_neg]; simp [AHeap.empty]
  exact ⟨fun i o h => absurd (h.symm.trans (hg i)) (by simp), fun i j o o' h => absurd (h.symm.trans (hg i)) (by simp), Nat.zero_le _, fun i _ => rfl⟩
end Go.Vm

namespace Go.Vm
variable {P : Program}
noncomputable section
end
def AHeap.shutAll (h : AHeap) : AHeap := ⟨h.t, h.next, h.low, h.next⟩
end Go.Vm

namespace Go.Vm
variable {P : Program}
noncomputable section
def drop (h : AHeap) : Option (Value × AHeap) → Option (Value × AHeap)
  | some (v, _) => if plainV v then some (v, h) else none
  | none => none
def pcall (P : Program) (A : Nat → Bool) (K : Nat → Option Value) : Nat → CallF
  | 0, _, _, _ => none
  | n + 1, fv, args, h =>
    match fv with
    | .func (.func f) ⟨xs⟩ ⟨ys⟩ =>
      match K f with
      | some v => if xs ++ (args ++ ys) = [] then some (v, h) else none
      | none => if A f then drop h ((cfunc P f).run (pcall P A K n) n (xs ++ (args ++ ys)) h.shutAll) else (cfunc P f).run (pcall P A K n) n (xs ++ (args ++ ys)) h
    | .func (.yield l) ⟨[]⟩ ⟨[]⟩ => roundA P (pcall P A K n) n l args h
    | _ => none
end
def KOk (P : Program) (K : Nat → Option Value) : Prop :=
  ∀ f v, K f = some v → plainV v = true ∧ ∃ cf h', SoundCF P cf ∧ cf (.func (.func f) #[] #[]) [] AHeap.empty = some (v, h')
theorem okV_funcArgs {φ : Emb} {n : Nat} {f : Nat} {xs ys : List Value} (h : okV φ n (.func (.func f) ⟨xs⟩ ⟨ys⟩)) : (∀ x ∈ xs, okV φ n x) ∧ ∀ x ∈ ys, okV φ n x := by
  simp only [okV] at h
  exact ⟨fun x hx => okA_iff.1 h.2.1 x hx, fun x hx => okA_iff.1 h.2.2 x hx⟩
theorem pcall_sound (hP : NamesFine P) (hm : P.follows .mixedOrders = true) {A : Nat → Bool} {K : Nat → Option Value} (hK : KOk P K) : ∀ n, SoundCF P (pcall P A K n) := by
  intro n
  induction n with
  | zero => intro fv args h r h' hr; simp [pcall] at hr
  | succ n ih =>
    intro fv args h r h' hr φ w H hfv hargs
    unfold pcall at hr
    split at hr
    · rename_i f xs ys
      obtain ⟨hxs, hys⟩ := okV_funcArgs hfv
      have hall : ∀ x ∈ xs ++ (args ++ ys), okV φ h.next x := by
        intro x hx
        simp only [List.mem_append] at hx
        rcases hx with hx | hx | hx
        · exact hxs x hx
        · exact hargs x hx
        · exact hys x hx
      split at hr
      · rename_i v hKv
        split at hr
        · rename_i hnil
          cases hr
          obtain ⟨hv, cf, h1, hs, hrun⟩ := hK _ _ hKv
          have hc := hs _ _ _ _ _ hrun φ w (empty_rel φ w) (by simp [okV, okFn, okA, okL]) (by simp)
          obtain ⟨q1, q2⟩ := hc
          refine ⟨q1, ?_⟩
          rw [hnil]
          refine CallsIn.mono q2 fun e w' he => ?_
          obtain ⟨φ', rfl, _, X, _⟩ := he
          have hno : ∀ b, ¬ Wr φ AHeap.empty b := by
            rintro b ⟨i, o, hi, _⟩
            have := AHeap.lt_of_get hi
            simp [AHeap.empty] at this
          have hfr : ∀ b, b < w.heap.size → w'.heap[b]? = w.heap[b]? := fun b hb => X.frame b hb (hno b)
          exact ⟨φ, by rw [plainV_map hv, plainV_map hv], ⟨fun i o hi => (H.live i o hi).same (hfr _ (H.live i o hi).lt), H.apart, H.bound, H.fresh⟩, ⟨Agree.refl _ _, Nat.le_refl _, X.size, fun b hb _ => hfr b hb, fun b hb => .inr hb, rfl, X.same, fun j o hj => .inr ⟨j, o, hj, rfl⟩⟩, plainV_ok hv⟩
        · simp at hr
      · split at hr
        · unfold drop at hr
          split at hr
          · rename_i v h1 hrun
            split at hr
            · rename_i hv
              cases hr
              have H' : HRel φ h.shutAll w := ⟨H.live, H.apart, H.bound, H.fresh⟩
              exact CallOk.plain (g := h.shutAll) rfl hv H (fun _ => rfl) (Nat.le_refl _) (func_sound hP hm ih (draw_sound hP ih) hrun H' hall)
            · simp at hr
          · simp at hr
        · exact func_sound hP hm ih (draw_sound hP ih) hr H hall
    · exact round_sound hP hm ih (draw_sound hP ih) hr H hargs
    · simp at hr
end Go.Vm

namespace Go.Vm
variable {P : Program}
abbrev Fr := Nat → Value
def upd (f : Fr) (d : Nat) (v : Value) : Fr := fun t => if t = d then v else f t
def putF (f : Fr) (d : Option Nat) (v : Value) : Fr := match d with | some d => upd f d v | none => f
def val (f : Fr) : Operand → Value
  | .tmp t => f t
  | .const v => v
  | .func g => .func (.func g) #[] #[]
  | .global g => .pointer (some ⟨g, 0, none⟩)
def vals (f : Fr) (l : List Operand) : List Value := l.map (val f)
def View (N : Nat) (ts : Slots) (f : Fr) : Prop := ∀ t, Slots.get? (cway t).way ts = if t < N then some (f t) else none
def opIn (N : Nat) : Operand → Bool
  | .tmp t => Nat.blt t N
  | _ => true
def valN (N : Nat) (f : Fr) : Operand → Value
  | .tmp t => if t < N then f t else undef
  | x => val f x
theorem View.set {N : Nat} {ts : Slots} {f : Fr} (h : View N ts f) (d : Nat) (v : Value) : View N (Slots.set (cway d).way ts v) (upd f d v) := by
  intro t
  rw [Slots.get?_set]
  by_cases e : t = d
  · subst e
    rw [if_pos rfl, h t]
    by_cases ht : t < N <;> simp [ht, upd]
  · rw [if_neg (fun e' => e (cway_inj e')), h t]
    simp [upd, e]
theorem View.putF {N : Nat} {ts : Slots} {f : Fr} (h : View N ts f) (d : Option Nat) (v : Value) : View N (putS ts d v) (Vm.putF f d v) := by
  cases d with
  | none => exact h
  | some d => exact h.set d v
theorem View.valN {N : Nat} {ts : Slots} {f : Fr} (h : View N ts f) : (fun x => (cval x).get ts) = Vm.valN N f := by
  funext x
  cases x with
  | tmp t =>
    show Slots.get (cway t).way ts = _
    rw [Slots.get_eq, h t]
    by_cases ht : t < N <;> simp [Vm.valN, ht]
  | const v => show (seqV v fun v => (⟨fun _ => v⟩ : FVal)).get ts = _; rw [seqV_eq]; rfl
  | func g => rfl
  | global g => rfl
theorem View.val {N : Nat} {ts : Slots} {f : Fr} (h : View N ts f) {x : Operand} (hx : opIn N x = true) : (cval x).get ts = Vm.val f x := by
  have : (cval x).get ts = Vm.valN N f x := congrFun h.valN x
  rw [this]
  cases x with
  | tmp t => have : t < N := blt_iff.1 hx; simp [Vm.valN, this, Vm.val]
  | _ => rfl
theorem View.vals {N : Nat} {ts : Slots} {f : Fr} (h : View N ts f) : ∀ {l : List Operand}, allB (opIn N) l = true → (cvals l).get ts = Vm.vals f l := by
  intro l
  induction l with
  | nil => intro _; rfl
  | cons x l ih =>
    intro hl
    rw [allB_iff] at hl
    show (cval x).get ts :: (cvals l).get ts = _
    rw [h.val (hl x (by simp)), ih (allB_iff.2 fun y hy => hl y (by simp [hy]))]
    rfl
inductive SOp where
  | mov (x : Operand)
  | pick (c a b : Operand)
  | alloc (z : List Value)
  | box (x : Operand)
  | build (pl : Array (Nat × Nat)) (zc : List Value) (is : List Nat) (vs : List Operand)
  | buildArr (s : Nat) (zc : List Value) (is : List Nat) (vs : List Operand)
  | field1 (off : Nat) (x : Operand)
  | fieldN (off n : Nat) (x : Operand)
  | extract (i : Nat) (x : Operand)
  | bslice (s len : Nat) (z : List Value) (is : List Nat) (vs : List Operand)
  | load1 (a : Operand)
  | loadN (n : Nat) (a : Operand)
  | store (n : Nat) (a x : Operand)
  | mkfunc (f : Nat) (a b : List Operand)
  | mkslice (s bytes : Nat) (z : List Value) (l c : Operand)
  | mkmap
  | slice (s : Nat) (x : Operand) (lo hi mx : Option Operand)
  | sliceArr (m s : Nat) (x : Operand) (lo hi : Option Operand)
  | fieldAddr (off : Nat) (x : Operand)
  | idxArr (len s : Nat) (x i : Operand)
  | idxSl (s : Nat) (x i : Operand)
  | append (s bytes : Nat) (x y : Operand)
  | copy (s : Nat) (x y : Operand)
  | there (x : Operand)
  | len (x : Operand)
  | lookup (kt : TypeId) (z : Value) (ok : Bool) (m k : Operand)
  | mapEntry (kt : TypeId) (z : Value) (m k : Operand)
  | entryStore (m s x : Operand)
  | mapUpdate (kt : TypeId) (m k x : Operand)
  | int2 (op : BinOp) (x y : Operand)
  | eqNil (want : Bool) (x y : Operand)
  | not (x : Operand)
  | bin (b : BinOp) (op : Op) (ty : TypeId) (x y : Operand)
  | plain (op : Op) (ty : TypeId)
  | call (f : Operand) (args : List Operand)
noncomputable section
def int2A (op : BinOp) (x y : Value) (h : AHeap) : Option (Value × AHeap) :=
  match x, y with
  | .int .i64 a, .int .i64 b =>
    match op with
    | .add => some (addI .i64 a b, h)
    | .sub => some (subI .i64 a b, h)
    | .mul => some (mulI .i64 a b, h)
    | .eql => some (eqlI .i64 a b, h)
    | .neq => some (neqI .i64 a b, h)
    | .lss => some (lssI .i64 a b, h)
    | .leq => some (leqI .i64 a b, h)
    | .gtr => some (gtrI .i64 a b, h)
    | .geq => some (geqI .i64 a b, h)
    | _ => none
  | _, _ => none
def eqNilA (want : Bool) (x y : Value) (h : AHeap) : Option (Value × AHeap) :=
  match x, y with
  | .slice (some _) _ _, .slice none _ _ => some (.bool (!want), h)
  | .slice none _ _, .slice none _ _ => some (.bool want, h)
  | _, _ => none
def notA (x : Value) (h : AHeap) : Option (Value × AHeap) :=
  match x with
  | .bool b => some (.bool (!b), h)
  | _ => none
def bare (op : Op) (ty : TypeId) : Oper := { dst := none, op := op, type := ty, pos := "", after := #[], guard := none }
def plainF (P : Program) (N : Nat) (op : Op) (ty : TypeId) (f : Fr) (h : AHeap) : Option (Value × AHeap) :=
  bif allB (fun x => plainV (valN N f x)) op.operands.toList then
    match valueOnly (pureRun P (execOp (valN N f) (bare op ty))) with
    | some v => bif plainV v then some (v, h) else none
    | none => none
  else none
def arithF : BinOp → Option (IntKind → Int → Int → Value)
  | .add => some addI
  | .sub => some subI
  | .mul => some mulI
  | .eql => some eqlI
  | .neq => some neqI
  | .lss => some lssI
  | .leq => some leqI
  | .gtr => some gtrI
  | .geq => some geqI
  | _ => none
def binA (P : Program) (N : Nat) (b : BinOp) (op : Op) (ty : TypeId) (x y : Value) (f : Fr) (h : AHeap) : Option (Value × AHeap) :=
  match arithF b with
  | some F =>
    match x, y with
    | .int k a, .int k' b => bif sameK k k' then some (F k a b, h) else none
    | _, _ => plainF P N op ty f h
  | none => plainF P N op ty f h
def sem (P : Program) (cf : CallF) (N : Nat) (f : Fr) (h : AHeap) : SOp → Option (Value × AHeap)
  | .mov x => some (val f x, h)
  | .pick c a b => pickA (val f c) (val f a) (val f b) h
  | .alloc z => newRowA h z
  | .box x => newRowA h (cellList (val f x))
  | .build pl zc is vs => buildA (pl[·]?) ⟨zc⟩ is h (vals f vs)
  | .buildArr s zc is vs => buildA (fun i => some (i * s, s)) ⟨zc⟩ is h (vals f vs)
  | .field1 off x => partOne off (val f x) h
  | .fieldN off n x => partAgg off n (val f x) h
  | .extract i x => extractA i (val f x) h
  | .bslice s len z is vs => buildSl s len z is h (vals f vs)
  | .load1 a => withH (loadCell h (val f a)) h
  | .loadN n a => withH (loadAgg n h (val f a)) h
  | .store n a x => storeN n h (val f a) (val f x)
  | .mkfunc g a b => some (.func (.func g) ⟨vals f a⟩ ⟨vals f b⟩, h)
  | .mkslice s bytes z l c => makeSl s bytes z h (val f l) (val f c)
  | .mkmap => h.push (some (.map #[] 0)) fun i h => some (.map (some i), h)
  | .slice s x lo hi mx => sliceA s hi.isSome h (val f x) (lo.map (val f)) (hi.map (val f)) (mx.map (val f))
  | .sliceArr m s x lo hi => sliceArr m s h (val f x) (lo.map (val f)) (hi.map (val f))
  | .fieldAddr off x => withH (fieldAt off (val f x)) h
  | .idxArr len s x i => withH (indexArr len s (val f x) (val f i)) h
  | .idxSl s x i => withH (indexSl s (val f x) (val f i)) h
  | .append s bytes x y => appendA s bytes h (val f x) (val f y)
  | .copy s x y => copyA s h (val f x) (val f y)
  | .there x => thereA (val f x) h
  | .len x => lenA (val f x) h
  | .lookup kt z ok m k => lookupA P kt z ok h (val f m) (val f k)
  | .mapEntry kt z m k => mapEntryA P kt z h (val f m) (val f k)
  | .entryStore m s x => entryStoreA h (val f m) (val f s) (val f x)
  | .mapUpdate kt m k x => mapUpdateA P kt h (val f m) (val f k) (val f x)
  | .int2 op x y => int2A op (val f x) (val f y) h
  | .eqNil want x y => eqNilA want (val f x) (val f y) h
  | .not x => notA (val f x) h
  | .bin b op ty x y => binA P N b op ty (val f x) (val f y) f h
  | .plain op ty => plainF P N op ty f h
  | .call g args => cf (val f g) (vals f args) h
def arith : BinOp → Bool
  | .add | .sub | .mul | .eql | .neq | .lss | .leq | .gtr | .geq => true
  | _ => false
def isInt64 (P : Program) (t : TypeId) : Bool :=
  match zeroT P t with
  | some (.int .i64 _) => true
  | _ => false
def compField (P : Program) (t : TypeId) (x : Operand) (f : Nat) : Option SOp :=
  match P.underlying t with
  | some (.struct fs) =>
    match fs[f]? with
    | some fd =>
      match P.underlying fd.type with
      | some _ =>
        bif isAggT P fd.type then
          match sizeT P fd.type with
          | some n => some (.fieldN fd.offset n x)
          | none => none
        else some (.field1 fd.offset x)
      | none => none
    | none => none
  | _ => none
def compBuild (P : Program) (t : TypeId) (is : List Nat) (vs : List Operand) : Option SOp :=
  match zeroT P t with
  | some z =>
    bif plainV z then
      match P.underlying t with
      | some (.struct fs) =>
        match pureRun P (fs.mapM fun f => do pure (f.offset, ← sizeOf f.type)) with
        | some places => some (.build places z.cells.toList is vs)
        | none => none
      | some (.array _ e) =>
        match sizeT P e with
        | some s => some (.buildArr s z.cells.toList is vs)
        | none => none
      | _ => none
    else none
  | none => none
def compAppend (P : Program) (argTypes : Array TypeId) (x y : Operand) : Option SOp :=
  match argTypes[0]?, argTypes[1]? with
  | some t, some u =>
    match elemT P t, elemT P u with
    | some e, some _ =>
      match P.info? e with
      | some i =>
        match i.zero with
        | some z => bif Nat.blt 0 i.size && Nat.beq z.cells.size i.size then some (.append i.size i.bytes x y) else none
        | none => none
      | none => none
    | _, _ => none
  | _, _ => none
def compCopy (P : Program) (argTypes : Array TypeId) (x y : Operand) : Option SOp :=
  match argTypes[0]? with
  | some t =>
    match elemT P t with
    | some e =>
      match sizeT P e with
      | some s => some (.copy s x y)
      | none => none
    | none => none
  | none => none
def compLen (P : Program) (argTypes : Array TypeId) (x : Operand) : Option SOp :=
  match argTypes[0]? with
  | some t =>
    match P.underlying t with
    | some (.slice _) => some (.len x)
    | some (.array n _) => some (.mov (.const (.int .i64 n)))
    | _ => none
  | none => none
def compBuiltin (P : Program) (o : Oper) (b : Builtin) (args : List Operand) (argTypes : Array TypeId) : Option SOp :=
  match b, args with
  | .len, [x] => compLen P argTypes x
  | .append, [x, y] => compAppend P argTypes x y
  | .copy, [x, y] => compCopy P argTypes x y
  | .min, _ => some (.plain o.op o.type)
  | .max, _ => some (.plain o.op o.type)
  | _, _ => none
def compMakeSlice (P : Program) (t : TypeId) (l c : Operand) : Option SOp :=
  match elemT P t with
  | some e =>
    match P.info? e with
    | some i =>
      match i.zero with
      | some z => bif Nat.blt 0 i.size && Nat.beq z.cells.size i.size && plainV z then some (.mkslice i.size i.bytes z.cells.toList l c) else none
      | none => none
    | none => none
  | none => none
def compBuildSlice (P : Program) (t : TypeId) (len : Nat) (is : List Nat) (vs : List Operand) : Option SOp :=
  match elemT P t with
  | some e =>
    match sizeT P e, zeroT P e with
    | some s, some z => bif Nat.ble (len * s) 16777216 && Nat.blt 0 s && Nat.beq z.cells.size s && plainV z then some (.bslice s len z.cells.toList is vs) else none
    | _, _ => none
  | none => none
def compSlice (P : Program) (t : TypeId) (x : Operand) (lo hi mx : Option Operand) : Option SOp :=
  match P.underlying t with
  | some (.slice e) =>
    match sizeT P e with
    | some s => some (.slice s x lo hi mx)
    | none => none
  | some (.array n e) =>
    match sizeT P e, mx with
    | some s, none => bif Nat.blt n unk then some (.sliceArr n s x lo hi) else none
    | _, _ => none
  | _ => none
def compFieldAddr (P : Program) (s : TypeId) (x : Operand) (f : Nat) : Option SOp :=
  match P.underlying s with
  | some (.struct fs) =>
    match fs[f]? with
    | some fd =>
      match sizeT P fd.type with
      | some n => bif Nat.beq n 0 then none else some (.fieldAddr fd.offset x)
      | none => none
    | none => none
  | _ => none
def compIndexAddr (P : Program) (t : TypeId) (x i : Operand) : Option SOp :=
  match P.underlying t with
  | some (.array len e) => match sizeT P e with
    | some s => some (.idxArr len s x i)
    | none => none
  | some (.slice e) => match sizeT P e with
    | some s => some (.idxSl s x i)
    | none => none
  | _ => none
def compLoad (P : Program) (t : TypeId) (a : Operand) : Option SOp :=
  match P.underlying t with
  | none => none
  | some _ =>
    bif isAggT P t then
      match sizeT P t with
      | some n => some (.loadN n a)
      | none => none
    else some (.load1 a)
def compMap (P : Program) (t : TypeId) (f : TypeId → Value → SOp) : Option SOp :=
  match P.underlying t with
  | some (.map kt e) =>
    match zeroT P e with
    | some z => some (f kt z)
    | none => none
  | _ => none
def compBin (P : Program) (o : Oper) (op : BinOp) (t : TypeId) (x y : Operand) : Option SOp :=
  bif arith op && isInt64 P t then some (.int2 op x y)
  else
    match op, elemT P t with
    | .eql, some _ => some (.eqNil true x y)
    | .neq, some _ => some (.eqNil false x y)
    | _, some _ => none
    | _, none => bif arith op then some (.bin op o.op o.type x y) else some (.plain o.op o.type)
def compOp (P : Program) (o : Oper) : Option SOp :=
  match o.op with
  | .move x => some (.mov x)
  | .assign x => some (.mov x)
  | .nilCheck x => some (.there x)
  | .pick c a b => some (.pick c a b)
  | .alloc e => match zeroT P e with
    | some z => bif plainV z then some (.alloc z.cells.toList) else none
    | none => none
  | .box _ x => some (.box x)
  | .build t parts => compBuild P t (parts.toList.map (·.1)) (parts.toList.map (·.2))
  | .field t x f => compField P t x f
  | .extract x i => some (.extract i x)
  | .buildSlice t len parts => compBuildSlice P t len (parts.toList.map (·.1)) (parts.toList.map (·.2))
  | .load t a => compLoad P t a
  | .store t a x => match sizeT P t with
    | some n => some (.store n a x)
    | none => none
  | .makeFunc (.func f) a b => some (.mkfunc f a.toList b.toList)
  | .makeSlice t l c => compMakeSlice P t l c
  | .makeMap t none => compMap P t fun _ _ => .mkmap
  | .slice t x lo hi mx => compSlice P t x lo hi mx
  | .fieldAddr s x f => compFieldAddr P s x f
  | .indexAddr t x i => compIndexAddr P t x i
  | .call { callee := .builtin b, args, argTypes } => compBuiltin P o b args.toList argTypes
  | .call { callee := .value g, args, .. } => some (.call g args.toList)
  | .lookup t m k ok => compMap P t fun kt z => .lookup kt z ok m k
  | .mapEntry t m k => compMap P t fun kt z => .mapEntry kt z m k
  | .entryStore _ m s x => some (.entryStore m s x)
  | .mapUpdate t m k x => compMap P t fun kt _ => .mapUpdate kt m k x
  | .binOp op t x y _ => compBin P o op t x y
  | .unOp .not _ x => some (.not x)
  | .unOp .. => some (.plain o.op o.type)
  | .convert .. => some (.plain o.op o.type)
  | .index .. => some (.plain o.op o.type)
  | _ => none
structure SI where
  dst : Option Nat
  guard : Option (Nat × Bool)
  op : SOp
def compGuard (ops : Array Oper) (N : Nat) (g : Option (Nat × Bool)) : Option (Option (Nat × Bool)) :=
  match g with
  | none => some none
  | some (j, want) =>
    match (ops[j]?).bind (·.dst) with
    | some d => bif Nat.blt d N then some (some (d, want)) else none
    | none => none
def compI (P : Program) (N : Nat) (ops : Array Oper) (o : Oper) : Option SI :=
  bif allB fineOp o.op.operands.toList && allB (opIn N) o.op.operands.toList then
    match compGuard ops N o.guard with
    | some g =>
      match compOp P o with
      | some s => some ⟨o.dst, g, s⟩
      | none => none
    | none => none
  else none
def compIs (P : Program) (N : Nat) (ops : Array Oper) : List Oper → Option (List SI)
  | [] => some []
  | o :: l =>
    match compI P N ops o with
    | some i =>
      match compIs P N ops l with
      | some is => some (i :: is)
      | none => none
    | none => none
end
end Go.Vm

namespace Go.Vm
variable {P : Program} {cf : CallF} {h h' : AHeap} {ts : Slots} {m : List Nat}
theorem get_set_ne {i j : Nat} {v : Value} (h : i ≠ j) : (Slots.set (cway j).way ts v).get (cway i).way = ts.get (cway i).way := by
  rw [Slots.get_eq, Slots.get_eq, Slots.get?_set, if_neg fun e => h (cway_inj e)]
def Wide (n : Nat) (ts : Slots) : Prop := ∀ t, t < n → (Slots.get? (cway t).way ts).isSome = true
theorem Wide.set {n : Nat} (h : Wide n ts) (j : Nat) (v : Value) : Wide n (Slots.set (cway j).way ts v) := by
  intro t ht
  rw [Slots.get?_set]
  split
  · rename_i e
    have := h t ht
    rw [e] at this
    simpa using this
  · exact h t ht
theorem Wide.putS {n : Nat} (h : Wide n ts) (d : Option Tmp) (v : Value) : Wide n (putS ts d v) := by
  cases d with
  | none => exact h
  | some d => exact h.set d v
theorem get_set_same {n : Nat} (h : Wide n ts) {i : Nat} {v : Value} (hi : i < n) : (Slots.set (cway i).way ts v).get (cway i).way = v := by
  rw [Slots.get_eq, Slots.get?_set, if_pos rfl]
  have := h i hi
  cases hg : Slots.get? (cway i).way ts with
  | none => rw [hg] at this; cases this
  | some u => rfl
@[simp] theorem wide_set {n j : Nat} {v : Value} : Wide n (Slots.set (cway j).way ts v) ↔ Wide n ts := by
  refine ⟨fun h t ht => ?_, fun h => h.set j v⟩
  have := h t ht
  rw [Slots.get?_set] at this
  split at this
  · rename_i e
    rw [e]
    simpa using this
  · exact this
theorem get_set {n : Nat} (h : Wide n ts) {i j : Nat} {v : Value} (hi : i < n) : (Slots.set (cway j).way ts v).get (cway i).way = if i = j then v else ts.get (cway i).way := by
  by_cases e : i = j
  · subst e; rw [if_pos rfl]; exact get_set_same h hi
  · rw [if_neg e]; exact get_set_ne e
theorem cops_one (ops : Array Oper) (o : Oper) (rest : List Oper) {v : Value} (hg : o.guard = none) (hr : (copc P o).run cf h ts = some (v, h')) :
    (cops P ops (o :: rest)).run cf ⟨ts, h, m⟩ = (cops P ops rest).run cf ⟨putS ts o.dst v, h', m⟩ := by
  simp only [cops, stepOp, cguard, hg, hr, cond_true, putT_putS]
theorem copc_cop {o : Oper} (hf : allB fineOp o.op.operands.toList = true) (hn : ∀ f args ts, o.op ≠ .call { callee := .value f, args := args, argTypes := ts }) : (copc P o).run cf h ts = (cop P o).run h ts := by
  unfold copc
  simp only [hf, Bool.not_true, cond_false]
section ops
variable {d : Option Tmp} {t : TypeId} {pos : String} {af : Array Edge} {g : Option (Nat × Bool)} {x y : Operand}
end ops
theorem readAt_of {c : FCall} {v : Value} (hr : c.run cf h.shutAll ts = some (v, h.shutAll)) : readAt c cf h ts = some v := by
  obtain ⟨t, nx, lw, fl⟩ := h
  have hr' : c.run cf ⟨t, nx, lw, nx⟩ ts = some (v, ⟨t, nx, lw, nx⟩) := hr
  simp only [readAt, hr']
  rw [show Nat.beq nx nx = true from beq_iff.2 rfl]
  rfl
def Does (P : Program) (cf : CallF) (rest : List Oper) (ts : Slots) (h : AHeap) (tsE : Slots) (hE : AHeap) : Prop :=
  ∀ ops m, (cops P ops rest).run cf ⟨ts, h, m⟩ = some ⟨tsE, hE, m⟩
theorem Does.nil : Does P cf [] ts h ts h := fun _ _ => rfl
theorem Does.cons {o : Oper} {rest : List Oper} {v : Value} {tsE : Slots} {hE : AHeap} (hg : o.guard = none) (hr : (copc P o).run cf h ts = some (v, h')) (hn : Does P cf rest (putS ts o.dst v) h' tsE hE) : Does P cf (o :: rest) ts h tsE hE := by
  intro ops m
  rw [cops_one ops o rest hg hr]
  exact hn ops m
section code
variable {fn n id : Nat} {ar : Option Nat} {s : St} {ops : Array Oper} {a b : Code}
theorem code_region : (ccode P (.region id ops false)).run cf fn ar n s = normal ((cops P ops ops.toList).run cf s) := rfl
theorem code_draw : (ccode P (.region id ops true)).run cf fn ar n s = normal ((cdraw P ops).run cf s) := rfl
theorem code_seq : (ccode P (.seq a b)).run cf fn ar n s = thenDo ((ccode P a).run cf fn ar n s) fun s => (ccode P b).run cf fn ar n s := rfl
theorem code_block : (ccode P (.block id a)).run cf fn ar n s = inBlock id ((ccode P a).run cf fn ar n s) := rfl
theorem code_loop : (ccode P (.loop a)).run cf fn ar n s = loopN (fun s => (ccode P a).run cf fn ar n s) n s := rfl
theorem block_exit {s : St} {i : Nat} : inBlock i (some (.exit i, s)) = some (.norm, s) := by simp [inBlock]
end code
theorem cfunc_run {f : FuncId} {fn : Func} {c : Code} {xs : List Value} {n : Nat} (hf : P.funcs[f]? = some fn) (hb : fn.body = some c) (hl : xs.length ≤ fn.ntmps) :
    (cfunc P f).run cf n xs h = funcEnd (cres P fn) ((ccode P c).run cf f none n ⟨(xs.foldl (fun (p : Nat × Slots) x => (p.1 + 1, Slots.set (cway p.1).way p.2 x)) (0, (cskel fn.ntmps).slots)).2, h, []⟩) := by
  unfold cfunc
  simp only [hf, hb]
  rw [show Nat.ble (len xs) fn.ntmps = true by rw [len_eq]; exact ble_iff.2 hl]
  simp only [Bool.not_true, cond_false, fillK_eq]
end Go.Vm

namespace Go.Vm
variable {P : Program} {cf : CallF} {h : AHeap} {ts : Slots} {f : Fr} {N : Nat} {r : Value × AHeap}
theorem mem_in {l : List Operand} (h : allB (opIn N) l = true) {x : Operand} (hx : x ∈ l) : opIn N x = true := allB_iff.1 h x hx
theorem optGet_eq (hv : View N ts f) {x : Option Operand} (hx : ∀ y, x = some y → opIn N y = true) : optGet x ts = x.map (val f) := by
  cases x with
  | none => rfl
  | some y => show some _ = some _; rw [hv.val (hx y rfl)]
theorem exec_bare (ρ : Operand → Value) (o : Oper) : execOp ρ (bare o.op o.type) = execOp ρ o := by
  obtain ⟨dst, op, ty, pos, af, g⟩ := o
  cases op <;> rfl
theorem comp_sound {o : Oper} {s : SOp} (hc : compOp P o = some s) (hf : allB fineOp o.op.operands.toList = true) (hn : allB (opIn N) o.op.operands.toList = true) (hv : View N ts f)
    (hs : sem P cf N f h s = some r) : (copc P o).run cf h ts = some r := by
  obtain ⟨dst, op, ty, pos, af, g⟩ := o
  have hin : ∀ x ∈ op.operands.toList, opIn N x = true := fun x hx => mem_in hn hx
  have key : (∀ f args ts, op ≠ .call { callee := .value f, args := args, argTypes := ts }) → (cop P ⟨dst, op, ty, pos, af, g⟩).run h ts = some r → (copc P ⟨dst, op, ty, pos, af, g⟩).run cf h ts = some r := by
    intro h1 h2
    rw [copc_cop hf h1]; exact h2
  have plain : plainF P N op ty f h = some r → plainRun P ⟨dst, op, ty, pos, af, g⟩ h ts = some r := by
    intro this
    unfold plainF at this
    unfold plainRun
    rw [hv.valN, ← exec_bare (valN N f) ⟨dst, op, ty, pos, af, g⟩]
    have e2 : (fun x => plainV ((cval x).get ts)) = fun x => plainV (valN N f x) := by
      funext x; exact congrArg plainV (congrFun hv.valN x)
    rw [e2]
    exact this
  cases op with
  | move x =>
    simp only [compOp, Option.some.injEq] at hc; subst hc
    refine key (by simp) ?_
    simp only [sem] at hs
    simp only [cop, hv.val (hin x (by simp [Op.operands]))]; exact hs
  | assign x =>
    simp only [compOp, Option.some.injEq] at hc; subst hc
    refine key (by simp) ?_
    simp only [sem] at hs
    simp only [cop, hv.val (hin x (by simp [Op.operands]))]; exact hs
  | nilCheck x =>
    simp only [compOp, Option.some.injEq] at hc; subst hc
    refine key (by simp) ?_
    simp only [sem] at hs
    simp only [cop, hv.val (hin x (by simp [Op.operands]))]; exact hs
  | pick c a b =>
    simp only [compOp, Option.some.injEq] at hc; subst hc
    refine key (by simp) ?_
    simp only [sem] at hs
    simp only [cop, hv.val (hin c (by simp [Op.operands])), hv.val (hin a (by simp [Op.operands])), hv.val (hin b (by simp [Op.operands]))]; exact hs
  | alloc e =>
    refine key (by simp) ?_
    simp only [compOp] at hc
    simp only [cop]
    split at hc
    · rename_i z hz
      cases hp : plainV z with
      | false => simp [hp] at hc
      | true =>
        simp only [hp, cond_true, Option.some.injEq] at hc; subst hc
        simp only [hz, hp, cond_true]; exact hs
    · simp at hc
  | box e x =>
    simp only [compOp, Option.some.injEq] at hc; subst hc
    refine key (by simp) ?_
    simp only [sem] at hs
    simp only [cop, hv.val (hin x (by simp [Op.operands]))]; exact hs
  | build t parts =>
    refine key (by simp) ?_
    simp only [compOp] at hc
    have hvs : (cvals (parts.toList.map (·.2))).get ts = vals f (parts.toList.map (·.2)) := by
      refine hv.vals (allB_iff.2 fun y hy => hin y ?_)
      simpa [Op.operands] using hy
    simp only [cop]
    unfold compBuild at hc
    unfold cbuild
    split at hc
    · rename_i z hz
      cases hp : plainV z with
      | false => simp [hp] at hc
      | true =>
        simp only [hp, cond_true] at hc
        simp only [hz, hp, cond_true, seqArr_eq]
        split at hc
        · rename_i fs hu
          split at hc
          · rename_i pl hpl
            cases hc
            simp only [hu, hpl, hvs]
            exact hs
          · simp at hc
        · rename_i m e hu
          split at hc
          · rename_i sz hsz
            cases hc
            simp only [hu, hsz, hvs]
            exact hs
          · simp at hc
        · simp at hc
    · simp at hc
  | field t x k =>
    refine key (by simp) ?_
    simp only [compOp] at hc
    have hx := hv.val (hin x (by simp [Op.operands]))
    simp only [cop]
    unfold compField at hc
    unfold cfield
    split at hc
    · rename_i fs hu
      split at hc
      · rename_i fd hfd
        split at hc
        · rename_i de hde
          simp only [hu, hfd, hde]
          cases hag : isAggT P fd.type with
          | true =>
            simp only [hag, cond_true] at hc
            simp only [cond_true]
            split at hc
            · rename_i m hm
              cases hc
              simp only [hm, hx]; exact hs
            · simp at hc
          | false =>
            simp only [hag, cond_false, Option.some.injEq] at hc; subst hc
            simp only [cond_false, hx]; exact hs
        · simp at hc
      · simp at hc
    · simp at hc
  | extract x i =>
    simp only [compOp, Option.some.injEq] at hc; subst hc
    refine key (by simp) ?_
    simp only [sem] at hs
    simp only [cop, hv.val (hin x (by simp [Op.operands]))]; exact hs
  | buildSlice t len parts =>
    refine key (by simp) ?_
    simp only [compOp] at hc
    have hvs : (cvals (parts.toList.map (·.2))).get ts = vals f (parts.toList.map (·.2)) := by
      refine hv.vals (allB_iff.2 fun y hy => hin y ?_)
      simpa [Op.operands] using hy
    simp only [cop]
    unfold compBuildSlice at hc
    unfold cbuildSlice
    split at hc
    · rename_i e he
      split at hc
      · rename_i sz z hsz hz
        cases hp : Nat.ble (len * sz) 16777216 && Nat.blt 0 sz && Nat.beq z.cells.size sz && plainV z with
        | false => simp only [hp, cond_false] at hc; cases hc
        | true =>
          simp only [hp, cond_true, Option.some.injEq] at hc; subst hc
          simp only [he, hsz, hz, hp, cond_true, seqCells_eq, hvs]; exact hs
      · simp at hc
    · simp at hc
  | load t a =>
    refine key (by simp) ?_
    simp only [compOp] at hc
    have hx := hv.val (hin a (by simp [Op.operands]))
    simp only [cop]
    unfold compLoad at hc
    unfold cload
    split at hc
    · simp at hc
    · rename_i de hde
      simp only [hde]
      cases hag : isAggT P t with
      | true =>
        simp only [hag, cond_true] at hc
        simp only [cond_true]
        split at hc
        · rename_i m hm
          cases hc
          simp only [hm, hx]; exact hs
        · simp at hc
      | false =>
        simp only [hag, cond_false, Option.some.injEq] at hc; subst hc
        simp only [cond_false, hx]; exact hs
  | store t a x =>
    refine key (by simp) ?_
    simp only [compOp] at hc
    have ha := hv.val (hin a (by simp [Op.operands]))
    have hx := hv.val (hin x (by simp [Op.operands]))
    simp only [cop]
    split at hc
    · rename_i m hm
      cases hc
      simp only [hm, ha, hx]; exact hs
    · simp at hc
  | makeFunc fn a b =>
    refine key (by simp) ?_
    cases fn with
    | func g =>
      simp only [compOp, Option.some.injEq] at hc; subst hc
      have ha : (cvals a.toList).get ts = vals f a.toList := hv.vals (allB_iff.2 fun y hy => hin y (by simp [Op.operands] at *; exact .inl hy))
      have hb : (cvals b.toList).get ts = vals f b.toList := hv.vals (allB_iff.2 fun y hy => hin y (by simp [Op.operands] at *; exact .inr hy))
      simp only [cop, ha, hb]; exact hs
    | _ => simp [compOp] at hc
  | makeSlice t l c =>
    refine key (by simp) ?_
    simp only [compOp] at hc
    have hl := hv.val (hin l (by simp [Op.operands]))
    have hcc := hv.val (hin c (by simp [Op.operands]))
    simp only [cop]
    unfold compMakeSlice at hc
    unfold cmakeSlice
    split at hc
    · rename_i e he
      split at hc
      · rename_i i hi
        split at hc
        · rename_i z hz
          cases hp : Nat.blt 0 i.size && Nat.beq z.cells.size i.size && plainV z with
          | false => simp only [hp, cond_false] at hc; cases hc
          | true =>
            simp only [hp, cond_true, Option.some.injEq] at hc; subst hc
            simp only [he, hi, hz, hp, cond_true, seqCells_eq, hl, hcc]; exact hs
        · simp at hc
      · simp at hc
    · simp at hc
  | makeMap t rs =>
    refine key (by simp) ?_
    cases rs with
    | none =>
      simp only [compOp] at hc
      simp only [cop]
      unfold compMap at hc
      unfold cmapop
      split at hc
      · rename_i kt e hu
        split at hc
        · rename_i z hz
          cases hc
          simp only [hu, hz]; exact hs
        · simp at hc
      · simp at hc
    | some x => simp [compOp] at hc
  | slice t x lo hi mx =>
    refine key (by simp) ?_
    simp only [compOp] at hc
    have hx := hv.val (hin x (by simp [Op.operands]))
    have h1 := optGet_eq hv (x := lo) (fun y e => hin y (by simp [Op.operands, e]))
    have h2 := optGet_eq hv (x := hi) (fun y e => hin y (by simp [Op.operands, e]))
    have h3 := optGet_eq hv (x := mx) (fun y e => hin y (by simp [Op.operands, e]))
    simp only [cop]
    unfold compSlice at hc
    unfold cslice
    split at hc
    · rename_i e hu
      split at hc
      · rename_i sz hsz
        cases hc
        simp only [hu, hsz, hx, h1, h2, h3]; exact hs
      · simp at hc
    · rename_i m e hu
      split at hc
      · rename_i sz hsz
        cases hp : Nat.blt m unk with
        | false => simp [hp] at hc
        | true =>
          simp only [hp, cond_true, Option.some.injEq] at hc; subst hc
          simp only [hu, hsz, hp, cond_true, hx, h1, h2]; exact hs
      · simp at hc
    · simp at hc
  | fieldAddr t x k =>
    refine key (by simp) ?_
    simp only [compOp] at hc
    have hx := hv.val (hin x (by simp [Op.operands]))
    simp only [cop]
    unfold compFieldAddr at hc
    unfold cfieldAddr
    split at hc
    · rename_i fs hu
      split at hc
      · rename_i fd hfd
        split at hc
        · rename_i m hm
          cases hp : Nat.beq m 0 with
          | true => simp [hp] at hc
          | false =>
            simp only [hp, cond_false, Option.some.injEq] at hc; subst hc
            simp only [hu, hfd, hm, hp, cond_false, hx]; exact hs
        · simp at hc
      · simp at hc
    · simp at hc
  | indexAddr t x i =>
    refine key (by simp) ?_
    simp only [compOp] at hc
    have hx := hv.val (hin x (by simp [Op.operands]))
    have hi := hv.val (hin i (by simp [Op.operands]))
    simp only [cop]
    unfold compIndexAddr at hc
    unfold cindexAddr
    split at hc
    · rename_i m e hu
      split at hc
      · rename_i sz hsz
        cases hc
        simp only [hu, hsz, hx, hi]; exact hs
      · simp at hc
    · rename_i e hu
      split at hc
      · rename_i sz hsz
        cases hc
        simp only [hu, hsz, hx, hi]; exact hs
      · simp at hc
    · simp at hc
  | lookup t m k ok =>
    refine key (by simp) ?_
    simp only [compOp] at hc
    have hm := hv.val (hin m (by simp [Op.operands]))
    have hk := hv.val (hin k (by simp [Op.operands]))
    simp only [cop]
    unfold compMap at hc
    unfold cmapop
    split at hc
    · rename_i kt e hu
      split at hc
      · rename_i z hz
        cases hc
        simp only [hu, hz, hm, hk]; exact hs
      · simp at hc
    · simp at hc
  | mapEntry t m k =>
    refine key (by simp) ?_
    simp only [compOp] at hc
    have hm := hv.val (hin m (by simp [Op.operands]))
    have hk := hv.val (hin k (by simp [Op.operands]))
    simp only [cop]
    unfold compMap at hc
    unfold cmapop
    split at hc
    · rename_i kt e hu
      split at hc
      · rename_i z hz
        cases hc
        simp only [hu, hz, hm, hk]; exact hs
      · simp at hc
    · simp at hc
  | entryStore t m k x =>
    simp only [compOp, Option.some.injEq] at hc; subst hc
    refine key (by simp) ?_
    simp only [sem] at hs
    simp only [cop, hv.val (hin m (by simp [Op.operands])), hv.val (hin k (by simp [Op.operands])), hv.val (hin x (by simp [Op.operands]))]; exact hs
  | mapUpdate t m k x =>
    refine key (by simp) ?_
    simp only [compOp] at hc
    have hm := hv.val (hin m (by simp [Op.operands]))
    have hk := hv.val (hin k (by simp [Op.operands]))
    have hx := hv.val (hin x (by simp [Op.operands]))
    simp only [cop]
    unfold compMap at hc
    unfold cmapop
    split at hc
    · rename_i kt e hu
      split at hc
      · rename_i z hz
        cases hc
        simp only [hu, hz, hm, hk, hx]; exact hs
      · simp at hc
    · simp at hc
  | binOp op t x y u =>
    refine key (by simp) ?_
    simp only [compOp] at hc
    have hx := hv.val (hin x (by simp [Op.operands]))
    have hy := hv.val (hin y (by simp [Op.operands]))
    simp only [cop]
    unfold compBin at hc
    cases ha : arith op && isInt64 P t with
    | true =>
      simp only [ha, cond_true, Option.some.injEq] at hc; subst hc
      simp only [sem, int2A] at hs
      split at hs
      · rename_i a b e1 e2
        rw [← hx] at e1
        rw [← hy] at e2
        have hsk : sameK .i64 .i64 = true := rfl
        split at hs <;> first | (simp only [cbin, intTwo, e1, e2, hsk, cond_true]; exact hs) | (simp at hs)
      · simp at hs
    | false =>
      simp only [ha, cond_false] at hc
      have eqn : ∀ (want : Bool) (F : IntKind → Int → Int → Value) (e : TypeId), elemT P t = some e → eqNilA want (val f x) (val f y) h = some r →
          intTwo F (orNil P t want (plainRun P ⟨dst, .binOp op t x y u, ty, pos, af, g⟩) (cval x) (cval y)) (cval x) (cval y) h ts = some r := by
        intro want F e he hq
        unfold eqNilA at hq
        rw [← hx, ← hy] at hq
        unfold intTwo orNil eqNil
        simp only [he]
        split at hq
        · rename_i q1 q2; simp only [q1, q2]; exact hq
        · rename_i q1 q2; simp only [q1, q2]; exact hq
        · simp at hq
      cases he : elemT P t with
      | some e =>
        simp only [he] at hc
        split at hc
        · rename_i h1; cases hc; exact eqn _ _ _ he hs
        · rename_i h1; cases hc; exact eqn _ _ _ he hs
        · simp at hc
        · rename_i h1; cases h1
      | none =>
        have hc : (bif arith op then some (SOp.bin op (.binOp op t x y u) ty x y) else some (.plain (.binOp op t x y u) ty)) = some s := by
          rw [he] at hc
          cases op <;> exact hc
        cases ha2 : arith op with
        | true =>
          simp only [ha2, cond_true, Option.some.injEq] at hc; subst hc
          simp only [sem, binA] at hs
          have hp : plainF P N (.binOp op t x y u) ty f h = some r → plainRun P ⟨dst, .binOp op t x y u, ty, pos, af, g⟩ h ts = some r := fun e => plain e
          have fin : ∀ F, (match val f x, val f y with
              | .int k a, .int k' b => bif sameK k k' then some (F k a b, h) else none
              | _, _ => plainF P N (.binOp op t x y u) ty f h) = some r → intTwo F (plainRun P ⟨dst, .binOp op t x y u, ty, pos, af, g⟩) (cval x) (cval y) h ts = some r := by
            intro F hq
            unfold intTwo
            rw [hx, hy]
            split at hq
            · rename_i q1 q2; simp only [q1, q2]; exact hq
            · rename_i q1
              split
              · rename_i q2 q3; exact (q1 _ _ _ _ q2 q3).elim
              · exact hp hq
          cases op <;> first | (simp [arith] at ha2; done) | (simp only [arithF] at hs; simp only [cbin, orNil, he]; exact fin _ hs)
        | false =>
          simp only [ha2, cond_false, Option.some.injEq] at hc; subst hc
          have hp := plain hs
          cases op <;> first | (simp [arith] at ha2; done) | (simp only [cbin]; exact hp)
  | unOp op t x =>
    refine key (by simp) ?_
    cases op with
    | not =>
      simp only [compOp, Option.some.injEq] at hc; subst hc
      simp only [sem, notA] at hs
      simp only [cop, hv.val (hin x (by simp [Op.operands]))]
      exact hs
    | _ =>
      simp only [compOp, Option.some.injEq] at hc; subst hc
      exact plain hs
  | convert t u x =>
    refine key (by simp) ?_
    simp only [compOp, Option.some.injEq] at hc; subst hc
    exact plain hs
  | index t x i =>
    refine key (by simp) ?_
    simp only [compOp, Option.some.injEq] at hc; subst hc
    exact plain hs
  | call c =>
    obtain ⟨callee, args, ats⟩ := c
    cases callee with
    | value fv =>
      simp only [compOp, Option.some.injEq] at hc; subst hc
      have hfv := hv.val (hin fv (by simp [Op.operands, Call.operands]))
      have ha : (cvals args.toList).get ts = vals f args.toList := hv.vals (allB_iff.2 fun y hy => hin y (by simp [Op.operands, Call.operands] at *; exact .inr hy))
      unfold copc
      simp only [hf, Bool.not_true, cond_false, seqEs_eq, ha, hfv]
      exact hs
    | invoke a b => simp [compOp] at hc
    | builtin b =>
      refine key (by simp) ?_
      simp only [compOp] at hc
      simp only [cop]
      unfold compBuiltin at hc
      unfold cbuiltin
      have hargs : ∀ x ∈ args.toList, opIn N x = true := fun x hx => hin x (by simp [Op.operands, Call.operands] at *; exact hx)
      split at hc
      · rename_i x hx1
        have hx := hv.val (hargs x (by rw [hx1]; simp))
        simp only [hx1]
        unfold compLen at hc
        unfold clen
        split at hc
        · rename_i t ht
          simp only [ht]
          split at hc
          · rename_i e hu
            cases hc
            simp only [hu, hx]; exact hs
          · rename_i m e hu
            cases hc
            simp only [hu]
            simp only [sem, val] at hs
            exact hs
          · simp at hc
        · simp at hc
      · rename_i x y hx1
        have hx := hv.val (hargs x (by rw [hx1]; simp))
        have hy := hv.val (hargs y (by rw [hx1]; simp))
        simp only [hx1]
        unfold compAppend at hc
        unfold cappend
        split at hc
        · rename_i t u ht hu
          simp only [ht, hu]
          split at hc
          · rename_i e e' he he'
            simp only [he, he']
            split at hc
            · rename_i i hi
              simp only [hi]
              split at hc
              · rename_i z hz
                cases hp : Nat.blt 0 i.size && Nat.beq z.cells.size i.size with
                | false => simp [hp] at hc
                | true =>
                  simp only [hp, cond_true, Option.some.injEq] at hc; subst hc
                  simp only [hz, hp, cond_true, hx, hy]; exact hs
              · simp at hc
            · simp at hc
          · simp at hc
        · simp at hc
      · rename_i x y hx1
        have hx := hv.val (hargs x (by rw [hx1]; simp))
        have hy := hv.val (hargs y (by rw [hx1]; simp))
        simp only [hx1]
        unfold compCopy at hc
        unfold ccopy
        split at hc
        · rename_i t ht
          simp only [ht]
          split at hc
          · rename_i e he
            simp only [he]
            split at hc
            · rename_i sz hsz
              cases hc
              simp only [hsz, hx, hy]; exact hs
            · simp at hc
          · simp at hc
        · simp at hc
      · cases hc
        exact plain hs
      · cases hc
        exact plain hs
      · simp at hc
  | _ => simp [compOp] at hc
end Go.Vm
