/- Texts of the proofs of this seat, put together: VmEq, VmLift, VmEq2, VmMap, VmMapK. -/
import Derived.Test.YtjihegbffhhcaaaPk3
import Derived.ChangeKeysEq
import Derived.ChangeArms
import Derived.ReadAgain
import Derived.ChangeOld
import Derived.ChangeSame

namespace Go.Vm
variable {P : Program} {N : Nat} {f : Fr} {h : AHeap} {ty t u e : TypeId} {x y : Operand}
theorem pr_pure {α : Type} {a : α} : pureRun P (pure a) = some a := rfl
theorem pr_map {α β : Type} {g : α → β} {s : Sem α} : pureRun P (g <$> s) = (pureRun P s).map g := by
  rw [map_eq_pure_bind, pureRun_bind]
  cases pureRun P s <;> rfl
theorem pr_program : pureRun P program = some P := rfl
theorem pr_size {i : TypeInfo} (hi : P.info? e = some i) : pureRun P (sizeOf e) = some i.size := by
  simp [sizeOf, typeInfo, pureRun_bind, pr_map, pr_program, pr_pure, hi]
theorem pr_part {xs : Array Value} {off : Nat} {v : Value} (he : P.underlying e = some (.int .i64)) (hx : xs[off]? = some v) : pureRun P (part e xs off) = some v := by
  simp [part, isAgg, pureRun_bind, pr_under he, hx, pr_pure]
theorem pr_eqInt {d : Nat} {a b : Int} (he : P.underlying e = some (.int .i64)) : pureRun P (Op.equalIn (d + 1) e (.int .i64 a) (.int .i64 b)) = some (decide (a = b)) := by
  simp [Op.equalIn, pureRun_bind, pr_under he, pr_pure]
  by_cases h : a = b <;> simp [h]
theorem pr_eqItems {d : Nat} {xs ys : Array Value} {a b : Nat → Int} (he : P.underlying e = some (.int .i64)) : ∀ (is : List Nat), (∀ i, i ∈ is → xs[i]? = some (.int .i64 (a i)) ∧ ys[i]? = some (.int .i64 (b i))) →
    pureRun P (Op.eqItems (d + 1) e 1 xs ys is) = some (decide (∀ i, i ∈ is → a i = b i))
  | [], _ => by simp [Op.eqItems, pr_pure]
  | i :: is, hi => by
    obtain ⟨h1, h2⟩ := hi i (by simp)
    have ih := pr_eqItems (d := d) he is fun j hj => hi j (by simp [hj])
    simp only [Op.eqItems, pureRun_bind, Nat.mul_one, pr_part he h1, pr_part he h2, pr_eqInt he, Option.bind_some]
    by_cases e : a i = b i
    · simp only [e, decide_true, Bool.not_true, Bool.false_eq_true, if_false, ih]
      simp [e]
    · simp only [e, decide_false, Bool.not_false, if_true, pr_pure]
      simp [e]
theorem pr_eqArr {d n : Nat} {i : TypeInfo} {xs ys : Array Value} (hu : P.underlying t = some (.array n e)) (hi : P.info? e = some i) : pureRun P (Op.equalIn (d + 1) t (.agg xs) (.agg ys)) = pureRun P (Op.eqItems d e i.size xs ys (List.range n)) := by
  simp only [Op.equalIn, pureRun_bind, pr_under hu, Option.bind_some, pr_size hi]
  simp only [Std.Legacy.Range.forIn_eq_forIn_range', Std.Legacy.Range.size, Nat.sub_zero, Nat.add_one_sub_one, Nat.div_one, List.range_eq_range']
  generalize List.range' 0 n = is
  induction is with
  | nil => simp [Op.eqItems, pr_pure]
  | cons j is ih =>
    simp only [List.forIn_cons, Op.eqItems, pureRun_bind]
    cases pureRun P (part e xs (j * i.size)) with
    | none => simp
    | some a =>
      simp only [Option.bind_some]
      cases pureRun P (part e ys (j * i.size)) with
      | none => simp
      | some b =>
        simp only [Option.bind_some]
        cases pureRun P (Op.equalIn d e a b) with
        | none => simp
        | some r =>
          cases r
          · simp [pr_pure]
          · simp only [Option.bind_some, Bool.not_true, Bool.false_eq_true, if_false, pr_pure]
            exact ih
theorem pr_guard {op : BinOp} {xs ys : Array Value} (hg : P.eqGuardType P.depth t = false) : pureRun P (eqGuard op t x y (.agg xs) (.agg ys)) = some () := by
  cases op <;> simp [eqGuard, pureRun_bind, pr_program, pr_pure, hg]
theorem pr_guardB {op : BinOp} {a b : Bool} : pureRun P (eqGuard op t x y (.bool a) (.bool b)) = some () := by
  cases op <;> simp [eqGuard, pr_pure]
theorem pr_eqBool {d : Nat} {a b : Bool} (he : P.underlying e = some .bool) : pureRun P (Op.equalIn (d + 1) e (.bool a) (.bool b)) = some (a == b) := by
  simp [Op.equalIn, pureRun_bind, pr_under he, pr_pure]
def runBB (F : Bool → Bool → Bool) (other : AHeap → Option (Value × AHeap)) (a b : Value) (h : AHeap) : Option (Value × AHeap) :=
  match a, b with
  | .bool a, .bool b => some (.bool (F a b), h)
  | _, _ => other h
theorem rBB {F : Bool → Bool → Bool} {other : AHeap → Option (Value × AHeap)} {a b : Bool} : runBB F other (.bool a) (.bool b) h = some (.bool (F a b), h) := id rfl
theorem p_neqB (hu : P.underlying t = some .bool) : plainF P N (.binOp .neq t x y u) ty f h = runBB (fun a b => !(a == b)) (plainF P N (.binOp .neq t x y u) ty f) (valN N f x) (valN N f y) h := by
  unfold runBB
  split
  · rename_i a b e1 e2
    unfold plainF
    have : allB (fun x => plainV (valN N f x)) (Op.binOp .neq t x y u).operands.toList = true := by simp [Op.operands, allB, e1, e2, plainV, plainE, plainCell]
    rw [this]
    have e : pureRun P (execOp (valN N f) (bare (.binOp .neq t x y u) ty)) = some (.value (.bool (!(a == b)))) := by
      simp only [execOp, bare, e1, e2, pureRun_bind, pr_guardB, Option.bind_some, binOp, Op.equal, Op.maxDepth, pr_eqBool hu, pr_pure]
    rw [e]
    rfl
  · rfl
theorem p_eqlB (hu : P.underlying t = some .bool) : plainF P N (.binOp .eql t x y u) ty f h = runBB (fun a b => a == b) (plainF P N (.binOp .eql t x y u) ty f) (valN N f x) (valN N f y) h := by
  unfold runBB
  split
  · rename_i a b e1 e2
    unfold plainF
    have : allB (fun x => plainV (valN N f x)) (Op.binOp .eql t x y u).operands.toList = true := by simp [Op.operands, allB, e1, e2, plainV, plainE, plainCell]
    rw [this]
    have e : pureRun P (execOp (valN N f) (bare (.binOp .eql t x y u) ty)) = some (.value (.bool (a == b))) := by
      simp only [execOp, bare, e1, e2, pureRun_bind, pr_guardB, Option.bind_some, binOp, Op.equal, Op.maxDepth, pr_eqBool hu, pr_pure]
    rw [e]
    rfl
  · rfl
theorem plainF_eqArr {n : Nat} {i : TypeInfo} {xs ys : Array Value} {a b : Nat → Int} (hx : valN N f x = .agg xs) (hy : valN N f y = .agg ys) (px : plainV (.agg xs) = true) (py : plainV (.agg ys) = true) (hg : P.eqGuardType P.depth t = false)
    (hu : P.underlying t = some (.array n e)) (hi : P.info? e = some i) (hs : i.size = 1) (he : P.underlying e = some (.int .i64)) (hab : ∀ k, k ∈ List.range n → xs[k]? = some (.int .i64 (a k)) ∧ ys[k]? = some (.int .i64 (b k))) :
    plainF P N (.binOp .eql t x y u) ty f h = some (.bool (decide (∀ k, k ∈ List.range n → a k = b k)), h) := by
  unfold plainF
  have : allB (fun x => plainV (valN N f x)) (Op.binOp .eql t x y u).operands.toList = true := by simp [Op.operands, allB, hx, hy, px, py]
  rw [this]
  have e : pureRun P (execOp (valN N f) (bare (.binOp .eql t x y u) ty)) = some (.value (.bool (decide (∀ k, k ∈ List.range n → a k = b k)))) := by
    simp only [execOp, bare, hx, hy, pureRun_bind, pr_guard hg, Option.bind_some, binOp, Op.equal, Op.maxDepth, pr_eqArr hu hi, hs, pr_eqItems he _ hab, pr_pure]
  rw [e]
  rfl
end Go.Vm

namespace Go.Vm
open Go
variable {P : Program}
structure Loaded (w : World) (φ : Emb) (h : AHeap) : Prop where
  rel : HRel φ h w
  ro : ∀ i o, h.get i = some o → o.writable = false
theorem empty_get (i : Nat) : AHeap.empty.get i = none := by rw [AHeap.get_def, if_neg]; simp [AHeap.empty]
theorem Loaded.empty (φ : Emb) (w : World) : Loaded w φ AHeap.empty := ⟨empty_rel φ w, fun i o h => absurd (h.symm.trans (empty_get i)) (by simp)⟩
theorem Addr.add_zero (a : Addr) : a.add 0 = a := by simp [Addr.add]
structure More (h h1 : AHeap) (o : Option AObj) : Prop where
  get : h1.get h.next = o
  old : ∀ i, i < h.next → h1.get i = h.get i
  next : h1.next = h.next + 1
  floor : h1.floor = h.floor
theorem More.sub {h h1 : AHeap} {o : Option AObj} (hm : More h h1 o) : Sub All h h1 := fun i cs w gr _ hg => by rw [hm.old i (AHeap.lt_of_get hg)]; exact hg
theorem more_more {h : AHeap} (hf : h.next < far) (o : Option AObj) : More h (h.more o) o :=
  ⟨by rw [AHeap.get_more hf, if_pos rfl], fun i hi => by rw [AHeap.get_more hf, if_neg (by omega)], rfl, rfl⟩
theorem Loaded.more {w : World} {φ : Emb} {h : AHeap} (L : Loaded w φ h) (hn : h.next < far) (a : Addr) (c : Nat) (o : Option AObj) (ho : ∀ x, o = some x → ORel (φ.put h.next a c) (h.next + 1) w h.next x ∧ x.writable = false) :
    Loaded w (φ.put h.next a c) (h.more o) := by
  have hm := more_more hn o
  have hcase : ∀ i x, (h.more o).get i = some x → (i = h.next ∧ o = some x) ∨ (i < h.next ∧ h.get i = some x) := by
    intro i x hx
    have := AHeap.lt_of_get hx
    rw [hm.next] at this
    by_cases e : i = h.next
    · subst e; exact .inl ⟨rfl, by rw [← hm.get]; exact hx⟩
    · have hi : i < h.next := by omega
      exact .inr ⟨hi, by rw [← hm.old i hi]; exact hx⟩
  have hro : ∀ i x, (h.more o).get i = some x → x.writable = false := by
    intro i x hx
    rcases hcase i x hx with ⟨rfl, e⟩ | ⟨_, e⟩
    · exact (ho x e).2
    · exact L.ro i x e
  refine ⟨⟨?_, ?_, by rw [hm.next]; omega, ?_⟩, hro⟩
  · intro i x hx
    rw [hm.next]
    rcases hcase i x hx with ⟨rfl, e⟩ | ⟨hi, e⟩
    · exact (ho x e).1
    · exact (L.rel.live i x e).agree (φ.put_agree h.next a c) (by omega) hi
  · intro i j x y hx hy _ hw
    rw [hro i x hx] at hw
    cases hw
  · exact fresh_more L.rel.fresh hn o
theorem Loaded.slice {w : World} {φ : Emb} {h : AHeap} (L : Loaded w φ h) (hn : h.next < far) {s len cap : Nat} {a : Addr} (hlc : len ≤ cap) (hs : 0 < s) (cs : List Value) (hcl : cs.length = len * s)
    (hc : ∀ k v, cs[k]? = some v → okV φ h.next v ∧ oneCell v = true ∧ w.cell? (a.add k) = some (mapV φ v)) {c : Nat → Nat → Value} (hcc : ∀ k j, k < len → j < s → cs[k * s + j]? = some (c k j)) :
    ∃ φ' h' u, Loaded w φ' h' ∧ Sub All h h' ∧ h'.next = h.next + 1 ∧ h'.floor = h.floor ∧ Agree h.next φ φ' ∧ mapV φ' u = .slice (some a) len cap ∧ okV φ' h'.next u ∧ oneCell u = true ∧ Cells h' u s len c := by
  have hag := φ.put_agree h.next a cap
  have hu1 : mapV (φ.put h.next a cap) (.slice (some ⟨h.next, 0, none⟩) len unk) = .slice (some a) len cap := by
    simp [mapV, mapA, mapC, Emb.put, Addr.add_zero, unk]
  have hu2 : ∀ n, h.next < n → okV (φ.put h.next a cap) n (.slice (some ⟨h.next, 0, none⟩) len unk) := fun n h1 => by
    simp only [okV, mapC, Emb.put]
    refine ⟨h1, trivial, ?_⟩
    simp [unk]
    exact hlc
  by_cases hl : len = 0
  · subst hl
    have L' := L.more hn a cap none fun x e => by cases e
    have hm := more_more hn none
    exact ⟨_, _, _, L', hm.sub, hm.next, hm.floor, hag, hu1, hu2 _ (by rw [hm.next]; omega), rfl, _, _, rfl, fun x e => by cases e; rfl, .inl rfl⟩
  · have hm := more_more hn (some (.row cs false 0))
    have h0 : ∃ v, cs[0]? = some v := by
      have : 0 < cs.length := by rw [hcl]; exact Nat.mul_pos (by omega) hs
      exact ⟨cs[0], List.getElem?_eq_getElem this⟩
    obtain ⟨v0, hv0⟩ := h0
    have hcell := (hc 0 v0 hv0).2.2
    have hblk : ∃ c e fz, w.heap[a.block]? = some (.cells c e fz) := by
      rw [Addr.add_zero] at hcell
      unfold World.cell? at hcell
      split at hcell
      · rename_i c e fz hh; exact ⟨c, e, fz, hh⟩
      · cases hcell
    have L' := L.more hn a cap (some (.row cs false 0)) fun x e => by
      cases e
      refine ⟨?_, rfl⟩
      obtain ⟨c, e, fz, hh⟩ := hblk
      refine ⟨c, e, fz, by simpa [Emb.put] using hh, fun k v hk => ?_, fun h => by cases h⟩
      obtain ⟨k1, k2, k3⟩ := hc k v hk
      refine ⟨(mapV_agree hag (by omega) v k1).2, k2, ?_⟩
      have e1 : (φ.put h.next a cap).at_ h.next = a := by simp [Emb.put]
      rw [e1, k3, (mapV_agree hag (Nat.le_succ _) v k1).1]
    exact ⟨_, _, _, L', hm.sub, hm.next, hm.floor, hag, hu1, hu2 _ (by rw [hm.next]; omega), rfl, _, _, rfl, fun x e => by cases e; rfl,
      .inr ⟨h.next, 0, cs, false, 0, rfl, hm.get, fun k j hk hj => by rw [Nat.zero_add]; exact hcc k j hk hj⟩⟩
theorem law_calls {cf : CallF} (hcf : SoundCF P cf) {f : FuncId} {us : List Value} {h h' : AHeap} {φ : Emb} {w : World} {args : Array Value} {v : Value} (hr : cf (.func (.func f) #[] #[]) us h = some (v, h')) (hv : v = .bool true) (L : Loaded w φ h)
    (hus : ∀ u ∈ us, okV φ h.next u) (hargs : us.map (mapV φ) = args.toList) :
    Calls P f args w fun e w' => e = .returned (.bool true) ∧ w.keptBut w' (fun _ => False) ∧ ∀ b, b < w.heap.size → w'.heap[b]? = w.heap[b]? := by
  subst hv
  obtain ⟨_, hc⟩ := hcf _ _ _ _ _ hr φ w L.rel (by simp [okV, okFn, okA, okL]) hus
  have e : ((#[] : Array Value).toList ++ (us ++ (#[] : Array Value).toList)).map (mapV φ) = args.toList := by simpa using hargs
  rw [e] at hc
  refine callsIn_wide.1 (CallsIn.mono hc fun e w' he => ?_)
  obtain ⟨φ', rfl, _, X, _⟩ := he
  have hno : ∀ b, ¬ Wr φ h b := by
    rintro b ⟨i, o, hi, _, hw, _⟩
    rw [L.ro i o hi] at hw
    cases hw
  have hfr : ∀ b, b < w.heap.size → w'.heap[b]? = w.heap[b]? := fun b hb => X.frame b hb (hno b)
  refine ⟨by simp [mapV], ⟨X.same.1, X.same.2, fun i hi => ?_⟩, hfr⟩
  rw [hfr i hi]
  cases w.heap[i]? with
  | none => rfl
  | some o => cases o <;> simp
theorem trodAll_stays {H : Type} {enc : TypeId × Value → H} {w w' : World} {T : TypeId → Prop} (K : Kids P T) (hz : ∀ {t e : TypeId}, T t → P.underlying t = some (.slice e) → 0 < P.cellsOf e) (hfr : ∀ b, b < w.heap.size → w'.heap[b]? = w.heap[b]?) :
    ∀ {ts : List TypeId} {vs : List Value} {ds : List (DataW H)} {ps : List MemPlace}, (∀ t ∈ ts, T t) → DataW.TrodAll enc P w 0 (fun _ => true) true ts vs ds ps → DataW.TrodAll enc P w' 0 (fun b => decide (b < w.heap.size)) true ts vs ds ps
  | [], [], [], _, _, h => h
  | t :: ts, v :: vs, d :: ds, ps, hT, h => by
    have hlt := DataW.TrodAll.lt h
    obtain ⟨p, q, ⟨n, hn⟩, h2, rfl⟩ := h
    refine ⟨p, q, ⟨n, ?_⟩, trodAll_stays K hz hfr (fun t ht => hT t (List.mem_cons.2 (.inr ht))) h2, rfl⟩
    refine DataW.trod_stays K hz (fun h => by cases h) (hT t (List.mem_cons.2 (.inl rfl))) hn ?_ ?_
    · intro x hx
      have := hlt x (List.mem_append_left _ hx)
      cases x with
      | cell b off =>
        show w'.cell? _ = w.cell? _
        unfold World.cell?
        simp only
        rw [hfr b this]
      | map b => exact hfr b this
    · intro x hx
      simpa using hlt x (List.mem_append_left _ hx)
def numAt (w : World) (a : Addr) (i : Nat) : Int :=
  match w.cell? (a.add i) with
  | some (.int _ n) => n
  | _ => 0
def FlatT (P : Program) (k : IntKind) (e : TypeId) (s : Nat) : Prop :=
  ∀ {H : Type} (enc : TypeId × Value → H) (w : World) (base : Nat) (sp : Nat → Bool) (held : Bool) (fuel : Nat) (cs : List Value) (x : DataW H × List MemPlace), DataW.trod enc P w base sp held fuel e cs = some x →
    cs.length = s ∧ ∀ v ∈ cs, ∃ n, v = .int k n ∧ (Lit.int k n).wf = true
theorem flat_int {k : IntKind} {e : TypeId} (he : P.underlying e = some (.int k)) : FlatT P k e 1 := by
  intro H enc w base sp held fuel cs x h
  obtain ⟨n, rfl, _, hw⟩ := DataW.trod_int he h
  exact ⟨rfl, fun v hv => by simp only [List.mem_singleton] at hv; exact ⟨n, hv, hw⟩⟩
theorem Addr.add_add (a : Addr) (i j : Nat) : (a.add i).add j = a.add (i + j) := by
  unfold Addr.add
  by_cases hi : i = 0
  · subst hi; simp
  · by_cases hj : j = 0
    · subst hj; simp
    · rw [if_neg hi, if_neg hj, if_neg (by omega)]
      simp [Nat.add_assoc]
def FlatS (w : World) (k : IntKind) (s : Nat) (v : Value) : Prop :=
  v = .slice none 0 0 ∨ ∃ a len cap, v = .slice (some a) len cap ∧ len ≤ cap ∧ ∀ i, i < len * s → w.cell? (a.add i) = some (.int k (numAt w a i)) ∧ (Lit.int k (numAt w a i)).wf = true
theorem flat_slice {k : IntKind} {t e : TypeId} {s : Nat} {H : Type} {enc : TypeId × Value → H} {w : World} {base : Nat} {sp : Nat → Bool} {held : Bool} {fuel : Nat} {cs : List Value} {x : DataW H × List MemPlace}
    (ht : P.underlying t = some (.slice e)) (hs : P.cellsOf e = s) (h0 : 0 < s) (hf : FlatT P k e s) (h : DataW.trod enc P w base sp held fuel t cs = some x) : ∃ v, cs = [v] ∧ FlatS w k s v := by
  rcases DataW.trod_slice ht h with ⟨rfl, _⟩ | ⟨a, len, cap, elems, rest, n, _, rfl, _, _, hl, _, hlen, hel, _, _⟩
  · exact ⟨_, rfl, .inl rfl⟩
  · refine ⟨_, rfl, .inr ⟨a, len, cap, rfl, hl, fun i hi => ?_⟩⟩
    have hk : i / s < len := Nat.div_lt_of_lt_mul (by rw [Nat.mul_comm]; exact hi)
    have he := hel (i / s) hk
    rw [List.getElem?_eq_getElem (by omega), hs] at he
    simp only [Option.bind_eq_some_iff] at he
    obtain ⟨l, hl1, hl2⟩ := he
    obtain ⟨_, h3, h4⟩ := World.cells?_some hl1
    obtain ⟨_, h5⟩ := hf _ _ _ _ _ _ _ _ hl2
    have hm : i % s < s := Nat.mod_lt _ h0
    have h6 := h4 (i % s) hm
    rw [Addr.add_add, Nat.mul_comm, Nat.div_add_mod, List.getElem?_eq_getElem (by omega)] at h6
    obtain ⟨z, hz, hw⟩ := h5 _ (List.getElem_mem (by omega : i % s < l.length))
    rw [hz] at h6
    have : numAt w a i = z := by unfold numAt; rw [h6]
    rw [this]
    exact ⟨h6, hw⟩
theorem flat_struct2 {k : IntKind} {t : TypeId} {f0 f1 : Field} {s0 s1 : Nat} (ht : P.underlying t = some (.struct #[f0, f1])) (hc : P.cellsOf t = s0 + s1) (o0 : f0.offset = 0) (o1 : f1.offset = s0)
    (c0 : P.cellsOf f0.type = s0) (c1 : P.cellsOf f1.type = s1) (h0 : FlatT P k f0.type s0) (h1 : FlatT P k f1.type s1) : FlatT P k t (s0 + s1) := by
  intro H enc w base sp held fuel cs x h
  obtain ⟨y0, y1, n, _, hl, e0, e1⟩ := ChangeShapes.trod_struct2 ht h
  rw [hc] at hl
  obtain ⟨_, k0⟩ := h0 _ _ _ _ _ _ _ _ e0
  obtain ⟨_, k1⟩ := h1 _ _ _ _ _ _ _ _ e1
  rw [o0, c0, List.drop_zero] at k0
  rw [o1, c1, List.take_of_length_le (by rw [List.length_drop]; omega)] at k1
  refine ⟨hl, fun v hv => ?_⟩
  rw [← List.take_append_drop s0 cs] at hv
  rcases List.mem_append.1 hv with hv | hv
  · exact k0 v hv
  · exact k1 v hv
structure Step (w : World) (φ : Emb) (h : AHeap) (φ' : Emb) (h' : AHeap) (n : Nat) : Prop where
  ld : Loaded w φ' h'
  sub : Sub All h h'
  up : h.next ≤ h'.next
  next : h'.next ≤ h.next + n
  floor : h'.floor = h.floor
  agree : Agree h.next φ φ'
theorem Step.refl {w : World} {φ : Emb} {h : AHeap} (L : Loaded w φ h) : Step w φ h φ h 0 := ⟨L, Sub.refl, Nat.le_refl _, Nat.le_refl _, rfl, Agree.refl _ _⟩
theorem Step.trans {w : World} {φ φ' φ'' : Emb} {h h' h'' : AHeap} {n m : Nat} (a : Step w φ h φ' h' n) (b : Step w φ' h' φ'' h'' m) : Step w φ h φ'' h'' (n + m) :=
  ⟨b.ld, a.sub.trans b.sub, Nat.le_trans a.up b.up, by have := a.next; have := b.next; omega, by rw [b.floor, a.floor], a.agree.trans b.agree a.up⟩
structure Stands (φ : Emb) (h : AHeap) (u v : Value) : Prop where
  map : mapV φ u = v
  ok : okV φ h.next u
  one : oneCell u = true
theorem Stands.step {w : World} {φ φ' : Emb} {h h' : AHeap} {n : Nat} {u v : Value} (hs : Stands φ h u v) (hst : Step w φ h φ' h' n) : Stands φ' h' u v :=
  ⟨by rw [(mapV_agree hst.agree hst.up u hs.ok).1]; exact hs.map, (mapV_agree hst.agree hst.up u hs.ok).2, hs.one⟩
def Nums (h : AHeap) (k : IntKind) (s : Nat) (u : Value) : Prop := ∃ (m : Nat) (c : Nat → Nat → Int), Cells h u s m fun i j => .int k (c i j)
def vlen : Value → Nat
  | .slice _ n _ => n
  | _ => 0
theorem Loaded.flat {w : World} {φ : Emb} {h : AHeap} (L : Loaded w φ h) (hn : h.next < far) {k : IntKind} {s : Nat} {v : Value} (hs : 0 < s) (hf : FlatS w k s v) :
    ∃ φ' h' u, Step w φ h φ' h' 1 ∧ Stands φ' h' u v ∧ ∃ c : Nat → Nat → Int, Cells h' u s (vlen v) fun i j => .int k (c i j) := by
  rcases hf with rfl | ⟨a, len, cap, rfl, hl, hc⟩
  · exact ⟨φ, h, .slice none 0 0, ⟨L, Sub.refl, Nat.le_refl _, by omega, rfl, Agree.refl _ _⟩, ⟨by simp [mapV], by simp [okV], rfl⟩, fun _ _ => 0, none, 0, rfl, fun x e => (by cases e), .inl rfl⟩
  · have hlt : ∀ i j, i < len → j < s → i * s + j < len * s := fun i j hi hj => by
      have : (i + 1) * s ≤ len * s := Nat.mul_le_mul_right s hi
      rw [Nat.add_mul] at this
      omega
    obtain ⟨φ', h', u, q1, q2, q3, q4, q5, q6, q7, q8, q9⟩ := L.slice hn (a := a) hl hs ((List.range (len * s)).map fun i => .int k (numAt w a i)) (by simp) (fun i v hv => by
      rw [List.getElem?_map] at hv
      by_cases hi : i < len * s
      · rw [List.getElem?_range hi] at hv
        cases hv
        exact ⟨by simp [okV], rfl, by simpa [mapV] using (hc i hi).1⟩
      · rw [List.getElem?_eq_none (by simp; omega)] at hv
        cases hv) (c := fun i j => .int k (numAt w a (i * s + j))) (fun i j hi hj => by rw [List.getElem?_map, List.getElem?_range (hlt i j hi hj)]; rfl)
    exact ⟨φ', h', u, ⟨q1, q2, by omega, by omega, q4, q5⟩, ⟨q6, q7, q8⟩, _, q9⟩
theorem Loaded.gap {w : World} {φ : Emb} {h : AHeap} (L : Loaded w φ h) (hn : h.next < far) {v : Value} (hv : v = .slice none 0 0 ∨ ∃ a len cap, v = .slice (some a) len cap ∧ len ≤ cap) :
    ∃ φ' h' u, Step w φ h φ' h' 1 ∧ Stands φ' h' u v ∧ ∃ a c, u = .slice a (vlen v) c := by
  rcases hv with rfl | ⟨a, len, cap, rfl, hl⟩
  · exact ⟨φ, h, .slice none 0 0, ⟨L, Sub.refl, Nat.le_refl _, by omega, rfl, Agree.refl _ _⟩, ⟨by simp [mapV], by simp [okV], rfl⟩, _, _, rfl⟩
  · have hag := φ.put_agree h.next a cap
    have L' := L.more hn a cap none fun x e => by cases e
    have hm := more_more hn none
    refine ⟨_, _, .slice (some ⟨h.next, 0, none⟩) len unk, ⟨L', hm.sub, by rw [hm.next]; omega, by rw [hm.next]; omega, hm.floor, hag⟩, ⟨?_, ?_, rfl⟩, _, _, rfl⟩
    · simp [mapV, mapA, mapC, Emb.put, Addr.add_zero, unk]
    · simp only [okV, mapC, Emb.put]
      refine ⟨by rw [hm.next]; omega, trivial, ?_⟩
      simp [unk]
      exact hl
theorem Loaded.many {w : World} {k : IntKind} {s : Nat} (hs : 0 < s) : ∀ (vs : List Value) {φ : Emb} {h : AHeap}, Loaded w φ h → h.next + vs.length < far → (∀ v ∈ vs, FlatS w k s v) →
    ∃ (φ' : Emb) (h' : AHeap) (us : List Value), Step w φ h φ' h' vs.length ∧ us.length = vs.length ∧ ∀ (i : Nat) (u v : Value), us[i]? = some u → vs[i]? = some v → Stands φ' h' u v ∧ ∃ c : Nat → Nat → Int, Cells h' u s (vlen v) fun i j => .int k (c i j)
  | [], φ, h, L, _, _ => ⟨φ, h, [], Step.refl L, rfl, fun i u v hu => by simp at hu⟩
  | v :: vs, φ, h, L, hn, hv => by
    simp only [List.length_cons] at hn
    obtain ⟨φ1, h1, u, s1, t1, c1, r1⟩ := L.flat (by omega) hs (hv v (by simp))
    have := s1.next
    obtain ⟨φ2, h2, us, s2, l2, r2⟩ := Loaded.many hs vs s1.ld (by omega) fun x hx => hv x (by simp [hx])
    refine ⟨φ2, h2, u :: us, ?_, by simp [l2], ?_⟩
    · have := s1.trans s2
      rw [List.length_cons, Nat.add_comm]; exact this
    · intro i u' v' hu' hv'
      cases i with
      | zero =>
        simp only [List.getElem?_cons_zero, Option.some.injEq] at hu' hv'
        subst hu' hv'
        exact ⟨t1.step s2, c1, r1.mono s2.sub⟩
      | succ i =>
        simp only [List.getElem?_cons_succ] at hu' hv'
        exact r2 i u' v' hu' hv'
def dgW (X : Cx) (S : Nat → Prop) (h0 : AHeap) (v : Value) (want : Bool) (k : Kd) (d : Option Nat) (op : SOp) (L : List DI) (Q : WPost) (f : Fr) (h : AHeap) (m : List Nat) : Prop :=
  (isB want v = true ∧ dW X S h0 (⟨k, ⟨d, none, op⟩⟩ :: L) Q f h m) ∨ (isB want v = false ∧ dW X S h0 L Q (putF f d undef) h m)
section
variable {X : Cx} {S : Nat → Prop} {h0 h : AHeap} {k : Kd} {d : Option Nat} {g : Nat} {want : Bool} {op : SOp} {L : List DI} {Q : WPost} {f : Fr} {m : List Nat}
theorem d_guard : dW X S h0 (⟨k, ⟨d, some (g, want), op⟩⟩ :: L) Q f h m = dgW X S h0 (f g) want k d op L Q f h m := by
  simp [dW, Wd, guardOk, dgW]
theorem dg_tt : dgW X S h0 (.bool true) true k d op L Q f h m = dW X S h0 (⟨k, ⟨d, none, op⟩⟩ :: L) Q f h m := by simp [dgW, isB]
theorem dg_tf : dgW X S h0 (.bool true) false k d op L Q f h m = dW X S h0 L Q (putF f d undef) h m := by simp [dgW, isB]
theorem dg_ft : dgW X S h0 (.bool false) true k d op L Q f h m = dW X S h0 L Q (putF f d undef) h m := by simp [dgW, isB]
theorem dg_ff : dgW X S h0 (.bool false) false k d op L Q f h m = dW X S h0 (⟨k, ⟨d, none, op⟩⟩ :: L) Q f h m := by simp [dgW, isB]
end
end Go.Vm

namespace Go.Vm
variable {P : Program} {N : Nat} {f : Fr} {h : AHeap} {ty t u e : TypeId} {x y : Operand}
theorem pr_eqTwo {d : Nat} {f0 f1 : Field} {a0 a1 b0 b1 : Int} (ht : P.underlying t = some (.struct #[f0, f1])) (hp : P.stoodInHeld t = false) (n0 : f0.name ≠ "_") (n1 : f1.name ≠ "_") (o0 : f0.offset = 0) (o1 : f1.offset = 1)
    (e0 : P.underlying f0.type = some (.int .i64)) (e1 : P.underlying f1.type = some (.int .i64)) :
    pureRun P (Op.equalIn (d + 2) t (.agg ⟨[.int .i64 a0, .int .i64 a1]⟩) (.agg ⟨[.int .i64 b0, .int .i64 b1]⟩)) = some (decide (a0 = b0 ∧ a1 = b1)) := by
  have x0 : ∀ (p q : Int), pureRun P (part f0.type ⟨[.int .i64 p, .int .i64 q]⟩ f0.offset) = some (.int .i64 p) := fun p q => pr_part e0 (by rw [o0]; rfl)
  have x1 : ∀ (p q : Int), pureRun P (part f1.type ⟨[.int .i64 p, .int .i64 q]⟩ f1.offset) = some (.int .i64 q) := fun p q => pr_part e1 (by rw [o1]; rfl)
  rw [Op.equalIn]
  simp only [pureRun_bind, pr_under ht, Option.bind_some, pr_program, hp, Bool.false_eq_true, if_false]
  rw [← Array.forIn_toList]
  simp only [List.forIn_cons, List.forIn_nil, pureRun_bind, n0, n1, ne_eq, not_false_eq_true, if_true, x0, pr_eqInt e0, Option.bind_some]
  by_cases c0 : a0 = b0 <;> by_cases c1 : a1 = b1 <;> simp [c0, c1, pr_pure, pureRun_bind, x1, pr_eqInt e1]
theorem plainF_neqTwo {f0 f1 : Field} {a0 a1 b0 b1 : Int} (hx : valN N f x = .agg ⟨[.int .i64 a0, .int .i64 a1]⟩) (hy : valN N f y = .agg ⟨[.int .i64 b0, .int .i64 b1]⟩) (hg : P.eqGuardType P.depth t = false)
    (ht : P.underlying t = some (.struct #[f0, f1])) (hp : P.stoodInHeld t = false) (n0 : f0.name ≠ "_") (n1 : f1.name ≠ "_") (o0 : f0.offset = 0) (o1 : f1.offset = 1)
    (e0 : P.underlying f0.type = some (.int .i64)) (e1 : P.underlying f1.type = some (.int .i64)) :
    plainF P N (.binOp .neq t x y u) ty f h = some (.bool (!(decide (a0 = b0 ∧ a1 = b1))), h) := by
  unfold plainF
  have : allB (fun x => plainV (valN N f x)) (Op.binOp .neq t x y u).operands.toList = true := by simp [Op.operands, allB, hx, hy, plainV, plainE, plainCell]
  rw [this]
  have e : pureRun P (execOp (valN N f) (bare (.binOp .neq t x y u) ty)) = some (.value (.bool (!(decide (a0 = b0 ∧ a1 = b1))))) := by
    simp only [execOp, bare, hx, hy, pureRun_bind, pr_guard hg, Option.bind_some, binOp, Op.equal, Op.maxDepth, pr_eqTwo ht hp n0 n1 o0 o1 e0 e1, pr_pure]
  rw [e]
  rfl
end Go.Vm

namespace Go.Vm
variable {P : Program} {N : Nat} {f : Fr} {h : AHeap} {ty t u e : TypeId} {x y : Operand}
def keyV (p : Int × Int) : Value := .agg ⟨[.int .i64 p.1, .int .i64 p.2]⟩
def entE (x : (Int × Int) × Int × Nat) : MapEntry := ⟨keyV x.1, .int .i64 x.2.1, x.2.2⟩
structure Two (P : Program) (t : TypeId) : Prop where
  ex : ∃ f0 f1 : Field, P.underlying t = some (.struct #[f0, f1]) ∧ f0.name ≠ "_" ∧ f1.name ≠ "_" ∧ f0.offset = 0 ∧ f1.offset = 1 ∧ P.underlying f0.type = some (.int .i64) ∧ P.underlying f1.type = some (.int .i64)
  held : P.stoodInHeld t = false
theorem pr_checkInt {d : Nat} {b : Bool} {a : Int} (he : P.underlying e = some (.int .i64)) : pureRun P (Instr.checkKey b (d + 1) e (.int .i64 a)) = some () := by
  simp [Instr.checkKey, pureRun_bind, pr_under he, pr_pure]
theorem pr_checkTwo {d : Nat} {b : Bool} {p : Int × Int} (ht : Two P t) : pureRun P (Instr.checkKey b (d + 2) t (keyV p)) = some () := by
  obtain ⟨⟨f0, f1, h0, n0, n1, o0, o1, e0, e1⟩, _⟩ := ht
  have x0 : pureRun P (part f0.type ⟨[.int .i64 p.1, .int .i64 p.2]⟩ f0.offset) = some (.int .i64 p.1) := pr_part e0 (by rw [o0]; rfl)
  have x1 : pureRun P (part f1.type ⟨[.int .i64 p.1, .int .i64 p.2]⟩ f1.offset) = some (.int .i64 p.2) := pr_part e1 (by rw [o1]; rfl)
  unfold keyV
  rw [Instr.checkKey]
  simp only [pureRun_bind, pr_under h0, Option.bind_some]
  rw [← Array.forIn_toList]
  simp only [List.forIn_cons, List.forIn_nil, pureRun_bind, n0, n1, ne_eq, not_false_eq_true, if_true, x0, x1, pr_checkInt e0, pr_checkInt e1, Option.bind_some, pr_pure]
structure MapR (h : AHeap) (r : Nat) (l : List ((Int × Int) × Int × Nat)) (c : Nat) : Prop where
  get : h.get r = some (.map ⟨l.map entE⟩ c)
end Go.Vm

namespace Go.Vm
set_option linter.unusedSimpArgs false
set_option linter.unusedVariables false
variable {P : Program} {N : Nat} {f : Fr} {h : AHeap} {ty t u e : TypeId} {x y : Operand}
section
variable {α : Type} [DecidableEq α]
def entK (kv : α → Value) (x : α × Int × Nat) : MapEntry := ⟨kv x.1, .int .i64 x.2.1, x.2.2⟩
def findK (p : α) : List (α × Int × Nat) → Nat → Option (Nat × Value)
  | [], _ => none
  | x :: l, i => if p = x.1 then some (i, .int .i64 x.2.1) else findK p l (i + 1)
def valK (p : α) : List (α × Int × Nat) → Int
  | [] => 0
  | x :: l => if p = x.1 then x.2.1 else valK p l
structure KeyOk (P : Program) (t : TypeId) (kv : α → Value) : Prop where
  find : ∀ (p : α) (b : Bool) (l : List (α × Int × Nat)), findA P b t (kv p) ⟨l.map (entK kv)⟩ = some (findK p l 0)
  plain : ∀ p, plainV (kv p) = true
  same : ∀ p, Instr.sameBits 10000 (kv p) (kv p) = true
theorem find_of {kv : α → Value} (hc : ∀ (b : Bool) (p : α), pureRun P (Instr.checkKey b 10000 t (kv p)) = some ()) (he : ∀ p q, pureRun P (Op.equal t (kv p) (kv q)) = some (decide (p = q)))
    {fs : Array Field} (hu : P.underlying t = some (.struct fs)) (p : α) (b : Bool) (l : List (α × Int × Nat)) : findA P b t (kv p) ⟨l.map (entK kv)⟩ = some (findK p l 0) := by
  unfold findA
  rw [pureRun_bind, hc]
  show pureRun P (Instr.findKey t (kv p) (l.map (entK kv))) = _
  have ha : ∀ (l : List (α × Int × Nat)) (i : Nat), pureRun P (Instr.findAsking t (kv p) (l.map (entK kv)) i) = some (findK p l i) := by
    intro l
    induction l with
    | nil => intro i; simp [Instr.findAsking, findK, pr_pure]
    | cons x l ih =>
      intro i
      rw [List.map_cons, Instr.findAsking, pureRun_bind]
      show Option.bind (pureRun P (Op.equal t (kv p) (kv x.1))) _ = _
      rw [he, Option.bind_some]
      by_cases c : p = x.1
      · rw [decide_eq_true c]
        simp only [if_true, pr_pure, findK, c, entK]
      · rw [decide_eq_false c]
        simp only [Bool.false_eq_true, if_false, findK, c]
        exact ih (i + 1)
  have ha := ha l 0
  unfold Instr.findKey
  rw [pureRun_bind, pr_under hu, Option.bind_some]
  cases l with
  | nil => simp [Instr.findNow, findK, pr_pure]
  | cons x l =>
    have : Instr.findNow (.struct fs) (kv p) ((x :: l).map (entK kv)) 0 = none := by simp [Instr.findNow, Instr.sameNow]
    rw [this]
    exact ha
structure Ents (l : List (α × Int × Nat)) (c : Nat) (m : α → Int) : Prop where
  val : ∀ p, valK p l = m p
  keys : (l.map (·.1)).Nodup
  borns : (l.map (·.2.2)).Nodup
  below : ∀ x, x ∈ l → x.2.2 < c
def MapF (h : AHeap) (r : Nat) (kv : α → Value) (m : α → Int) : Prop := ∃ (l : List (α × Int × Nat)) (c : Nat), h.get r = some (.map ⟨l.map (entK kv)⟩ c) ∧ Ents l c m
def MapS (h : AHeap) (r : Nat) (kv : α → Value) (m : α → Int) (p : α) (b : Nat) : Prop := ∃ (l : List (α × Int × Nat)) (c i : Nat), h.get r = some (.map ⟨l.map (entK kv)⟩ c) ∧ Ents l c m ∧ l[i]? = some (p, m p, b)
variable {kv : α → Value} {m : α → Int} {r b : Nat} {p : α}
theorem MapS.map (hm : MapS h r kv m p b) : MapF h r kv m := by
  obtain ⟨l, c, i, h1, h2, _⟩ := hm
  exact ⟨l, c, h1, h2⟩
structure Turned (h g : AHeap) (r : Nat) : Prop where
  old : ∀ i, i ≠ r → g.get i = h.get i
  next : g.next = h.next
  floor : g.floor = h.floor
theorem Turned.sub {h1 : AHeap} (ht : Turned h h1 r) (hm : MapF h r kv m) : Sub All h h1 := by
  intro i cs rw' gr _ hi
  by_cases e : i = r
  · subst e
    obtain ⟨l, c, h2, _⟩ := hm
    rw [h2] at hi; cases hi
  · rw [ht.old i e]; exact hi
theorem MapF.keep {h g : AHeap} (hm : MapF h r kv m) (hg : g.get r = h.get r) : MapF g r kv m := by
  obtain ⟨l, c, h2, h3⟩ := hm
  exact ⟨l, c, by rw [hg]; exact h2, h3⟩
theorem MapF.shut (hm : MapF h r kv m) : MapF h.shutAll r kv m := hm.keep rfl
theorem MapF.lt (hm : MapF h r kv m) : r < h.next := by
  obtain ⟨l, c, h2, h3⟩ := hm
  exact AHeap.lt_of_get h2
theorem mkmapF (hf : h.next < far) (kv : α → Value) : ∃ g, (h.push (some (.map #[] 0)) fun i h => some (Value.map (some i), h)) = some (.map (some h.next), g) ∧ MapF g h.next kv (fun _ => 0) ∧ (∀ i, i < h.next → g.get i = h.get i) ∧ g.next = h.next + 1 ∧ g.floor = h.floor := by
  refine ⟨h.more (some (.map #[] 0)), by rw [push_run hf], ⟨[], 0, ?_, ?_⟩, ?_, rfl, rfl⟩
  · rw [AHeap.get_more hf]; simp
  · exact ⟨fun _ => rfl, by simp, by simp, fun x hx => by simp at hx⟩
  · intro i hi
    rw [AHeap.get_more hf, if_neg (by omega)]
end
def key2 (p : Int × Int) : Value := .agg ⟨[.int .i64 p.1, .int .i64 p.2]⟩
theorem keyOk2 (ht : Two P t) : KeyOk P t key2 := by
  have hc : ∀ (b : Bool) (p : Int × Int), pureRun P (Instr.checkKey b 10000 t (key2 p)) = some () := fun b p => pr_checkTwo ht
  obtain ⟨⟨f0, f1, h0, n0, n1, o0, o1, e0, e1⟩, hp⟩ := ht
  refine ⟨find_of hc (fun p q => ?_) h0, fun _ => rfl, fun p => ?_⟩
  · have : pureRun P (Op.equal t (key2 p) (key2 q)) = some (decide (p.1 = q.1 ∧ p.2 = q.2)) := by
      unfold key2
      simp only [Op.equal, Op.maxDepth]
      exact pr_eqTwo h0 hp n0 n1 o0 o1 e0 e1
    rw [this]
    congr 1
    apply decide_eq_decide.2
    exact ⟨fun ⟨a, b⟩ => Prod.ext a b, fun h => by rw [h]; exact ⟨rfl, rfl⟩⟩
  · simp [key2, Instr.sameBits]
end Go.Vm
