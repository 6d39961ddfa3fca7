/- Texts of the proofs of this seat, put together: VmLift, VmEq2, VmMap, VmMapK, VmLib, VmMapK3, VmMax3, VmSets, VmSetR. -/
import Derived.Test.YtjihegbffhhcaaaPk3
import Derived.ChangeArms
import Derived.ReadAgain
import Derived.ChangeOld
import Derived.ChangeSame

namespace Go.Vm
open Go
variable {P : Program}
structure Loaded (w : World) (φ : Emb) (h : AHeap) : Prop where
  rel : HRel φ h w
  ro : ∀ i o, h.get i = some o → o.writable = false
theorem empty_get (i : Nat) : AHeap.empty.get i = none := by rw [AHeap.get_def, if_neg]; simp [AHeap.empty]
theorem Loaded.empty (φ : Emb) (w : World) : Loaded w φ AHeap.empty := ⟨empty_rel φ w, fun i o h => absurd (h.symm.trans (empty_get i)) (by simp)⟩
theorem Addr.add_zero (a : Addr) : a.add 0 = a := by simp [Addr.add]
structure More (h h1 : AHeap) (o : Option AObj) : Prop where
  get : h1.get h.next = o
  old : ∀ i, i < h.next → h1.get i = h.get i
  next : h1.next = h.next + 1
  floor : h1.floor = h.floor
theorem More.sub {h h1 : AHeap} {o : Option AObj} (hm : More h h1 o) : Sub All h h1 := fun i cs w gr _ hg => by rw [hm.old i (AHeap.lt_of_get hg)]; exact hg
theorem more_more {h : AHeap} (hf : h.next < far) (o : Option AObj) : More h (h.more o) o :=
  ⟨by rw [AHeap.get_more hf, if_pos rfl], fun i hi => by rw [AHeap.get_more hf, if_neg (by omega)], rfl, rfl⟩
theorem Loaded.more {w : World} {φ : Emb} {h : AHeap} (L : Loaded w φ h) (hn : h.next < far) (a : Addr) (c : Nat) (o : Option AObj) (ho : ∀ x, o = some x → ORel (φ.put h.next a c) (h.next + 1) w h.next x ∧ x.writable = false) :
    Loaded w (φ.put h.next a c) (h.more o) := by
  have hm := more_more hn o
  have hcase : ∀ i x, (h.more o).get i = some x → (i = h.next ∧ o = some x) ∨ (i < h.next ∧ h.get i = some x) := by
    intro i x hx
    have := AHeap.lt_of_get hx
    rw [hm.next] at this
    by_cases e : i = h.next
    · subst e; exact .inl ⟨rfl, by rw [← hm.get]; exact hx⟩
    · have hi : i < h.next := by omega
      exact .inr ⟨hi, by rw [← hm.old i hi]; exact hx⟩
  have hro : ∀ i x, (h.more o).get i = some x → x.writable = false := by
    intro i x hx
    rcases hcase i x hx with ⟨rfl, e⟩ | ⟨_, e⟩
    · exact (ho x e).2
    · exact L.ro i x e
  refine ⟨⟨?_, ?_, by rw [hm.next]; omega, ?_⟩, hro⟩
  · intro i x hx
    rw [hm.next]
    rcases hcase i x hx with ⟨rfl, e⟩ | ⟨hi, e⟩
    · exact (ho x e).1
    · exact (L.rel.live i x e).agree (φ.put_agree h.next a c) (by omega) hi
  · intro i j x y hx hy _ hw
    rw [hro i x hx] at hw
    cases hw
  · exact fresh_more L.rel.fresh hn o
theorem Loaded.slice {w : World} {φ : Emb} {h : AHeap} (L : Loaded w φ h) (hn : h.next < far) {s len cap : Nat} {a : Addr} (hlc : len ≤ cap) (hs : 0 < s) (cs : List Value) (hcl : cs.length = len * s)
    (hc : ∀ k v, cs[k]? = some v → okV φ h.next v ∧ oneCell v = true ∧ w.cell? (a.add k) = some (mapV φ v)) {c : Nat → Nat → Value} (hcc : ∀ k j, k < len → j < s → cs[k * s + j]? = some (c k j)) :
    ∃ φ' h' u, Loaded w φ' h' ∧ Sub All h h' ∧ h'.next = h.next + 1 ∧ h'.floor = h.floor ∧ Agree h.next φ φ' ∧ mapV φ' u = .slice (some a) len cap ∧ okV φ' h'.next u ∧ oneCell u = true ∧ Cells h' u s len c := by
  have hag := φ.put_agree h.next a cap
  have hu1 : mapV (φ.put h.next a cap) (.slice (some ⟨h.next, 0, none⟩) len unk) = .slice (some a) len cap := by
    simp [mapV, mapA, mapC, Emb.put, Addr.add_zero, unk]
  have hu2 : ∀ n, h.next < n → okV (φ.put h.next a cap) n (.slice (some ⟨h.next, 0, none⟩) len unk) := fun n h1 => by
    simp only [okV, mapC, Emb.put]
    refine ⟨h1, trivial, ?_⟩
    simp [unk]
    exact hlc
  by_cases hl : len = 0
  · subst hl
    have L' := L.more hn a cap none fun x e => by cases e
    have hm := more_more hn none
    exact ⟨_, _, _, L', hm.sub, hm.next, hm.floor, hag, hu1, hu2 _ (by rw [hm.next]; omega), rfl, _, _, rfl, fun x e => by cases e; rfl, .inl rfl⟩
  · have hm := more_more hn (some (.row cs false 0))
    have h0 : ∃ v, cs[0]? = some v := by
      have : 0 < cs.length := by rw [hcl]; exact Nat.mul_pos (by omega) hs
      exact ⟨cs[0], List.getElem?_eq_getElem this⟩
    obtain ⟨v0, hv0⟩ := h0
    have hcell := (hc 0 v0 hv0).2.2
    have hblk : ∃ c e fz, w.heap[a.block]? = some (.cells c e fz) := by
      rw [Addr.add_zero] at hcell
      unfold World.cell? at hcell
      split at hcell
      · rename_i c e fz hh; exact ⟨c, e, fz, hh⟩
      · cases hcell
    have L' := L.more hn a cap (some (.row cs false 0)) fun x e => by
      cases e
      refine ⟨?_, rfl⟩
      obtain ⟨c, e, fz, hh⟩ := hblk
      refine ⟨c, e, fz, by simpa [Emb.put] using hh, fun k v hk => ?_, fun h => by cases h⟩
      obtain ⟨k1, k2, k3⟩ := hc k v hk
      refine ⟨(mapV_agree hag (by omega) v k1).2, k2, ?_⟩
      have e1 : (φ.put h.next a cap).at_ h.next = a := by simp [Emb.put]
      rw [e1, k3, (mapV_agree hag (Nat.le_succ _) v k1).1]
    exact ⟨_, _, _, L', hm.sub, hm.next, hm.floor, hag, hu1, hu2 _ (by rw [hm.next]; omega), rfl, _, _, rfl, fun x e => by cases e; rfl,
      .inr ⟨h.next, 0, cs, false, 0, rfl, hm.get, fun k j hk hj => by rw [Nat.zero_add]; exact hcc k j hk hj⟩⟩
theorem law_calls {cf : CallF} (hcf : SoundCF P cf) {f : FuncId} {us : List Value} {h h' : AHeap} {φ : Emb} {w : World} {args : Array Value} {v : Value} (hr : cf (.func (.func f) #[] #[]) us h = some (v, h')) (hv : v = .bool true) (L : Loaded w φ h)
    (hus : ∀ u ∈ us, okV φ h.next u) (hargs : us.map (mapV φ) = args.toList) :
    Calls P f args w fun e w' => e = .returned (.bool true) ∧ w.keptBut w' (fun _ => False) ∧ ∀ b, b < w.heap.size → w'.heap[b]? = w.heap[b]? := by
  subst hv
  obtain ⟨_, hc⟩ := hcf _ _ _ _ _ hr φ w L.rel (by simp [okV, okFn, okA, okL]) hus
  have e : ((#[] : Array Value).toList ++ (us ++ (#[] : Array Value).toList)).map (mapV φ) = args.toList := by simpa using hargs
  rw [e] at hc
  refine callsIn_wide.1 (CallsIn.mono hc fun e w' he => ?_)
  obtain ⟨φ', rfl, _, X, _⟩ := he
  have hno : ∀ b, ¬ Wr φ h b := by
    rintro b ⟨i, o, hi, _, hw, _⟩
    rw [L.ro i o hi] at hw
    cases hw
  have hfr : ∀ b, b < w.heap.size → w'.heap[b]? = w.heap[b]? := fun b hb => X.frame b hb (hno b)
  refine ⟨by simp [mapV], ⟨X.same.1, X.same.2, fun i hi => ?_⟩, hfr⟩
  rw [hfr i hi]
  cases w.heap[i]? with
  | none => rfl
  | some o => cases o <;> simp
theorem trodAll_stays {H : Type} {enc : TypeId × Value → H} {w w' : World} {T : TypeId → Prop} (K : Kids P T) (hz : ∀ {t e : TypeId}, T t → P.underlying t = some (.slice e) → 0 < P.cellsOf e) (hfr : ∀ b, b < w.heap.size → w'.heap[b]? = w.heap[b]?) :
    ∀ {ts : List TypeId} {vs : List Value} {ds : List (DataW H)} {ps : List MemPlace}, (∀ t ∈ ts, T t) → DataW.TrodAll enc P w 0 (fun _ => true) true ts vs ds ps → DataW.TrodAll enc P w' 0 (fun b => decide (b < w.heap.size)) true ts vs ds ps
  | [], [], [], _, _, h => h
  | t :: ts, v :: vs, d :: ds, ps, hT, h => by
    have hlt := DataW.TrodAll.lt h
    obtain ⟨p, q, ⟨n, hn⟩, h2, rfl⟩ := h
    refine ⟨p, q, ⟨n, ?_⟩, trodAll_stays K hz hfr (fun t ht => hT t (List.mem_cons.2 (.inr ht))) h2, rfl⟩
    refine DataW.trod_stays K hz (fun h => by cases h) (hT t (List.mem_cons.2 (.inl rfl))) hn ?_ ?_
    · intro x hx
      have := hlt x (List.mem_append_left _ hx)
      cases x with
      | cell b off =>
        show w'.cell? _ = w.cell? _
        unfold World.cell?
        simp only
        rw [hfr b this]
      | map b => exact hfr b this
    · intro x hx
      simpa using hlt x (List.mem_append_left _ hx)
def numAt (w : World) (a : Addr) (i : Nat) : Int :=
  match w.cell? (a.add i) with
  | some (.int _ n) => n
  | _ => 0
def FlatT (P : Program) (k : IntKind) (e : TypeId) (s : Nat) : Prop :=
  ∀ {H : Type} (enc : TypeId × Value → H) (w : World) (base : Nat) (sp : Nat → Bool) (held : Bool) (fuel : Nat) (cs : List Value) (x : DataW H × List MemPlace), DataW.trod enc P w base sp held fuel e cs = some x →
    cs.length = s ∧ ∀ v ∈ cs, ∃ n, v = .int k n ∧ (Lit.int k n).wf = true
theorem flat_int {k : IntKind} {e : TypeId} (he : P.underlying e = some (.int k)) : FlatT P k e 1 := by
  intro H enc w base sp held fuel cs x h
  obtain ⟨n, rfl, _, hw⟩ := DataW.trod_int he h
  exact ⟨rfl, fun v hv => by simp only [List.mem_singleton] at hv; exact ⟨n, hv, hw⟩⟩
theorem Addr.add_add (a : Addr) (i j : Nat) : (a.add i).add j = a.add (i + j) := by
  unfold Addr.add
  by_cases hi : i = 0
  · subst hi; simp
  · by_cases hj : j = 0
    · subst hj; simp
    · rw [if_neg hi, if_neg hj, if_neg (by omega)]
      simp [Nat.add_assoc]
def FlatS (w : World) (k : IntKind) (s : Nat) (v : Value) : Prop :=
  v = .slice none 0 0 ∨ ∃ a len cap, v = .slice (some a) len cap ∧ len ≤ cap ∧ ∀ i, i < len * s → w.cell? (a.add i) = some (.int k (numAt w a i)) ∧ (Lit.int k (numAt w a i)).wf = true
theorem flat_slice {k : IntKind} {t e : TypeId} {s : Nat} {H : Type} {enc : TypeId × Value → H} {w : World} {base : Nat} {sp : Nat → Bool} {held : Bool} {fuel : Nat} {cs : List Value} {x : DataW H × List MemPlace}
    (ht : P.underlying t = some (.slice e)) (hs : P.cellsOf e = s) (h0 : 0 < s) (hf : FlatT P k e s) (h : DataW.trod enc P w base sp held fuel t cs = some x) : ∃ v, cs = [v] ∧ FlatS w k s v := by
  rcases DataW.trod_slice ht h with ⟨rfl, _⟩ | ⟨a, len, cap, elems, rest, n, _, rfl, _, _, hl, _, hlen, hel, _, _⟩
  · exact ⟨_, rfl, .inl rfl⟩
  · refine ⟨_, rfl, .inr ⟨a, len, cap, rfl, hl, fun i hi => ?_⟩⟩
    have hk : i / s < len := Nat.div_lt_of_lt_mul (by rw [Nat.mul_comm]; exact hi)
    have he := hel (i / s) hk
    rw [List.getElem?_eq_getElem (by omega), hs] at he
    simp only [Option.bind_eq_some_iff] at he
    obtain ⟨l, hl1, hl2⟩ := he
    obtain ⟨_, h3, h4⟩ := World.cells?_some hl1
    obtain ⟨_, h5⟩ := hf _ _ _ _ _ _ _ _ hl2
    have hm : i % s < s := Nat.mod_lt _ h0
    have h6 := h4 (i % s) hm
    rw [Addr.add_add, Nat.mul_comm, Nat.div_add_mod, List.getElem?_eq_getElem (by omega)] at h6
    obtain ⟨z, hz, hw⟩ := h5 _ (List.getElem_mem (by omega : i % s < l.length))
    rw [hz] at h6
    have : numAt w a i = z := by unfold numAt; rw [h6]
    rw [this]
    exact ⟨h6, hw⟩
theorem flat_struct2 {k : IntKind} {t : TypeId} {f0 f1 : Field} {s0 s1 : Nat} (ht : P.underlying t = some (.struct #[f0, f1])) (hc : P.cellsOf t = s0 + s1) (o0 : f0.offset = 0) (o1 : f1.offset = s0)
    (c0 : P.cellsOf f0.type = s0) (c1 : P.cellsOf f1.type = s1) (h0 : FlatT P k f0.type s0) (h1 : FlatT P k f1.type s1) : FlatT P k t (s0 + s1) := by
  intro H enc w base sp held fuel cs x h
  obtain ⟨y0, y1, n, _, hl, e0, e1⟩ := ChangeShapes.trod_struct2 ht h
  rw [hc] at hl
  obtain ⟨_, k0⟩ := h0 _ _ _ _ _ _ _ _ e0
  obtain ⟨_, k1⟩ := h1 _ _ _ _ _ _ _ _ e1
  rw [o0, c0, List.drop_zero] at k0
  rw [o1, c1, List.take_of_length_le (by rw [List.length_drop]; omega)] at k1
  refine ⟨hl, fun v hv => ?_⟩
  rw [← List.take_append_drop s0 cs] at hv
  rcases List.mem_append.1 hv with hv | hv
  · exact k0 v hv
  · exact k1 v hv
structure Step (w : World) (φ : Emb) (h : AHeap) (φ' : Emb) (h' : AHeap) (n : Nat) : Prop where
  ld : Loaded w φ' h'
  sub : Sub All h h'
  up : h.next ≤ h'.next
  next : h'.next ≤ h.next + n
  floor : h'.floor = h.floor
  agree : Agree h.next φ φ'
theorem Step.refl {w : World} {φ : Emb} {h : AHeap} (L : Loaded w φ h) : Step w φ h φ h 0 := ⟨L, Sub.refl, Nat.le_refl _, Nat.le_refl _, rfl, Agree.refl _ _⟩
theorem Step.trans {w : World} {φ φ' φ'' : Emb} {h h' h'' : AHeap} {n m : Nat} (a : Step w φ h φ' h' n) (b : Step w φ' h' φ'' h'' m) : Step w φ h φ'' h'' (n + m) :=
  ⟨b.ld, a.sub.trans b.sub, Nat.le_trans a.up b.up, by have := a.next; have := b.next; omega, by rw [b.floor, a.floor], a.agree.trans b.agree a.up⟩
structure Stands (φ : Emb) (h : AHeap) (u v : Value) : Prop where
  map : mapV φ u = v
  ok : okV φ h.next u
  one : oneCell u = true
theorem Stands.step {w : World} {φ φ' : Emb} {h h' : AHeap} {n : Nat} {u v : Value} (hs : Stands φ h u v) (hst : Step w φ h φ' h' n) : Stands φ' h' u v :=
  ⟨by rw [(mapV_agree hst.agree hst.up u hs.ok).1]; exact hs.map, (mapV_agree hst.agree hst.up u hs.ok).2, hs.one⟩
def vlen : Value → Nat
  | .slice _ n _ => n
  | _ => 0
theorem Loaded.flat {w : World} {φ : Emb} {h : AHeap} (L : Loaded w φ h) (hn : h.next < far) {k : IntKind} {s : Nat} {v : Value} (hs : 0 < s) (hf : FlatS w k s v) :
    ∃ φ' h' u, Step w φ h φ' h' 1 ∧ Stands φ' h' u v ∧ ∃ c : Nat → Nat → Int, Cells h' u s (vlen v) fun i j => .int k (c i j) := by
  rcases hf with rfl | ⟨a, len, cap, rfl, hl, hc⟩
  · exact ⟨φ, h, .slice none 0 0, ⟨L, Sub.refl, Nat.le_refl _, by omega, rfl, Agree.refl _ _⟩, ⟨by simp [mapV], by simp [okV], rfl⟩, fun _ _ => 0, none, 0, rfl, fun x e => (by cases e), .inl rfl⟩
  · have hlt : ∀ i j, i < len → j < s → i * s + j < len * s := fun i j hi hj => by
      have : (i + 1) * s ≤ len * s := Nat.mul_le_mul_right s hi
      rw [Nat.add_mul] at this
      omega
    obtain ⟨φ', h', u, q1, q2, q3, q4, q5, q6, q7, q8, q9⟩ := L.slice hn (a := a) hl hs ((List.range (len * s)).map fun i => .int k (numAt w a i)) (by simp) (fun i v hv => by
      rw [List.getElem?_map] at hv
      by_cases hi : i < len * s
      · rw [List.getElem?_range hi] at hv
        cases hv
        exact ⟨by simp [okV], rfl, by simpa [mapV] using (hc i hi).1⟩
      · rw [List.getElem?_eq_none (by simp; omega)] at hv
        cases hv) (c := fun i j => .int k (numAt w a (i * s + j))) (fun i j hi hj => by rw [List.getElem?_map, List.getElem?_range (hlt i j hi hj)]; rfl)
    exact ⟨φ', h', u, ⟨q1, q2, by omega, by omega, q4, q5⟩, ⟨q6, q7, q8⟩, _, q9⟩
def dgW (X : Cx) (S : Nat → Prop) (h0 : AHeap) (v : Value) (want : Bool) (k : Kd) (d : Option Nat) (op : SOp) (L : List DI) (Q : WPost) (f : Fr) (h : AHeap) (m : List Nat) : Prop :=
  (isB want v = true ∧ dW X S h0 (⟨k, ⟨d, none, op⟩⟩ :: L) Q f h m) ∨ (isB want v = false ∧ dW X S h0 L Q (putF f d undef) h m)
section
variable {X : Cx} {S : Nat → Prop} {h0 h : AHeap} {k : Kd} {d : Option Nat} {g : Nat} {want : Bool} {op : SOp} {L : List DI} {Q : WPost} {f : Fr} {m : List Nat}
theorem d_guard : dW X S h0 (⟨k, ⟨d, some (g, want), op⟩⟩ :: L) Q f h m = dgW X S h0 (f g) want k d op L Q f h m := by
  simp [dW, Wd, guardOk, dgW]
theorem dg_tt : dgW X S h0 (.bool true) true k d op L Q f h m = dW X S h0 (⟨k, ⟨d, none, op⟩⟩ :: L) Q f h m := by simp [dgW, isB]
theorem dg_tf : dgW X S h0 (.bool true) false k d op L Q f h m = dW X S h0 L Q (putF f d undef) h m := by simp [dgW, isB]
theorem dg_ft : dgW X S h0 (.bool false) true k d op L Q f h m = dW X S h0 L Q (putF f d undef) h m := by simp [dgW, isB]
theorem dg_ff : dgW X S h0 (.bool false) false k d op L Q f h m = dW X S h0 (⟨k, ⟨d, none, op⟩⟩ :: L) Q f h m := by simp [dgW, isB]
end
end Go.Vm

namespace Go.Vm
variable {P : Program} {N : Nat} {f : Fr} {h : AHeap} {ty t u e : TypeId} {x y : Operand}
theorem pr_eqTwo {d : Nat} {f0 f1 : Field} {a0 a1 b0 b1 : Int} (ht : P.underlying t = some (.struct #[f0, f1])) (hp : P.stoodInHeld t = false) (n0 : f0.name ≠ "_") (n1 : f1.name ≠ "_") (o0 : f0.offset = 0) (o1 : f1.offset = 1)
    (e0 : P.underlying f0.type = some (.int .i64)) (e1 : P.underlying f1.type = some (.int .i64)) :
    pureRun P (Op.equalIn (d + 2) t (.agg ⟨[.int .i64 a0, .int .i64 a1]⟩) (.agg ⟨[.int .i64 b0, .int .i64 b1]⟩)) = some (decide (a0 = b0 ∧ a1 = b1)) := by
  have x0 : ∀ (p q : Int), pureRun P (part f0.type ⟨[.int .i64 p, .int .i64 q]⟩ f0.offset) = some (.int .i64 p) := fun p q => pr_part e0 (by rw [o0]; rfl)
  have x1 : ∀ (p q : Int), pureRun P (part f1.type ⟨[.int .i64 p, .int .i64 q]⟩ f1.offset) = some (.int .i64 q) := fun p q => pr_part e1 (by rw [o1]; rfl)
  rw [Op.equalIn]
  simp only [pureRun_bind, pr_under ht, Option.bind_some, pr_program, hp, Bool.false_eq_true, if_false]
  rw [← Array.forIn_toList]
  simp only [List.forIn_cons, List.forIn_nil, pureRun_bind, n0, n1, ne_eq, not_false_eq_true, if_true, x0, pr_eqInt e0, Option.bind_some]
  by_cases c0 : a0 = b0 <;> by_cases c1 : a1 = b1 <;> simp [c0, c1, pr_pure, pureRun_bind, x1, pr_eqInt e1]
end Go.Vm

namespace Go.Vm
variable {P : Program} {N : Nat} {f : Fr} {h : AHeap} {ty t u e : TypeId} {x y : Operand}
def keyV (p : Int × Int) : Value := .agg ⟨[.int .i64 p.1, .int .i64 p.2]⟩
def entE (x : (Int × Int) × Int × Nat) : MapEntry := ⟨keyV x.1, .int .i64 x.2.1, x.2.2⟩
structure Two (P : Program) (t : TypeId) : Prop where
  ex : ∃ f0 f1 : Field, P.underlying t = some (.struct #[f0, f1]) ∧ f0.name ≠ "_" ∧ f1.name ≠ "_" ∧ f0.offset = 0 ∧ f1.offset = 1 ∧ P.underlying f0.type = some (.int .i64) ∧ P.underlying f1.type = some (.int .i64)
  held : P.stoodInHeld t = false
theorem pr_checkInt {d : Nat} {b : Bool} {a : Int} (he : P.underlying e = some (.int .i64)) : pureRun P (Instr.checkKey b (d + 1) e (.int .i64 a)) = some () := by
  simp [Instr.checkKey, pureRun_bind, pr_under he, pr_pure]
theorem pr_checkTwo {d : Nat} {b : Bool} {p : Int × Int} (ht : Two P t) : pureRun P (Instr.checkKey b (d + 2) t (keyV p)) = some () := by
  obtain ⟨⟨f0, f1, h0, n0, n1, o0, o1, e0, e1⟩, _⟩ := ht
  have x0 : pureRun P (part f0.type ⟨[.int .i64 p.1, .int .i64 p.2]⟩ f0.offset) = some (.int .i64 p.1) := pr_part e0 (by rw [o0]; rfl)
  have x1 : pureRun P (part f1.type ⟨[.int .i64 p.1, .int .i64 p.2]⟩ f1.offset) = some (.int .i64 p.2) := pr_part e1 (by rw [o1]; rfl)
  unfold keyV
  rw [Instr.checkKey]
  simp only [pureRun_bind, pr_under h0, Option.bind_some]
  rw [← Array.forIn_toList]
  simp only [List.forIn_cons, List.forIn_nil, pureRun_bind, n0, n1, ne_eq, not_false_eq_true, if_true, x0, x1, pr_checkInt e0, pr_checkInt e1, Option.bind_some, pr_pure]
structure MapR (h : AHeap) (r : Nat) (l : List ((Int × Int) × Int × Nat)) (c : Nat) : Prop where
  get : h.get r = some (.map ⟨l.map entE⟩ c)
end Go.Vm

namespace Go.Vm
set_option linter.unusedSimpArgs false
set_option linter.unusedVariables false
variable {P : Program} {N : Nat} {f : Fr} {h : AHeap} {ty t u e : TypeId} {x y : Operand}
section
variable {α : Type} [DecidableEq α]
def entK (kv : α → Value) (x : α × Int × Nat) : MapEntry := ⟨kv x.1, .int .i64 x.2.1, x.2.2⟩
def findK (p : α) : List (α × Int × Nat) → Nat → Option (Nat × Value)
  | [], _ => none
  | x :: l, i => if p = x.1 then some (i, .int .i64 x.2.1) else findK p l (i + 1)
def valK (p : α) : List (α × Int × Nat) → Int
  | [] => 0
  | x :: l => if p = x.1 then x.2.1 else valK p l
structure KeyOk (P : Program) (t : TypeId) (kv : α → Value) : Prop where
  find : ∀ (p : α) (b : Bool) (l : List (α × Int × Nat)), findA P b t (kv p) ⟨l.map (entK kv)⟩ = some (findK p l 0)
  plain : ∀ p, plainV (kv p) = true
  same : ∀ p, Instr.sameBits 10000 (kv p) (kv p) = true
theorem find_of {kv : α → Value} (hc : ∀ (b : Bool) (p : α), pureRun P (Instr.checkKey b 10000 t (kv p)) = some ()) (he : ∀ p q, pureRun P (Op.equal t (kv p) (kv q)) = some (decide (p = q)))
    {fs : Array Field} (hu : P.underlying t = some (.struct fs)) (p : α) (b : Bool) (l : List (α × Int × Nat)) : findA P b t (kv p) ⟨l.map (entK kv)⟩ = some (findK p l 0) := by
  unfold findA
  rw [pureRun_bind, hc]
  show pureRun P (Instr.findKey t (kv p) (l.map (entK kv))) = _
  have ha : ∀ (l : List (α × Int × Nat)) (i : Nat), pureRun P (Instr.findAsking t (kv p) (l.map (entK kv)) i) = some (findK p l i) := by
    intro l
    induction l with
    | nil => intro i; simp [Instr.findAsking, findK, pr_pure]
    | cons x l ih =>
      intro i
      rw [List.map_cons, Instr.findAsking, pureRun_bind]
      show Option.bind (pureRun P (Op.equal t (kv p) (kv x.1))) _ = _
      rw [he, Option.bind_some]
      by_cases c : p = x.1
      · rw [decide_eq_true c]
        simp only [if_true, pr_pure, findK, c, entK]
      · rw [decide_eq_false c]
        simp only [Bool.false_eq_true, if_false, findK, c]
        exact ih (i + 1)
  have ha := ha l 0
  unfold Instr.findKey
  rw [pureRun_bind, pr_under hu, Option.bind_some]
  cases l with
  | nil => simp [Instr.findNow, findK, pr_pure]
  | cons x l =>
    have : Instr.findNow (.struct fs) (kv p) ((x :: l).map (entK kv)) 0 = none := by simp [Instr.findNow, Instr.sameNow]
    rw [this]
    exact ha
theorem findK_none {p : α} : ∀ (l : List (α × Int × Nat)) (i : Nat), findK p l i = none → p ∉ l.map (·.1)
  | [], _, _ => by simp
  | x :: l, i, h => by
    simp only [findK] at h
    by_cases c : p = x.1
    · rw [if_pos c] at h; cases h
    · rw [if_neg c] at h
      have := findK_none l (i + 1) h
      simp only [List.map_cons, List.mem_cons, not_or]
      exact ⟨c, this⟩
theorem findK_some {p : α} : ∀ (l : List (α × Int × Nat)) (i j : Nat) (v : Value), findK p l i = some (j, v) → ∃ c, i ≤ j ∧ l[j - i]? = some (p, valK p l, c) ∧ v = .int .i64 (valK p l)
  | [], _, _, _, h => by cases h
  | x :: l, i, j, v, h => by
    simp only [findK] at h
    by_cases c : p = x.1
    · rw [if_pos c] at h
      cases h
      refine ⟨x.2.2, Nat.le_refl _, ?_, ?_⟩
      · rw [Nat.sub_self, List.getElem?_cons_zero]
        simp [valK, c]
      · simp [valK, c]
    · rw [if_neg c] at h
      obtain ⟨b, h1, h2, h3⟩ := findK_some l (i + 1) j v h
      refine ⟨b, by omega, ?_, ?_⟩
      · have : j - i = (j - (i + 1)) + 1 := by omega
        rw [this, List.getElem?_cons_succ, h2]
        simp [valK, c]
      · rw [h3]; simp [valK, c]
theorem valK_none {p : α} : ∀ (l : List (α × Int × Nat)), p ∉ l.map (·.1) → valK p l = 0
  | [], _ => rfl
  | x :: l, h => by
    simp only [List.map_cons, List.mem_cons, not_or] at h
    simp only [valK, if_neg h.1]
    exact valK_none l h.2
theorem valK_app {p q : α} {v : Int} {c : Nat} : ∀ (l : List (α × Int × Nat)), q ∉ l.map (·.1) → valK p (l ++ [(q, v, c)]) = if p = q then v else valK p l
  | [], _ => by simp [valK]
  | x :: l, h => by
    simp only [List.map_cons, List.mem_cons, not_or] at h
    rw [List.cons_append]
    simp only [valK]
    by_cases e : p = x.1
    · have : p ≠ q := fun e' => h.1 (e' ▸ e)
      rw [if_pos e, if_pos e, if_neg this]
    · rw [if_neg e, if_neg e, valK_app l h.2]
theorem valK_set {p q : α} {v : Int} : ∀ (l : List (α × Int × Nat)) (i : Nat) (w : Int) (c : Nat), (l.map (·.1)).Nodup → l[i]? = some (q, w, c) → valK p (l.set i (q, v, c)) = if p = q then v else valK p l
  | [], _, _, _, _, h => by simp at h
  | x :: l, 0, w, c, hn, h => by
    rw [List.getElem?_cons_zero] at h
    cases h
    simp only [List.set_cons_zero, valK]
    by_cases e : p = q
    · rw [if_pos e, if_pos e]
    · rw [if_neg e, if_neg e, if_neg e]
  | x :: l, i + 1, w, c, hn, h => by
    rw [List.getElem?_cons_succ] at h
    rw [List.map_cons, List.nodup_cons] at hn
    simp only [List.set_cons_succ, valK]
    have hq : q ∈ l.map (·.1) := List.mem_map.2 ⟨_, List.mem_of_getElem? h, rfl⟩
    by_cases e : p = x.1
    · have : p ≠ q := fun e' => hn.1 (by rw [← e, e']; exact hq)
      rw [if_pos e, if_pos e, if_neg this]
    · rw [if_neg e, if_neg e, valK_set l i w c hn.2 h]
structure Ents (l : List (α × Int × Nat)) (c : Nat) (m : α → Int) : Prop where
  val : ∀ p, valK p l = m p
  keys : (l.map (·.1)).Nodup
  borns : (l.map (·.2.2)).Nodup
  below : ∀ x, x ∈ l → x.2.2 < c
def MapF (h : AHeap) (r : Nat) (kv : α → Value) (m : α → Int) : Prop := ∃ (l : List (α × Int × Nat)) (c : Nat), h.get r = some (.map ⟨l.map (entK kv)⟩ c) ∧ Ents l c m
def MapS (h : AHeap) (r : Nat) (kv : α → Value) (m : α → Int) (p : α) (b : Nat) : Prop := ∃ (l : List (α × Int × Nat)) (c i : Nat), h.get r = some (.map ⟨l.map (entK kv)⟩ c) ∧ Ents l c m ∧ l[i]? = some (p, m p, b)
variable {kv : α → Value} {m : α → Int} {r b : Nat} {p : α}
theorem MapS.map (hm : MapS h r kv m p b) : MapF h r kv m := by
  obtain ⟨l, c, i, h1, h2, _⟩ := hm
  exact ⟨l, c, h1, h2⟩
structure Turned (h g : AHeap) (r : Nat) : Prop where
  old : ∀ i, i ≠ r → g.get i = h.get i
  next : g.next = h.next
  floor : g.floor = h.floor
theorem Turned.sub {h1 : AHeap} (ht : Turned h h1 r) (hm : MapF h r kv m) : Sub All h h1 := by
  intro i cs rw' gr _ hi
  by_cases e : i = r
  · subst e
    obtain ⟨l, c, h2, _⟩ := hm
    rw [h2] at hi; cases hi
  · rw [ht.old i e]; exact hi
theorem MapF.keep {h g : AHeap} (hm : MapF h r kv m) (hg : g.get r = h.get r) : MapF g r kv m := by
  obtain ⟨l, c, h2, h3⟩ := hm
  exact ⟨l, c, by rw [hg]; exact h2, h3⟩
theorem MapF.shut (hm : MapF h r kv m) : MapF h.shutAll r kv m := hm.keep rfl
theorem MapF.lt (hm : MapF h r kv m) : r < h.next := by
  obtain ⟨l, c, h2, h3⟩ := hm
  exact AHeap.lt_of_get h2
theorem lookupF (hk : KeyOk P t kv) (hm : MapF h r kv m) (p : α) : lookupA P t (.int .i64 0) false h (.map (some r)) (kv p) = some (.int .i64 (m p), h) := by
  obtain ⟨l, c, hg, he⟩ := hm
  have hz : plainV (.int .i64 0) = true := rfl
  unfold lookupA amap
  simp only [hg, hk.plain, hz, Bool.and_self, cond_true, hk.find, ← he.val p]
  cases hf : findK p l 0 with
  | none =>
    have := valK_none l (findK_none l 0 hf)
    simp only [cond_false, this]
  | some q =>
    obtain ⟨i, v⟩ := q
    obtain ⟨_, _, _, rfl⟩ := findK_some l 0 i v hf
    have : plainV (.int .i64 (valK p l)) = true := rfl
    simp only [this, cond_true, cond_false]
theorem setMap_run {es : Array MapEntry} {c : Nat} {v : Value} (hr : r < h.next) (hf : h.next ≤ far) : ∃ g, setMap h r es c v = some (v, g) ∧ g.get r = some (.map es c) ∧ Turned h g r := by
  refine ⟨h.with r (some (.map es c)), ?_, ?_, ?_, rfl, rfl⟩
  · unfold setMap; rw [AHeap.put_eq]
  · rw [AHeap.get_with hr hf, if_pos rfl]
  · intro i hi
    rw [AHeap.get_with hr hf, if_neg (Ne.symm hi)]
theorem mkmapF (hf : h.next < far) (kv : α → Value) : ∃ g, (h.push (some (.map #[] 0)) fun i h => some (Value.map (some i), h)) = some (.map (some h.next), g) ∧ MapF g h.next kv (fun _ => 0) ∧ (∀ i, i < h.next → g.get i = h.get i) ∧ g.next = h.next + 1 ∧ g.floor = h.floor := by
  refine ⟨h.more (some (.map #[] 0)), by rw [push_run hf], ⟨[], 0, ?_, ?_⟩, ?_, rfl, rfl⟩
  · rw [AHeap.get_more hf]; simp
  · exact ⟨fun _ => rfl, by simp, by simp, fun x hx => by simp at hx⟩
  · intro i hi
    rw [AHeap.get_more hf, if_neg (by omega)]
end
def key2 (p : Int × Int) : Value := .agg ⟨[.int .i64 p.1, .int .i64 p.2]⟩
theorem keyOk2 (ht : Two P t) : KeyOk P t key2 := by
  have hc : ∀ (b : Bool) (p : Int × Int), pureRun P (Instr.checkKey b 10000 t (key2 p)) = some () := fun b p => pr_checkTwo ht
  obtain ⟨⟨f0, f1, h0, n0, n1, o0, o1, e0, e1⟩, hp⟩ := ht
  refine ⟨find_of hc (fun p q => ?_) h0, fun _ => rfl, fun p => ?_⟩
  · have : pureRun P (Op.equal t (key2 p) (key2 q)) = some (decide (p.1 = q.1 ∧ p.2 = q.2)) := by
      unfold key2
      simp only [Op.equal, Op.maxDepth]
      exact pr_eqTwo h0 hp n0 n1 o0 o1 e0 e1
    rw [this]
    congr 1
    apply decide_eq_decide.2
    exact ⟨fun ⟨a, b⟩ => Prod.ext a b, fun h => by rw [h]; exact ⟨rfl, rfl⟩⟩
  · simp [key2, Instr.sameBits]
end Go.Vm

namespace Go.Vm
theorem rn0 : type_of% @W_skip ∧ type_of% @W_ret ∧ type_of% @W_exit ∧ type_of% @W_seq ∧ type_of% @W_block ∧ type_of% @then_norm' ∧ type_of% @then_exit' ∧ type_of% @then_ret' ∧ type_of% @block_norm' ∧ type_of% @block_ret' ∧ type_of% @block_exit' ∧ type_of% @W_cond := And.intro @W_skip (And.intro @W_ret (And.intro @W_exit (And.intro @W_seq (And.intro @W_block (And.intro @then_norm' (And.intro @then_exit' (And.intro @then_ret' (And.intro @block_norm' (And.intro @block_ret' (And.intro @block_exit' (@W_cond)))))))))))
theorem rn1 : type_of% @cond_true' ∧ type_of% @cond_false' ∧ type_of% @W_ops ∧ type_of% @ops_nil ∧ type_of% @ops_cons ∧ type_of% @ops_guard ∧ type_of% @step_some ∧ type_of% @g_tt ∧ type_of% @g_tf ∧ type_of% @g_ft ∧ type_of% @g_ff ∧ type_of% @put_some := And.intro @cond_true' (And.intro @cond_false' (And.intro @W_ops (And.intro @ops_nil (And.intro @ops_cons (And.intro @ops_guard (And.intro @step_some (And.intro @g_tt (And.intro @g_tf (And.intro @g_ft (And.intro @g_ff (@put_some)))))))))))
theorem rn2 : type_of% @put_none ∧ type_of% @upd_ite ∧ type_of% @val_tmp ∧ type_of% @fr0_zero ∧ type_of% @fr0_succ ∧ type_of% @ret_ret ∧ type_of% @ret_norm ∧ type_of% @res_tmp ∧ type_of% @ex_some ∧ type_of% @val_const ∧ type_of% @val_func ∧ type_of% @vals_nil := And.intro @put_none (And.intro @upd_ite (And.intro @val_tmp (And.intro @fr0_zero (And.intro @fr0_succ (And.intro @ret_ret (And.intro @ret_norm (And.intro @res_tmp (And.intro @ex_some (And.intro @val_const (And.intro @val_func (@vals_nil)))))))))))
theorem rn3 : type_of% @vals_cons ∧ type_of% @d_nil ∧ type_of% @d_free ∧ type_of% @d_rd1 ∧ type_of% @d_rd ∧ type_of% @d_up ∧ type_of% @d_any ∧ type_of% @same_some ∧ type_of% @up_some ∧ type_of% @all_reads ∧ type_of% @Sub.refl ∧ type_of% @x_mov := And.intro @vals_cons (And.intro @d_nil (And.intro @d_free (And.intro @d_rd1 (And.intro @d_rd (And.intro @d_up (And.intro @d_any (And.intro @same_some (And.intro @up_some (And.intro @all_reads (And.intro @Sub.refl (@x_mov)))))))))))
theorem rn4 : type_of% @x_pick ∧ type_of% @pick_t ∧ type_of% @pick_f ∧ type_of% @x_field1 ∧ type_of% @x_fieldN ∧ type_of% @x_extract ∧ type_of% @x_box ∧ type_of% @x_alloc ∧ type_of% @x_load1 ∧ type_of% @x_loadN ∧ type_of% @withH_some' ∧ type_of% @x_store := And.intro @x_pick (And.intro @pick_t (And.intro @pick_f (And.intro @x_field1 (And.intro @x_fieldN (And.intro @x_extract (And.intro @x_box (And.intro @x_alloc (And.intro @x_load1 (And.intro @x_loadN (And.intro @withH_some' (@x_store)))))))))))
theorem rn5 : type_of% @x_mkfunc ∧ type_of% @x_mkslice ∧ type_of% @x_slice ∧ type_of% @x_fieldAddr ∧ type_of% @fieldAt_p ∧ type_of% @x_idxArr ∧ type_of% @x_idxSl ∧ type_of% @x_append ∧ type_of% @x_there ∧ type_of% @x_len ∧ type_of% @len_slice ∧ type_of% @x_not := And.intro @x_mkfunc (And.intro @x_mkslice (And.intro @x_slice (And.intro @x_fieldAddr (And.intro @fieldAt_p (And.intro @x_idxArr (And.intro @x_idxSl (And.intro @x_append (And.intro @x_there (And.intro @x_len (And.intro @len_slice (@x_not)))))))))))
theorem rn6 : type_of% @not_bool ∧ type_of% @x_call ∧ type_of% @x_int2 ∧ type_of% @i_add ∧ type_of% @i_sub ∧ type_of% @i_mul ∧ type_of% @i_eql ∧ type_of% @i_neq ∧ type_of% @i_lss ∧ type_of% @i_leq ∧ type_of% @i_gtr ∧ type_of% @i_geq := And.intro @not_bool (And.intro @x_call (And.intro @x_int2 (And.intro @i_add (And.intro @i_sub (And.intro @i_mul (And.intro @i_eql (And.intro @i_neq (And.intro @i_lss (And.intro @i_leq (And.intro @i_gtr (@i_geq)))))))))))
theorem rn7 : type_of% @x_plain ∧ type_of% @p_min ∧ type_of% @p_max ∧ type_of% @p_rem ∧ type_of% @p_quo ∧ type_of% @r_min ∧ type_of% @r_max ∧ type_of% @p_shl ∧ type_of% @p_or ∧ type_of% @p_and ∧ type_of% @p_andNot ∧ type_of% @eqV_i := And.intro @x_plain (And.intro @p_min (And.intro @p_max (And.intro @p_rem (And.intro @p_quo (And.intro @r_min (And.intro @r_max (And.intro @p_shl (And.intro @p_or (And.intro @p_and (And.intro @p_andNot (@eqV_i)))))))))))
theorem rn8 : type_of% @x_bslice ∧ type_of% @x_build ∧ type_of% @res_cellN ∧ type_of% @res_cell1 ∧ type_of% @valN_tmp ∧ type_of% @valN_const := And.intro @x_bslice (And.intro @x_build (And.intro @res_cellN (And.intro @res_cell1 (And.intro @valN_tmp (@valN_const)))))
end Go.Vm
namespace Go.Vm.Vat
set_option linter.unusedSimpArgs false
set_option linter.unusedVariables false
set_option maxRecDepth 10000
noncomputable def A (f : Nat) : Bool := inL [42, 116, 80, 125, 108, 32, 33, 88, 70, 31, 38, 39, 96, 44, 97, 45, 50, 47, 66, 71, 110, 57, 52, 23, 29, 37, 60, 62, 117, 113, 82, 118, 100, 84, 86, 92, 98, 87, 77, 91, 123, 114, 126, 81, 83, 85, 103, 30, 76, 79, 115, 95, 28, 49, 99, 119, 94, 40, 46, 107, 124, 129, 130, 53, 41, 75, 112, 68] f
variable {n : Nat} {h : AHeap}
def Ranges (h : AHeap) (v : Value) (n : Nat) (lo hi : Nat → Int) : Prop := Cells h v 2 n fun k j => .int .i64 (if j = 0 then lo k else hi k)
theorem Cells.one {v : Value} {s n : Nat} {c : Nat → Nat → Value} (hc : Cells h v s n c) : oneCell v = true := by obtain ⟨a, cap, rfl, _⟩ := hc; rfl
variable {n : Nat} {h : AHeap}
variable {n : Nat} {h : AHeap}
variable {n : Nat} {h : AHeap}
variable {n : Nat} {h : AHeap}
variable {n : Nat} {h : AHeap}
theorem build_range {x y : Int} : buildA (fun x => (#[(0, 1), (1, 1)] : Array (Nat × Nat))[x]?) ⟨[.int .i64 0, .int .i64 0]⟩ [0, 1] h [.int .i64 x, .int .i64 y] = some (.agg ⟨[.int .i64 x, .int .i64 y]⟩, h) := id rfl
structure Made (h h1 : AHeap) (k : Nat) : Prop where
  sub : Sub All h h1
  next : h1.next ≤ h.next + k
  up : h.next ≤ h1.next
  floor : h1.floor = h.floor
theorem Ints.cells {v : Value} {m : Nat} {a : Nat → Int} (hi : Ints h v m a) : ∃ x k, v = .slice x m k ∧ cellsOfSlice h 1 v = some ((List.range m).map fun i => .int .i64 (a i)) := by
  obtain ⟨x, cap, rfl, _, h0 | ⟨b, o, cs, w, gr, rfl, h1, h2⟩⟩ := hi
  · subst h0
    refine ⟨x, cap, rfl, ?_⟩
    cases x <;> rfl
  · refine ⟨_, cap, rfl, ?_⟩
    by_cases hm : m = 0
    · subst hm; rfl
    have hb : Nat.beq m 0 = false := by
      cases hb : Nat.beq m 0 with
      | false => rfl
      | true => exact absurd (beq_iff.1 hb) hm
    show (bif Nat.beq m 0 then some [] else match h.get b with
      | some (.row cs _ _) => dropK cs o fun r => takeK r (m * 1) fun l => some l
      | _ => none) = _
    have hl := (List.getElem?_eq_some_iff.1 (h2 (m - 1) 0 (by omega) (by omega))).1
    rw [hb, cond_false, h1]
    simp only [dropK_eq, takeK_eq]
    rw [if_pos (by omega), if_pos (by rw [List.length_drop]; omega)]
    congr 1
    apply List.ext_getElem?
    intro i
    simp only [List.getElem?_map, List.getElem?_take, List.getElem?_drop, Nat.mul_one]
    by_cases hi : i < m
    · rw [if_pos hi, List.getElem?_range hi]
      have := h2 i 0 hi (by omega)
      rw [show o + i * 1 + 0 = o + i by omega] at this
      rw [this]; rfl
    · rw [if_neg hi, List.getElem?_eq_none (by simp; omega)]
      rfl
theorem append_none {s bytes b : Nat} {y : Value} {m : Nat} {new : List Value} (hy : ∃ x k, y = .slice x m k) (hyc : cellsOfSlice h s y = some new) (hnl : new.length = m * s) (hb1 : m * bytes ≤ maxBytes) (hb2 : m ≤ maxBytes) :
    appendA s bytes h (.slice (some ⟨b, 0, none⟩) 0 0) y = if m = 0 then some (.slice (some ⟨b, 0, none⟩) 0 0, h) else newSlice h new m unk s := by
  obtain ⟨a, k, rfl⟩ := hy
  have e1 : Nat.ble ((0 + m) * bytes) maxBytes = true := ble_iff.2 (by rw [Nat.zero_add]; exact hb1)
  have e2 : Nat.ble (0 + m) maxBytes = true := ble_iff.2 (by omega)
  have e3 : Nat.beq (len new) (m * s) = true := by rw [len_eq]; exact beq_iff.2 hnl
  unfold appendA
  simp only [hyc, e1, e2, e3, Bool.and_self, cond_true]
  by_cases hm : m = 0
  · subst hm
    rw [if_pos rfl]
    rfl
  · rw [if_neg hm]
    have e4 : Nat.ble (0 + m) 0 = false := by
      cases hb : Nat.ble (0 + m) 0 with
      | false => rfl
      | true => have := ble_iff.1 hb; omega
    rw [e4, Bool.false_and, cond_false]
    unfold appendGrow
    have e5 : cellsOfSlice h s (.slice (some ⟨b, 0, none⟩) 0 0) = some [] := rfl
    have e6 : Nat.blt 0 unk = true := rfl
    simp only [e5, e6, cond_true, app_eq, List.nil_append, Nat.zero_add]
variable {n : Nat} {h : AHeap}
theorem sl_range {x y : Int} : buildSl 2 1 [.int .i64 0, .int .i64 0] [0] h [.agg ⟨[.int .i64 x, .int .i64 y]⟩] = newSlice h [.int .i64 x, .int .i64 y] 1 1 0 := id rfl
theorem sl_one {v : Value} (hv : oneCell v = true) : buildSl 1 1 [.slice none 0 0] [0] h [v] = newSlice h [v] 1 1 0 := by
  cases v <;> first | rfl | cases hv
abbrev nilS : Value := .slice none 0 0
theorem grew {o : Nat} {b g1 g2 : AHeap} {x : Value} {r : AObj} (k : Keep o b g1) (hk : Kept g1 g2 x) (hb : ∀ a k c, x = .slice (some a) k c → b.next ≤ a.block) (ho : o < b.next) (hout : g1.get o = some r) : Keep o b g2 ∧ g2.get o = some r :=
  ⟨hk.keep k hb, by rw [hk.old o (AHeap.lt_of_get hout) fun a k c e => by have := hb a k c e; omega]; exact hout⟩
theorem set_keep {o : Nat} {b g1 g2 : AHeap} {cs : List Value} {gr : Nat} (k : Keep o b g1) (hs : Set1 g1 g2 o cs gr) : Keep o b g2 := k.trans hs.keep
variable {n : Nat} {h : AHeap}
variable {n : Nat} {h : AHeap}
def sizeN (lo hi : Nat → Int) : Nat → Int
  | 0 => 1
  | i + 1 => sizeN lo hi i * (hi i - lo i + 1)
variable {n : Nat} {h : AHeap}
variable {n : Nat} {h : AHeap}
theorem idxArr_p {l k b o : Nat} (hk : k < l) : indexArr l 1 (.pointer (some ⟨b, o, none⟩)) (.int .i64 (k : Int)) = some (.pointer (some ⟨b, o + k, none⟩)) := by
  show placeAt ⟨b, o, none⟩ (Int.ofNat k) l 1 = _
  unfold placeAt
  simp only [blt_iff.2 hk, cond_true, Nat.mul_one]
variable {n : Nat} {h : AHeap}
theorem _root_.Go.Vm.Row.whole {b n : Nat} {cs : List Value} (hr : Row h b cs) (hl : cs.length = n) : loadAgg n h (.pointer (some ⟨b, 0, none⟩)) = some (.agg ⟨cs⟩) := by
  rw [hr.ldN 0 n (by omega) (by simp [hl]), List.drop_zero, ← hl, List.take_length]
variable {n : Nat} {h : AHeap}
theorem res_two {a n t : Nat} {f : Fr} : resV f h [.cellN a n, .tmp t] = match loadAgg n h (f a) with
  | some v => some (.tuple ⟨[v, f t]⟩)
  | none => none := by
  simp only [resV, resL, res1]
  cases loadAgg n h (f a) <;> rfl
theorem splice_all {cs vs : List Value} (hl : cs.length = vs.length) : splice cs 0 vs = vs := by simp [splice, hl]
variable {n : Nat} {h : AHeap}
def mix (n k : Nat) (a : Nat → Int) : List Value := (List.range n).map fun i => .int .i64 (if i < k then a i else 0)
theorem mix_len {n k : Nat} {a : Nat → Int} : (mix n k a).length = n := by simp [mix]
theorem mix_get {n k i : Nat} {a : Nat → Int} (hi : i < n) : (mix n k a)[i]? = some (.int .i64 (if i < k then a i else 0)) := by
  rw [mix, List.getElem?_map, List.getElem?_range hi]; rfl
theorem mix_one {n k : Nat} {a : Nat → Int} : allB oneCell (mix n k a) = true := by rw [allB_iff]; intro v hv; obtain ⟨i, _, rfl⟩ := List.mem_map.1 hv; rfl
theorem mix_splice {n k : Nat} {a : Nat → Int} (hk : k < n) : splice (mix n k a) k [.int .i64 (a k)] = mix n (k + 1) a := by
  apply List.ext_getElem?
  intro i
  by_cases hi : i < n
  · rw [mix_get hi]
    simp only [splice]
    by_cases h1 : i < k
    · rw [List.getElem?_append_left (by simp [mix_len]; omega), List.getElem?_take, if_pos h1, mix_get hi, if_pos h1, if_pos (by omega)]
    · rw [List.getElem?_append_right (by simp [mix_len]; omega)]
      have e : (List.take k (mix n k a)).length = k := by simp [mix_len]; omega
      rw [e]
      by_cases h2 : i = k
      · subst h2
        simp
      · rw [List.getElem?_append_right (by simp; omega), List.getElem?_drop]
        simp only [List.length_cons, List.length_nil]
        rw [show k + (0 + 1) + (i - k - (0 + 1)) = i by omega, mix_get hi, if_neg h1, if_neg (by omega)]
  · rw [List.getElem?_eq_none (by simp [splice, mix_len]; omega), List.getElem?_eq_none (by rw [mix_len]; omega)]
theorem idxSl_p {k m c o : Nat} (hk : k < m) : indexSl 1 (.slice (some ⟨o, 0, none⟩) m c) (.int .i64 (k : Int)) = some (.pointer (some ⟨o, k, none⟩)) := by
  show placeAt ⟨o, 0, none⟩ (Int.ofNat k) m 1 = _
  unfold placeAt
  simp only [blt_iff.2 hk, cond_true, Nat.mul_one, Nat.zero_add]
theorem ex0 {x y : Value} : extractA 0 (.tuple ⟨[x, y]⟩) h = some (x, h) := id rfl
theorem ex1 {x y : Value} : extractA 1 (.tuple ⟨[x, y]⟩) h = some (y, h) := id rfl
theorem ret_tt {a b : Nat} {f : Fr} : resV f h [.tmp a, .tmp b] = some (.tuple ⟨[f a, f b]⟩) := id rfl
variable {n : Nat} {h : AHeap}
def enumB (lo hi : Nat → Int) : Nat → Nat → (Nat → Int) → List (Nat → Int)
  | 0, _, c => [c]
  | d + 1, i, c => (List.range (hi i - lo i + 1).toNat).flatMap fun (k : Nat) => enumB lo hi d (i + 1) fun j => if j = i then lo i + (k : Int) else c j
theorem enumB_congr {lo hi : Nat → Int} : ∀ (d i : Nat) (c c' : Nat → Int), (∀ j, j < i ∨ i + d ≤ j → c j = c' j) → enumB lo hi d i c = enumB lo hi d i c'
  | 0, i, c, c', hc => by
    have : c = c' := funext fun j => hc j (by omega)
    rw [this]
  | d + 1, i, c, c', hc => by
    simp only [enumB]
    congr 1
    funext k
    refine enumB_congr d (i + 1) _ _ fun j hj => ?_
    by_cases e : j = i
    · simp [e]
    · simp only [e, if_false]
      exact hc j (by omega)
def runL {σ α : Type} (step : σ → α → σ × Bool) : σ → List α → σ × Bool
  | s, [] => (s, true)
  | s, x :: l => if (step s x).2 then runL step (step s x).1 l else ((step s x).1, false)
theorem runL_append {σ α : Type} {step : σ → α → σ × Bool} : ∀ (l1 l2 : List α) (s : σ), runL step s (l1 ++ l2) = if (runL step s l1).2 then runL step (runL step s l1).1 l2 else runL step s l1
  | [], l2, s => by simp [runL]
  | x :: l1, l2, s => by
    simp only [List.cons_append, runL]
    by_cases e : (step s x).2 = true
    · simp only [e, if_true]; exact runL_append l1 l2 _
    · simp [e]
section
variable {σ : Type}
structure It (pw py pc : Nat) (W : List Value) (yv cv F : Value) (nf : Nat) (lo hi : Nat → Int) (g : AHeap) : Prop where
  w : Row g pw W
  y : Row g py [yv]
  c : Row g pc [cv]
  f : Ranges g F nf lo hi
theorem It.set {pw py pc pb gr : Nat} {W cs : List Value} {yv cv F : Value} {nf : Nat} {lo hi : Nat → Int} {g g' : AHeap} (hi' : It pw py pc W yv cv F nf lo hi g) (hs : Set1 g g' pb cs gr) (h1 : pw ≠ pb) (h2 : py ≠ pb) (h3 : pc ≠ pb)
    (hF : ∀ a k cap, F = .slice (some a) k cap → a.block ≠ pb ∨ nf = 0) : It pw py pc W yv cv F nf lo hi g' := by
  refine ⟨hi'.w.keep hs.keep h1, hi'.y.keep hs.keep h2, hi'.c.keep hs.keep h3, ?_⟩
  obtain ⟨a, cap, e, hsp, h0 | ⟨b, o, cs, w, gr, rfl, e1, e2⟩⟩ := hi'.f
  · exact ⟨a, cap, e, hsp, .inl h0⟩
  · rcases hF _ _ _ e with h4 | h4
    · exact ⟨_, cap, e, hsp, .inr ⟨b, o, cs, w, gr, rfl, hs.keep.sub _ _ _ _ h4 e1, e2⟩⟩
    · exact ⟨_, cap, e, hsp, .inl h4⟩
theorem part_flat {α : Type} (f : Nat → List α) {k m : Nat} (hk : k < m) : ∃ l, (List.range m).flatMap f = (List.range k).flatMap f ++ (f k ++ l) := by
  refine ⟨((List.range (m - (k + 1))).map (k + 1 + ·)).flatMap f, ?_⟩
  have : List.range m = List.range k ++ ([k] ++ (List.range (m - (k + 1))).map (k + 1 + ·)) := by
    have h1 := List.range_add (n := k + 1) (m := m - (k + 1))
    rw [show k + 1 + (m - (k + 1)) = m by omega] at h1
    rw [h1, List.range_succ, List.append_assoc]
  rw [this, List.flatMap_append, List.flatMap_append]
  simp
structure Old (g g1 : AHeap) (k : Nat) : Prop where
  old : ∀ i, i < g.next → g1.get i = g.get i
  next : g1.next = g.next + k
  floor : g1.floor = g.floor
theorem Old.sub {g g1 : AHeap} {k : Nat} (ho : Old g g1 k) : Sub All g g1 := fun i cs w gr _ hg => by rw [ho.old i (AHeap.lt_of_get hg)]; exact hg
end
variable {n : Nat} {h : AHeap}
section
variable {σ : Type}
end
variable {n : Nat} {h : AHeap}
def prodFrom (lo hi : Nat → Int) : Nat → Nat → Int
  | 0, _ => 1
  | d + 1, i => (hi i - lo i + 1) * prodFrom lo hi d (i + 1)
theorem sizeN_prod {lo hi : Nat → Int} : ∀ (d i : Nat), sizeN lo hi (i + d) = sizeN lo hi i * prodFrom lo hi d i
  | 0, i => by simp [prodFrom]
  | d + 1, i => by
    have := sizeN_prod (lo := lo) (hi := hi) d (i + 1)
    rw [show i + (d + 1) = i + 1 + d by omega, this]
    simp only [sizeN, prodFrom, Int.mul_assoc]
theorem enumB_len {lo hi : Nat → Int} : ∀ (d i : Nat) (c : Nat → Int), (∀ k, i ≤ k → k < i + d → lo k ≤ hi k) → ((enumB lo hi d i c).length : Int) = prodFrom lo hi d i
  | 0, i, c, _ => by simp [enumB, prodFrom]
  | d + 1, i, c, hv => by
    have h0 := hv i (by omega) (by omega)
    have hm : ((hi i - lo i + 1).toNat : Int) = hi i - lo i + 1 := Int.toNat_of_nonneg (by omega)
    have : ∀ m : Nat, ((((List.range m).flatMap fun (k : Nat) => enumB lo hi d (i + 1) fun j => if j = i then lo i + (k : Int) else c j).length : Nat) : Int) = m * prodFrom lo hi d (i + 1) := by
      intro m
      induction m with
      | zero => simp
      | succ m ih =>
        rw [List.range_succ, List.flatMap_append, List.length_append]
        have e := enumB_len d (i + 1) (fun j => if j = i then lo i + (m : Int) else c j) fun k h1 h2 => hv k (by omega) (by omega)
        simp only [List.flatMap_cons, List.flatMap_nil, List.append_nil]
        rw [Int.natCast_add, ih, e, Int.natCast_add, Int.add_mul]
        simp
    simp only [enumB, prodFrom]
    rw [this, hm]
theorem enumB_ok {lo hi : Nat → Int} : ∀ (d i : Nat) (c x : Nat → Int), x ∈ enumB lo hi d i c ↔ ((∀ j, i ≤ j → j < i + d → lo j ≤ x j ∧ x j ≤ hi j) ∧ ∀ j, j < i ∨ i + d ≤ j → x j = c j)
  | 0, i, c, x => by
    simp only [enumB, List.mem_singleton]
    constructor
    · rintro rfl; exact ⟨fun j h1 h2 => by omega, fun _ _ => rfl⟩
    · rintro ⟨_, h2⟩; exact funext fun j => h2 j (by omega)
  | d + 1, i, c, x => by
    simp only [enumB, List.mem_flatMap, List.mem_range, enumB_ok d (i + 1)]
    constructor
    · rintro ⟨k, hk, h1, h2⟩
      refine ⟨fun j h3 h4 => ?_, fun j hj => ?_⟩
      · by_cases e : j = i
        · subst e
          have := h2 j (by omega)
          simp only [if_true] at this
          omega
        · exact h1 j (by omega) (by omega)
      · have := h2 j (by omega)
        rw [if_neg (by omega)] at this
        exact this
    · rintro ⟨h1, h2⟩
      obtain ⟨h3, h4⟩ := h1 i (by omega) (by omega)
      refine ⟨(x i - lo i).toNat, by omega, fun j h5 h6 => h1 j (by omega) (by omega), fun j hj => ?_⟩
      by_cases e : j = i
      · subst e; simp only [if_true]; omega
      · simp only [e, if_false]; exact h2 j (by omega)
theorem _root_.Go.Vm.Cells.old {g : AHeap} {v : Value} {s n : Nat} {c : Nat → Nat → Value} (hc : Cells h v s n c) (ho : ∀ i, i < h.next → g.get i = h.get i) : Cells g v s n c :=
  hc.mono fun i cs w gr _ hg => by rw [ho i (AHeap.lt_of_get hg)]; exact hg
theorem _root_.Go.Vm.AHeap.subOf {g : AHeap} (ho : ∀ i, i < h.next → g.get i = h.get i) : Sub All h g := fun i cs w gr _ hg => by rw [ho i (AHeap.lt_of_get hg)]; exact hg
def Long (v : Value) : Prop := ∀ a n c, v = .slice a n c → c = 1 → n ≤ 1
theorem _root_.Go.Vm.GrowC.long {B s n : Nat} {v : Value} {c : Nat → Nat → Value} (hg : GrowC B h v s n c) : Long v := by
  obtain ⟨cs, ⟨rfl, _, _⟩ | ⟨b, rfl, _⟩, _⟩ := hg
  · intro a n c e; cases e; intro _; omega
  · intro a n c e; cases e; intro h; simp [unk] at h
variable {n : Nat} {h : AHeap}
noncomputable def findFrom (p : Nat → Prop) : Nat → Nat → Int
  | 0, _ => -1
  | d + 1, k => open Classical in if p k then (k : Int) else findFrom p d (k + 1)
theorem findFrom_skip {p : Nat → Prop} : ∀ (k m : Nat), k ≤ m → (∀ j, j < k → ¬ p j) → findFrom p m 0 = findFrom p (m - k) k := by
  intro k
  induction k with
  | zero => intro m _ _; rfl
  | succ k ih =>
    intro m hk hp
    rw [ih m (by omega) fun j hj => hp j (by omega)]
    obtain ⟨d, hd⟩ : ∃ d, m - k = d + 1 := ⟨m - k - 1, by omega⟩
    rw [hd, findFrom, if_neg (hp k (by omega)), show m - (k + 1) = d by omega]
theorem findFrom_at {p : Nat → Prop} {k m : Nat} (hk : k < m) (hp : ∀ j, j < k → ¬ p j) (h : p k) : findFrom p m 0 = k := by
  rw [findFrom_skip k m (by omega) hp]
  obtain ⟨d, hd⟩ : ∃ d, m - k = d + 1 := ⟨m - k - 1, by omega⟩
  rw [hd, findFrom, if_pos h]
theorem findFrom_none {p : Nat → Prop} {m : Nat} (hp : ∀ j, j < m → ¬ p j) : findFrom p m 0 = -1 := by
  rw [findFrom_skip m m (Nat.le_refl _) hp, Nat.sub_self]; rfl
theorem findFrom_iff {p : Nat → Prop} {m : Nat} : 0 ≤ findFrom p m 0 ↔ ∃ k, k < m ∧ p k := by
  constructor
  · intro h
    apply Classical.byContradiction
    intro hn
    rw [findFrom_none fun j hj hp => hn ⟨j, hj, hp⟩] at h
    omega
  · rintro ⟨k, hk, hp⟩
    have : ∀ k, k < m → p k → 0 ≤ findFrom p m 0 := by
      intro k
      induction k using Nat.strongRecOn with
      | _ k ih =>
        intro hk hp
        by_cases e : ∃ j, j < k ∧ p j
        · obtain ⟨j, h1, h2⟩ := e; exact ih j h1 (by omega) h2
        · rw [findFrom_at hk (fun j hj hp => e ⟨j, hj, hp⟩) hp]; omega
    exact this k hk hp
def SameB (a b : Nat → Int) : Prop := ∀ k, k ∈ List.range 5 → a k = b k
instance (a b : Nat → Int) : Decidable (SameB a b) := inferInstanceAs (Decidable (∀ k, k ∈ List.range 5 → a k = b k))
theorem x_binA {P : Program} {cf : CallF} {N : Nat} {f : Fr} {b : BinOp} {op : Op} {ty : TypeId} {x y : Operand} : sem P cf N f h (.bin b op ty x y) = binA P N b op ty (val f x) (val f y) f h := id rfl
theorem binA_agg {P : Program} {N : Nat} {f : Fr} {op : Op} {ty : TypeId} {l r : Array Value} : binA P N .eql op ty (.agg l) (.agg r) f h = plainF P N op ty f h := id rfl
def HasB (l : List (Nat → Int)) (c : Nat → Int) : Prop := ∃ k, k < l.length ∧ SameB c (l.getD k fun _ => 0)
noncomputable instance (l : List (Nat → Int)) (c : Nat → Int) : Decidable (HasB l c) := Classical.propDecidable _
variable {n : Nat} {h : AHeap}
theorem Made.trans {a b c : AHeap} {j k : Nat} (h1 : Made a b j) (h2 : Made b c k) : Made a c (j + k) := ⟨h1.sub.trans h2.sub, by have := h1.next; have := h2.next; omega, by have := h1.up; have := h2.up; omega, by rw [h2.floor, h1.floor]⟩
theorem Made.of {a b : AHeap} {cs : List Value} {gr : Nat} (hn : New a b cs gr) : Made a b 1 := ⟨hn.sub, by rw [hn.next]; omega, by rw [hn.next]; omega, hn.floor⟩
variable {n : Nat} {h : AHeap}
def sz (lo hi : Nat → Int) (k : Nat) : Nat := (hi k - lo k + 1).toNat
def divN (s : Nat → Nat) (m : Nat) : Nat → Nat
  | 0 => m
  | k + 1 => divN s m k / s k
def nthB (lo hi : Nat → Int) (nf m : Nat) (k : Nat) : Int := if k < nf then lo k + ((divN (sz lo hi) m k % sz lo hi k : Nat) : Int) else 0
theorem one_get {v : Value} : ∀ j, j < 1 → [v][j]? = some v := fun j hj => by
  have : j = 0 := by omega
  subst this; rfl
theorem sl_int {x : Int} : buildSl 1 1 [.int .i64 0] [0] h [.int .i64 x] = newSlice h [.int .i64 x] 1 1 0 := id rfl
variable {n : Nat} {h : AHeap}
def GrowRows (B : Nat) (h : AHeap) (v : Value) (n : Nat) (cnt : Nat → Nat) (q : Nat → Nat → Int) : Prop :=
  ∃ r : Nat → Value, GrowC B h v 1 n (fun k _ => r k) ∧ ∀ i, i < n → Ints h (r i) (cnt i) (q i) ∧ ∀ a m c, r i = .slice (some a) m c → B ≤ a.block ∧ a.block < h.next ∧ ∀ b m' c', v = .slice (some b) m' c' → a.block ≠ b.block
theorem GrowRows.nil {B : Nat} {cnt : Nat → Nat} {q : Nat → Nat → Int} : GrowRows B h nilS 0 cnt q := ⟨fun _ => nilS, .nil, fun i hi => by omega⟩
theorem GrowRows.keep {B o : Nat} {g : AHeap} {v : Value} {n : Nat} {cnt : Nat → Nat} {q : Nat → Nat → Int} (hg : GrowRows B h v n cnt q) (hk : Keep o h g) (ho : o < B) : GrowRows B g v n cnt q := by
  obtain ⟨r, h1, h2⟩ := hg
  refine ⟨r, h1.keep hk ho, fun i hi => ?_⟩
  obtain ⟨h3, h4⟩ := h2 i hi
  exact ⟨Cells.keep h3 hk fun a k c e => by have := (h4 a k c e).1; omega, fun a m c e => by
    obtain ⟨k1, k2, k3⟩ := h4 a m c e
    exact ⟨k1, Nat.lt_of_lt_of_le k2 hk.up, k3⟩⟩
theorem GrowRows.sub {B : Nat} {g : AHeap} {v : Value} {n : Nat} {cnt : Nat → Nat} {q : Nat → Nat → Int} (hg : GrowRows B h v n cnt q) (hs : Sub All h g) (hup : h.next ≤ g.next) : GrowRows B g v n cnt q := by
  obtain ⟨r, h1, h2⟩ := hg
  refine ⟨r, h1.sub hs, fun i hi => ?_⟩
  obtain ⟨h3, h4⟩ := h2 i hi
  exact ⟨Cells.mono h3 hs, fun a m c e => by
    obtain ⟨k1, k2, k3⟩ := h4 a m c e
    exact ⟨k1, Nat.lt_of_lt_of_le k2 hup, k3⟩⟩
theorem GrowRows.congr {B : Nat} {v : Value} {n : Nat} {cnt cnt' : Nat → Nat} {q q' : Nat → Nat → Int} (hg : GrowRows B h v n cnt q) (h1 : ∀ i, i < n → cnt i = cnt' i) (h2 : ∀ i, i < n → q i = q' i) : GrowRows B h v n cnt' q' := by
  obtain ⟨r, k1, k2⟩ := hg
  exact ⟨r, k1, fun i hi => by rw [← h1 i hi, ← h2 i hi]; exact k2 i hi⟩
theorem GrowRows.push {B : Nat} {h1 : AHeap} {v l : Value} {n : Nat} {cnt : Nat → Nat} {q : Nat → Nat → Int} (hg : GrowRows B h v n cnt q) (hB : h.floor ≤ B) (hf : h.next + 2 < far) (hBn : B ≤ h.next) (hl : Ints h l (cnt n) (q n)) (hone : oneCell l = true)
    (hb : ∀ a k c, l = .slice (some a) k c → B ≤ a.block ∧ a.block < h.next ∧ ∀ b m' c', v = .slice (some b) m' c' → a.block ≠ b.block) (hx : New h h1 [l] 0) (hn : (n + 1) * 24 ≤ maxBytes) (hn1 : n + 1 ≤ maxBytes) :
    ∃ v' g, appendA 1 24 h1 v (.slice (some ⟨h.next, 0, none⟩) 1 1) = some (v', g) ∧ GrowRows B g v' (n + 1) cnt q ∧ Kept h1 g v ∧ oneCell v' = true ∧ (∀ a k c, v = .slice (some a) k c → B ≤ a.block) := by
  obtain ⟨r, g1, g2⟩ := hg
  have hnx := hx.next
  have hfl := hx.floor
  let r' : Nat → Value := fun i => if i = n then l else r i
  have g1' : GrowC B h1 v 1 n (fun k _ => r' k) := (g1.sub hx.sub).congr fun k j hk hj => by show r k = if k = n then l else r k; rw [if_neg (by omega)]
  obtain ⟨v', g, e, ev, gv, hk⟩ := g1'.append (bytes := 24) (cap := 1) (by omega) (by omega) (by omega) hx.get rfl (by simp [allB, hone]) (fun j hj => by rw [one_get j hj]; show some l = some (if n = n then l else r n); rw [if_pos rfl]) hn hn1
  refine ⟨v', g, e, ⟨r', gv, fun i hi => ?_⟩, hk, gv.one, fun a k c e => (g1.block e).1⟩
  have hkn := hk.next
  have hmain : ∀ (x : Value) (m : Nat) (a : Nat → Int), Ints h x m a → (∀ a k c, x = .slice (some a) k c → B ≤ a.block ∧ a.block < h.next ∧ ∀ b m' c', v = .slice (some b) m' c' → a.block ≠ b.block) →
      Ints g x m a ∧ ∀ a k c, x = .slice (some a) k c → B ≤ a.block ∧ a.block < g.next ∧ ∀ b m' c', v' = .slice (some b) m' c' → a.block ≠ b.block := by
    intro x m a hx1 hx2
    refine ⟨Cells.kept (Cells.mono hx1 hx.sub) hk fun a k c e b k' c' e' => (hx2 a k c e).2.2 b k' c' e', fun a k c e => ?_⟩
    obtain ⟨k1, k2, _⟩ := hx2 a k c e
    refine ⟨k1, by omega, fun b m' c' e' => ?_⟩
    rw [ev] at e'
    cases e'
    show a.block ≠ h1.next
    omega
  by_cases hin : i = n
  · subst hin
    have : r' i = l := by show (if i = i then l else r i) = l; rw [if_pos rfl]
    rw [this]
    exact hmain l _ _ hl hb
  · have : r' i = r i := by show (if i = n then l else r i) = r i; rw [if_neg hin]
    rw [this]
    obtain ⟨k1, k2⟩ := g2 i (by omega)
    exact hmain _ _ _ k1 k2
def encF (s d : Nat → Nat) : Nat → Nat → Nat
  | 0, _ => 0
  | c + 1, i => d i + s i * encF s d c (i + 1)
theorem encF_div {s d : Nat → Nat} {nf : Nat} (hd : ∀ i, i < nf → d i < s i) : ∀ k, k ≤ nf → divN s (encF s d nf 0) k = encF s d (nf - k) k := by
  intro k
  induction k with
  | zero => intro _; rfl
  | succ k ih =>
    intro hk
    have h1 := hd k (by omega)
    obtain ⟨c, hc⟩ : ∃ c, nf - k = c + 1 := ⟨nf - k - 1, by omega⟩
    simp only [divN]
    rw [ih (by omega), hc, show nf - (k + 1) = c by omega]
    simp only [encF]
    rw [Nat.add_mul_div_left _ _ (by omega), Nat.div_eq_of_lt h1, Nat.zero_add]
theorem encF_mod {s d : Nat → Nat} {nf : Nat} (hd : ∀ i, i < nf → d i < s i) {k : Nat} (hk : k < nf) : divN s (encF s d nf 0) k % s k = d k := by
  rw [encF_div hd k (by omega)]
  obtain ⟨c, hc⟩ : ∃ c, nf - k = c + 1 := ⟨nf - k - 1, by omega⟩
  rw [hc]
  simp only [encF]
  rw [Nat.add_mul_mod_self_left, Nat.mod_eq_of_lt (hd k hk)]
def prodN (s : Nat → Nat) : Nat → Nat → Nat
  | 0, _ => 1
  | c + 1, i => s i * prodN s c (i + 1)
theorem encF_lt {s d : Nat → Nat} : ∀ (c i : Nat), (∀ j, i ≤ j → j < i + c → d j < s j) → encF s d c i < prodN s c i
  | 0, i, _ => by simp [encF, prodN]
  | c + 1, i, hd => by
    have h1 := hd i (by omega) (by omega)
    have h2 := encF_lt c (i + 1) fun j h1 h2 => hd j (by omega) (by omega)
    simp only [encF, prodN]
    have h3 : s i * (encF s d c (i + 1) + 1) ≤ s i * prodN s c (i + 1) := Nat.mul_le_mul_left _ h2
    rw [Nat.mul_add, Nat.mul_one] at h3
    omega
theorem prodN_from {lo hi : Nat → Int} : ∀ (c i : Nat), (∀ j, i ≤ j → j < i + c → lo j ≤ hi j) → ((prodN (sz lo hi) c i : Nat) : Int) = prodFrom lo hi c i
  | 0, i, _ => rfl
  | c + 1, i, hv => by
    have h1 := hv i (by omega) (by omega)
    have h2 := prodN_from (lo := lo) (hi := hi) c (i + 1) fun j h1 h2 => hv j (by omega) (by omega)
    have hsz : ((sz lo hi i : Nat) : Int) = hi i - lo i + 1 := Int.toNat_of_nonneg (by omega)
    simp only [prodN, prodFrom]
    rw [Int.natCast_mul, h2, hsz]
variable {n : Nat} {h : AHeap}
def minN (x : Int) (a : Nat → Int) : Nat → Int
  | 0 => x
  | i + 1 => min (minN x a i) (a i)
variable {n : Nat} {h : AHeap}
theorem tail_c {v : Value} {s m : Nat} {c : Nat → Nat → Value} (hc : Cells h v s m c) (hm : 0 < m) (hlong : Long v) (hf : h.next < far) :
    ∃ v' h', sliceA s false h v (some (.int .i64 1)) none none = some (v', h') ∧ Cells h' v' s (m - 1) (fun k j => c (k + 1) j) ∧ Sub All h h' ∧ h.next ≤ h'.next ∧ h'.next ≤ h.next + 1 ∧ h'.floor = h.floor ∧ oneCell v' = true ∧ ∀ g, Cells g v s m c → Cells g v' s (m - 1) (fun k j => c (k + 1) j) := by
  obtain ⟨b, o, cap, cs, w, gr, rfl, h1, h2⟩ := hc.ptr hm
  have e1 : boundA 0 (some (.int .i64 1)) = some 1 := rfl
  have e2 : boundA m none = some m := rfl
  have e3 : Nat.ble 1 m = true := ble_iff.2 hm
  have e4 : Nat.ble m m = true := ble_iff.2 (Nat.le_refl _)
  have hcell : ∀ g, Cells g (.slice (some ⟨b, o, none⟩) m cap) s m c → ∀ cp, Cells g (.slice (addrPlus (some ⟨b, o, none⟩) (1 * s)) (m - 1) cp) s (m - 1) (fun k j => c (k + 1) j) := fun g hcg cp => by
    obtain ⟨b', o', cap', cs, w, gr, e, h1, h2⟩ := hcg.ptr hm
    cases e
    have ea : addrPlus (some ⟨b, o, none⟩) (1 * s) = some ⟨b, o + s, none⟩ := by
      simp only [addrPlus, Nat.one_mul]
    rw [ea]
    refine ⟨_, cp, rfl, fun x e => by cases e; rfl, ?_⟩
    by_cases h0 : m - 1 = 0
    · exact .inl h0
    · exact .inr ⟨b, o + s, cs, w, gr, rfl, h1, fun k j hk hj => by
        have := h2 (k + 1) j (by omega) hj
        rw [Nat.add_mul, Nat.one_mul] at this
        rw [show o + s + k * s + j = o + (k * s + s) + j by omega]
        exact this⟩
  unfold sliceA
  simp only [e1, e2, e3, e4, Bool.and_self, cond_true]
  cases hc1 : Nat.blt cap unk with
  | true =>
    simp only [cond_true]
    cases hc2 : Nat.beq cap 1 with
    | true =>
      simp only [cond_true]
      by_cases h0 : m - 1 = 0
      · exact ⟨_, _, rfl, ⟨_, _, rfl, fun x e => by cases e; rfl, .inl h0⟩, Sub.refl, Nat.le_refl _, by omega, rfl, rfl, fun g _ => ⟨_, _, rfl, fun x e => by cases e; rfl, .inl h0⟩⟩
      · exact absurd (hlong _ _ _ rfl (beq_iff.1 hc2)) (by omega)
    | false =>
      simp only [cond_false]
      exact ⟨_, _, rfl, hcell h hc _, Sub.refl, Nat.le_refl _, by omega, rfl, rfl, fun g hg => hcell g hg _⟩
  | false =>
    have e5 : Nat.beq 1 0 = false := rfl
    simp only [cond_false, e5]
    cases hc3 : Nat.blt 1 m with
    | true =>
      simp only [cond_true]
      exact ⟨_, _, rfl, hcell h hc _, Sub.refl, Nat.le_refl _, by omega, rfl, rfl, fun g hg => hcell g hg _⟩
    | false =>
      have h0 : m - 1 = 0 := by
        have : ¬ 1 < m := fun h => by rw [blt_iff.2 h] at hc3; cases hc3
        omega
      simp only [cond_false]
      rw [push_run hf]
      have hmm := more_more hf none
      exact ⟨_, _, rfl, ⟨_, _, by rw [h0], fun x e => by cases e; rfl, .inl h0⟩, hmm.sub, by rw [hmm.next]; omega, by rw [hmm.next]; omega, hmm.floor, rfl, fun g _ => ⟨_, _, by rw [h0], fun x e => by cases e; rfl, .inl h0⟩⟩
theorem le_minN {x : Int} {a : Nat → Int} {b : Int} : ∀ m, b ≤ minN x a m ↔ b ≤ x ∧ ∀ i, i < m → b ≤ a i
  | 0 => by simp [minN]
  | m + 1 => by
    simp only [minN]
    rw [Int.le_min, le_minN m]
    constructor
    · rintro ⟨⟨h1, h2⟩, h3⟩
      refine ⟨h1, fun i hi => ?_⟩
      by_cases e : i = m
      · subst e; exact h3
      · exact h2 i (by omega)
    · rintro ⟨h1, h2⟩
      exact ⟨⟨h1, fun i hi => h2 i (by omega)⟩, h2 m (by omega)⟩
theorem mem_getD {L : List (Nat → Int)} {t : Nat → Int} (ht : t ∈ L) : ∃ i, i < L.length ∧ L.getD i (fun _ => 0) = t := by
  obtain ⟨i, hi, rfl⟩ := List.getElem_of_mem ht
  exact ⟨i, hi, by rw [List.getD_eq_getElem?_getD, List.getElem?_eq_getElem hi]; rfl⟩
variable {n : Nat} {h : AHeap}
def maxN (x : Int) (a : Nat → Int) : Nat → Int
  | 0 => x
  | i + 1 => max (maxN x a i) (a i)
theorem map_splice {F F' : Nat → Value} {m off : Nat} {vs : List Value} (hl : off + vs.length ≤ m) (h1 : ∀ i, i < m → (i < off ∨ off + vs.length ≤ i) → F' i = F i) (h2 : ∀ j, j < vs.length → vs[j]? = some (F' (off + j))) :
    splice ((List.range m).map F) off vs = (List.range m).map F' := by
  apply List.ext_getElem?
  intro i
  have hlen : ((List.range m).map F).length = m := by simp
  simp only [splice]
  by_cases hi : i < m
  · rw [List.getElem?_map, List.getElem?_range hi]
    by_cases c1 : i < off
    · rw [List.getElem?_append_left (by simp [hlen]; omega), List.getElem?_take, if_pos c1, List.getElem?_map, List.getElem?_range hi]
      simp [h1 i hi (.inl c1)]
    · rw [List.getElem?_append_right (by simp [hlen]; omega)]
      have e : (List.take off ((List.range m).map F)).length = off := by simp [hlen]; omega
      rw [e]
      by_cases c2 : i < off + vs.length
      · rw [List.getElem?_append_left (by omega), h2 (i - off) (by omega)]
        simp [show off + (i - off) = i by omega]
      · rw [List.getElem?_append_right (by omega), List.getElem?_drop, show off + vs.length + (i - off - vs.length) = i by omega, List.getElem?_map, List.getElem?_range hi]
        simp [h1 i hi (.inr (by omega))]
  · rw [List.getElem?_eq_none (by simp; omega), List.getElem?_eq_none (by simp [hlen]; omega)]
theorem splice2 {a b c d : Value} : splice [a, b] 0 [c, d] = [c, d] := rfl
def loN (val : (Nat → Int) → Int) (L : List (Nat → Int)) : Int := minN (val (L.getD 0 fun _ => 0)) (fun i => val (L.getD (i + 1) fun _ => 0)) (L.length - 1)
def hiN (val : (Nat → Int) → Int) (L : List (Nat → Int)) : Int := maxN (val (L.getD 0 fun _ => 0)) (fun i => val (L.getD (i + 1) fun _ => 0)) (L.length - 1)
theorem maxN_le {x : Int} {a : Nat → Int} {b : Int} : ∀ m, maxN x a m ≤ b ↔ x ≤ b ∧ ∀ i, i < m → a i ≤ b
  | 0 => by simp [maxN]
  | m + 1 => by
    simp only [maxN]
    rw [Int.max_le, maxN_le m]
    constructor
    · rintro ⟨⟨h1, h2⟩, h3⟩
      refine ⟨h1, fun i hi => ?_⟩
      by_cases e : i = m
      · subst e; exact h3
      · exact h2 i (by omega)
    · rintro ⟨h1, h2⟩
      exact ⟨⟨h1, fun i hi => h2 i (by omega)⟩, h2 m (by omega)⟩
theorem all_getD {L : List (Nat → Int)} (hL : L ≠ []) {p : (Nat → Int) → Prop} : (p (L.getD 0 fun _ => 0) ∧ ∀ i, i < L.length - 1 → p (L.getD (i + 1) fun _ => 0)) ↔ ∀ t, t ∈ L → p t := by
  have hpos : 0 < L.length := List.length_pos_iff.2 hL
  have hget : ∀ i, (hi : i < L.length) → L.getD i (fun _ => 0) = L[i] := fun i hi => by rw [List.getD_eq_getElem?_getD, List.getElem?_eq_getElem hi]; rfl
  constructor
  · rintro ⟨h1, h2⟩ t ht
    obtain ⟨i, hi, rfl⟩ := List.getElem_of_mem ht
    cases i with
    | zero => rw [← hget 0 hi]; exact h1
    | succ i => rw [← hget (i + 1) hi]; exact h2 i (by omega)
  · intro ht
    refine ⟨ht _ (by rw [hget 0 hpos]; exact List.getElem_mem hpos), fun i hi => ?_⟩
    have hi' : i + 1 < L.length := by omega
    exact ht _ (by rw [hget (i + 1) hi']; exact List.getElem_mem hi')
theorem le_loN {val : (Nat → Int) → Int} {L : List (Nat → Int)} (hL : L ≠ []) {b : Int} : b ≤ loN val L ↔ ∀ t, t ∈ L → b ≤ val t := by
  unfold loN; rw [le_minN]; exact all_getD hL (p := fun t => b ≤ val t)
theorem hiN_le {val : (Nat → Int) → Int} {L : List (Nat → Int)} (hL : L ≠ []) {b : Int} : hiN val L ≤ b ↔ ∀ t, t ∈ L → val t ≤ b := by
  unfold hiN; rw [maxN_le]; exact all_getD hL (p := fun t => val t ≤ b)
variable {n : Nat} {h : AHeap}
theorem int_ext {a b : Int} (h : ∀ c, c ≤ a ↔ c ≤ b) : a = b := Int.le_antisymm ((h a).1 (Int.le_refl _)) ((h b).2 (Int.le_refl _))
theorem int_ext' {a b : Int} (h : ∀ c, a ≤ c ↔ b ≤ c) : a = b := Int.le_antisymm ((h b).2 (Int.le_refl _)) ((h a).1 (Int.le_refl _))
variable {n : Nat} {h : AHeap}
def run8 (other : AHeap → Option (Value × AHeap)) (a : Value) (h : AHeap) : Option (Value × AHeap) :=
  match a with
  | .int .u8 a => some (.int .i64 (IntKind.wrap .i64 a), h)
  | _ => other h
theorem r_8 {other : AHeap → Option (Value × AHeap)} {k : Nat} (hk : k < 256) : run8 other (.int .u8 (k : Int)) h = some (.int .i64 (k : Int), h) := by
  simp only [run8]
  rw [IntWalk.i64_in _ (by omega)]
theorem wf8 {a : Int} (h : (Lit.int .u8 a).wf = true) : ∃ k : Nat, a = k ∧ k < 256 := by
  simp only [Lit.wf, Bool.and_eq_true, decide_eq_true_eq] at h
  have h1 : (IntKind.u8).min = 0 := rfl
  have h2 : (IntKind.u8).max = 255 := rfl
  rw [h1, h2] at h
  exact ⟨a.toNat, by omega, by omega⟩
variable {n : Nat} {h : AHeap}
variable {n : Nat} {h : AHeap}
def LexLt (a b : Nat → Int) (m : Nat) : Prop := ∃ j, j < m ∧ (∀ i, i < j → a i = b i) ∧ a j < b j
noncomputable instance (a b : Nat → Int) (m : Nat) : Decidable (LexLt a b m) := Classical.propDecidable _
def Shortlex (a : Nat → Int) (m : Nat) (b : Nat → Int) (k : Nat) : Prop := m < k ∨ m = k ∧ LexLt a b m
noncomputable instance (a : Nat → Int) (m : Nat) (b : Nat → Int) (k : Nat) : Decidable (Shortlex a m b k) := Classical.propDecidable _
variable {n : Nat} {h : AHeap}
theorem splice1 {a b : Value} : splice [a] 0 [b] = [b] := rfl
variable {n : Nat} {h : AHeap}
theorem make_intsL {z : List Value} {m : Nat} (hm : m ≤ 1000) : makeSl 1 8 z h (.int .i64 (m : Int)) (.int .i64 (m : Int)) = newSlice h (repl z m) m m 0 := by
  show (bif Nat.ble m m && Nat.ble (m * 8) maxBytes && Nat.ble m maxBytes then newSlice h (repl z m) m m 0 else none) = _
  have e1 : Nat.ble m m = true := ble_iff.2 (Nat.le_refl _)
  have e2 : Nat.ble (m * 8) maxBytes = true := ble_iff.2 (by simp [maxBytes]; omega)
  have e3 : Nat.ble m maxBytes = true := ble_iff.2 (by simp [maxBytes]; omega)
  rw [e1, e2, e3]; rfl
def atL (l : List Int) (i : Nat) : Int := l.getD i 0
variable {P : Program} {N : Nat} {f : Fr} {h : AHeap} {ty t u : TypeId} {x y : Operand}
variable {n : Nat} {h : AHeap}
variable {n : Nat} {h : AHeap}
variable {P : Program} {N : Nat} {f : Fr} {h : AHeap}
theorem g_un {X : Cx} {Q : WPost} {f : Fr} {h : AHeap} {m : List Nat} {w : Bool} {d : Option Nat} {op : SOp} {L : List SI} : gW X undef w d op L Q f h m = opsW X L Q (putF f d undef) h m := by simp [gW, isB, undef]
variable {n : Nat} {h : AHeap}
open Classical in
noncomputable def pickL (p : Nat → Prop) : Nat → List Int
  | 0 => []
  | k + 1 => if p k then pickL p k ++ [(k : Int)] else pickL p k
theorem pick_yes {p : Nat → Prop} {k : Nat} (h : p k) : pickL p (k + 1) = pickL p k ++ [(k : Int)] := by rw [pickL, if_pos h]
theorem pick_no {p : Nat → Prop} {k : Nat} (h : ¬ p k) : pickL p (k + 1) = pickL p k := by rw [pickL, if_neg h]
theorem pick_len {p : Nat → Prop} : ∀ k, (pickL p k).length ≤ k
  | 0 => Nat.le_refl _
  | k + 1 => by
    have := pick_len (p := p) k
    by_cases c : p k
    · rw [pick_yes c, List.length_append, List.length_singleton]; omega
    · rw [pick_no c]; omega
theorem at_append {l : List Int} {x : Int} {i : Nat} (hi : i < l.length) : atL (l ++ [x]) i = atL l i := by unfold atL; rw [List.getD_eq_getElem?_getD, List.getD_eq_getElem?_getD, List.getElem?_append_left hi]
theorem at_last {l : List Int} {x : Int} : atL (l ++ [x]) l.length = x := by unfold atL; rw [List.getD_eq_getElem?_getD, List.getElem?_append_right (Nat.le_refl _)]; simp
theorem pick_at {p : Nat → Prop} : ∀ {k i : Nat}, i < (pickL p k).length → ∃ j : Nat, j < k ∧ atL (pickL p k) i = (j : Int) ∧ p j
  | 0, i, hi => (Nat.not_lt_zero _ hi).elim
  | k + 1, i, hi => by
    by_cases c : p k
    · rw [pick_yes c] at hi ⊢
      rw [List.length_append, List.length_singleton] at hi
      by_cases e : i < (pickL p k).length
      · rw [at_append e]
        obtain ⟨j, j1, j2, j3⟩ := pick_at e
        exact ⟨j, by omega, j2, j3⟩
      · have : i = (pickL p k).length := by omega
        subst this
        rw [at_last]; exact ⟨k, by omega, rfl, c⟩
    · rw [pick_no c] at hi ⊢
      obtain ⟨j, j1, j2, j3⟩ := pick_at hi
      exact ⟨j, by omega, j2, j3⟩
theorem pick_has {p : Nat → Prop} : ∀ {k j : Nat}, j < k → p j → ∃ i, i < (pickL p k).length ∧ atL (pickL p k) i = (j : Int)
  | 0, j, hj, _ => (Nat.not_lt_zero _ hj).elim
  | k + 1, j, hj, hp => by
    by_cases e : j = k
    · subst e
      rw [pick_yes hp, List.length_append, List.length_singleton]
      exact ⟨_, Nat.lt_succ_self _, at_last⟩
    · obtain ⟨i, i1, i2⟩ := pick_has (p := p) (k := k) (j := j) (by omega) hp
      by_cases c : p k
      · rw [pick_yes c, List.length_append, List.length_singleton]
        exact ⟨i, by omega, by rw [at_append i1]; exact i2⟩
      · rw [pick_no c]; exact ⟨i, i1, i2⟩
theorem lex_irr {a : Nat → Int} {m : Nat} : ¬ LexLt a a m := fun ⟨j, _, _, h⟩ => by omega
theorem lex_trans {a b c : Nat → Int} {m : Nat} (h1 : LexLt a b m) (h2 : LexLt b c m) : LexLt a c m := by
  obtain ⟨i, i1, i2, i3⟩ := h1
  obtain ⟨j, j1, j2, j3⟩ := h2
  by_cases e : i < j
  · exact ⟨i, i1, fun x hx => by rw [i2 x hx, j2 x (by omega)], by rw [← j2 i e]; exact i3⟩
  · by_cases e2 : i = j
    · subst e2; exact ⟨i, i1, fun x hx => by rw [i2 x hx, j2 x hx], by omega⟩
    · exact ⟨j, j1, fun x hx => by rw [i2 x (by omega), j2 x hx], by rw [i2 j (by omega)]; exact j3⟩
def SL (a b : List Int) : Prop := Shortlex (atL a) a.length (atL b) b.length
theorem sl_irr {a : List Int} : ¬ SL a a := fun h => by
  rcases h with h | h
  · omega
  · exact lex_irr h.2
theorem sl_trans {a b c : List Int} (h1 : SL a b) (h2 : SL b c) : SL a c := by
  unfold SL Shortlex at *
  rcases h1 with h1 | ⟨e1, h1⟩ <;> rcases h2 with h2 | ⟨e2, h2⟩
  · exact .inl (by omega)
  · exact .inl (by omega)
  · exact .inl (by omega)
  · exact .inr ⟨by omega, lex_trans h1 (by rw [e1]; exact h2)⟩
variable {n : Nat} {h : AHeap}
def Bit (b x : Nat) : Prop := b / 2 ^ x % 2 = 1
variable {n : Nat} {h : AHeap}
variable {n : Nat} {h : AHeap}
variable {n : Nat} {h : AHeap}
section
variable {α : Type}
end
theorem perm_of_sub {α : Type} : ∀ (l m : List α), l.Nodup → (∀ x, x ∈ l → x ∈ m) → m.length ≤ l.length → l.Perm m := by
  classical
  intro l
  induction l with
  | nil =>
    intro m _ _ h
    have : m = [] := List.eq_nil_of_length_eq_zero (by simpa using h)
    subst this
    exact List.Perm.refl _
  | cons a l ih =>
    intro m hn hs hl
    have ha : a ∈ m := hs a (by simp)
    rw [List.nodup_cons] at hn
    have hp := List.perm_cons_erase ha
    refine (List.Perm.cons a (ih (m.erase a) hn.2 (fun x hx => ?_) ?_)).trans hp.symm
    · have : x ≠ a := fun e => hn.1 (e ▸ hx)
      exact (List.mem_erase_of_ne this).2 (hs x (by simp [hx]))
    · have := hp.length_eq
      simp only [List.length_cons] at this hl
      omega
variable {n : Nat} {h : AHeap}
def Seen (L : List (Nat → Int)) (p : (Nat → Int) → Prop) (k : Nat) : Prop := ∃ i, i < k ∧ p (L.getD i fun _ => 0)
noncomputable instance (L : List (Nat → Int)) (p : (Nat → Int) → Prop) (k : Nat) : Decidable (Seen L p k) := Classical.propDecidable _
variable {n : Nat} {h : AHeap}
theorem repl_one {x : Value} : ∀ m, repl [x] m = List.replicate m x
  | 0 => rfl
  | m + 1 => by rw [repl, repl_one m, List.replicate_succ]; rfl
section
variable {P : Program} {cf : CallF} {N : Nat} {f : Fr} {x y z : Operand}
theorem x_mkmap : sem P cf N f h .mkmap = h.push (some (.map #[] 0)) fun i h => some (.map (some i), h) := id rfl
theorem x_lookup {kt : TypeId} {zv : Value} {ok : Bool} : sem P cf N f h (.lookup kt zv ok x y) = lookupA P kt zv ok h (val f x) (val f y) := id rfl
end
variable {n : Nat} {h : AHeap}
variable {n : Nat} {h : AHeap}
section
variable {σ : Type}
structure ItS (pv py pc : Nat) (nv : Nat) (yv cv : Value) (g : AHeap) : Prop where
  v : Row g pv [.int .i64 (nv : Int)]
  y : Row g py [yv]
  c : Row g pc [cv]
theorem ItS.set {pv py pc pb gr nv : Nat} {cs : List Value} {yv cv : Value} {g g' : AHeap} (hi' : ItS pv py pc nv yv cv g) (hs : Set1 g g' pb cs gr) (h1 : pv ≠ pb) (h2 : py ≠ pb) (h3 : pc ≠ pb) : ItS pv py pc nv yv cv g' :=
  ⟨hi'.v.keep hs.keep h1, hi'.y.keep hs.keep h2, hi'.c.keep hs.keep h3⟩
end
variable {n : Nat} {h : AHeap}
variable {n : Nat} {h : AHeap}
theorem x_eqNil {P : Program} {cf : CallF} {N : Nat} {f : Fr} {w : Bool} {x y : Operand} : sem P cf N f h (.eqNil w x y) = eqNilA w (val f x) (val f y) h := id rfl
theorem eqNil_no {w : Bool} {a : Addr} {k c k2 c2 : Nat} : eqNilA w (.slice (some a) k c) (.slice none k2 c2) h = some (.bool (!w), h) := id rfl
theorem eqNil_yes {w : Bool} {k c k2 c2 : Nat} : eqNilA w (.slice none k c) (.slice none k2 c2) h = some (.bool w, h) := id rfl
variable {n : Nat} {h : AHeap}
variable {n : Nat} {h : AHeap}
variable {n : Nat} {h : AHeap}
variable {n : Nat} {h : AHeap}
variable {n : Nat} {h : AHeap}
variable {n : Nat} {h : AHeap}
def Words (h : AHeap) (v : Value) (m : Nat) (a : Nat → Nat) : Prop := Cells h v 1 m (fun k _ => .int .u16 (a k : Int)) ∧ ∀ k, k < m → a k < 65536
theorem Words.mono {g : AHeap} {v : Value} {m : Nat} {a : Nat → Nat} (hw : Words h v m a) (hs : Sub All h g) : Words g v m a := ⟨Cells.mono hw.1 hs, hw.2⟩
def run16 (other : AHeap → Option (Value × AHeap)) (a : Value) (h : AHeap) : Option (Value × AHeap) :=
  match a with
  | .int .u16 a => some (.int .i64 (IntKind.wrap .i64 a), h)
  | _ => other h
theorem r_16 {other : AHeap → Option (Value × AHeap)} {k : Nat} (hk : k < 65536) : run16 other (.int .u16 (k : Int)) h = some (.int .i64 (k : Int), h) := by
  simp only [run16]
  rw [IntWalk.i64_in _ (by omega)]
def rowI (m : Nat) (c : Nat → Int) : List Value := (List.range m).map fun i => .int .i64 (c i)
theorem rowI_len {m : Nat} {c : Nat → Int} : (rowI m c).length = m := by simp [rowI]
theorem rowI_get {m k : Nat} {c : Nat → Int} (hk : k < m) : (rowI m c)[k]? = some (.int .i64 (c k)) := by unfold rowI; rw [List.getElem?_map, List.getElem?_range hk]; rfl
variable {n : Nat} {h : AHeap}
variable {n : Nat} {h : AHeap}
variable {n : Nat} {h : AHeap}
variable {n : Nat} {h : AHeap}
variable {n : Nat} {h : AHeap}
variable {n : Nat} {h : AHeap}
def flatL (s m : Nat) (c : Nat → Nat → Value) : List Value := (List.range (m * s)).map fun i => c (i / s) (i % s)
theorem flatL_len {s m : Nat} {c : Nat → Nat → Value} : (flatL s m c).length = m * s := by simp [flatL]
theorem flatL_get {s m k j : Nat} {c : Nat → Nat → Value} (hk : k < m) (hj : j < s) : (flatL s m c)[k * s + j]? = some (c k j) := by
  have hlt : k * s + j < m * s := by
    have : (k + 1) * s ≤ m * s := Nat.mul_le_mul_right s hk
    rw [Nat.add_mul] at this
    omega
  unfold flatL
  rw [List.getElem?_map, List.getElem?_range hlt, Option.map_some, Nat.mul_comm k s, Nat.mul_add_div (by omega), Nat.div_eq_of_lt hj, Nat.mul_add_mod, Nat.mod_eq_of_lt hj, Nat.add_zero]
theorem Cells.list {v : Value} {s m : Nat} {c : Nat → Nat → Value} (hs : 0 < s) (hi : Cells h v s m c) : ∃ x k, v = .slice x m k ∧ cellsOfSlice h s v = some (flatL s m c) := by
  obtain ⟨x, cap, rfl, _, h0 | ⟨b, o, cs, w, gr, rfl, h1, h2⟩⟩ := hi
  · subst h0
    refine ⟨x, cap, rfl, ?_⟩
    cases x <;> simp [cellsOfSlice, flatL]
  · refine ⟨_, cap, rfl, ?_⟩
    by_cases hm : m = 0
    · subst hm; simp [cellsOfSlice, flatL]
    have hb : Nat.beq m 0 = false := by
      cases hb : Nat.beq m 0 with
      | false => rfl
      | true => exact absurd (beq_iff.1 hb) hm
    show (bif Nat.beq m 0 then some [] else match h.get b with
      | some (.row cs _ _) => dropK cs o fun r => takeK r (m * s) fun l => some l
      | _ => none) = _
    have hl := (List.getElem?_eq_some_iff.1 (h2 (m - 1) (s - 1) (by omega) (by omega))).1
    have hms : (m - 1) * s + s = m * s := by
      obtain ⟨p, rfl⟩ : ∃ p, m = p + 1 := ⟨m - 1, by omega⟩
      rw [Nat.add_sub_cancel, Nat.add_mul, Nat.one_mul]
    rw [hb, cond_false, h1]
    simp only [dropK_eq, takeK_eq]
    rw [if_pos (by omega), if_pos (by rw [List.length_drop]; omega)]
    congr 1
    apply List.ext_getElem?
    intro i
    simp only [List.getElem?_take, List.getElem?_drop]
    by_cases hi : i < m * s
    · rw [if_pos hi]
      have hd : i / s < m := (Nat.div_lt_iff_lt_mul hs).2 hi
      have hr : i % s < s := Nat.mod_lt _ hs
      have e : i / s * s + i % s = i := by have := Nat.div_add_mod i s; rw [Nat.mul_comm] at this; exact this
      have h3 := h2 (i / s) (i % s) hd hr
      have h4 := flatL_get (c := c) hd hr
      rw [e] at h4
      rw [h4, ← h3]
      congr 1
      omega
    · rw [if_neg hi, List.getElem?_eq_none (by rw [flatL_len]; omega)]
theorem cells_sub {g : AHeap} {v : Value} {s m : Nat} {c : Nat → Nat → Value} (hsub : Sub All h g) (hc : Cells h v s m c) (hs : 0 < s) {l : List Value} (hl : cellsOfSlice h s v = some l) : cellsOfSlice g s v = some l := by
  obtain ⟨x, k, e, h1⟩ := Cells.list hs hc
  obtain ⟨x', k', e', h2⟩ := Cells.list hs (hc.mono hsub)
  rw [h1] at hl
  rw [h2, hl]
theorem flatL_one {s m : Nat} {c : Nat → Nat → Int} : allB oneCell (flatL s m fun k j => .int .i64 (c k j)) = true := by rw [allB_iff]; intro v hv; obtain ⟨i, _, rfl⟩ := List.mem_map.1 hv; rfl
variable {n : Nat} {h : AHeap}
theorem cells_row {b s m cap : Nat} {cs : List Value} {c : Nat → Nat → Value} (hr : Row h b cs) (hc : ∀ k j, k < m → j < s → cs[k * s + j]? = some (c k j)) : Cells h (.slice (some ⟨b, 0, none⟩) m cap) s m c := by
  obtain ⟨w, gr, e⟩ := hr
  exact ⟨_, _, rfl, fun x e => by cases e; rfl, .inr ⟨b, 0, _, _, _, rfl, e, fun k j hk hj => by rw [Nat.zero_add]; exact hc k j hk hj⟩⟩
variable {n : Nat} {h : AHeap}
section
variable {H : Type} {enc : TypeId × Value → H} {w : World} {base : Nat} {sp : Nat → Bool} {held : Bool} {fuel : Nat} {cs : List Value} {x : DataW H × List MemPlace}
structure YardW (w : World) (fv vv sv : Value) : Prop where
  f : FlatS w .i64 2 fv
  s : FlatS w .i64 3 sv
  v : vv = .slice none 0 0 ∨ ∃ a len cap, vv = .slice (some a) len cap ∧ len ≤ cap ∧ ∀ i, i < len → ∃ v, w.cell? (a.add i) = some v ∧ FlatS w .i64 1 v
end
def Big (u0 u1 u2 : Value) : Prop := ∃ a0 n0 k0 a1 n1 k1 a2 n2 k2, u0 = .slice a0 n0 k0 ∧ u1 = .slice a1 n1 k1 ∧ u2 = .slice a2 n2 k2 ∧ (30 < n0 ∨ 30 < n1 ∨ 30 < n2)
variable {n : Nat} {h : AHeap}
theorem cell_slice {P : Program} {w : World} {r : Reach} {b : Nat} {t e : TypeId} {v x : Value} (ht : P.underlying t = some (.slice e)) (ho : Value.okWide P w r b t v) (hc : v.cells.toList = [x]) : v = x := by
  unfold Value.okWide at ho
  rw [ht] at ho
  cases v <;> simp_all [Value.cells, Cell.okWide, Cell.ok]
theorem cell_int {P : Program} {w : World} {r : Reach} {b : Nat} {t : TypeId} {k : IntKind} {v x : Value} (ht : P.underlying t = some (.int k)) (ho : Value.okWide P w r b t v) (hc : v.cells.toList = [x]) : v = x := by
  unfold Value.okWide at ho
  rw [ht] at ho
  cases v <;> simp_all [Value.cells, Cell.okWide, Cell.ok]
theorem agg_struct {P : Program} {w : World} {r : Reach} {b : Nat} {t : TypeId} {fs : Array Field} {v : Value} {cs : List Value} (ht : P.underlying t = some (.struct fs)) (ho : Value.okWide P w r b t v) (hc : v.cells.toList = cs) : v = .agg ⟨cs⟩ := by
  unfold Value.okWide at ho
  rw [ht] at ho
  obtain ⟨cs', rfl, _⟩ := ho
  subst hc
  rfl
theorem Big.one {u0 u1 u2 : Value} (hb : Big u0 u1 u2) : allB oneCell [u0, u1, u2] = true := by
  obtain ⟨a0, n0, k0, a1, n1, k1, a2, n2, k2, rfl, rfl, rfl, _⟩ := hb
  rfl
theorem map_int {φ : Emb} {k : IntKind} {a : Int} : mapV φ (.int k a) = .int k a := by simp [mapV]
variable {n : Nat} {h : AHeap}
variable {n : Nat} {h : AHeap}
def DRows (B : Nat) (h : AHeap) (v : Value) (n m : Nat) (q : Nat → Nat → Int) : Prop :=
  ∃ bk : Nat → Nat, GrowC B h v 1 n (fun k _ => .slice (some ⟨bk k, 0, none⟩) m unk) ∧ ∀ k, k < n → h.get (bk k) = some (.row (rowI m (q k)) true 1) ∧ B ≤ bk k ∧ bk k < h.next ∧ (∀ b c d, v = .slice (some b) c d → bk k ≠ b.block) ∧ ∀ j, j < n → j ≠ k → bk j ≠ bk k
theorem DRows.nil {B m : Nat} {q : Nat → Nat → Int} : DRows B h nilS 0 m q := ⟨fun _ => 0, .nil, fun k hk => by omega⟩
theorem DRows.keep {B o n m : Nat} {g : AHeap} {v : Value} {q : Nat → Nat → Int} (hd : DRows B h v n m q) (hk : Keep o h g) (ho : o < B) : DRows B g v n m q := by
  obtain ⟨bk, h1, h2⟩ := hd
  refine ⟨bk, h1.keep hk ho, fun k hkn => ?_⟩
  obtain ⟨a1, a2, a3, a4, a5⟩ := h2 k hkn
  exact ⟨hk.sub _ _ _ _ (by omega) a1, a2, Nat.lt_of_lt_of_le a3 hk.up, a4, a5⟩
theorem DRows.sub {B n m : Nat} {g : AHeap} {v : Value} {q : Nat → Nat → Int} (hd : DRows B h v n m q) (hs : Sub All h g) (hup : h.next ≤ g.next) : DRows B g v n m q := by
  obtain ⟨bk, h1, h2⟩ := hd
  refine ⟨bk, h1.sub hs, fun k hkn => ?_⟩
  obtain ⟨a1, a2, a3, a4, a5⟩ := h2 k hkn
  exact ⟨hs _ _ _ _ trivial a1, a2, Nat.lt_of_lt_of_le a3 hup, a4, a5⟩
theorem DRows.push {B n m b : Nat} {g h1 : AHeap} {v : Value} {q : Nat → Nat → Int} (hd : DRows B g v n m q) (hs : Sub All g h) (hup : g.next ≤ h.next) (hbg : g.next ≤ b) (hB : h.floor ≤ B) (hf : h.next + 2 < far) (hBn : B ≤ g.next) (hl : h.get b = some (.row (rowI m (q n)) true 1)) (hb : b < h.next) (hx : New h h1 [.slice (some ⟨b, 0, none⟩) m unk] 0) (hn : n + 1 ≤ 1000) :
    ∃ v' g', appendA 1 24 h1 v (.slice (some ⟨h.next, 0, none⟩) 1 1) = some (v', g') ∧ DRows B g' v' (n + 1) m q ∧ Kept h1 g' v ∧ oneCell v' = true ∧ (∀ a k c, v = .slice (some a) k c → B ≤ a.block) ∧ v' = .slice (some ⟨h1.next, 0, none⟩) (n + 1) unk := by
  obtain ⟨bk, g1, g2⟩ := hd
  have hnx := hx.next
  have hfl := hx.floor
  let bk' : Nat → Nat := fun i => if i = n then b else bk i
  have g1' : GrowC B h1 v 1 n (fun k _ => .slice (some ⟨bk' k, 0, none⟩) m unk) := ((g1.sub hs).sub hx.sub).congr fun k j hk hj => by show Value.slice (some ⟨bk k, 0, none⟩) m unk = .slice (some ⟨if k = n then b else bk k, 0, none⟩) m unk; rw [if_neg (by omega)]
  obtain ⟨v', g', e, ev, gv, hk⟩ := g1'.append (bytes := 24) (cap := 1) (by omega) (by omega) (by omega) hx.get rfl rfl (fun j hj => by rw [one_get j hj]; show some _ = some (Value.slice (some ⟨if n = n then b else bk n, 0, none⟩) m unk); rw [if_pos rfl]) (by simp [maxBytes]; omega) (by simp [maxBytes]; omega)
  have hkn := hk.next
  refine ⟨v', g', e, ⟨bk', gv, fun i hi => ?_⟩, hk, gv.one, fun a k c e => (g1.block e).1, ev⟩
  have hout : ∀ x c d, v' = .slice (some x) c d → x.block = h1.next := fun x c d e' => by rw [ev] at e'; cases e'; rfl
  by_cases hin : i = n
  · subst hin
    have hbi : bk' i = b := by show (if i = i then b else bk i) = b; rw [if_pos rfl]
    rw [hbi]
    refine ⟨?_, by omega, by omega, fun x c d e' => by have := hout x c d e'; omega, fun j hj hji => ?_⟩
    · rw [hk.old b (by omega) fun x c d e' => by have := (g1.block e').2; omega, hx.old b hb]; exact hl
    · show (if j = i then b else bk j) ≠ b
      rw [if_neg hji]; have := (g2 j (by omega)).2.2.1; omega
  · have hbi : bk' i = bk i := by show (if i = n then b else bk i) = bk i; rw [if_neg hin]
    rw [hbi]
    obtain ⟨a1, a2, a3, a4, a5⟩ := g2 i (by omega)
    refine ⟨?_, a2, by omega, fun x c d e' => by have := hout x c d e'; omega, fun j hj hji => ?_⟩
    · rw [hk.old (bk i) (by omega) fun x c d e' => a4 x c d e', hx.old (bk i) (by omega)]; exact hs _ _ _ _ trivial a1
    · show (if j = n then b else bk j) ≠ bk i
      by_cases e : j = n
      · rw [if_pos e]; omega
      · rw [if_neg e]; exact a5 j (by omega) hji
variable {n : Nat} {h : AHeap}
section
variable {a b k m : Nat} {f g : Nat → Int} {x : Int}
end
section
end
theorem GrowC.at' {B s n : Nat} {g : AHeap} {v : Value} {c : Nat → Nat → Value} (hg : GrowC B h v s n c) (he : ∀ a k cap, v = .slice (some a) k cap → g.get a.block = h.get a.block) : GrowC B g v s n c := by
  obtain ⟨cs, ⟨rfl, rfl, rfl⟩ | ⟨b, rfl, h2, h3, h4⟩, h5, h6⟩ := hg
  · exact .nil
  · exact ⟨cs, .inr ⟨b, rfl, by rw [he _ _ _ rfl]; exact h2, h3, h4⟩, h5, h6⟩
theorem DRows.kept {B m n n' : Nat} {g : AHeap} {v w : Value} {q : Nat → Nat → Int} {c : Nat → Nat → Value} (hd : DRows B h v n m q) (hm : 0 < m) (hw : GrowC B h w 1 n' c) (hc : ∀ k, k < n' → ∃ a j cap, c k 0 = .slice a j cap) (hk : Kept h g w)
    (hne : ∀ a k cap a' k' cap', v = .slice (some a) k cap → w = .slice (some a') k' cap' → a.block ≠ a'.block) : DRows B g v n m q := by
  obtain ⟨bk, h1, h2⟩ := hd
  have hnx := hk.next
  refine ⟨bk, GrowC.at' h1 fun a k cap e => hk.old _ (h1.block e).2 fun a' k' cap' e' => hne _ _ _ _ _ _ e e', fun k hkn => ?_⟩
  obtain ⟨a1, a2, a3, a4, a5⟩ := h2 k hkn
  refine ⟨?_, a2, by omega, a4, a5⟩
  rw [hk.old _ a3 fun a' k' cap' e' heq => ?_]
  · exact a1
  · obtain ⟨cs, ⟨rfl, _, _⟩ | ⟨b, rfl, w2, w3, _⟩, _, w5⟩ := hw
    · cases e'
    · cases e'
      simp only at heq
      rw [heq, w2] at a1
      simp only [Option.some.injEq, AObj.row.injEq] at a1
      have hcs := a1.1
      have hlen : cs.length = m := by rw [hcs, rowI_len]
      have hn' : 0 < n' := by omega
      have h3 := w5 0 0 hn' (by omega)
      obtain ⟨aa, j, cap, e3⟩ := hc 0 hn'
      rw [hcs, show 0 * 1 + 0 = 0 from rfl, rowI_get hm, e3] at h3
      cases h3
variable {n : Nat} {h : AHeap}
section
end
theorem one_cells {s b gr cap : Nat} {new : List Value} {wr : Bool} (hyc : h.get b = some (.row new wr gr)) (hnl : new.length = s) : cellsOfSlice h s (.slice (some ⟨b, 0, none⟩) 1 cap) = some new := by
  show (bif Nat.beq 1 0 then some [] else match h.get b with
    | some (.row cs _ _) => dropK cs 0 fun r => takeK r (1 * s) fun l => some l
    | _ => none) = some new
  have h10 : Nat.beq 1 0 = false := rfl
  rw [hyc, h10, cond_false]
  simp only [dropK_eq, takeK_eq, Nat.zero_le, if_true, List.drop_zero]
  rw [if_pos (by omega), Nat.one_mul, ← hnl, List.take_length]
variable {n : Nat} {h : AHeap}
variable {n : Nat} {h : AHeap}
def Own (B : Nat) (h : AHeap) (v : Value) (s m : Nat) : Prop := (∃ a c, v = .slice a 0 c ∧ m = 0) ∨ ∃ b cap cs gr, v = .slice (some ⟨b, 0, none⟩) m cap ∧ B ≤ b ∧ h.get b = some (.row cs true gr) ∧ m * s ≤ cs.length
theorem Own.le {B C s m : Nat} {v : Value} (ho : Own B h v s m) (hc : C ≤ B) : Own C h v s m := by
  rcases ho with e | ⟨b, cap, cs, gr, e, h1, h2⟩
  · exact .inl e
  · exact .inr ⟨b, cap, cs, gr, e, Nat.le_trans hc h1, h2⟩
theorem Own.old {B s m : Nat} {g : AHeap} {v : Value} (ho : Own B h v s m) (he : ∀ x k c, v = .slice (some x) k c → g.get x.block = h.get x.block) : Own B g v s m := by
  rcases ho with e | ⟨b, cap, cs, gr, rfl, h1, h2, h3⟩
  · exact .inl e
  · exact .inr ⟨b, cap, cs, gr, rfl, h1, by rw [he _ _ _ rfl]; exact h2, h3⟩
theorem Own.mono {B s m : Nat} {g : AHeap} {v : Value} (ho : Own B h v s m) (hs : Sub All h g) : Own B g v s m := by
  rcases ho with e | ⟨b, cap, cs, gr, rfl, h1, h2, h3⟩
  · exact .inl e
  · exact .inr ⟨b, cap, cs, gr, rfl, h1, hs _ _ _ _ trivial h2, h3⟩
def IntsO (B : Nat) (h : AHeap) (v : Value) (m : Nat) (a : Nat → Int) : Prop := Ints h v m a ∧ Own B h v 1 m
theorem IntsO.le {B C m : Nat} {v : Value} {a : Nat → Int} (hi : IntsO B h v m a) (hc : C ≤ B) : IntsO C h v m a := ⟨hi.1, hi.2.le hc⟩
variable {P : Program} {N : Nat} {f : Fr} {h : AHeap} {ty t u e : TypeId} {x y : Operand}
variable {n : Nat} {h : AHeap}
theorem Own.form {B s m : Nat} {v : Value} (ho : Own B h v s m) : ∃ a c, v = .slice a m c := by
  rcases ho with ⟨a, c, rfl, rfl⟩ | ⟨b, cap, cs, gr, rfl, _⟩
  · exact ⟨_, _, rfl⟩
  · exact ⟨_, _, rfl⟩
theorem Own.set {B s m b gr gr' : Nat} {g : AHeap} {v : Value} {cs cs' : List Value} (ho : Own B h v s m) (hg : h.get b = some (.row cs true gr)) (hl : cs'.length = cs.length) (hs : Set1 h g b cs' gr') : Own B g v s m := by
  rcases ho with e | ⟨b1, cap, cs1, gr1, rfl, h1, h2, h3⟩
  · exact .inl e
  · by_cases e : b1 = b
    · subst e
      rw [h2] at hg
      cases hg
      exact .inr ⟨_, cap, _, _, rfl, h1, hs.get, by omega⟩
    · exact .inr ⟨b1, cap, cs1, gr1, rfl, h1, by rw [hs.old _ e]; exact h2, h3⟩
variable {n : Nat} {h : AHeap}
variable {n : Nat} {h : AHeap}
theorem rd_1 {S : Nat → Prop} {f : Fr} {x : Operand} : readsIn S f (.load1 x) = ∀ ad, val f x = .pointer (some ad) → S ad.block := id rfl
theorem rd_N {S : Nat → Prop} {f : Fr} {x : Operand} {k : Nat} : readsIn S f (.loadN k x) = ∀ ad, val f x = .pointer (some ad) → S ad.block := id rfl
theorem rd_ne {b o X : Nat} {s : Option Nat} : (∀ ad : Addr, Value.pointer (some ⟨b, o, s⟩) = .pointer (some ad) → ¬ ad.block = X) = ¬ b = X := by
  simp only [eq_iff_iff]
  exact ⟨fun hh => hh _ rfl, fun hb ad e => by cases e; exact hb⟩
variable {n : Nat} {h : AHeap}
theorem cells_at {g : AHeap} {v : Value} {s n : Nat} {c : Nat → Nat → Value} (hc : Cells h v s n c) (hg : ∀ a k cap, v = .slice (some a) k cap → g.get a.block = h.get a.block) : Cells g v s n c := by
  obtain ⟨a, cap, e, hsp, h0 | ⟨b, o, cs, w, gr, e1, e2, e3⟩⟩ := hc
  · exact ⟨a, cap, e, hsp, .inl h0⟩
  · subst e1
    exact ⟨_, cap, e, hsp, .inr ⟨b, o, cs, w, gr, rfl, by rw [hg _ _ _ e]; exact e2, e3⟩⟩
def FreshRows (B : Nat) (h : AHeap) (v : Value) (n : Nat) (cnt : Nat) (L : List (Nat → Int)) : Prop :=
  n = L.length ∧ ∃ r : Nat → Value, Cells h v 1 n (fun k _ => r k) ∧ (∀ a k c, v = .slice (some a) k c → B ≤ a.block ∧ a.block < h.next) ∧ oneCell v = true ∧
    ∀ i, i < n → Ints h (r i) cnt (L.getD i fun _ => 0) ∧ oneCell (r i) = true ∧ ∀ a m c, r i = .slice (some a) m c → B ≤ a.block ∧ a.block < h.next
theorem GrowRows.fresh {B : Nat} {v : Value} {cnt : Nat} {L : List (Nat → Int)} (hg : GrowRows B h v L.length (fun _ => cnt) fun k => L.getD k fun _ => 0) : FreshRows B h v L.length cnt L := by
  obtain ⟨r, h1, h2⟩ := hg
  refine ⟨rfl, r, h1.cells, fun a k c e => h1.block e, h1.one, fun i hi => ⟨(h2 i hi).1, ?_, fun a m c e => ⟨((h2 i hi).2 a m c e).1, ((h2 i hi).2 a m c e).2.1⟩⟩⟩
  exact Cells.one (h2 i hi).1
variable {n : Nat} {h : AHeap}
variable {n : Nat} {h : AHeap}
variable {n : Nat} {h : AHeap}
def wordN (m : Nat) (a : Nat → Nat) (i : Nat) : Nat := if m = 0 then 0 else a (i % m)
variable {n : Nat} {h : AHeap}
variable {n : Nat} {h : AHeap}
theorem sl_eq {a b : List Int} (h1 : ¬ SL a b) (h2 : ¬ SL b a) : a = b := by
  have hl : a.length = b.length := by
    apply Classical.byContradiction
    intro e
    by_cases c : a.length < b.length
    · exact h1 (.inl c)
    · exact h2 (.inl (by omega))
  have hx : ∀ m, m ≤ a.length → ∀ i, i < m → atL a i = atL b i := by
    intro m
    induction m with
    | zero => intro _ i hi; omega
    | succ m ih =>
      intro hm i hi
      have hp := ih (by omega)
      by_cases e : i = m
      · subst e
        apply Classical.byContradiction
        intro hne
        by_cases c : atL a i < atL b i
        · exact h1 (.inr ⟨hl, i, by omega, hp, c⟩)
        · exact h2 (.inr ⟨hl.symm, i, by omega, fun x hx => (hp x hx).symm, by omega⟩)
      · exact hp i (by omega)
  apply List.ext_getElem hl
  intro i i1 i2
  have := hx a.length (Nat.le_refl _) i i1
  unfold atL at this
  rw [List.getD_eq_getElem?_getD, List.getD_eq_getElem?_getD, List.getElem?_eq_getElem i1, List.getElem?_eq_getElem i2] at this
  exact this
variable {n : Nat} {h : AHeap}
variable {n : Nat} {h : AHeap}
end Go.Vm.Vat

namespace Go.Vm
set_option linter.unusedSimpArgs false
set_option linter.unusedVariables false
variable {P : Program} {t : TypeId}
structure Three (P : Program) (t : TypeId) : Prop where
  ex : ∃ f0 f1 f2 : Field, P.underlying t = some (.struct #[f0, f1, f2]) ∧ f0.name ≠ "_" ∧ f1.name ≠ "_" ∧ f2.name ≠ "_" ∧ f0.offset = 0 ∧ f1.offset = 1 ∧ f2.offset = 2 ∧ P.underlying f0.type = some (.int .i64) ∧ P.underlying f1.type = some (.int .i64) ∧ P.underlying f2.type = some (.int .i64)
  held : P.stoodInHeld t = false
end Go.Vm

namespace Go.Vm
variable {P : Program} {N : Nat} {f : Fr} {h : AHeap} {ty t u : TypeId} {x y z : Operand}
end Go.Vm

namespace Go.Vm
open Go.Vm.Vat
set_option linter.unusedSimpArgs false
set_option linter.unusedVariables false
section
variable {N : Nat} {P : List Int → Prop}
end
end Go.Vm

namespace Go.Vm
open Go.Vm.Vat
set_option linter.unusedSimpArgs false
set_option linter.unusedVariables false
variable {h g : AHeap}
def NoB (v : Value) (i : Nat) : Prop := ∀ b m c, v = .slice (some b) m c → i ≠ b.block
def SetR (B : Nat) (g : AHeap) (v : Value) (cur : List Int) : Prop :=
  (v = .slice none 0 0 ∧ cur = []) ∨ ∃ b cs, v = .slice (some ⟨b, 0, none⟩) cur.length unk ∧ g.get b = some (.row cs true 1) ∧ cur.length ≤ cs.length ∧ (∀ i, i < cur.length → cs[i]? = some (.int .i64 (atL cur i))) ∧ allB oneCell cs = true ∧ B ≤ b
theorem SetR.old {B : Nat} {v : Value} {cur : List Int} (hs : SetR B h v cur) (ho : ∀ a k c, v = .slice (some a) k c → a.block < h.next → g.get a.block = h.get a.block) : SetR B g v cur := by
  rcases hs with q | ⟨b, cs, rfl, h1, h2, h3, h4, h5⟩
  · exact .inl q
  · exact .inr ⟨b, cs, rfl, by rw [ho _ _ _ rfl (AHeap.lt_of_get h1)]; exact h1, h2, h3, h4, h5⟩
theorem SetR.ints {B : Nat} {v : Value} {cur : List Int} (hs : SetR B h v cur) : Ints h v cur.length (atL cur) := by
  rcases hs with ⟨rfl, rfl⟩ | ⟨b, cs, rfl, h1, h2, h3, h4, h5⟩
  · exact ⟨none, 0, rfl, fun x e => (by cases e), .inl rfl⟩
  · exact ⟨_, _, rfl, fun x e => (by cases e; rfl), .inr ⟨b, 0, cs, true, 1, rfl, h1, fun k j hk hj => by
      obtain rfl : j = 0 := by omega
      rw [Nat.zero_add, Nat.mul_one, Nat.add_zero]
      exact h3 k hk⟩⟩
theorem SetR.one {B : Nat} {v : Value} {cur : List Int} (hs : SetR B h v cur) : oneCell v = true := by
  rcases hs with ⟨rfl, rfl⟩ | ⟨b, cs, rfl, _⟩ <;> rfl
theorem SetR.block {B : Nat} {v : Value} {cur : List Int} (hs : SetR B h v cur) {a : Addr} {k c : Nat} (e : v = .slice (some a) k c) : B ≤ a.block ∧ a.block < h.next := by
  rcases hs with ⟨rfl, rfl⟩ | ⟨b, cs, rfl, h1, h2, h3, h4, h5⟩
  · cases e
  · cases e; exact ⟨h5, AHeap.lt_of_get h1⟩
theorem SetR.push {B : Nat} {v : Value} {cur : List Int} {x : Int} {g1 : AHeap} (hs : SetR B h v cur) (hB : h.floor ≤ B) (hf : h.next + 2 < far) (hBn : B ≤ h.next) (hx : New h g1 [.int .i64 x] 0) (hl : cur.length ≤ 1000) :
    ∃ v' g2, appendA 1 8 g1 v (.slice (some ⟨h.next, 0, none⟩) 1 1) = some (v', g2) ∧ SetR B g2 v' (cur ++ [x]) ∧ oneCell v' = true ∧ h.next ≤ g2.next ∧ g2.next ≤ h.next + 2 ∧ g2.floor = h.floor ∧ (∀ i, i < h.next → NoB v i → g2.get i = h.get i) ∧
      ∀ i, i < h.next → NoB v i → NoB v' i := by
  have n1 := hx.next
  have f1 := hx.floor
  have hlen : (cur ++ [x]).length = cur.length + 1 := by simp
  have hnewc : cellsOfSlice g1 1 (.slice (some ⟨h.next, 0, none⟩) 1 1) = some [.int .i64 x] := one_cells hx.get rfl
  have full : ∀ cs, Grow B h v 1 cur.length cs → allB oneCell cs = true → (∀ i, i < cur.length → cs[i]? = some (.int .i64 (atL cur i))) →
      ∃ v' g2, appendA 1 8 g1 v (.slice (some ⟨h.next, 0, none⟩) 1 1) = some (v', g2) ∧ SetR B g2 v' (cur ++ [x]) ∧ oneCell v' = true ∧ h.next ≤ g2.next ∧ g2.next ≤ h.next + 2 ∧ g2.floor = h.floor ∧ (∀ i, i < h.next → NoB v i → g2.get i = h.get i) ∧ ∀ i, i < h.next → NoB v i → NoB v' i := fun cs hg hc hv => by
    have hg1 : Grow B g1 v 1 cur.length cs := hg.keep fun b e hb => hx.old b hb
    obtain ⟨g2, e2, hg2, hk2⟩ := append_run (bytes := 8) hg1 (by omega) (by omega) ⟨_, _, rfl⟩ hnewc rfl rfl hc (by omega) (by omega) (by simp [maxBytes]; omega) (by simp [maxBytes]; omega)
    have n2 := hk2.next
    have f2 := hk2.floor
    have hcl := hg.len
    refine ⟨_, g2, e2, ?_, rfl, by omega, by omega, by omega, fun i hi hne => by rw [hk2.old i (by omega) fun b k c e => hne b k c e, hx.old i hi], fun i hi _ b k c e => by cases e; show i ≠ g1.next; omega⟩
    rcases hg2 with ⟨e, _⟩ | ⟨b, e, k1, k2, k3⟩
    · cases e
    · cases e
      refine .inr ⟨_, _, by rw [hlen], k1, by rw [k2, hlen]; omega, fun i hi => ?_, ?_, k3⟩
      · rw [hlen] at hi
        by_cases c : i < cur.length
        · rw [List.getElem?_append_left (by omega), hv i c, at_append c]
        · obtain rfl : i = cur.length := by omega
          rw [List.getElem?_append_right (by omega), hcl, Nat.mul_one, Nat.sub_self, at_last]
          rfl
      · rw [allB_iff] at *
        intro u hu
        rcases List.mem_append.1 hu with hu | hu
        · exact hc u hu
        · simp only [List.mem_singleton] at hu; subst hu; rfl
  rcases hs with ⟨rfl, rfl⟩ | ⟨b, cs, rfl, h1, h2, h3, h4, h5⟩
  · exact full [] .nil rfl fun i hi => absurd hi (Nat.not_lt_zero _)
  · by_cases hc : cs.length = cur.length
    · exact full cs (.inr ⟨b, rfl, h1, by rw [hc, Nat.mul_one], h5⟩) h4 h3
    · have hlt := AHeap.lt_of_get h1
      have h1' : g1.get b = some (.row cs true 1) := by rw [hx.old b hlt]; exact h1
      obtain ⟨g2, e2, hs2⟩ := storeRow_run (off := cur.length * 1) (vs := [.int .i64 x]) h1' (by omega) (by omega) rfl (by simp; omega)
      have hs2' := hs2
      rw [Nat.mul_one] at hs2'
      have n2 := hs2.next
      have f2 := hs2.floor
      have hold : cellsOfSlice g1 1 (.slice (some ⟨b, 0, none⟩) cur.length unk) = some (cs.take cur.length) := by
        show (bif Nat.beq cur.length 0 then some [] else match g1.get b with
          | some (.row cs _ _) => dropK cs 0 fun r => takeK r (cur.length * 1) fun l => some l
          | _ => none) = some (cs.take cur.length)
        by_cases hn0 : cur.length = 0
        · rw [hn0]; rfl
        · have hb : Nat.beq cur.length 0 = false := by
            cases hb : Nat.beq cur.length 0 with
            | false => rfl
            | true => exact absurd (beq_iff.1 hb) hn0
          rw [hb, cond_false, h1']
          simp only [dropK_eq, takeK_eq, Nat.zero_le, if_true, List.drop_zero, Nat.mul_one]
          rw [if_pos h2]
      have b1 : ∀ n, Nat.beq n n = true := fun n => beq_iff.2 rfl
      have b2 : Nat.beq (cur.length * 1) (len cs) = false := by
        cases hb : Nat.beq (cur.length * 1) (len cs) with
        | false => rfl
        | true => have := beq_iff.1 hb; rw [len_eq] at this; omega
      have b3 : Nat.ble ((cur.length + 1) * 1) (len cs) = true := ble_iff.2 (by rw [len_eq]; omega)
      have b4 : Nat.ble ((cur.length + 1) * 8) maxBytes = true := ble_iff.2 (by simp [maxBytes]; omega)
      have b5 : Nat.ble (cur.length + 1) maxBytes = true := ble_iff.2 (by simp [maxBytes]; omega)
      have b6 : Nat.beq (len [Value.int .i64 x]) (1 * 1) = true := rfl
      have b7 : Nat.blt unk unk = false := rfl
      refine ⟨.slice (some ⟨b, 0, none⟩) (cur.length + 1) unk, g2, ?_, .inr ⟨b, _, by rw [hlen], hs2'.get, ?_, fun i hi => ?_, ?_, h5⟩, rfl, by omega, by omega, by omega, fun i hi hne => by rw [hs2.old i (hne _ _ _ rfl), hx.old i hi], fun i hi hne b' k c e => by cases e; exact hne _ _ _ rfl⟩
      · unfold appendA
        simp only [hnewc, b4, b5, b6, Bool.and_self, cond_true, b7, Bool.and_false, cond_false]
        unfold appendGrow
        simp only [hold, b7, cond_false, h1', b1, b2, b3, Bool.and_self, Bool.and_true, Bool.and_false, Bool.true_and, Bool.false_and, cond_true, cond_false, e2]
      · rw [hlen]
        simp only [splice, List.length_append, List.length_take, List.length_cons, List.length_nil, List.length_drop]
        omega
      · rw [hlen] at hi
        simp only [splice]
        by_cases c : i < cur.length
        · rw [List.getElem?_append_left (by rw [List.length_take]; omega), List.getElem?_take, if_pos c, h3 i c, at_append c]
        · obtain rfl : i = cur.length := by omega
          have e0 : cur.length - (List.take cur.length cs).length = 0 := by rw [List.length_take]; omega
          rw [List.getElem?_append_right (by rw [List.length_take]; omega), e0, at_last]
          rfl
      · refine allB_iff.2 fun u hu => ?_
        simp only [splice] at hu
        rcases List.mem_append.1 hu with hu | hu
        · exact allB_iff.1 h4 u (List.mem_of_mem_take hu)
        · rcases List.mem_append.1 hu with hu | hu
          · simp only [List.mem_singleton] at hu; subst hu; rfl
          · exact allB_iff.1 h4 u (List.mem_of_mem_drop hu)
end Go.Vm
