/- A text of the proofs of this seat: an evaluator of the model's code, its soundness, and what it has run. -/
import Derived.Test.YtjbbefkbbagdfaaVmOps3
namespace Go.Vm
variable {P : Program} {φ : Emb} {h : AHeap} {w : World}

/-! ### append -/
/-- what 'firstCells' reads -/
theorem cellsOfSlice_sound (H : HRel φ h w) {s n : Nat} {a : Option Addr} {c : Nat} {l : List Value} (hx : okV φ h.next (.slice a n c)) (hr : cellsOfSlice h s (.slice a n c) = some l) :
    l.length = n * s ∧ (∀ v ∈ l, okV φ h.next v) ∧ (∀ v ∈ l, oneCell v = true) ∧
      ∀ w', w'.heap = w.heap → ∀ c', (Builtin.firstCells s n (mapV φ (.slice a n c'))).run P w' = .ok (l.map (mapV φ)).toArray w' := by
  cases a with
  | none =>
    simp only [cellsOfSlice, Option.some.injEq] at hr
    subst hr
    simp only [okV_snil] at hx
    refine ⟨by simp [hx.1], by simp, by simp, fun w' _ c' => by simp [Builtin.firstCells]⟩
  | some a =>
    simp only [cellsOfSlice] at hr
    by_cases hn : n = 0
    · have : Nat.beq n 0 = true := beq0_true hn
      simp only [this, cond_true, Option.some.injEq] at hr
      subst hr
      subst hn
      refine ⟨by simp, by simp, by simp, fun w' _ c' => by simp [Builtin.firstCells, loadCells, loadCellsFrom]⟩
    · simp only [beq0_false hn, cond_false] at hr
      split at hr
      · rename_i cs rw' g hg
        simp only [dropK_eq, takeK_eq] at hr
        obtain ⟨h1, hr⟩ := ite_some hr
        obtain ⟨h2, hr⟩ := ite_some hr
        simp only [Option.some.injEq] at hr
        subst hr
        obtain ⟨c1, c2, c3⟩ := row_cells H hg a.off ((cs.drop a.off).take (n * s)) (take_self_len h2)
        have hlen : ((cs.drop a.off).take (n * s)).length = n * s := by rw [List.length_take, Nat.min_eq_left h2]
        refine ⟨hlen, c2, c3, fun w' hw c' => ?_⟩
        have := run_loadCells_list (P := P) w' ((φ.at_ a.block).add a.off) (((cs.drop a.off).take (n * s)).map (mapV φ)) (fun j v hj => by
          rw [cell?_of_block (w := w) (by rw [hw])]; exact c1 j v hj)
        rw [List.length_map, hlen] at this
        simp only [mapV_slice, Builtin.firstCells, mapA, this]
      · simp at hr

/-- 'copy' -/
theorem copyA_sound (H : HRel φ h w) {t e : TypeId} {s : Nat} {argTypes : Array TypeId} (ty : TypeId) (hat : argTypes[0]? = some t) (ht : P.underlying t = some (.slice e)) (hs : sizeT P e = some s) {x y r : Value} {h' : AHeap}
    (hx : okV φ h.next x) (hy : okV φ h.next y) (hr : copyA s h x y = some (r, h')) : Done P (Builtin.copy_ argTypes ty #[mapV φ x, mapV φ y]) φ h w r h' := by
  unfold copyA at hr
  split at hr
  · rename_i a n ca b m c
    have hmin : (bif Nat.ble m n then m else n) = Nat.min m n := by
      cases hb : Nat.ble m n with
      | true => rw [cond_true]; exact (Nat.min_eq_left (ble_iff.1 hb)).symm
      | false =>
        rw [cond_false]
        have : ¬ m ≤ n := fun h => by rw [ble_iff.2 h] at hb; cases hb
        exact (Nat.min_eq_right (by omega)).symm
    simp only [hmin] at hr
    have hy' : okV φ h.next (.slice b (Nat.min m n) c) := by
      cases b with
      | none =>
        simp only [okV_snil] at hy ⊢
        exact ⟨by rw [hy.1]; exact Nat.min_eq_left (Nat.zero_le _), hy.2⟩
      | some b =>
        simp only [okV_slice] at hy ⊢
        exact ⟨hy.1, hy.2.1, Nat.le_trans (Nat.min_le_left _ _) hy.2.2⟩
    split at hr
    · rename_i cells hc
      obtain ⟨k1, k2, k3, k4⟩ := cellsOfSlice_sound (P := P) H hy' hc
      have hfc := k4 w rfl c
      have hfc2 : (Builtin.firstCells s (Nat.min m n) (mapV φ (.slice b m c))).run P w = .ok (cells.map (mapV φ)).toArray w := by
        rw [← hfc]
        cases b with
        | none => rfl
        | some b => simp only [mapV_slice, Builtin.firstCells]
      have hlen : (Builtin.lenOf (mapV φ (.slice b m c))).run P w = .ok m w := by
        cases b with
        | none => simp [mapV, Builtin.lenOf]
        | some b => simp [mapV_slice, Builtin.lenOf]
      split at hr
      · simp only [Option.some.injEq, Prod.mk.injEq] at hr
        obtain ⟨rfl, rfl⟩ := hr
        refine Done.same H ?_ (by simp)
        have e1 : mapV φ (.slice none n ca) = .slice none n ca := by simp [mapV]
        have e2 : mapV φ (.int .i64 (.ofNat (Nat.min m n))) = .int .i64 ((Nat.min m n : Nat) : Int) := by simp [mapV]
        rw [e1, e2]
        generalize mapV φ (.slice b m c) = q at hlen hfc2
        simp [Builtin.copy_, hat, run_underlying ht, run_sizeOf_of hs, hlen, hfc2, goInt]
      · rename_i ad
        split at hr
        · rename_i h2 hst
          simp only [Option.some.injEq, Prod.mk.injEq] at hr
          obtain ⟨rfl, rfl⟩ := hr
          obtain ⟨w', q1, q2, q3⟩ := storeRow_sound (P := P) H k2 hst
          refine ⟨φ, w', ?_, q2, q3, by simp⟩
          have e1 : mapV φ (.slice (some ad) n ca) = .slice (some ((φ.at_ ad.block).add ad.off)) n (mapC φ ad.block ca) := by rw [mapV_slice]; rfl
          have e2 : mapV φ (.int .i64 (.ofNat (Nat.min m n))) = .int .i64 ((Nat.min m n : Nat) : Int) := by simp [mapV]
          rw [e1, e2]
          generalize mapV φ (.slice b m c) = q at hlen hfc2
          simp [Builtin.copy_, hat, run_underlying ht, run_sizeOf_of hs, hlen, hfc2, goInt, q1]
        · simp at hr
    · simp at hr
  · simp at hr

/-- 'clear' -/
theorem clearA_sound (H : HRel φ h w) {t e : TypeId} {z : Value} {argTypes : Array TypeId} (ty : TypeId) (hat : argTypes[0]? = some t) (ht : P.underlying t = some (.slice e)) (hz : zeroT P e = some z) (hp : plainV z = true) {x r : Value} {h' : AHeap}
    (hx : okV φ h.next x) (hr : clearA z.cells.toList h x = some (r, h')) : Done P (Builtin.clear_ argTypes ty #[mapV φ x]) φ h w r h' := by
  unfold clearA at hr
  split at hr
  · rename_i n c
    simp only [Option.some.injEq, Prod.mk.injEq] at hr
    obtain ⟨rfl, rfl⟩ := hr
    refine Done.same H ?_ (by simp)
    simp [Builtin.clear_, hat, run_underlying ht, mapV, mapArr, mapL]
  · rename_i a n c
    by_cases hn : n = 0
    · subst hn
      have : Nat.beq 0 0 = true := rfl
      simp only [this, cond_true, Option.some.injEq, Prod.mk.injEq] at hr
      obtain ⟨rfl, rfl⟩ := hr
      refine Done.same H ?_ (by simp)
      rw [mapV_slice]
      simp [Builtin.clear_, hat, run_underlying ht]
    · simp only [beq0_false hn, cond_false] at hr
      split at hr
      · rename_i h2 hst
        simp only [Option.some.injEq, Prod.mk.injEq] at hr
        obtain ⟨rfl, rfl⟩ := hr
        obtain ⟨w', q1, q2, q3⟩ := storeRow_sound (P := P) H (fun v hv => plain_cells_ok hp φ _ v (repl_mem hv)) hst
        refine ⟨φ, w', ?_, q2, q3, by simp⟩
        rw [repl_map (zero_map hp φ)] at q1
        obtain ⟨m, rfl⟩ : ∃ m, n = m + 1 := ⟨n - 1, by omega⟩
        have hzr := congrArg Array.toList (range_repl z.cells (m + 1))
        simp only [Array.toList_map, Array.toList_range] at hzr
        have e1 : mapV φ (.slice (some a) (m + 1) c) = .slice (some ((φ.at_ a.block).add a.off)) (m + 1) (mapC φ a.block c) := by rw [mapV_slice]; rfl
        rw [e1]
        simp [Builtin.clear_, hat, run_underlying ht, run_zero_of hz, Builtin.zeroCells, hzr, q1]
      · simp at hr
  · simp at hr

theorem run_append_room' {t u e e' : TypeId} {i : TypeInfo} (ty : TypeId) (ht : P.underlying t = some (.slice e)) (hu : P.underlying u = some (.slice e')) (hi : P.info? e = some i)
    {a b : Option Addr} {n m cap d : Nat} {new : Array Value} (hnew : (Builtin.firstCells i.size m (.slice b m d)).run P w = .ok new w) (hroom : n + m ≤ cap) {w' : World}
    (hst : ∀ ad, a = some ad → (storeCells (ad.add (n * i.size)) new.toList).run P w = .ok () w') (hnone : a = none → w' = w) :
    (Builtin.append_ #[t, u] ty #[.slice a n cap, .slice b m d]).run P w = .ok (.slice a (n + m) cap) w' := by
  cases a with
  | none =>
    have := hnone rfl
    subst this
    simp [Builtin.append_, run_underlying ht, run_underlying hu, sizeOf, run_typeInfo _ hi, Builtin.lenOf, hroom, hnew]
  | some ad =>
    simp [Builtin.append_, run_underlying ht, run_underlying hu, sizeOf, run_typeInfo _ hi, Builtin.lenOf, hroom, hnew, hst ad rfl]

theorem run_append_grow' {t u e e' : TypeId} {i : TypeInfo} {z : Value} (ty : TypeId) (ht : P.underlying t = some (.slice e)) (hu : P.underlying u = some (.slice e')) (hi : P.info? e = some i) (hz : i.zero = some z)
    {a b : Option Addr} {n m cap d : Nat} {old new : Array Value} (hold : ∀ w', w'.heap = w.heap → (Builtin.firstCells i.size n (.slice a n cap)).run P w' = .ok old w') (hnew : ∀ w', w'.heap = w.heap → (Builtin.firstCells i.size m (.slice b m d)).run P w' = .ok new w')
    (hg : cap < n + m) (h63 : n + m ≤ 9223372036854775807) (hfit : Builtin.nextslicecap (n + m) cap * i.bytes ≤ 281474976710656) :
    (Builtin.append_ #[t, u] ty #[.slice a n cap, .slice b m d]).run P w =
      .ok (.slice (some ⟨w.heap.size, 0, none⟩) (n + m) (grownCap w (n + m) cap e)) (w.drew.alloc (.cells (old ++ new ++ Builtin.zeroCells z.cells (grownCap w (n + m) cap e - (n + m))) e)) := by
  have hn : ¬ (n + m ≤ cap) := by omega
  have h63' : ¬ (9223372036854775807 < ((n : Int) + (m : Int))) := by omega
  have h48' : ¬ (281474976710656 < Builtin.nextslicecap (n + m) cap * i.bytes) := by omega
  have hf := hnew w.drew rfl
  have hfo := hold w.drew rfl
  simp [Builtin.append_, run_underlying ht, run_underlying hu, sizeOf, typeInfo, zeroValue, hi, hz, Builtin.lenOf, hn, h63', h48', Question.forced, hf, hfo, newRow, grownCap]

theorem appendA_sound (H : HRel φ h w) {t u e e' : TypeId} {i : TypeInfo} {z x y r : Value} {h' : AHeap} (ty : TypeId) (ht : P.underlying t = some (.slice e)) (hu : P.underlying u = some (.slice e')) (hi : P.info? e = some i)
    (hz : i.zero = some z) (hs : 0 < i.size) (hzs : z.cells.size = i.size) (hx : okV φ h.next x) (hy : okV φ h.next y) (hr : appendA i.size i.bytes h x y = some (r, h')) :
    Done P (Builtin.append_ #[t, u] ty #[mapV φ x, mapV φ y]) φ h w r h' := by
  unfold appendA at hr
  split at hr
  rotate_left
  · simp at hr
  rename_i a n cap b m d
  split at hr
  rotate_left
  · simp at hr
  rename_i new hnew
  obtain ⟨hc, hr⟩ := cond_some hr
  simp only [Bool.and_eq_true, ble_iff, beq_iff, len_eq] at hc
  obtain ⟨⟨hb1, hb2⟩, hlen⟩ := hc
  have hmax : maxBytes = 1099511627776 := rfl
  obtain ⟨n1, n2, n3, n4⟩ := cellsOfSlice_sound (P := P) H hy hnew
  -- the two slices in the run
  obtain ⟨bm, dm, hym⟩ : ∃ bm dm, mapV φ (.slice b m d) = .slice bm m dm := by cases b <;> simp
  have hnewrun : ∀ w', w'.heap = w.heap → (Builtin.firstCells i.size m (.slice bm m dm)).run P w' = .ok (new.map (mapV φ)).toArray w' := fun w' hw => by
    rw [← hym]; exact n4 w' hw d
  rw [hym]
  have known : cap < unk → mapV φ (.slice a n cap) = .slice (a.map (mapA φ)) n cap := by
    intro hcu
    cases a with
    | none => simp
    | some ad => simp [mapC, hcu]
  -- a new row
  have grow : ∀ (h1 : AHeap) (H1 : HRel φ h1 w) (hn1 : h1.next = h.next) (E1 : Ext φ h w φ h1 w) (old : List Value) (am : Option Addr) (cm : Nat), mapV φ (.slice a n cap) = .slice am n cm → cm < n + m → old.length = n * i.size →
      (∀ v ∈ old, okV φ h.next v) → (∀ w', w'.heap = w.heap → (Builtin.firstCells i.size n (.slice am n cm)).run P w' = .ok (old.map (mapV φ)).toArray w') →
      newSlice h1 (app old new) (n + m) unk i.size = some (r, h') → Done P (Builtin.append_ #[t, u] ty #[mapV φ (.slice a n cap), .slice bm m dm]) φ h w r h' := by
    intro h1 H1 hn1 E1 old am cm hm hcm hlo hok hrun hns
    rw [app_eq] at hns
    rw [hm]
    have hfit : Builtin.nextslicecap (n + m) cm * i.bytes ≤ 281474976710656 := growslice_fits hcm (by omega)
    have hgr := run_append_grow' (P := P) (w := w) ty ht hu hi hz hrun hnewrun hcm (by omega) hfit
    have hge := grownCap_ge w (n + m) cm e
    generalize grownCap w (n + m) cm e = gc at hgr hge
    have H2 : HRel φ h1 w.drew := H1.congr rfl
    have hsz : (Builtin.zeroCells z.cells (gc - (n + m))).toList.length = (gc - (n + m)) * i.size := by rw [Array.length_toList, size_zeroCells, hzs]
    have hd := newSlice_sound (P := P) (w := w.drew) (cp := gc) H2 e (Builtin.zeroCells z.cells (gc - (n + m))).toList (fun v hv => by
      rw [hn1]
      rcases List.mem_append.1 hv with hv | hv
      · exact hok v hv
      · exact n2 v hv) hns (fun _ => by
        rw [List.length_append, hlo, n1, hsz, ← Nat.add_mul, ← Nat.add_mul, Nat.add_sub_cancel' hge]
        exact ⟨Nat.mul_le_mul_right _ hge, Nat.le_refl _⟩) hge (.inr rfl)
    obtain ⟨φ', w', k1, k2, k3, k4⟩ := hd
    refine ⟨φ', w', ?_, k2, E1.trans (k3.congr rfl), k4⟩
    rw [hgr, ← k1]
    have harr : ((old ++ new).map (mapV φ) ++ (Builtin.zeroCells z.cells (gc - (n + m))).toList).toArray = (old.map (mapV φ)).toArray ++ (new.map (mapV φ)).toArray ++ Builtin.zeroCells z.cells (gc - (n + m)) := by
      apply Array.ext'; simp
    rw [harr]
    simp [run_newRow]
  by_cases hroom : n + m ≤ cap ∧ cap < unk
  · have hb : (Nat.ble (n + m) cap && Nat.blt cap unk) = true := by rw [Bool.and_eq_true, ble_iff, blt_iff]; exact hroom
    simp only [hb, cond_true] at hr
    unfold appendRoom at hr
    rw [known hroom.2]
    by_cases hm0 : m = 0
    · simp only [beq0_true hm0, cond_true, Option.some.injEq, Prod.mk.injEq] at hr
      obtain ⟨rfl, rfl⟩ := hr
      subst hm0
      have hnil : new = [] := by rw [← List.length_eq_zero_iff, n1]; simp
      subst hnil
      refine Done.same H ?_ hx
      rw [run_append_room' (P := P) (w' := w) ty ht hu hi (hnewrun w rfl) hroom.1 (fun ad _ => by simp [storeCells]) (fun _ => rfl), known hroom.2]
      simp
    · simp only [beq0_false hm0, cond_false] at hr
      split at hr
      · simp at hr
      · rename_i ad
        split at hr
        · rename_i h1 hst
          simp only [Option.some.injEq, Prod.mk.injEq] at hr
          obtain ⟨rfl, rfl⟩ := hr
          obtain ⟨w', k1, k2, k3⟩ := storeRow_sound (P := P) H n2 hst
          rw [← add_add] at k1
          simp only [okV_slice] at hx
          have hnx : h.next ≤ h1.next := k3.next
          refine ⟨φ, w', ?_, k2, k3, ?_⟩
          · rw [run_append_room' (P := P) (w' := w') ty ht hu hi (hnewrun w rfl) hroom.1 (fun a' ha' => by
              simp only [Option.map_some, Option.some.injEq] at ha'
              subst ha'
              exact k1) (fun h => by simp at h)]
            simp [mapC, hroom.2]
          · simp only [okV_slice]
            exact ⟨by omega, hx.2.1, by simp only [mapC, hroom.2, if_true]; exact hroom.1⟩
        · simp at hr
  · have hb : (Nat.ble (n + m) cap && Nat.blt cap unk) = false := by
      cases hbb : (Nat.ble (n + m) cap && Nat.blt cap unk) with
      | false => rfl
      | true => rw [Bool.and_eq_true, ble_iff, blt_iff] at hbb; exact absurd hbb hroom
    simp only [hb, cond_false] at hr
    unfold appendGrow at hr
    split at hr
    · simp at hr
    · rename_i old hold
      obtain ⟨o1, o2, o3, o4⟩ := cellsOfSlice_sound (P := P) H hx hold
      by_cases hcu : cap < unk
      · simp only [blt_iff.2 hcu, cond_true] at hr
        exact grow h H rfl (Ext.refl _ _ _) old _ cap (known hcu) (by omega) o1 o2 (fun w' hw => by
          have := o4 w' hw cap
          rwa [known hcu] at this) hr
      · simp only [blt_false hcu, cond_false] at hr
        cases a with
        | none => simp at hr
        | some ad =>
          simp only at hr
          split at hr
          rotate_left
          · simp at hr
          rename_i cs g hg
          have hmap0 : cap = unk → mapV φ (.slice (some ad) n cap) = .slice (some (mapA φ ad)) n (φ.cap ad.block) := by rintro rfl; simp [mapC]
          cases hcd : (Nat.beq ad.off 0 && Nat.beq g i.size && Nat.beq (n * i.size) (Go.Vm.len cs) && Nat.ble h.floor ad.block && Nat.beq cap unk) with
          | false =>
            -- what was there is known to be long enough
            simp only [hcd, cond_false] at hr
            obtain ⟨hc2, hr⟩ := cond_some hr
            simp only [Bool.and_eq_true, ble_iff, beq_iff, len_eq] at hc2
            obtain ⟨⟨⟨c1, c2⟩, c3⟩, c5⟩ := hc2
            split at hr
            · rename_i h1 hst
              simp only [Option.some.injEq, Prod.mk.injEq] at hr
              obtain ⟨rfl, rfl⟩ := hr
              obtain ⟨cur, te, fz, r1, r2, r3⟩ := H.live _ _ hg
              obtain ⟨e1, e2, e3, e4⟩ := r3 rfl
              obtain ⟨e5, e6⟩ := e4 (by omega)
              have hin : n + m ≤ φ.cap ad.block := by
                rw [c2] at e5
                have h7 := Nat.le_trans c3 e5
                exact Nat.le_of_mul_le_mul_right h7 hs
              obtain ⟨w', k1, k2, k3⟩ := storeRow_sound (P := P) H n2 hst
              have hnx : h.next ≤ h1.next := k3.next
              simp only [okV_slice] at hx
              rw [hmap0 c5]
              refine ⟨φ, w', ?_, k2, k3, ?_⟩
              · rw [run_append_room' (P := P) (w' := w') ty ht hu hi (hnewrun w rfl) hin (fun a' ha' => by
                  simp only [Option.some.injEq] at ha'
                  subst ha'
                  unfold mapA
                  rw [c1, add_add, Nat.zero_add]
                  exact k1) (fun h => by simp at h)]
                simp [mapC, c5]
              · simp only [okV_slice]
                exact ⟨by omega, hx.2.1, by simp only [mapC, c5, Nat.lt_irrefl, if_false, Nat.sub_self, Nat.sub_zero]; exact hin⟩
            · simp at hr
          | true =>
          have hc2 := hcd
          have hr2 := hr
          rw [hcd, cond_true] at hr2
          clear hr hcd
          simp only [Bool.and_eq_true, ble_iff, beq_iff, len_eq] at hc2
          obtain ⟨⟨⟨⟨c1, c2⟩, c3⟩, c4⟩, c5⟩ := hc2
          subst c2
          subst c5
          rw [AHeap.put_eq] at hr2
          have hr := hr2
          clear hr2
          have hmap : mapV φ (.slice (some ad) n unk) = .slice (some (mapA φ ad)) n (φ.cap ad.block) := by simp [mapC]
          by_cases hin : n + m ≤ φ.cap ad.block
          · -- in place
            obtain ⟨cur, te, fz, r1, r2, r3⟩ := H.live _ _ hg
            obtain ⟨e1, e2, e3, e4⟩ := r3 rfl
            subst e2
            obtain ⟨e5, e6⟩ := e4 (by omega)
            have hms : (n + m) * i.size ≤ cur.size := Nat.le_trans (Nat.mul_le_mul_right _ hin) e6
            rw [Nat.add_mul] at hms
            have hone : ∀ v ∈ new.map (mapV φ), v.oneCell' = true := by
              intro v hv
              obtain ⟨q, hq, rfl⟩ := List.mem_map.1 hv
              rw [oneCell_eq, oneCell_map]
              exact n3 q hq
            have hlm : (new.map (mapV φ)).length = m * i.size := by simp [n1]
            have hst := run_storeCells_at P (φ.at_ ad.block).block (n * i.size) te (new.map (mapV φ)) 0 cur w r1 (by rw [hlm]; omega) hone
            simp only [Nat.add_zero] at hst
            have hadr : (mapA φ ad).add (n * i.size) = ⟨(φ.at_ ad.block).block, n * i.size, none⟩ := by
              unfold mapA
              rw [c1, add_zero', at_add e1]
            rw [← hadr] at hst
            unfold newSlice at hr
            obtain ⟨hone2, hr⟩ := cond_some hr
            rw [allB_iff, app_eq] at hone2
            simp only [seqCells_eq, app_eq] at hr
            obtain ⟨hf, hr⟩ := AHeap.push_eq hr
            simp only [Option.some.injEq, Prod.mk.injEq] at hr
            obtain ⟨rfl, rfl⟩ := hr
            have hrow := setRow_heap w (φ.at_ ad.block).block cur (cur.toList.take (n * i.size) ++ new.map (mapV φ) ++ cur.toList.drop (n * i.size + (new.map (mapV φ)).length)).toArray te (0, 0) r1
            have hmv := H.move (w' := w.setRow (φ.at_ ad.block).block (cur.toList.take (n * i.size) ++ new.map (mapV φ) ++ cur.toList.drop (n * i.size + (new.map (mapV φ)).length)).toArray) hf hg rfl c4
              (.row (old ++ new) true i.size) (φ.cap ad.block) (setRow_size _ _ _) (fun k hk => setRow_other _ _ _ k hk) ?_
            · refine ⟨_, _, ?_, hmv.1, hmv.2, ?_⟩
              · rw [hmap, run_append_room' (P := P) ty ht hu hi (hnewrun w rfl) hin (fun a' ha' => by
                  simp only [Option.some.injEq] at ha'
                  subst ha'
                  exact hst) (fun h => by simp at h)]
                have hnx : (h.with ad.block none).next = h.next := rfl
                simp only [mapV_slice, hnx, mapA_put, mapC, Nat.lt_irrefl, if_false, Nat.sub_self, Nat.sub_zero, Emb.put_cap]
                congr 3
                unfold mapA
                rw [c1, add_zero']
              · have hnx : (h.with ad.block none).next = h.next := rfl
                simp only [okV_slice, hnx, mapC, Nat.lt_irrefl, if_false, Nat.sub_self, Nat.sub_zero, Emb.put_cap]
                exact ⟨Nat.lt_succ_self _, trivial, hin⟩
            · have hag := φ.put_agree h.next (φ.at_ ad.block) (φ.cap ad.block)
              have hlen : (old ++ new).length = (n + m) * i.size := by rw [List.length_append, o1, n1, Nat.add_mul]
              have hsz : (cur.toList.take (n * i.size) ++ new.map (mapV φ) ++ cur.toList.drop (n * i.size + (new.map (mapV φ)).length)).length = cur.size := by
                rw [List.length_append, List.length_append, List.length_take, List.length_drop, hlm, Nat.min_eq_left (by simp; omega)]
                simp
                omega
              have hblk : ((φ.put h.next (φ.at_ ad.block) (φ.cap ad.block)).at_ h.next) = φ.at_ ad.block := Emb.put_at ..
              refine ⟨_, te, (0, 0), by rw [hblk]; exact hrow, ?_, fun _ => ⟨by rw [hblk]; exact e1, rfl, ?_, fun _ => ?_⟩⟩
              · intro k v hk
                have hcell : (w.setRow (φ.at_ ad.block).block (cur.toList.take (n * i.size) ++ new.map (mapV φ) ++ cur.toList.drop (n * i.size + (new.map (mapV φ)).length)).toArray).cell? ((φ.at_ ad.block).add k) = (cur.toList.take (n * i.size) ++ new.map (mapV φ) ++ cur.toList.drop (n * i.size + (new.map (mapV φ)).length))[k]? := by
                  rw [at_add e1]
                  unfold World.cell?
                  rw [hrow]
                  simp
                rw [hblk, hcell]
                have hmem := List.mem_of_getElem? hk
                have hokv : okV φ h.next v := (List.mem_append.1 hmem).elim (o2 v) (n2 v)
                obtain ⟨g1, g2⟩ := mapV_agree hag (Nat.le_succ _) v hokv
                refine ⟨g2, hone2 v hmem, ?_⟩
                rw [g1]
                have hcl : n * i.size ≤ cur.toList.length := by simp; omega
                rcases Nat.lt_or_ge k (n * i.size) with hkn | hkn
                · rw [List.getElem?_append_left (by omega)] at hk
                  have hko : cs[k]? = some v := by
                    simp only [cellsOfSlice] at hold
                    by_cases hn0 : n = 0
                    · subst hn0; omega
                    · simp only [beq0_false hn0, cond_false, hg, dropK_eq, takeK_eq, c1, List.drop_zero, Nat.zero_le, if_true] at hold
                      obtain ⟨_, hold⟩ := ite_some hold
                      simp only [Option.some.injEq] at hold
                      subst hold
                      rwa [List.getElem?_take_of_lt hkn] at hk
                  have hh := (r2 k v hko).2.2
                  rw [at_add e1] at hh
                  unfold World.cell? at hh
                  rw [r1] at hh
                  rw [List.append_assoc, List.getElem?_append_left (by simp; omega), List.getElem?_take_of_lt hkn]
                  simpa using hh
                · rw [List.getElem?_append_right (by omega), o1] at hk
                  have hk2 : k - n * i.size < new.length := (List.getElem?_eq_some_iff.1 hk).1
                  rw [List.append_assoc, List.getElem?_append_right (by simp; omega), List.getElem?_append_left (by simp; omega)]
                  simp only [List.length_take, Nat.min_eq_left hcl, List.getElem?_map, hk, Option.map_some]
              · rw [hlen, Nat.add_mul]
                simp only [List.size_toArray, hsz]
                exact hms
              · rw [hlen, Emb.put_cap]
                simp only [List.size_toArray, hsz]
                exact ⟨Nat.mul_le_mul_right _ hin, e6⟩
          · obtain ⟨H1, E1⟩ := H.drop hg rfl c4 (w' := w) rfl (fun _ _ => rfl)
            exact grow _ H1 rfl E1 old _ _ hmap (by omega) o1 o2 (fun w' hw => by
              have := o4 w' hw unk
              rwa [hmap] at this) hr
end Go.Vm
