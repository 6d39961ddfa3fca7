/- Texts of the proofs of this seat, put together: GgC, GgRef, GgRef2, S4LeaveP, GgRef3, GgV1, GgV2, GgIdx, GgV3, GgV4, GgV5, GgV6. -/
import Derived.Test.YtlkambpieajplaaGreatPt21
import Derived.Test.YtlkambpieajplaaGreatRows
import Derived.WalkKit
import Derived.ProofKit
import Derived.OpenShut

namespace Go.Vm.St
open Go.Vm.Vat Go.Proofs Go.ChangeShapes Go.WideShapes Go.ChangeAt Go.RowKit
set_option linter.unusedSimpArgs false
set_option linter.unusedVariables false
set_option maxRecDepth 10000
variable {n : Nat} {h : AHeap}
theorem own : ownKnob Tryz.prog.godebug = none := by kernel_rfl
theorem mixedOn : Tryz.prog.follows .mixedOrders = true := by kernel_rfl
theorem namesAll : (Tryz.prog.funcs.toList.all fun fn => !(fn.name == "runtime.NumGoroutine")) = true := by kernel_rfl
theorem namesFine : NamesFine Tryz.prog := by
  intro f fn hf
  have h := List.all_eq_true.1 namesAll fn (Array.mem_toList_iff.2 (Array.mem_of_getElem? hf))
  simpa using h
theorem tok0 : TabOk Tryz.prog GgAwake.tab0 := tab_nil
theorem tok1 : TabOk Tryz.prog GgAwake.tab1 := tab_cons ⟨⟨_, acallR_sound namesFine mixedOn GgAwake.quiet tok0 1000, GgAwake.ok0⟩, GgAwake.low0⟩ tok0
theorem tok2 : TabOk Tryz.prog GgAwake.tab2 := tab_cons ⟨⟨_, acallR_sound namesFine mixedOn GgAwake.quiet tok1 1000, GgAwake.ok1⟩, GgAwake.low1⟩ tok1
theorem tok3 : TabOk Tryz.prog GgAwake.tab3 := tab_cons ⟨⟨_, acallR_sound namesFine mixedOn GgAwake.quiet tok2 1000, GgAwake.ok2⟩, GgAwake.low2⟩ tok2
theorem tok4 : TabOk Tryz.prog GgAwake.tab4 := tab_cons ⟨⟨_, acallR_sound namesFine mixedOn GgAwake.quiet tok3 1000, GgAwake.ok3⟩, GgAwake.low3⟩ tok3
theorem tok5 : TabOk Tryz.prog GgAwake.tab5 := tab_cons ⟨⟨_, acallR_sound namesFine mixedOn GgAwake.quiet tok4 1000, GgAwake.ok4⟩, GgAwake.low4⟩ tok4
theorem tok6 : TabOk Tryz.prog GgAwake.tab6 := tab_cons ⟨⟨_, acallR_sound namesFine mixedOn GgAwake.quiet tok5 1000, GgAwake.ok5⟩, GgAwake.low5⟩ tok5
theorem tok7 : TabOk Tryz.prog GgAwake.tab7 := tab_cons ⟨⟨_, acallR_sound namesFine mixedOn GgAwake.quiet tok6 1000, GgAwake.ok6⟩, GgAwake.low6⟩ tok6
theorem tok8 : TabOk Tryz.prog GgAwake.tab8 := tab_cons ⟨⟨_, acallR_sound namesFine mixedOn GgAwake.quiet tok7 1000, GgAwake.ok7⟩, GgAwake.low7⟩ tok7
theorem tok9 : TabOk Tryz.prog GgAwake.tab9 := tab_cons ⟨⟨_, acallR_sound namesFine mixedOn GgAwake.quiet tok8 1000, GgAwake.ok8⟩, GgAwake.low8⟩ tok8
theorem tok10 : TabOk Tryz.prog GgAwake.tab10 := tab_cons ⟨⟨_, acallR_sound namesFine mixedOn GgAwake.quiet tok9 1000, GgAwake.ok9⟩, GgAwake.low9⟩ tok9
theorem tok11 : TabOk Tryz.prog GgAwake.tab11 := tab_cons ⟨⟨_, acallR_sound namesFine mixedOn GgAwake.quiet tok10 1000, GgAwake.ok10⟩, GgAwake.low10⟩ tok10
theorem tok12 : TabOk Tryz.prog GgAwake.tab12 := tab_cons ⟨⟨_, acallR_sound namesFine mixedOn GgAwake.quiet tok11 1000, GgAwake.ok11⟩, GgAwake.low11⟩ tok11
theorem tok13 : TabOk Tryz.prog GgAwake.tab13 := tab_cons ⟨⟨_, acallR_sound namesFine mixedOn GgAwake.quiet tok12 1000, GgAwake.ok12⟩, GgAwake.low12⟩ tok12
theorem tok14 : TabOk Tryz.prog GgAwake.tab14 := tab_cons ⟨⟨_, acallR_sound namesFine mixedOn GgAwake.quiet tok13 1000, GgAwake.ok13⟩, GgAwake.low13⟩ tok13
theorem kOk : KOk Tryz.prog K := by
  intro f v hK
  unfold K at hK
  split at hK
  · rename_i e
    subst e
    cases hK
    refine ⟨rfl, acallR Tryz.prog GgAwake.quiet GgAwake.tab14 1000, ?_⟩
    have hm := GgAwake.main_ok
    cases hr : acallR Tryz.prog GgAwake.quiet GgAwake.tab14 1000 (.func (.func 23) #[] #[]) [] AHeap.empty with
    | none => rw [hr] at hm; cases hm
    | some vh =>
      obtain ⟨v, h'⟩ := vh
      rw [hr] at hm
      unfold GgAwake.isTrue at hm
      split at hm
      · rename_i e
        cases e
        exact ⟨h', acallR_sound namesFine mixedOn GgAwake.quiet tok14 1000, rfl⟩
      · cases hm
  · cases hK
theorem sound (n : Nat) : SoundCF Tryz.prog (call n) := pcall_sound namesFine mixedOn kOk n
theorem laidOk : laidOutB Tryz.prog = true := by kernel_rfl
theorem mapsOk : mapsRowed Tryz.prog = true := by kernel_rfl
theorem slicesOk : ((List.range Tryz.prog.types.size).all fun t => match Tryz.prog.underlying t with | some (.slice e) => decide (0 < Tryz.prog.cellsOf e) | _ => true) = true := by kernel_rfl
theorem kids : Kids Tryz.prog (· < Tryz.prog.types.size) := kids_rows laidOk mapsOk
theorem tsize : 120 < Tryz.prog.types.size := of_decide_eq_true (by kernel_rfl)
theorem cell_slice {P : Program} {w : World} {r : Reach} {b : Nat} {t e : TypeId} {v x : Value} (ht : P.underlying t = some (.slice e)) (ho : Value.okWide P w r b t v) (hc : v.cells.toList = [x]) : v = x := by
  unfold Value.okWide at ho
  rw [ht] at ho
  cases v <;> simp_all [Value.cells, Cell.okWide, Cell.ok]
theorem cell_int {P : Program} {w : World} {r : Reach} {b : Nat} {t : TypeId} {k : IntKind} {v x : Value} (ht : P.underlying t = some (.int k)) (ho : Value.okWide P w r b t v) (hc : v.cells.toList = [x]) : v = x := by
  unfold Value.okWide at ho
  rw [ht] at ho
  cases v <;> simp_all [Value.cells, Cell.okWide, Cell.ok]
theorem agg_struct {P : Program} {w : World} {r : Reach} {b : Nat} {t : TypeId} {fs : Array Field} {v : Value} {cs : List Value} (ht : P.underlying t = some (.struct fs)) (ho : Value.okWide P w r b t v) (hc : v.cells.toList = cs) : v = .agg ⟨cs⟩ := by
  unfold Value.okWide at ho
  rw [ht] at ho
  obtain ⟨cs', rfl, _⟩ := ho
  subst hc
  rfl
theorem map_int {φ : Emb} {k : IntKind} {a : Int} : mapV φ (.int k a) = .int k a := by simp [mapV]
theorem stands_gang {w : World} {φ : Emb} {a b c d e f : Int} {u0 u1 u2 u3 fv vv sv kv : Value} (h0 : Stands φ h u0 fv) (h1 : Stands φ h u1 vv) (h2 : Stands φ h u2 sv) (h3 : Stands φ h u3 kv) : mapV φ (.agg ⟨[.int .i64 a, .int .i64 b, u0, .int .i64 c, .int .i64 d, u1, u2, .int .i64 e, .int .i64 f, u3]⟩) = .agg ⟨[.int .i64 a, .int .i64 b, fv, .int .i64 c, .int .i64 d, vv, sv, .int .i64 e, .int .i64 f, kv]⟩ ∧ okV φ h.next (.agg ⟨[.int .i64 a, .int .i64 b, u0, .int .i64 c, .int .i64 d, u1, u2, .int .i64 e, .int .i64 f, u3]⟩) := by
  refine ⟨?_, ?_⟩
  · simp only [mapV, mapArr, mapL, h0.map, h1.map, h2.map, h3.map]
  · simp only [okV, okA, okL, and_true, true_and]
    exact ⟨h0.ok, h1.ok, h2.ok, h3.ok⟩
end Go.Vm.St

namespace Go.Vm.St
open Go.Proofs Go.Vm.Vat
set_option linter.unusedSimpArgs false
set_option linter.unusedVariables false
set_option maxRecDepth 10000
variable {n : Nat} {h : AHeap}
def s66 : SCode := (.seq (.ops [jO 1 (.box (T 0)), jO 2 (.mov (jK 0))]) (.seq (.seq (.ops [jO 5 (.fieldAddr 0 (T 1)), jO 6 (.loadN 7 (T 5)), jO 7 (.call (.func 112) [(T 6)]), jO 3 (.mov (T 7))]) (.seq (.ops [jO 8 (.mov (T 3)), jO 9 (.int2 .neq (T 8) (jK 0))]) (.cond (T 9) (.seq (.ops [jO 10 (.mov (T 3)), jO 2 (.mov (T 10))]) .ret) .skip))) (.seq (.seq (.ops [jO 11 (.fieldAddr 0 (T 1)), jO 12 (.loadN 7 (T 11)), jO 13 (.call (.func 40) [(T 12)]), jO 14 (.len (T 13)), jO 15 (.int2 .eql (T 14) (jK 0))]) (.cond (T 15) (.seq (.ops [jO 2 (.mov (jK 11))]) .ret) .skip)) (.seq (.seq (.ops [jO 16 (.fieldAddr 7 (T 1)), jO 17 (.load1 (T 16)), jO 18 (.int2 .gtr (T 17) (jK 9)), jO 19 (.mov (T 18)), ⟨some 20, (some (19, false)), .fieldAddr 8 (T 1)⟩, ⟨some 21, (some (19, false)), .load1 (T 20)⟩, ⟨some 22, (some (19, false)), .int2 .gtr (T 21) (jK 9)⟩, jO 23 (.pick (T 19) (.const (.bool true)) (T 22))]) (.cond (T 23) (.seq (.ops [jO 2 (.mov (jK 3))]) .ret) .skip)) (.seq (.seq (.ops [jO 24 (.fieldAddr 7 (T 1)), jO 25 (.load1 (T 24)), jO 26 (.int2 .lss (T 25) (jK 0)), jO 27 (.mov (T 26)), ⟨some 28, (some (27, false)), .fieldAddr 8 (T 1)⟩, ⟨some 29, (some (27, false)), .load1 (T 28)⟩, ⟨some 30, (some (27, false)), .int2 .lss (T 29) (jK 0)⟩, jO 31 (.pick (T 27) (.const (.bool true)) (T 30)), jO 32 (.mov (T 31)), ⟨some 33, (some (32, false)), .fieldAddr 9 (T 1)⟩, ⟨some 34, (some (32, false)), .load1 (T 33)⟩, ⟨some 35, (some (32, false)), .len (T 34)⟩, ⟨some 36, (some (32, false)), .fieldAddr 0 (T 1)⟩, ⟨some 37, (some (32, false)), .fieldAddr 5 (T 36)⟩, ⟨some 38, (some (32, false)), .load1 (T 37)⟩, ⟨some 39, (some (32, false)), .len (T 38)⟩, ⟨some 40, (some (32, false)), .int2 .neq (T 35) (T 39)⟩, jO 41 (.pick (T 32) (.const (.bool true)) (T 40))]) (.cond (T 41) (.seq (.ops [jO 2 (.mov (jK 1))]) .ret) .skip)) (.seq (.seq (.ops [jO 4 (.mov (jK 0))]) (.block 0 (.loop (.seq (.seq (.ops [jO 42 (.mov (T 4)), jO 43 (.fieldAddr 9 (T 1)), jO 44 (.load1 (T 43)), jO 45 (.len (T 44)), jO 46 (.int2 .lss (T 42) (T 45))]) (.cond (T 46) .skip (.exit 0))) (.seq (.block 1 (.seq (.ops [jO 49 (.fieldAddr 9 (T 1)), jO 50 (.load1 (T 49)), jO 51 (.mov (T 4)), jO 52 (.idxSl 3 (T 50) (T 51)), jO 53 (.fieldAddr 0 (T 52)), jO 54 (.load1 (T 53)), jO 55 (.call (.func 59) [(T 54), (jK 0), (jK 9)]), jO 56 (.not (T 55)), jO 57 (.mov (T 56)), ⟨some 58, (some (57, false)), .fieldAddr 9 (T 1)⟩, ⟨some 59, (some (57, false)), .load1 (T 58)⟩, ⟨some 60, (some (57, false)), .mov (T 4)⟩, ⟨some 61, (some (57, false)), .idxSl 3 (T 59) (T 60)⟩, ⟨some 62, (some (57, false)), .fieldAddr 1 (T 61)⟩, ⟨some 63, (some (57, false)), .loadN 2 (T 62)⟩, ⟨some 64, (some (57, false)), .call (.func 113) [(T 63), (jK 4)]⟩, ⟨some 65, (some (57, false)), .not (T 64)⟩, jO 66 (.pick (T 57) (.const (.bool true)) (T 65))]) (.cond (T 66) (.seq (.ops [jO 2 (.mov (jK 1))]) .ret) .skip))) (.ops [jO 47 (.mov (T 4)), jO 48 (.int2 .add (T 47) (jK 1)), jO 4 (.mov (T 48))])))))) (.seq (.ops [jO 2 (.mov (jK 0))]) .ret)))))))
theorem fok66 : FnOk Tryz.prog 66 67 s66 [.tmp 2] := ⟨Tryz.f66, _, Tryz.func66, rfl, Tryz.ntmps66, by kernel_rfl, by kernel_rfl⟩
set_option maxHeartbeats 1000000 in
theorem faultR_c (hn : 2300 ≤ n) (hr : h.next + 1000100 < far) {wv vv sv kv : Value} {G : MG} (hy : GangR h wv vv sv kv G) (hT : ThinS G.s) (hl : G.nk ≤ 30) :
    call n (.func (.func 66) #[] #[]) [.agg ⟨gaL G wv vv sv kv⟩] h = some (.int .i64 (faultG G), h) := by
  obtain ⟨n, rfl⟩ : ∃ p, n = p + 1 := ⟨n - 1, by omega⟩
  refine call_plain0 fok66 rfl rfl (by simp) rfl ?_
  have hy := hy.shut
  have hr : h.shutAll.next + 1000100 < far := hr
  have hfl : h.shutAll.floor ≤ h.shutAll.next := Nat.le_refl _
  generalize h.shutAll = h at hy hr hfl
  simp only [s66, jO, jF, jR, jS, jU, jA, jK, W_seq, W_ops]
  refine ops_box (cs := gaL G wv vv sv kv) (by omega) rfl hy.one fun h1 hx => ?_
  have hy := hy.mono hx.sub
  have n1 := hx.next
  have f1' := hx.floor
  have r1 := hx.row
  have e1 := fault_c (n := n) (h := h1) (by omega) (by omega) hy.s hT
  by_cases c1 : faultS G.s = 0
  case neg =>
    have : faultG G = faultS G.s := by unfold faultG; rw [if_pos (by simpa using c1)]
    simp only [rn0, reduceIte, Nat.reduceEqDiff, Nat.reduceAdd, Nat.reduceMul, Nat.reduceSub, Nat.reduceLeDiff, Nat.reduceLT, r1.ld, gag, Nat.zero_add, ga_st r1, e1, c1, this]
  have hG := good_of c1
  rw [c1] at e1
  obtain ⟨tv, h2, e2, ht, o2, old2, u2, m2, f2⟩ := truthsRef_c (n := n) (h := h1) (by omega) (by omega) (by omega) hy.s hG
  have hlen : (refTruths G.s).length = 0 ↔ truthsS G.s = [] := by
    constructor
    · intro e
      have e : refTruths G.s = [] := List.length_eq_zero_iff.1 e
      apply Classical.byContradiction
      intro hne
      obtain ⟨t, ht⟩ := List.exists_mem_of_ne_nil _ hne
      have := (refTruths_mem hG).2 ht
      rw [e] at this; cases this
    · intro e
      apply Classical.byContradiction
      intro hne
      obtain ⟨t, ht⟩ := List.exists_mem_of_length_pos (l := refTruths G.s) (by omega)
      have := (refTruths_mem hG).1 ht
      rw [e] at this; cases this
  obtain ⟨R1, R2, htc, _⟩ := ht
  by_cases c2 : truthsS G.s = []
  · have : faultG G = 11 := by unfold faultG; rw [if_neg (by simpa using c1), if_pos c2]
    have hz : ((refTruths G.s).length : Int) = 0 := by have := hlen.2 c2; omega
    simp only [rn0, reduceIte, Nat.reduceEqDiff, Nat.reduceAdd, Nat.reduceMul, Nat.reduceSub, Nat.reduceLeDiff, Nat.reduceLT, r1.ld, gag, Nat.zero_add, ga_st r1, e1, e2, Cells.len htc, hz, this]
  have hz : ¬ ((refTruths G.s).length : Int) = 0 := fun e => c2 (hlen.1 (by omega))
  have sub2 : Sub All h1 h2 := AHeap.subOf old2
  have hy := hy.mono sub2
  have r2 := r1.mono sub2
  simp only [rn0, reduceIte, Nat.reduceEqDiff, Nat.reduceAdd, Nat.reduceMul, Nat.reduceSub, Nat.reduceLeDiff, Nat.reduceLT, r1.ld, gag, Nat.zero_add, ga_st r1, e1, e2, Cells.len htc, hz]
  clear htc e2
  by_cases c3 : 9 < G.men ∨ 9 < G.close
  · have : faultG G = 3 := by unfold faultG; rw [if_neg (by simpa using c1), if_neg c2, if_pos c3]
    by_cases c : 9 < G.men
    · simp only [rn0, reduceIte, Nat.reduceEqDiff, Nat.reduceAdd, Nat.reduceMul, Nat.reduceSub, Nat.reduceLeDiff, Nat.reduceLT, r2.ld, gag, Nat.zero_add, gt_iff_lt, c, g_un, this]
    · have c' := c3.resolve_left c
      simp only [rn0, reduceIte, Nat.reduceEqDiff, Nat.reduceAdd, Nat.reduceMul, Nat.reduceSub, Nat.reduceLeDiff, Nat.reduceLT, r2.ld, gag, Nat.zero_add, gt_iff_lt, c, c', g_un, this]
  have c3a : ¬ 9 < G.men := fun c => c3 (.inl c)
  have c3b : ¬ 9 < G.close := fun c => c3 (.inr c)
  have bad : (G.men < 0 ∨ G.close < 0 ∨ G.nk ≠ G.s.nv ∨ ¬ WorksOk G) → faultG G = 1 := fun c => by unfold faultG; rw [if_neg (by simpa using c1), if_neg c2, if_neg c3, if_pos c]
  simp only [rn0, reduceIte, Nat.reduceEqDiff, Nat.reduceAdd, Nat.reduceMul, Nat.reduceSub, Nat.reduceLeDiff, Nat.reduceLT, r2.ld, gag, Nat.zero_add, gt_iff_lt, c3a, c3b]
  by_cases c4 : G.men < 0
  · have := bad (.inl c4)
    simp only [rn0, reduceIte, Nat.reduceEqDiff, Nat.reduceAdd, Nat.reduceMul, Nat.reduceSub, Nat.reduceLeDiff, Nat.reduceLT, r2.ld, gag, Nat.zero_add, c4, g_un, this]
  by_cases c5 : G.close < 0
  · have := bad (.inr (.inl c5))
    simp only [rn0, reduceIte, Nat.reduceEqDiff, Nat.reduceAdd, Nat.reduceMul, Nat.reduceSub, Nat.reduceLeDiff, Nat.reduceLT, r2.ld, gag, Nat.zero_add, c4, c5, g_un, this]
  by_cases c6 : (G.nk : Int) = (G.s.nv : Int)
  case neg =>
    have := bad (.inr (.inr (.inl fun e => c6 (by rw [e]))))
    simp only [rn0, reduceIte, Nat.reduceEqDiff, Nat.reduceAdd, Nat.reduceMul, Nat.reduceSub, Nat.reduceLeDiff, Nat.reduceLT, r2.ld, gag, Nat.zero_add, c4, c5, g_un, Cells.len hy.k, Cells.len hy.s.v, c6, this]
  have d6 : decide ((G.nk : Int) = (G.s.nv : Int)) = true := decide_eq_true c6
  simp only [rn0, reduceIte, Nat.reduceEqDiff, Nat.reduceAdd, Nat.reduceMul, Nat.reduceSub, Nat.reduceLeDiff, Nat.reduceLT, r2.ld, gag, Nat.zero_add, c4, c5, g_un, Cells.len hy.k, Cells.len hy.s.v, d6]
  refine W_loop G.nk (fun k f g ms => g = h2 ∧ ms = [] ∧ f 1 = .pointer (some ⟨h.next, 0, none⟩) ∧ f 4 = .int .i64 (k : Int) ∧ ∀ j, j < k → WorkOk G j) (by simp; omega) ?_ ?_ ?_
  · simp only [rn0, reduceIte, Nat.reduceEqDiff, Nat.reduceAdd, Nat.reduceMul, Nat.reduceSub, Nat.reduceLeDiff, Nat.reduceLT, Nat.not_lt_zero, false_implies, implies_true]
    trivial
  · rintro k f g ms hk ⟨rfl, rfl, f1, f3, hlt⟩
    have hk' : (k : Int) < (G.nk : Int) := by omega
    have hw : wrapF .i64 ((k : Int) + 1) = ((k + 1 : Nat) : Int) := by rw [wrap_in (by omega) (by omega)]; rfl
    have ei := St.in_c (n := n) (h := g) (by omega) (G.km k) 0 9
    have ej := inside_c (n := n) (h := g) (by omega) (by omega) (G.klo k) (G.khi k) 4
    by_cases q1 : 0 ≤ G.km k ∧ G.km k ≤ 9
    case neg =>
      have := bad (.inr (.inr (.inr fun hb => q1 (hb k hk).1)))
      simp only [rn0, reduceIte, Nat.reduceEqDiff, Nat.reduceAdd, Nat.reduceMul, Nat.reduceSub, Nat.reduceLeDiff, Nat.reduceLT, f1, f3, r2.ld, gag, Nat.zero_add, Cells.len hy.k, hk', Cells.idx hy.k hk, Cells.fld hy.k hk, men_ld hy hk, ei, q1, g_un, this]
    by_cases q2 : 0 ≤ G.klo k ∧ G.klo k ≤ G.khi k ∧ G.khi k ≤ 4
    case neg =>
      have := bad (.inr (.inr (.inr fun hb => q2 (hb k hk).2)))
      simp only [rn0, reduceIte, Nat.reduceEqDiff, Nat.reduceAdd, Nat.reduceMul, Nat.reduceSub, Nat.reduceLeDiff, Nat.reduceLT, f1, f3, r2.ld, gag, Nat.zero_add, Cells.len hy.k, hk', Cells.idx hy.k hk, Cells.fld hy.k hk, men_ld hy hk, ei, q1, and_self, g_un, hours_ld hy hk, ej, q2, this]
    simp only [rn0, reduceIte, Nat.reduceEqDiff, Nat.reduceAdd, Nat.reduceMul, Nat.reduceSub, Nat.reduceLeDiff, Nat.reduceLT, f1, f3, r2.ld, gag, Nat.zero_add, Cells.len hy.k, hk', Cells.idx hy.k hk, Cells.fld hy.k hk, men_ld hy hk, ei, q1, and_self, g_un, hours_ld hy hk, ej, q2, hw]
    intro j hj
    by_cases e : j = k
    · subst e; exact ⟨q1, q2⟩
    · exact hlt j (by omega)
  rintro f g ms ⟨rfl, rfl, f1, f3, hW⟩
  have : faultG G = 0 := by
    unfold faultG
    rw [if_neg (by simpa using c1), if_neg c2, if_neg c3, if_neg]
    rintro (c | c | c | c)
    · exact c4 c
    · exact c5 c
    · exact c (by omega)
    · exact c hW
  simp only [rn0, reduceIte, Nat.reduceEqDiff, Nat.reduceAdd, Nat.reduceMul, Nat.reduceSub, Nat.reduceLeDiff, Nat.reduceLT, f1, f3, r2.ld, gag, Nat.zero_add, Cells.len hy.k, Int.lt_irrefl, this]
def PlanOk (G : MG) (m : Nat) (p : Nat → Int) : Prop := m = G.nk ∧ ∀ i, i < m → G.s.vb i ≤ p i ∧ p i ≤ G.s.last
def HrsOk (G : MG) (m : Nat) (x : Nat → Int) : Prop := m = G.nk ∧ ∀ i, i < m → G.klo i ≤ x i ∧ x i ≤ G.khi i
noncomputable instance (G : MG) (m : Nat) (p : Nat → Int) : Decidable (PlanOk G m p) := Classical.propDecidable _
noncomputable instance (G : MG) (m : Nat) (p : Nat → Int) : Decidable (HrsOk G m p) := Classical.propDecidable _

def AtS (p x : Nat → Int) (v : Nat) (t : Int) : Prop := p v < t ∧ t ≤ p v + x v
noncomputable instance (p x : Nat → Int) (v : Nat) (t : Int) : Decidable (AtS p x v t) := Classical.propDecidable _
noncomputable instance (b k : Nat) : Decidable (Bit b k) := Classical.propDecidable _
noncomputable def menTo (G : MG) (p x : Nat → Int) (b : Nat) (t : Int) : Nat → Int
  | 0 => 0
  | k + 1 => menTo G p x b t k + (if Bit b k ∧ AtS p x k t then G.km k else 0)
def SmI (m : Nat) (a : Nat → Int) : Prop := ∀ i, i < m → 0 ≤ a i ∧ a i ≤ 50
end Go.Vm.St

namespace Go.Vm
open Go.Vm.Vat
section
variable {p : Nat → Prop}
end
end Go.Vm
namespace Go.Vm.St
open Go.Proofs Go.Vm.Vat
set_option linter.unusedSimpArgs false
set_option linter.unusedVariables false
set_option maxRecDepth 10000
variable {n : Nat} {h : AHeap}

theorem TruthsL.mono {g : AHeap} {v : Value} {S : MS} {l : List (Nat → Int)} (ht : TruthsL h v S l) (hs : Sub All h g) : TruthsL g v S l := by
  obtain ⟨R1, R2, h1, h2⟩ := ht
  exact ⟨R1, R2, Cells.mono h1 hs, fun k hk => (h2 k hk).mono hs⟩
def OverS (G : MG) (p x : Nat → Int) (b k : Nat) : Prop := ∃ i, i < k ∧ Bit b i ∧ 0 < x i ∧ G.close < p i + x i
noncomputable instance (G : MG) (p x : Nat → Int) (b k : Nat) : Decidable (OverS G p x b k) := Classical.propDecidable _
def doneS (G : MG) (p : Nat → Int) : Nat → Int
  | 0 => 0
  | k + 1 => max (doneS G p k) (p k + G.khi k)
theorem doneS_bound {G : MG} {p : Nat → Int} (hG : GoodG G) : ∀ k, k ≤ G.nk → (∀ i, i < k → 0 ≤ p i ∧ p i ≤ 50) → 0 ≤ doneS G p k ∧ doneS G p k ≤ 54
  | 0, _, _ => by simp [doneS]
  | k + 1, hk, h => by
    have h1 := doneS_bound hG k (by omega) fun i hi => h i (by omega)
    have h2 := h k (by omega)
    have h3 := (hG.works k (by omega)).2
    rw [doneS]; omega
def SuffS (G : MG) (p : Nat → Int) (b : Nat) (men : Int) : Prop := (∀ t : Nat, t ≤ 20 → menTo G p G.khi b (t : Int) G.nk ≤ men) ∧ ¬ OverS G p G.khi b G.nk
noncomputable instance (G : MG) (p : Nat → Int) (b : Nat) (men : Int) : Decidable (SuffS G p b men) := Classical.propDecidable _
def lateS (G : MG) (p : Nat → Int) (b i : Nat) : Prop := Bit b i ∧ verdS G.s i (p i) 1 (truthsS G.s) ≠ 1
noncomputable instance (G : MG) (p : Nat → Int) (b i : Nat) : Decidable (lateS G p b i) := Classical.propDecidable _
def SureS (G : MG) (p : Nat → Int) (b m : Nat) (men : Int) : Prop := SuffS G p b men ∧ ∀ i, i < m → ¬ lateS G p b i
noncomputable instance (G : MG) (p : Nat → Int) (b m : Nat) (men : Int) : Decidable (SureS G p b m men) := Classical.propDecidable _

def s123 : SCode := (.seq (.ops [jO 2 (.box (T 0)), jO 4 (.mov (.const (.bool false)))]) (.seq (.ops [jO 5 (.fieldAddr 0 (T 2)), jO 6 (.load1 (T 5)), jO 7 (.mov (T 1)), jO 8 (.int2 .leq (T 6) (T 7)), jO 9 (.mov (T 8)), ⟨some 10, (some (9, true)), .mov (T 1)⟩, ⟨some 11, (some (9, true)), .fieldAddr 1 (T 2)⟩, ⟨some 12, (some (9, true)), .load1 (T 11)⟩, ⟨some 13, (some (9, true)), .int2 .leq (T 10) (T 12)⟩, jO 14 (.pick (T 9) (T 13) (.const (.bool false))), jO 4 (.mov (T 14))]) .ret))
theorem fok123 : FnOk Tryz.prog 123 15 s123 [.tmp 4] := ⟨Tryz.f123, _, Tryz.func123, rfl, Tryz.ntmps123, by kernel_rfl, by kernel_rfl⟩
theorem hasG_c (hn : 1 ≤ n) (hr : h.next < far) (lo hi a : Int) : call n (.func (.func 123) #[] #[]) [.agg ⟨[.int .i64 lo, .int .i64 hi]⟩, .int .i64 a] h = some (.bool (decide (lo ≤ a ∧ a ≤ hi)), h) := by
  obtain ⟨n, rfl⟩ : ∃ p, n = p + 1 := ⟨n - 1, by omega⟩
  refine call_plain0 fok123 rfl rfl (by simp) rfl ?_
  simp only [s123, jO, jF, jR, jS, jU, jA, jK, W_seq, W_ops]
  refine ops_box (cs := [.int .i64 lo, .int .i64 hi]) (by exact hr) rfl rfl fun h1 hb => ?_
  by_cases c1 : lo ≤ a <;> by_cases c2 : a ≤ hi <;> simp only [rn0, reduceIte, Nat.reduceEqDiff, Nat.reduceAdd, Nat.reduceMul, Nat.reduceSub, Nat.reduceLeDiff, Nat.reduceLT, hb.ld, Nat.zero_add, List.getElem?_cons_zero, List.getElem?_cons_succ, c1, c2, and_self, and_false, false_and, g_un]
def s84 : SCode := (.seq (.ops [jO 1 (.box (T 0)), jO 2 (.mov (jK 0))]) (.seq (.ops [jO 3 (.fieldAddr 1 (T 1)), jO 4 (.load1 (T 3)), jO 2 (.mov (T 4))]) .ret))
theorem fok84 : FnOk Tryz.prog 84 5 s84 [.tmp 2] := ⟨Tryz.f84, _, Tryz.func84, rfl, Tryz.ntmps84, by kernel_rfl, by kernel_rfl⟩
theorem high_c (hn : 1 ≤ n) (hr : h.next < far) (lo hi : Int) : call n (.func (.func 84) #[] #[]) [.agg ⟨[.int .i64 lo, .int .i64 hi]⟩] h = some (.int .i64 hi, h) := by
  obtain ⟨n, rfl⟩ : ∃ p, n = p + 1 := ⟨n - 1, by omega⟩
  refine call_plain0 fok84 rfl rfl (by simp) rfl ?_
  simp only [s84, jO, jF, jR, jS, jU, jA, jK, W_seq, W_ops]
  refine ops_box (cs := [.int .i64 lo, .int .i64 hi]) (by exact hr) rfl rfl fun h1 hb => ?_
  simp only [rn0, reduceIte, Nat.reduceEqDiff, Nat.reduceAdd, Nat.reduceMul, Nat.reduceSub, Nat.reduceLeDiff, Nat.reduceLT, hb.ld, Nat.zero_add, List.getElem?_cons_zero, List.getElem?_cons_succ]
def s86 : SCode := (.seq (.ops [jO 1 (.box (T 0)), jO 2 (.mov (jK 0))]) (.seq (.ops [jO 3 (.fieldAddr 0 (T 1)), jO 4 (.load1 (T 3)), jO 2 (.mov (T 4))]) .ret))
theorem fok86 : FnOk Tryz.prog 86 5 s86 [.tmp 2] := ⟨Tryz.f86, _, Tryz.func86, rfl, Tryz.ntmps86, by kernel_rfl, by kernel_rfl⟩
theorem low_c (hn : 1 ≤ n) (hr : h.next < far) (lo hi : Int) : call n (.func (.func 86) #[] #[]) [.agg ⟨[.int .i64 lo, .int .i64 hi]⟩] h = some (.int .i64 lo, h) := by
  obtain ⟨n, rfl⟩ : ∃ p, n = p + 1 := ⟨n - 1, by omega⟩
  refine call_plain0 fok86 rfl rfl (by simp) rfl ?_
  simp only [s86, jO, jF, jR, jS, jU, jA, jK, W_seq, W_ops]
  refine ops_box (cs := [.int .i64 lo, .int .i64 hi]) (by exact hr) rfl rfl fun h1 hb => ?_
  simp only [rn0, reduceIte, Nat.reduceEqDiff, Nat.reduceAdd, Nat.reduceMul, Nat.reduceSub, Nat.reduceLeDiff, Nat.reduceLT, hb.ld, Nat.zero_add, List.getElem?_cons_zero, List.getElem?_cons_succ]
def lgL : List Value := [.int .i64 9, .int .i64 0, .int .i64 4]
theorem lgg : lgL[0]? = some (.int .i64 9) ∧ lgL[1]? = some (.int .i64 0) ∧ lgL[2]? = some (.int .i64 4) := ⟨rfl, rfl, rfl⟩
theorem lg_ld {g : AHeap} {p : Nat} (hr : Row g p lgL) : loadAgg 2 g (.pointer (some ⟨p, 1, none⟩)) = some (.agg ⟨[.int .i64 0, .int .i64 4]⟩) := hr.ldN 1 2 (by simp [lgL]) (by simp [lgL])
def s125 : SCode := (.seq (.ops [jO 2 (.box (T 0)), jO 3 (.box (T 1)), jO 4 (.mov (.const (.bool false)))]) (.seq (.ops [jO 5 (.fieldAddr 0 (T 2)), jO 6 (.load1 (T 5)), jO 7 (.build #[(0, 1), (1, 1)] [(.int .i64 0), (.int .i64 0)] [0, 1] [(jK 0), (T 6)]), jO 8 (.fieldAddr 0 (T 3)), jO 9 (.load1 (T 8)), jO 10 (.call (.func 123) [(T 7), (T 9)]), jO 11 (.mov (T 10)), ⟨some 12, (some (11, true)), .fieldAddr 1 (T 2)⟩, ⟨some 13, (some (11, true)), .loadN 2 (T 12)⟩, ⟨some 14, (some (11, true)), .fieldAddr 1 (T 3)⟩, ⟨some 15, (some (11, true)), .fieldAddr 0 (T 14)⟩, ⟨some 16, (some (11, true)), .load1 (T 15)⟩, ⟨some 17, (some (11, true)), .call (.func 123) [(T 13), (T 16)]⟩, jO 18 (.pick (T 11) (T 17) (.const (.bool false))), jO 19 (.mov (T 18)), ⟨some 20, (some (19, true)), .fieldAddr 1 (T 2)⟩, ⟨some 21, (some (19, true)), .loadN 2 (T 20)⟩, ⟨some 22, (some (19, true)), .fieldAddr 1 (T 3)⟩, ⟨some 23, (some (19, true)), .fieldAddr 1 (T 22)⟩, ⟨some 24, (some (19, true)), .load1 (T 23)⟩, ⟨some 25, (some (19, true)), .call (.func 123) [(T 21), (T 24)]⟩, jO 26 (.pick (T 19) (T 25) (.const (.bool false))), jO 27 (.mov (T 26)), ⟨some 28, (some (27, true)), .fieldAddr 1 (T 3)⟩, ⟨some 29, (some (27, true)), .fieldAddr 0 (T 28)⟩, ⟨some 30, (some (27, true)), .load1 (T 29)⟩, ⟨some 31, (some (27, true)), .fieldAddr 1 (T 3)⟩, ⟨some 32, (some (27, true)), .fieldAddr 1 (T 31)⟩, ⟨some 33, (some (27, true)), .load1 (T 32)⟩, ⟨some 34, (some (27, true)), .int2 .leq (T 30) (T 33)⟩, jO 35 (.pick (T 27) (T 34) (.const (.bool false))), jO 4 (.mov (T 35))]) .ret))
theorem fok125 : FnOk Tryz.prog 125 36 s125 [.tmp 4] := ⟨Tryz.f125, _, Tryz.func125, rfl, Tryz.ntmps125, by kernel_rfl, by kernel_rfl⟩
set_option maxHeartbeats 1000000 in
theorem allows_c (hn : 2 ≤ n) (hr : h.next + 10 < far) {G : MG} (k : Nat) : ∃ b, (b = true ↔ WorkOk G k) ∧ call n (.func (.func 125) ⟨[.agg ⟨lgL⟩]⟩ #[]) [.agg ⟨woL G k⟩] h = some (.bool b, h) := by
  classical
  obtain ⟨n, rfl⟩ : ∃ p, n = p + 1 := ⟨n - 1, by omega⟩
  refine ⟨decide (WorkOk G k), decide_eq_true_iff, ?_⟩
  refine call_plain (xs := [.agg ⟨lgL⟩]) (ys := []) fok125 rfl rfl (by simp) rfl ?_
  have hr : h.shutAll.next + 10 < far := hr
  generalize h.shutAll = h at hr
  simp only [s125, jO, jF, jR, jS, jU, jA, jK, W_seq, W_ops]
  refine ops_box (cs := lgL) (by omega) rfl rfl fun h1 hx1 => ?_
  have n1 := hx1.next
  refine ops_box (cs := woL G k) (by omega) rfl rfl fun h2 hx2 => ?_
  have n2 := hx2.next
  have r1 := hx1.row.mono hx2.sub
  have r2 := hx2.row
  have e1 := hasG_c (n := n) (h := h2) (by omega) (by omega) 0 9 (G.km k)
  have e2 := hasG_c (n := n) (h := h2) (by omega) (by omega) 0 4 (G.klo k)
  have e3 := hasG_c (n := n) (h := h2) (by omega) (by omega) 0 4 (G.khi k)
  by_cases c1 : 0 ≤ G.km k ∧ G.km k ≤ 9
  case neg =>
    have : ¬ WorkOk G k := fun e => c1 e.1
    simp only [rn0, reduceIte, Nat.reduceEqDiff, Nat.reduceAdd, Nat.reduceMul, Nat.reduceSub, Nat.reduceLeDiff, Nat.reduceLT, r1.ld, r2.ld, lgg, wog, Nat.zero_add, build_range, e1, c1, g_un, this]
  by_cases c2 : 0 ≤ G.klo k ∧ G.klo k ≤ 4
  case neg =>
    have : ¬ WorkOk G k := fun e => c2 (by have := e.2; omega)
    simp only [rn0, reduceIte, Nat.reduceEqDiff, Nat.reduceAdd, Nat.reduceMul, Nat.reduceSub, Nat.reduceLeDiff, Nat.reduceLT, r1.ld, r2.ld, lgg, wog, Nat.zero_add, build_range, e1, c1, and_self, g_un, lg_ld r1, e2, c2, this]
  by_cases c3 : 0 ≤ G.khi k ∧ G.khi k ≤ 4
  case neg =>
    have : ¬ WorkOk G k := fun e => c3 (by have := e.2; omega)
    simp only [rn0, reduceIte, Nat.reduceEqDiff, Nat.reduceAdd, Nat.reduceMul, Nat.reduceSub, Nat.reduceLeDiff, Nat.reduceLT, r1.ld, r2.ld, lgg, wog, Nat.zero_add, build_range, e1, c1, and_self, g_un, lg_ld r1, e2, c2, e3, c3, this]
  by_cases c4 : G.klo k ≤ G.khi k
  · have : WorkOk G k := ⟨c1, c2.1, c4, c3.2⟩
    simp only [rn0, reduceIte, Nat.reduceEqDiff, Nat.reduceAdd, Nat.reduceMul, Nat.reduceSub, Nat.reduceLeDiff, Nat.reduceLT, r1.ld, r2.ld, lgg, wog, Nat.zero_add, build_range, e1, c1, and_self, g_un, lg_ld r1, e2, c2, e3, c3, c4, this]
  · have : ¬ WorkOk G k := fun e => c4 e.2.2.1
    simp only [rn0, reduceIte, Nat.reduceEqDiff, Nat.reduceAdd, Nat.reduceMul, Nat.reduceSub, Nat.reduceLeDiff, Nat.reduceLT, r1.ld, r2.ld, lgg, wog, Nat.zero_add, build_range, e1, c1, and_self, g_un, lg_ld r1, e2, c2, e3, c3, c4, this]
def s124 : SCode := (.seq (.ops [jO 4 (.mov (.const (.bool false)))]) (.seq (.seq (.ops [jO 7 (.mov (T 0)), jO 8 (.len (T 7)), jO 9 (.mov (jK 0))]) (.block 0 (.loop (.seq (.ops [jO 10 (.int2 .lss (T 9) (T 8))]) (.seq (.cond (T 10) .skip (.exit 0)) (.seq (.block 1 (.seq (.ops [jO 11 (.idxSl 3 (T 7) (T 9)), jO 12 (.loadN 3 (T 11)), jO 6 (.alloc [(.int .i64 0), (.int .i64 0), (.int .i64 0)]), ⟨none, none, .store 3 (T 6) (T 12)⟩]) (.seq (.ops [jO 13 (.mov (T 1)), jO 14 (.loadN 3 (T 6)), jO 15 (.call (T 13) [(T 14)]), jO 16 (.not (T 15))]) (.cond (T 16) (.seq (.ops [jO 4 (.mov (.const (.bool false)))]) .ret) .skip)))) (.ops [jO 17 (.int2 .add (T 9) (jK 1)), jO 9 (.mov (T 17))]))))))) (.seq (.ops [jO 4 (.mov (.const (.bool true)))]) .ret)))
theorem fok124 : FnOk Tryz.prog 124 18 s124 [.tmp 4] := ⟨Tryz.f124, _, Tryz.func124, rfl, Tryz.ntmps124, by kernel_rfl, by kernel_rfl⟩
open Classical in
theorem everyWork_c (hn : 100 ≤ n) (hr : h.next + 60 < far) {v ok : Value} {m : Nat} {G : MG} {p : Nat → Prop} (hv : Cells h v 3 m (workC G)) (hm : m ≤ 30) (hok : Cond (n - 1) h.shutAll 40 ok m (fun i => .agg ⟨woL G i⟩) p) :
    call n (.func (.func 124) #[] #[]) [v, ok] h = some (.bool (decide (∀ i, i < m → p i)), h) := by
  obtain ⟨n, rfl⟩ : ∃ p, n = p + 1 := ⟨n - 1, by omega⟩
  refine call_plain0 fok124 rfl rfl (by simp) rfl ?_
  have hv := Cells.shut hv
  have hr : h.shutAll.next + 60 < far := hr
  have hfl : h.shutAll.floor ≤ h.shutAll.next := Nat.le_refl _
  rw [Nat.add_sub_cancel] at hok
  generalize h.shutAll = h at hv hok hr hfl
  simp only [rn0, reduceIte, Nat.reduceEqDiff, Nat.reduceAdd, Nat.reduceMul, Nat.reduceSub, Nat.reduceLeDiff, Nat.reduceLT, s124, jO, jF, jR, jS, jU, jA, jK, Cells.len hv]
  refine W_loop m (fun k f g m' => (Sub All h g ∧ g.next = h.next + k ∧ g.floor = h.floor) ∧ m' = [] ∧ f 1 = ok ∧ f 7 = v ∧ f 8 = .int .i64 (m : Int) ∧ f 9 = .int .i64 (k : Int) ∧ ∀ i, i < k → p i) (by simp; omega) ?_ ?_ ?_
  · simp only [rn0, reduceIte, Nat.reduceEqDiff, Nat.reduceAdd, Nat.reduceMul, Nat.reduceSub, Nat.reduceLeDiff, Nat.reduceLT, Nat.not_lt_zero, false_implies, implies_true, Nat.add_zero]
    trivial
  · rintro k f g m' hk ⟨⟨g1, g2, g3⟩, rfl, f1, f7, f8, f9, hlt⟩
    have hk' : (k : Int) < (m : Int) := by omega
    have hw : wrapF .i64 ((k : Int) + 1) = ((k + 1 : Nat) : Int) := by rw [wrap_in (by omega) (by omega)]; rfl
    have hvg := Cells.mono hv g1
    have hldk : loadAgg 3 g (ptrO v 3 k 0) = some (.agg ⟨woL G k⟩) := by rw [Cells.ldN hvg hk (by omega) (by omega)]; simp [List.range_succ, workC, woL]
    simp only [rn0, reduceIte, Nat.reduceEqDiff, Nat.reduceAdd, Nat.reduceMul, Nat.reduceSub, Nat.reduceLeDiff, Nat.reduceLT, f1, f7, f8, f9, hk', Cells.idx hvg hk, hldk]
    refine step_new (vs := woL G k) (by omega) (by omega) rfl (by simp only [rn0, reduceIte, Nat.reduceEqDiff, Nat.reduceAdd, Nat.reduceMul, Nat.reduceSub, Nat.reduceLeDiff, Nat.reduceLT]; rfl) rfl rfl rfl fun g' hg' => ?_
    have hin : (Sub All h g' ∧ g'.next = h.next + (k + 1) ∧ g'.floor = h.floor) = True := eq_true ⟨g1.trans hg'.sub, by rw [hg'.next, g2]; omega, by rw [hg'.floor, g3]⟩
    obtain ⟨b, hb, e⟩ := hok g' (g1.trans hg'.sub) (by rw [hg'.next, g2]; omega) k hk
    have wh := hg'.row.whole (n := 3) rfl
    cases b with
    | true =>
      have hp : p k := hb.1 rfl
      simp only [rn0, reduceIte, Nat.reduceEqDiff, Nat.reduceAdd, Nat.reduceMul, Nat.reduceSub, Nat.reduceLeDiff, Nat.reduceLT, f1, f7, f8, f9, wh, e, hw, hin]
      intro j hj
      by_cases ej : j = k
      · subst ej; exact hp
      · exact hlt j (by omega)
    | false =>
      have hp : ¬ ∀ i, i < m → p i := fun h => by have := hb.2 (h k hk); cases this
      simp only [rn0, reduceIte, Nat.reduceEqDiff, Nat.reduceAdd, Nat.reduceMul, Nat.reduceSub, Nat.reduceLeDiff, Nat.reduceLT, f1, f7, f8, f9, wh, e, hw, hp]
  · rintro f g m' ⟨⟨g1, g2, g3⟩, rfl, f1, f7, f8, f9, hlt⟩
    simp only [rn0, reduceIte, Nat.reduceEqDiff, Nat.reduceAdd, Nat.reduceMul, Nat.reduceSub, Nat.reduceLeDiff, Nat.reduceLT, f1, f7, f8, f9, Int.lt_irrefl, eq_true hlt]
def WValid (G : MG) : Prop := 0 ≤ G.men ∧ 0 ≤ G.close ∧ G.nk = G.s.nv ∧ WorksOk G
noncomputable instance (G : MG) : Decidable (WValid G) := Classical.propDecidable _
def s81 : SCode := (.seq (.ops [jO 1 (.box (T 0)), jO 2 (.mov (.const (.bool false)))]) (.seq (.ops [jO 4 (.build #[(0, 1), (1, 1)] [(.int .i64 0), (.int .i64 0)] [0, 1] [(jK 0), (jK 4)]), jO 5 (.build #[(0, 1), (1, 2)] [(.int .i64 0), (.int .i64 0), (.int .i64 0)] [0, 1] [(jK 9), (T 4)]), jO 3 (.alloc [(.int .i64 0), (.int .i64 0), (.int .i64 0)]), ⟨none, none, .store 3 (T 3) (T 5)⟩]) (.seq (.ops [jO 6 (.fieldAddr 0 (T 1)), jO 7 (.fieldAddr 7 (T 6)), jO 8 (.load1 (T 7)), jO 9 (.int2 .leq (jK 0) (T 8)), jO 10 (.mov (T 9)), ⟨some 11, (some (10, true)), .fieldAddr 0 (T 1)⟩, ⟨some 12, (some (10, true)), .fieldAddr 8 (T 11)⟩, ⟨some 13, (some (10, true)), .load1 (T 12)⟩, ⟨some 14, (some (10, true)), .int2 .leq (jK 0) (T 13)⟩, jO 15 (.pick (T 10) (T 14) (.const (.bool false))), jO 16 (.mov (T 15)), ⟨some 17, (some (16, true)), .fieldAddr 0 (T 1)⟩, ⟨some 18, (some (16, true)), .fieldAddr 9 (T 17)⟩, ⟨some 19, (some (16, true)), .load1 (T 18)⟩, ⟨some 20, (some (16, true)), .len (T 19)⟩, ⟨some 21, (some (16, true)), .fieldAddr 0 (T 1)⟩, ⟨some 22, (some (16, true)), .fieldAddr 0 (T 21)⟩, ⟨some 23, (some (16, true)), .fieldAddr 5 (T 22)⟩, ⟨some 24, (some (16, true)), .load1 (T 23)⟩, ⟨some 25, (some (16, true)), .len (T 24)⟩, ⟨some 26, (some (16, true)), .int2 .eql (T 20) (T 25)⟩, jO 27 (.pick (T 16) (T 26) (.const (.bool false))), jO 28 (.mov (T 27)), ⟨some 29, (some (28, true)), .fieldAddr 0 (T 1)⟩, ⟨some 30, (some (28, true)), .fieldAddr 9 (T 29)⟩, ⟨some 31, (some (28, true)), .load1 (T 30)⟩, ⟨some 32, (some (28, true)), .loadN 3 (T 3)⟩, ⟨some 33, (some (28, true)), .mkfunc 125 [(T 32)] []⟩, ⟨some 34, (some (28, true)), .call (.func 124) [(T 31), (T 33)]⟩, jO 35 (.pick (T 28) (T 34) (.const (.bool false))), jO 2 (.mov (T 35))]) .ret)))
theorem fok81 : FnOk Tryz.prog 81 36 s81 [.tmp 2] := ⟨Tryz.f81, _, Tryz.func81, rfl, Tryz.ntmps81, by kernel_rfl, by kernel_rfl⟩
set_option maxHeartbeats 1000000 in
theorem isValidG_c (hn : 110 ≤ n) (hr : h.next + 100 < far) {wv vv sv kv mv : Value} {G : MG} (hy : GangR h wv vv sv kv G) (hmv : oneCell mv = true) (hl : G.nk ≤ 30) :
    call n (.func (.func 81) #[] #[]) [.agg ⟨crL G wv vv sv kv mv⟩] h = some (.bool (decide (WValid G)), h) := by
  obtain ⟨n, rfl⟩ : ∃ p, n = p + 1 := ⟨n - 1, by omega⟩
  refine call_plain0 fok81 rfl rfl (by simp) rfl ?_
  have hy := hy.shut
  have hr : h.shutAll.next + 100 < far := hr
  have hfl : h.shutAll.floor ≤ h.shutAll.next := Nat.le_refl _
  generalize h.shutAll = h at hy hr hfl
  simp only [s81, jO, jF, jR, jS, jU, jA, jK, W_seq, W_ops]
  refine ops_box (cs := crL G wv vv sv kv mv) (by omega) rfl (cr_one hy hmv) fun g1 hx1 => ?_
  have n1 := hx1.next
  have f1 := hx1.floor
  simp only [rn0, reduceIte, Nat.reduceEqDiff, Nat.reduceAdd, Nat.reduceMul, Nat.reduceSub, Nat.reduceLeDiff, Nat.reduceLT, build_range, build_samp]
  refine step_new (vs := lgL) (by omega) (by omega) rfl (by simp only [rn0, reduceIte, Nat.reduceEqDiff, Nat.reduceAdd, Nat.reduceMul, Nat.reduceSub, Nat.reduceLeDiff, Nat.reduceLT]; rfl) rfl rfl rfl fun g2 hx2 => ?_
  have n2 := hx2.next
  have f2 := hx2.floor
  have r1 := hx1.row.mono hx2.sub
  have r2 := hx2.row
  have hy2 := hy.mono (hx1.sub.trans hx2.sub)
  have ee := everyWork_c (n := n) (h := g2) (p := WorkOk G) (ok := .func (.func 125) ⟨[.agg ⟨lgL⟩]⟩ #[]) (by omega) (by omega) hy2.k hl fun g' hs hg i hi => allows_c (by omega) (by have : g2.shutAll.next = g2.next := rfl; omega) i
  by_cases c1 : 0 ≤ G.men
  case neg =>
    have : ¬ WValid G := fun e => c1 e.1
    simp only [rn0, reduceIte, Nat.reduceEqDiff, Nat.reduceAdd, Nat.reduceMul, Nat.reduceSub, Nat.reduceLeDiff, Nat.reduceLT, r1.ld, crg, Nat.zero_add, c1, g_un, this]
  by_cases c2 : 0 ≤ G.close
  case neg =>
    have : ¬ WValid G := fun e => c2 e.2.1
    simp only [rn0, reduceIte, Nat.reduceEqDiff, Nat.reduceAdd, Nat.reduceMul, Nat.reduceSub, Nat.reduceLeDiff, Nat.reduceLT, r1.ld, crg, Nat.zero_add, c1, c2, g_un, this]
  by_cases c3 : (G.nk : Int) = (G.s.nv : Int)
  case neg =>
    have : ¬ WValid G := fun e => c3 (by rw [e.2.2.1])
    simp only [rn0, reduceIte, Nat.reduceEqDiff, Nat.reduceAdd, Nat.reduceMul, Nat.reduceSub, Nat.reduceLeDiff, Nat.reduceLT, r1.ld, crg, Nat.zero_add, c1, c2, g_un, Cells.len hy2.k, Cells.len hy2.s.v, c3, this]
  have d3 : decide ((G.nk : Int) = (G.s.nv : Int)) = true := decide_eq_true c3
  by_cases c4 : ∀ i, i < G.nk → WorkOk G i
  · have : WValid G := ⟨c1, c2, by omega, c4⟩
    simp only [rn0, reduceIte, Nat.reduceEqDiff, Nat.reduceAdd, Nat.reduceMul, Nat.reduceSub, Nat.reduceLeDiff, Nat.reduceLT, r1.ld, crg, Nat.zero_add, c1, c2, g_un, Cells.len hy2.k, Cells.len hy2.s.v, d3, r2.whole (n := 3) rfl, ee, eq_true c4, this]
  · have : ¬ WValid G := fun e => c4 e.2.2.2
    simp only [rn0, reduceIte, Nat.reduceEqDiff, Nat.reduceAdd, Nat.reduceMul, Nat.reduceSub, Nat.reduceLeDiff, Nat.reduceLT, r1.ld, crg, Nat.zero_add, c1, c2, g_un, Cells.len hy2.k, Cells.len hy2.s.v, d3, r2.whole (n := 3) rfl, ee, eq_false c4, this]
theorem build_cr {G : MG} {wv vv sv kv : Value} : buildA (fun x => (#[(0, 10), (10, 1)] : Array (Nat × Nat))[x]?) ⟨[.int .i64 0, .int .i64 0, .slice none 0 0, .int .i64 0, .int .i64 0, .slice none 0 0, .slice none 0 0, .int .i64 0, .int .i64 0, .slice none 0 0, .map none]⟩ [0] h [.agg ⟨gaL G wv vv sv kv⟩] = some (.agg ⟨crL G wv vv sv kv (.map none)⟩, h) := by
  unfold buildA
  have e : Instr.fill (fun x => (#[(0, 10), (10, 1)] : Array (Nat × Nat))[x]?) #[.int .i64 0, .int .i64 0, .slice none 0 0, .int .i64 0, .int .i64 0, .slice none 0 0, .slice none 0 0, .int .i64 0, .int .i64 0, .slice none 0 0, .map none] ([0].zip [.agg ⟨gaL G wv vv sv kv⟩]) = some ⟨crL G wv vv sv kv (.map none)⟩ := by
    simp [Instr.fill, Value.cells, gaL, crL]
  rw [e]
theorem build_crM {G : MG} {wv vv sv kv mv : Value} (hm : mv.cells = #[mv]) : buildA (fun x => (#[(0, 10), (10, 1)] : Array (Nat × Nat))[x]?) ⟨[.int .i64 0, .int .i64 0, .slice none 0 0, .int .i64 0, .int .i64 0, .slice none 0 0, .slice none 0 0, .int .i64 0, .int .i64 0, .slice none 0 0, .map none]⟩ [0, 1] h [.agg ⟨gaL G wv vv sv kv⟩, mv] = some (.agg ⟨crL G wv vv sv kv mv⟩, h) := by
  unfold buildA
  have e : Instr.fill (fun x => (#[(0, 10), (10, 1)] : Array (Nat × Nat))[x]?) #[.int .i64 0, .int .i64 0, .slice none 0 0, .int .i64 0, .int .i64 0, .slice none 0 0, .slice none 0 0, .int .i64 0, .int .i64 0, .slice none 0 0, .map none] ([0, 1].zip [.agg ⟨gaL G wv vv sv kv⟩, mv]) = some ⟨crL G wv vv sv kv mv⟩ := by
    simp [Instr.fill, Value.cells, gaL, crL] at hm ⊢
    simp [hm]
  rw [e]
theorem stuckE_vals {S : MS} : (errT S ≠ 0 ∧ stuckE S = errT S) ∨ (errT S = 0 ∧ (stuckE S = 0 ∨ stuckE S = 7)) := by
  unfold stuckE
  by_cases c : errT S = 0
  · right
    refine ⟨c, ?_⟩
    rw [if_pos c]
    by_cases c2 : nilF S S.nv = none
    · right; rw [if_pos c2]
    · left; rw [if_neg c2]
  · left; exact ⟨c, if_neg c⟩
theorem errT_valsG {S : MS} : errT S = 0 ∨ errT S = 1 ∨ errT S = 3 ∨ errT S = 11 := by
  unfold errT
  rcases fault_vals S with h | h | h
  · rw [if_neg (by simpa using h)]
    by_cases c : truthsS S = []
    · rw [if_pos c]; omega
    · rw [if_neg c]; omega
  · rw [if_pos (by omega)]; omega
  · rw [if_pos (by omega)]; omega
theorem faultG_errT {G : MG} : faultG G = if errT G.s ≠ 0 then errT G.s else if 9 < G.men ∨ 9 < G.close then 3 else if WValid G then 0 else 1 := by
  unfold faultG errT
  by_cases c1 : faultS G.s = 0
  · simp only [c1, ne_eq, not_true_eq_false, if_false]
    by_cases c2 : truthsS G.s = []
    · simp [c2]
    · simp only [c2, if_false, not_true_eq_false]
      by_cases c3 : 9 < G.men ∨ 9 < G.close
      · simp [c3]
      · simp only [c3, if_false]
        by_cases c4 : WValid G
        · rw [if_pos c4, if_neg]
          rintro (c | c | c | c)
          · have := c4.1; omega
          · have := c4.2.1; omega
          · exact c c4.2.2.1
          · exact c c4.2.2.2
        · rw [if_neg c4, if_pos]
          apply Classical.byContradiction
          intro hno
          exact c4 ⟨by apply Classical.byContradiction; intro c; exact hno (.inl (by omega)), by apply Classical.byContradiction; intro c; exact hno (.inr (.inl (by omega))), by apply Classical.byContradiction; intro c; exact hno (.inr (.inr (.inl c))), by apply Classical.byContradiction; intro c; exact hno (.inr (.inr (.inr c)))⟩
  · simp [c1]
def s27 : SCode := (.seq (.ops [jO 1 (.box (T 0)), jO 2 (.mov (jK 0))]) (.seq (.seq (.ops [jO 6 (.fieldAddr 0 (T 1)), jO 7 (.loadN 7 (T 6)), jO 8 (.call (.func 80) [(T 7)]), jO 5 (.mov (T 8)), jO 9 (.extract 0 (T 5)), jO 10 (.extract 1 (T 5)), jO 3 (.mov (T 9)), jO 4 (.mov (T 10))]) (.seq (.ops [jO 11 (.mov (T 4)), jO 12 (.int2 .neq (T 11) (jK 0)), jO 13 (.mov (T 12)), ⟨some 14, (some (13, true)), .mov (T 4)⟩, ⟨some 15, (some (13, true)), .int2 .neq (T 14) (jK 7)⟩, jO 16 (.pick (T 13) (T 15) (.const (.bool false)))]) (.cond (T 16) (.seq (.ops [jO 17 (.mov (T 4)), jO 2 (.mov (T 17))]) .ret) .skip))) (.seq (.block 0 (.seq (.ops [jO 19 (.fieldAddr 7 (T 1)), jO 20 (.load1 (T 19)), jO 21 (.int2 .gtr (T 20) (jK 9)), jO 22 (.mov (T 21)), ⟨some 23, (some (22, false)), .fieldAddr 8 (T 1)⟩, ⟨some 24, (some (22, false)), .load1 (T 23)⟩, ⟨some 25, (some (22, false)), .int2 .gtr (T 24) (jK 9)⟩, jO 26 (.pick (T 22) (.const (.bool true)) (T 25)), jO 18 (.mov (T 26))]) (.cond (T 18) (.seq (.ops [jO 2 (.mov (jK 3))]) .ret) (.seq (.ops [jO 28 (.loadN 10 (T 1)), jO 29 (.build #[(0, 10), (10, 1)] [(.int .i64 0), (.int .i64 0), (.slice none 0 0), (.int .i64 0), (.int .i64 0), (.slice none 0 0), (.slice none 0 0), (.int .i64 0), (.int .i64 0), (.slice none 0 0), (.map none)] [0] [(T 28)]), jO 30 (.call (.func 81) [(T 29)]), jO 31 (.not (T 30)), jO 27 (.mov (T 31))]) (.cond (T 27) (.seq (.ops [jO 2 (.mov (jK 1))]) .ret) .skip))))) (.seq (.ops [jO 2 (.mov (jK 0))]) .ret))))
theorem fok27 : FnOk Tryz.prog 27 32 s27 [.tmp 2] := ⟨Tryz.f27, _, Tryz.func27, rfl, Tryz.ntmps27, by kernel_rfl, by kernel_rfl⟩
set_option maxHeartbeats 1000000 in
theorem checkG_c (hn : 2510 ≤ n) (hr : h.next + 1200100 < far) {wv vv sv kv : Value} {G : MG} (hy : GangR h wv vv sv kv G) (hT : ThinS G.s) (hl : G.nk ≤ 30) :
    call n (.func (.func 27) #[] #[]) [.agg ⟨gaL G wv vv sv kv⟩] h = some (.int .i64 (faultG G), h) := by
  obtain ⟨n, rfl⟩ : ∃ p, n = p + 1 := ⟨n - 1, by omega⟩
  refine call_plain0 fok27 rfl rfl (by simp) rfl ?_
  have hy := hy.shut
  have hr : h.shutAll.next + 1200100 < far := hr
  have hfl : h.shutAll.floor ≤ h.shutAll.next := Nat.le_refl _
  generalize h.shutAll = h at hy hr hfl
  simp only [s27, jO, jF, jR, jS, jU, jA, jK, W_seq, W_ops]
  refine ops_box (cs := gaL G wv vv sv kv) (by omega) rfl hy.one fun g1 hx1 => ?_
  have n1 := hx1.next
  have hy1 := hy.mono hx1.sub
  have r1 := hx1.row
  have es := stuckP_c (n := n) (h := g1) (by omega) (by omega) hy1.s hT
  have ev := isValidG_c (n := n) (h := g1) (mv := .map none) (by omega) (by omega) hy1 rfl hl
  have hF := faultG_errT (G := G)
  have hv := errT_valsG (S := G.s)
  rcases stuckE_vals (S := G.s) with ⟨h1, h2⟩ | ⟨h1, h2⟩
  · rw [if_pos h1] at hF
    rw [h2] at es
    have h7 : ¬ errT G.s = 7 := by omega
    simp only [rn0, reduceIte, Nat.reduceEqDiff, Nat.reduceAdd, Nat.reduceMul, Nat.reduceSub, Nat.reduceLeDiff, Nat.reduceLT, ga_st r1, es, ex0, ex1, h1, h7, g_un, hF]
  · rw [if_neg (by simpa using h1)] at hF
    by_cases c1 : 9 < G.men
    · rw [if_pos (.inl c1)] at hF
      rcases h2 with h2 | h2
      all_goals
        rw [h2] at es
        simp only [rn0, reduceIte, Nat.reduceEqDiff, Nat.reduceAdd, Nat.reduceMul, Nat.reduceSub, Nat.reduceLeDiff, Nat.reduceLT, ga_st r1, es, ex0, ex1, Int.reduceEq, g_un, r1.ld, gag, Nat.zero_add, gt_iff_lt, c1, hF]
    by_cases c2 : 9 < G.close
    · rw [if_pos (.inr c2)] at hF
      rcases h2 with h2 | h2
      all_goals
        rw [h2] at es
        simp only [rn0, reduceIte, Nat.reduceEqDiff, Nat.reduceAdd, Nat.reduceMul, Nat.reduceSub, Nat.reduceLeDiff, Nat.reduceLT, ga_st r1, es, ex0, ex1, Int.reduceEq, g_un, r1.ld, gag, Nat.zero_add, gt_iff_lt, c1, c2, hF]
    rw [if_neg (by rintro (c | c); exact c1 c; exact c2 c)] at hF
    by_cases c3 : WValid G
    · rw [if_pos c3] at hF
      rcases h2 with h2 | h2
      all_goals
        rw [h2] at es
        simp only [rn0, reduceIte, Nat.reduceEqDiff, Nat.reduceAdd, Nat.reduceMul, Nat.reduceSub, Nat.reduceLeDiff, Nat.reduceLT, ga_st r1, es, ex0, ex1, Int.reduceEq, g_un, r1.ld, gag, Nat.zero_add, gt_iff_lt, c1, c2, r1.whole (n := 10) rfl, build_cr, ev, c3, hF]
    · rw [if_neg c3] at hF
      rcases h2 with h2 | h2
      all_goals
        rw [h2] at es
        simp only [rn0, reduceIte, Nat.reduceEqDiff, Nat.reduceAdd, Nat.reduceMul, Nat.reduceSub, Nat.reduceLeDiff, Nat.reduceLT, ga_st r1, es, ex0, ex1, Int.reduceEq, g_un, r1.ld, gag, Nat.zero_add, gt_iff_lt, c1, c2, r1.whole (n := 10) rfl, build_cr, ev, c3, hF]

theorem x_mapUpdate {P : Program} {cf : CallF} {N : Nat} {f : Go.Vm.Fr} {kt : TypeId} {m k x : Operand} : sem P cf N f h (.mapUpdate kt m k x) = mapUpdateA P kt h (val f m) (val f k) (val f x) := id rfl
def RipeS (G : MG) (v : Nat) (t : Int) : Prop := (G.s.vb v ≤ t ∧ t ≤ G.s.last) ∧ verdS G.s v t 1 (truthsS G.s) = 1
open Classical in
noncomputable def rip (G : MG) (V : Nat) (q : Int × Int) : Bool := decide (0 ≤ q.1 ∧ q.1 < (V : Int) ∧ RipeS G q.1.toNat q.2)
open Classical in
noncomputable def ripK (G : MG) (V : Nat) (lo : Int) (k : Nat) (q : Int × Int) : Bool := decide ((0 ≤ q.1 ∧ q.1 < (V : Int) ∧ RipeS G q.1.toNat q.2) ∨ (q.1 = (V : Int) ∧ lo ≤ q.2 ∧ q.2 < lo + (k : Int)))
section
variable {G : MG} {V k : Nat} {lo : Int}
open Classical in
theorem rip_zero : rip G 0 = fun _ => false := by
  funext q
  unfold rip
  exact decide_eq_false fun h => by omega
theorem ripK_zero : ripK G V lo 0 = rip G V := by
  funext q
  unfold ripK rip
  exact decide_eq_decide.2 ⟨fun h => h.resolve_right fun q => by omega, .inl⟩
open Classical in
theorem ripK_step : (fun q : Int × Int => if q = ((V : Int), lo + (k : Int)) then true else ripK G V lo k q) = ripK G V lo (k + 1) := by
  funext q
  obtain ⟨a, b⟩ := q
  by_cases e : (a, b) = ((V : Int), lo + (k : Int))
  · rw [if_pos e]
    simp only [Prod.mk.injEq] at e
    obtain ⟨rfl, rfl⟩ := e
    unfold ripK
    exact (decide_eq_true (.inr ⟨rfl, by simp only; omega, by simp only; omega⟩)).symm
  · rw [if_neg e]
    simp only [Prod.mk.injEq] at e
    unfold ripK
    refine decide_eq_decide.2 ⟨fun h => ?_, fun h => ?_⟩
    · rcases h with h | h
      · exact .inl h
      · exact .inr (by simp only at h ⊢; omega)
    · rcases h with h | h
      · exact .inl h
      · exact .inr (by simp only at h ⊢; omega)
theorem ripK_end (hr : ∀ t, RipeS G V t ↔ lo ≤ t ∧ t < lo + (k : Int)) : ripK G V lo k = rip G (V + 1) := by
  funext q
  obtain ⟨a, b⟩ := q
  unfold ripK rip
  refine decide_eq_decide.2 ⟨fun h => ?_, fun h => ?_⟩
  · rcases h with ⟨h1, h2, h3⟩ | ⟨h1, h2⟩
    · exact ⟨h1, by simp only at h2 ⊢; omega, h3⟩
    · simp only at h1 h2 ⊢
      subst h1
      exact ⟨by omega, by omega, by rw [Int.toNat_natCast]; exact (hr b).2 h2⟩
  · obtain ⟨h1, h2, h3⟩ := h
    simp only at h1 h2 h3 ⊢
    by_cases e : a = (V : Int)
    · subst e
      rw [Int.toNat_natCast] at h3
      exact .inr ⟨rfl, (hr b).1 h3⟩
    · exact .inl ⟨h1, by omega, h3⟩
theorem rip_skip (hr : ∀ t, ¬ RipeS G V t) : rip G V = rip G (V + 1) := by
  have h := ripK_end (G := G) (V := V) (lo := 0) (k := 0) fun t => ⟨fun q => absurd q (hr t), fun q => by omega⟩
  rw [← h, ripK_zero]
end
theorem good_none {G : MG} (hG : GoodG G) {v : Nat} (hv : v < G.s.nv) (he : gAll G.s v = []) : ∀ t, ¬ RipeS G v t := by
  rintro t ⟨⟨h1, h2⟩, h3⟩
  have hh := hoursN_ok hG.s hv
  refine gAll_nil.1 he (t - G.s.vb v).toNat (by omega) ?_
  rw [show G.s.vb v + (((t - G.s.vb v).toNat : Nat) : Int) = t by omega]; exact h3
theorem good_some {G : MG} (hG : GoodG G) {v : Nat} (hv : v < G.s.nv) (he : gAll G.s v ≠ []) : ∃ (lo : Int) (K : Nat), gLo (G.s.vb v) (gAll G.s v) = lo ∧ gHi (G.s.vb v) (gAll G.s v) = lo + (K : Int) - 1 ∧ 0 < K ∧ K ≤ 6 ∧ 0 ≤ lo ∧ lo + (K : Int) ≤ 6 ∧ ∀ t, RipeS G v t ↔ lo ≤ t ∧ t < lo + (K : Int) := by
  obtain ⟨a, l1, l2, l3, l4, l5⟩ := gAll_run hG.s hv hG.t he
  have hh := hoursN_ok hG.s hv
  have hb := hG.begin (v := v) (by rw [hG.nk]; exact hv)
  have hs := hG.sizes
  refine ⟨G.s.vb v + (a : Int), (gAll G.s v).length, l3, by rw [l4]; omega, l2, by omega, by omega, by omega, fun t => ⟨?_, ?_⟩⟩
  · rintro ⟨⟨h1, h2⟩, h3⟩
    have := (l5 (t - G.s.vb v).toNat (by omega)).1 (by rw [show G.s.vb v + (((t - G.s.vb v).toNat : Nat) : Int) = t by omega]; exact h3)
    omega
  · rintro ⟨h1, h2⟩
    refine ⟨by omega, ?_⟩
    have := (l5 (t - G.s.vb v).toNat (by omega)).2 (by omega)
    rw [show G.s.vb v + (((t - G.s.vb v).toNat : Nat) : Int) = t by omega] at this
    exact this
theorem twoM : Two Tryz.prog 144 := ⟨⟨_, _, by rfl, by decide, by decide, rfl, rfl, by rfl, by rfl⟩, by kernel_rfl⟩
theorem keyM : KeyOkB Tryz.prog 144 key2 := keyOkB2 twoM
def zcL : List Value := [.int .i64 0, .int .i64 0, .slice none 0 0, .int .i64 0, .int .i64 0, .slice none 0 0, .slice none 0 0, .int .i64 0, .int .i64 0, .slice none 0 0, .map none]
theorem build_cr0 : buildA (fun x => (#[(0, 10), (10, 1)] : Array (Nat × Nat))[x]?) ⟨[.int .i64 0, .int .i64 0, .slice none 0 0, .int .i64 0, .int .i64 0, .slice none 0 0, .slice none 0 0, .int .i64 0, .int .i64 0, .slice none 0 0, .map none]⟩ [] h [] = some (.agg ⟨zcL⟩, h) := id rfl
def OpenG (h : AHeap) (G : MG) (wv vv sv kv : Value) (v : Value) (h' : AHeap) : Prop :=
  (∀ i, i < h.next → h'.get i = h.get i) ∧ h.next ≤ h'.next ∧ h'.next ≤ h.next + 60 ∧ h'.floor = h.floor ∧
    ((faultG G ≠ 0 ∧ v = .tuple ⟨[.agg ⟨zcL⟩, .int .i64 (faultG G)]⟩) ∨ (faultG G = 0 ∧ ∃ r, v = .tuple ⟨[.agg ⟨crL G wv vv sv kv (.map (some r))⟩, .int .i64 0]⟩ ∧ MapB h' r key2 (rip G G.nk) ∧ h.next ≤ r))
def s92 : SCode := (.seq (.ops [jO 1 (.box (T 0)), jO 2 (.alloc [(.int .i64 0), (.int .i64 0), (.slice none 0 0), (.int .i64 0), (.int .i64 0), (.slice none 0 0), (.slice none 0 0), (.int .i64 0), (.int .i64 0), (.slice none 0 0), (.map none)]), jO 3 (.mov (jK 0))]) (.seq (.seq (.ops [jO 10 (.loadN 10 (T 1)), jO 11 (.call (.func 27) [(T 10)]), jO 4 (.mov (T 11))]) (.seq (.ops [jO 12 (.mov (T 4)), jO 13 (.int2 .neq (T 12) (jK 0))]) (.cond (T 13) (.seq (.ops [jO 14 (.build #[(0, 10), (10, 1)] [(.int .i64 0), (.int .i64 0), (.slice none 0 0), (.int .i64 0), (.int .i64 0), (.slice none 0 0), (.slice none 0 0), (.int .i64 0), (.int .i64 0), (.slice none 0 0), (.map none)] [] []), jO 15 (.mov (T 4)), ⟨none, none, .store 11 (T 2) (T 14)⟩, jO 3 (.mov (T 15))]) .ret) .skip))) (.seq (.ops [jO 16 (.loadN 10 (T 1)), jO 17 .mkmap, jO 18 (.build #[(0, 10), (10, 1)] [(.int .i64 0), (.int .i64 0), (.slice none 0 0), (.int .i64 0), (.int .i64 0), (.slice none 0 0), (.slice none 0 0), (.int .i64 0), (.int .i64 0), (.slice none 0 0), (.map none)] [0, 1] [(T 16), (T 17)]), jO 5 (.alloc [(.int .i64 0), (.int .i64 0), (.slice none 0 0), (.int .i64 0), (.int .i64 0), (.slice none 0 0), (.slice none 0 0), (.int .i64 0), (.int .i64 0), (.slice none 0 0), (.map none)]), ⟨none, none, .store 11 (T 5) (T 18)⟩]) (.seq (.seq (.ops [jO 19 (.fieldAddr 0 (T 5)), jO 20 (.fieldAddr 0 (T 19)), jO 21 (.fieldAddr 5 (T 20)), jO 22 (.load1 (T 21)), jO 23 (.len (T 22)), jO 24 (.mov (jK 0))]) (.block 0 (.loop (.seq (.ops [jO 25 (.int2 .lss (T 24) (T 23))]) (.seq (.cond (T 25) .skip (.exit 0)) (.seq (.block 1 (.seq (.ops [jO 26 (.mov (T 24)), jO 6 (.mov (T 26))]) (.seq (.ops [jO 28 (.fieldAddr 0 (T 5)), jO 29 (.fieldAddr 0 (T 28)), jO 30 (.loadN 7 (T 29)), jO 31 (.mov (T 6)), jO 32 (.call (.func 64) [(T 30), (T 31)]), jO 27 (.mov (T 32)), jO 33 (.extract 0 (T 27)), jO 34 (.extract 1 (T 27)), jO 7 (.alloc [(.int .i64 0), (.int .i64 0)]), ⟨none, none, .store 2 (T 7) (T 33)⟩, jO 8 (.mov (T 34))]) (.seq (.seq (.ops [jO 35 (.mov (T 8)), jO 36 (.int2 .neq (T 35) (jK 0))]) (.cond (T 36) (.exit 1) .skip)) (.seq (.ops [jO 37 (.fieldAddr 0 (T 7)), jO 38 (.load1 (T 37)), jO 9 (.mov (T 38))]) (.block 2 (.loop (.seq (.seq (.ops [jO 39 (.mov (T 9)), jO 40 (.fieldAddr 1 (T 7)), jO 41 (.load1 (T 40)), jO 42 (.int2 .leq (T 39) (T 41))]) (.cond (T 42) .skip (.exit 2))) (.seq (.block 3 (.ops [jO 45 (.fieldAddr 10 (T 5)), jO 46 (.load1 (T 45)), jO 47 (.mov (T 6)), jO 48 (.mov (T 9)), jO 49 (.build #[(0, 1), (1, 1)] [(.int .i64 0), (.int .i64 0)] [0, 1] [(T 47), (T 48)]), ⟨none, none, .mapUpdate 144 (T 46) (T 49) (.const (.bool true))⟩])) (.ops [jO 43 (.mov (T 9)), jO 44 (.int2 .add (T 43) (jK 1)), jO 9 (.mov (T 44))])))))))))) (.ops [jO 50 (.int2 .add (T 24) (jK 1)), jO 24 (.mov (T 50))]))))))) (.seq (.ops [jO 51 (.loadN 11 (T 5)), ⟨none, none, .store 11 (T 2) (T 51)⟩, jO 3 (.mov (jK 0))]) .ret)))))
theorem fok92 : FnOk Tryz.prog 92 52 s92 [.cellN 2 11, .tmp 3] := ⟨Tryz.f92, _, Tryz.func92, rfl, Tryz.ntmps92, by kernel_rfl, by kernel_rfl⟩
set_option maxHeartbeats 2000000 in
theorem openG_c (hn : 2520 ≤ n) (hr : h.next + 1300000 < far) (hfl : h.floor ≤ h.next) {wv vv sv kv : Value} {G : MG} (hy : GangR h wv vv sv kv G) (hT : ThinS G.s) (hl : G.nk ≤ 30) :
    ∃ v h', call n (.func (.func 92) #[] #[]) [.agg ⟨gaL G wv vv sv kv⟩] h = some (v, h') ∧ OpenG h G wv vv sv kv v h' := by
  obtain ⟨n, rfl⟩ : ∃ p, n = p + 1 := ⟨n - 1, by omega⟩
  refine call_any0 fok92 rfl rfl (by simp) ?_
  simp only [s92, jO, jF, jR, jS, jU, jA, jK, W_seq, W_ops]
  refine ops_box (cs := gaL G wv vv sv kv) (by omega) rfl hy.one fun g1 hx1 => ?_
  have n1 := hx1.next
  have f1 := hx1.floor
  simp only [rn0, reduceIte, Nat.reduceEqDiff, Nat.reduceAdd, Nat.reduceMul, Nat.reduceSub, Nat.reduceLeDiff, Nat.reduceLT]
  refine step_row (cs := zcL) (by omega) rfl rfl fun g2 hx2 => ?_
  have n2 := hx2.next
  have f2 := hx2.floor
  have hy2 := hy.mono (hx1.sub.trans hx2.sub)
  have r2 := hx1.row.mono hx2.sub
  have ec := checkG_c (n := n) (h := g2) (by omega) (by omega) hy2 hT hl
  have old2 : ∀ i, i < h.next → g2.get i = h.get i := fun i hi => by rw [hx2.old i (by omega), hx1.old i hi]
  by_cases hf : faultG G = 0
  case neg =>
    simp only [rn0, reduceIte, Nat.reduceEqDiff, Nat.reduceAdd, Nat.reduceMul, Nat.reduceSub, Nat.reduceLeDiff, Nat.reduceLT, r2.whole (n := 10) rfl, ec, hf, build_cr0]
    refine step_store (b := g1.next) (off := 0) (vs := zcL) rfl hx2.get (by omega) (by omega) rfl rfl rfl (by simp [zcL]) fun g3 hs3 => ?_
    have n3 := hs3.next
    have f3 := hs3.floor
    rw [splice_all (by rfl)] at hs3
    simp only [rn0, reduceIte, Nat.reduceEqDiff, Nat.reduceAdd, Nat.reduceMul, Nat.reduceSub, Nat.reduceLeDiff, Nat.reduceLT, res_two, hs3.row.whole (n := 11) rfl]
    exact ⟨fun i hi => by rw [hs3.old i (by omega), old2 i hi], by omega, by omega, by omega, .inl ⟨hf, rfl⟩⟩
  have hG := goodG.1 hf
  obtain ⟨z0, z1, z4, z5, _⟩ := hG.sizes
  obtain ⟨g3, em, hm3, ho3, n3, f3⟩ := mkmapB (h := g2) (by omega) key2
  have s23 : Sub All g2 g3 := AHeap.subOf ho3
  have r3 := r2.mono s23
  have hy3 := hy2.mono s23
  rw [← rip_zero (G := G)] at hm3
  have hcm : (Value.map (some g2.next)).cells = #[.map (some g2.next)] := rfl
  rw [hf] at ec
  simp only [rn0, reduceIte, Nat.reduceEqDiff, Nat.reduceAdd, Nat.reduceMul, Nat.reduceSub, Nat.reduceLeDiff, Nat.reduceLT, r2.whole (n := 10) rfl, ec, x_mkmap, em, build_crM hcm]
  refine step_new (vs := crL G wv vv sv kv (.map (some g2.next))) (by omega) (by omega) rfl (by simp only [rn0, reduceIte, Nat.reduceEqDiff, Nat.reduceAdd, Nat.reduceMul, Nat.reduceSub, Nat.reduceLeDiff, Nat.reduceLT]; rfl) (cr_one hy3 rfl) rfl rfl fun g4 hx4 => ?_
  have n4 := hx4.next
  have f4 := hx4.floor
  have hm4 : MapB g4 g2.next key2 (rip G 0) := hm3.keep (hx4.old _ (by omega))
  have hy4 := hy3.mono hx4.sub
  have r4 := hx4.row
  have old4 : ∀ i, i < g2.next → g4.get i = g2.get i := fun i hi => by rw [hx4.old i (by omega), ho3 i hi]
  have q4 : g4.get g1.next = some (.row zcL true 0) := by rw [old4 _ (by omega)]; exact hx2.get
  obtain ⟨A5, hA5⟩ : ∃ q, q = g3.next := ⟨_, rfl⟩
  rw [← hA5] at r4
  rw [← hA5]
  simp only [rn0, reduceIte, Nat.reduceEqDiff, Nat.reduceAdd, Nat.reduceMul, Nat.reduceSub, Nat.reduceLeDiff, Nat.reduceLT, r4.ld, crg, Nat.zero_add, Cells.len hy4.s.v]
  refine W_loop G.s.nv (fun i f g ms => ((∀ j, j < g4.next → j ≠ g2.next → g.get j = g4.get j) ∧ MapB g g2.next key2 (rip G i) ∧ g4.next ≤ g.next ∧ g.next ≤ g4.next + i ∧ g.floor = g4.floor) ∧ ms = [] ∧ f 2 = .pointer (some ⟨g1.next, 0, none⟩) ∧ f 5 = .pointer (some ⟨A5, 0, none⟩) ∧ f 23 = .int .i64 (G.s.nv : Int) ∧ f 24 = .int .i64 (i : Int)) (by simp; omega) ?_ ?_ ?_
  · simp only [rn0, reduceIte, Nat.reduceEqDiff, Nat.reduceAdd, Nat.reduceMul, Nat.reduceSub, Nat.reduceLeDiff, Nat.reduceLT, Int.natCast_zero]
    first | exact ⟨fun _ _ _ => trivial, hm4, Nat.le_refl _⟩ | exact ⟨⟨fun _ _ _ => trivial, hm4, Nat.le_refl _, Nat.le_refl _, rfl⟩, rfl⟩ | exact ⟨fun _ _ _ => trivial, hm4, Nat.le_refl _, Nat.le_refl _⟩
  · rintro i f g ms hi ⟨⟨og, mg, ug, ng, fg⟩, rfl, p2, p5, p23, p24⟩
    have hi' : (i : Int) < (G.s.nv : Int) := by omega
    have hwi : wrapF .i64 ((i : Int) + 1) = ((i + 1 : Nat) : Int) := by rw [wrap_in (by omega) (by omega)]; rfl
    have rg : Row g A5 (crL G wv vv sv kv (.map (some g2.next))) := by
      obtain ⟨w, gr, e⟩ := r4
      exact ⟨w, gr, by rw [og _ (by omega) (by omega)]; exact e⟩
    have hyg : GangR g wv vv sv kv G := hy.mono (AHeap.subOf fun j hj => by rw [og j (by omega) (by omega), old4 j (by omega), old2 j hj])
    have eg := goodP_c (n := n) (h := g) (by omega) (by omega) hyg.s hT (i : Int)
    have hev : errV G.s (i : Int) = 0 := by
      unfold errV
      rw [if_neg (by simpa using fault_of hG.s), if_neg (fun q => q ⟨by omega, by omega⟩), if_neg hG.t]
    obtain ⟨a1, a2, a3⟩ := good_ok hev
    simp only [Int.toNat_natCast] at a1 a2 a3
    by_cases c : gAll G.s i = []
    · rw [if_pos c] at a1
      rw [a1] at eg
      simp only [rn0, reduceIte, Nat.reduceEqDiff, Nat.reduceAdd, Nat.reduceMul, Nat.reduceSub, Nat.reduceLeDiff, Nat.reduceLT, p2, p5, p23, p24, hi', cr_st rg, eg, ex0, ex1]
      refine step_new (vs := [.int .i64 (goodLo G.s (i : Int)), .int .i64 (goodHi G.s (i : Int))]) (by omega) (by omega) rfl (by simp only [rn0, reduceIte, Nat.reduceEqDiff, Nat.reduceAdd, Nat.reduceMul, Nat.reduceSub, Nat.reduceLeDiff, Nat.reduceLT]; rfl) rfl rfl rfl fun g5 hx5 => ?_
      have n5 := hx5.next
      have f5 := hx5.floor
      have mg5 : MapB g5 g2.next key2 (rip G i) := mg.keep (hx5.old _ mg.lt)
      rw [rip_skip (good_none hG hi c)] at mg5
      simp only [rn0, reduceIte, Nat.reduceEqDiff, Nat.reduceAdd, Nat.reduceMul, Nat.reduceSub, Nat.reduceLeDiff, Nat.reduceLT, p2, p5, p23, p24, Int.reduceEq, hwi]
      have fin := And.intro (fun j (h1 : j < g4.next) (h2 : j ≠ g2.next) => (by rw [hx5.old j (by omega), og j h1 h2] : g5.get j = g4.get j)) (And.intro mg5 (And.intro (by omega : g4.next ≤ g5.next) (And.intro (by omega : g5.next ≤ g4.next + (i + 1)) (by omega : g5.floor = g4.floor))))
      first | exact fin | exact ⟨fin, rfl⟩
    · rw [if_neg c] at a1
      obtain ⟨lo, K, b1, b2, b3, b4, b5, b6, b7⟩ := good_some hG hi c
      rw [b1] at a2
      rw [b2] at a3
      rw [a1, a2, a3] at eg
      simp only [rn0, reduceIte, Nat.reduceEqDiff, Nat.reduceAdd, Nat.reduceMul, Nat.reduceSub, Nat.reduceLeDiff, Nat.reduceLT, p2, p5, p23, p24, hi', cr_st rg, eg, ex0, ex1]
      refine step_new (vs := [.int .i64 lo, .int .i64 (lo + (K : Int) - 1)]) (by omega) (by omega) rfl (by simp only [rn0, reduceIte, Nat.reduceEqDiff, Nat.reduceAdd, Nat.reduceMul, Nat.reduceSub, Nat.reduceLeDiff, Nat.reduceLT]; rfl) rfl rfl rfl fun g5 hx5 => ?_
      have n5 := hx5.next
      have f5 := hx5.floor
      have mg5 : MapB g5 g2.next key2 (rip G i) := mg.keep (hx5.old _ mg.lt)
      rw [← ripK_zero (lo := lo)] at mg5
      have r5 := hx5.row
      have rg5 := rg.mono hx5.sub
      have q5 : g5.get g.next = some (.row [.int .i64 lo, .int .i64 (lo + (K : Int) - 1)] true 0) := hx5.get
      simp only [rn0, reduceIte, Nat.reduceEqDiff, Nat.reduceAdd, Nat.reduceMul, Nat.reduceSub, Nat.reduceLeDiff, Nat.reduceLT, p2, p5, p23, p24, r5.ld, Nat.zero_add, List.getElem?_cons_zero, List.getElem?_cons_succ]
      refine W_loop K (fun k f g' ms => ((∀ j, j < g5.next → j ≠ g2.next → g'.get j = g5.get j) ∧ MapB g' g2.next key2 (ripK G i lo k) ∧ g'.next = g5.next ∧ g'.floor = g5.floor) ∧ ms = [] ∧ f 2 = .pointer (some ⟨g1.next, 0, none⟩) ∧ f 5 = .pointer (some ⟨A5, 0, none⟩) ∧ f 6 = .int .i64 (i : Int) ∧ f 7 = .pointer (some ⟨g.next, 0, none⟩) ∧ f 9 = .int .i64 (lo + (k : Int)) ∧ f 23 = .int .i64 (G.s.nv : Int) ∧ f 24 = .int .i64 (i : Int)) (by simp; omega) ?_ ?_ ?_
      · simp only [rn0, reduceIte, Nat.reduceEqDiff, Nat.reduceAdd, Nat.reduceMul, Nat.reduceSub, Nat.reduceLeDiff, Nat.reduceLT, p2, p5, p23, p24, Int.natCast_zero, Int.add_zero]
        first | exact ⟨fun _ _ _ => trivial, mg5⟩ | exact ⟨⟨fun _ _ _ => trivial, mg5⟩, rfl⟩ | exact mg5
      · rintro k f g' ms hk ⟨⟨og', mg', ng', fg'⟩, rfl, p2, p5, p6, p7, p9, p23, p24⟩
        have hk' : lo + (k : Int) ≤ lo + (K : Int) - 1 := by omega
        have hwk : wrapF .i64 (lo + (k : Int) + 1) = lo + ((k + 1 : Nat) : Int) := by rw [wrap_in (by omega) (by omega)]; omega
        have rr : Row g' A5 (crL G wv vv sv kv (.map (some g2.next))) := by
          obtain ⟨w, gr, e⟩ := rg5
          exact ⟨w, gr, by rw [og' _ (by omega) (by omega)]; exact e⟩
        have r7 : Row g' g.next [.int .i64 lo, .int .i64 (lo + (K : Int) - 1)] := ⟨_, _, by rw [og' _ (by omega) (by omega)]; exact q5⟩
        obtain ⟨g6, e6, hm6, ht6⟩ := updateB (h := g') keyM mg' (by omega) (by omega) ((i : Int), lo + (k : Int)) true
        rw [ripK_step] at hm6
        have e6' : mapUpdateA Tryz.prog 144 g' (.map (some g2.next)) (.agg ⟨[.int .i64 (i : Int), .int .i64 (lo + (k : Int))]⟩) (.bool true) = some (undef, g6) := e6
        simp only [rn0, reduceIte, Nat.reduceEqDiff, Nat.reduceAdd, Nat.reduceMul, Nat.reduceSub, Nat.reduceLeDiff, Nat.reduceLT, p2, p5, p6, p7, p9, p23, p24, r7.ld, Nat.zero_add, List.getElem?_cons_zero, List.getElem?_cons_succ, hk', rr.ld, crg, build_range, x_mapUpdate, e6', hwk]
        have fin := And.intro (fun j (h1 : j < g5.next) (h2 : j ≠ g2.next) => (by rw [ht6.old j h2, og' j h1 h2] : g6.get j = g5.get j)) (And.intro hm6 (And.intro (by rw [ht6.next, ng'] : g6.next = g5.next) (by rw [ht6.floor, fg'] : g6.floor = g5.floor)))
        first | exact fin | exact ⟨fin, rfl⟩
      · rintro f g' ms ⟨⟨og', mg', ng', fg'⟩, rfl, p2, p5, p6, p7, p9, p23, p24⟩
        rw [ripK_end b7] at mg'
        have hk' : ¬ lo + (K : Int) ≤ lo + (K : Int) - 1 := by omega
        have r7 : Row g' g.next [.int .i64 lo, .int .i64 (lo + (K : Int) - 1)] := ⟨_, _, by rw [og' _ (by omega) (by omega)]; exact q5⟩
        simp only [rn0, reduceIte, Nat.reduceEqDiff, Nat.reduceAdd, Nat.reduceMul, Nat.reduceSub, Nat.reduceLeDiff, Nat.reduceLT, p2, p5, p6, p7, p9, p23, p24, r7.ld, Nat.zero_add, List.getElem?_cons_zero, List.getElem?_cons_succ, hk', hwi]
        have fin := And.intro (fun j (h1 : j < g4.next) (h2 : j ≠ g2.next) => (by rw [og' j (by omega) h2, hx5.old j (by omega), og j h1 h2] : g'.get j = g4.get j)) (And.intro mg' (And.intro (by omega : g4.next ≤ g'.next) (And.intro (by omega : g'.next ≤ g4.next + (i + 1)) (by omega : g'.floor = g4.floor))))
        first | exact fin | exact ⟨fin, rfl⟩
  · rintro f g ms ⟨⟨og, mg, ug, ng, fg⟩, rfl, p2, p5, p23, p24⟩
    have rg : Row g A5 (crL G wv vv sv kv (.map (some g2.next))) := by
      obtain ⟨w, gr, e⟩ := r4
      exact ⟨w, gr, by rw [og _ (by omega) (by omega)]; exact e⟩
    have hyg : GangR g wv vv sv kv G := hy.mono (AHeap.subOf fun j hj => by rw [og j (by omega) (by omega), old4 j (by omega), old2 j hj])
    simp only [rn0, reduceIte, Nat.reduceEqDiff, Nat.reduceAdd, Nat.reduceMul, Nat.reduceSub, Nat.reduceLeDiff, Nat.reduceLT, p2, p5, p23, p24, Int.lt_irrefl, rg.whole (n := 11) rfl]
    refine step_store (b := g1.next) (off := 0) (vs := crL G wv vv sv kv (.map (some g2.next))) rfl (by rw [og _ (by omega) (by omega)]; exact q4) (by omega) (by omega) rfl (cr_one hyg rfl) rfl (by simp [zcL]) fun g7 hs7 => ?_
    rw [splice_all (by rfl)] at hs7
    have n7 := hs7.next
    have f7 := hs7.floor
    have mg7 : MapB g7 g2.next key2 (rip G G.nk) := by rw [hG.nk]; exact mg.keep (hs7.old _ (by omega))
    simp only [rn0, reduceIte, Nat.reduceEqDiff, Nat.reduceAdd, Nat.reduceMul, Nat.reduceSub, Nat.reduceLeDiff, Nat.reduceLT, res_two, p2, hs7.row.whole (n := 11) rfl]
    exact ⟨fun i hi => by rw [hs7.old i (by omega), og i (by omega) (by omega), old4 i (by omega), old2 i hi], by omega, by omega, by omega, .inr ⟨hf, _, rfl, mg7, by omega⟩⟩
end Go.Vm.St

namespace Go.Vm.St
open Go.Proofs Go.Vm.Vat
set_option linter.unusedSimpArgs false
set_option linter.unusedVariables false
set_option maxRecDepth 10000
variable {n : Nat} {h : AHeap}
theorem plainF_index {P : Program} {N m : Nat} {f : Go.Vm.Fr} {x y : Operand} {ty t e : TypeId} {i : TypeInfo} {a : Nat → Int} {k : Nat} (hx : valN N f x = .agg ⟨arrN m a⟩) (hy : valN N f y = .int .i64 (k : Int)) (hk : k < m)
    (hu : P.underlying t = some (.array m e)) (hi : P.info? e = some i) (h1 : i.size = 1) (he : P.underlying e = some (.int .i64)) :
    plainF P N (.index t x y) ty f h = some (.int .i64 (a k), h) := by
  unfold plainF
  have hp : allB (fun x => plainV (valN N f x)) (Op.index t x y).operands.toList = true := by 
    have h1 : plainV (valN N f x) = true := by rw [hx]; exact plain_arrN
    have h2 : plainV (valN N f y) = true := by rw [hy]; rfl
    simp [Op.operands, allB, h1, h2]
  rw [hp]
  have e1 : pureRun P (execOp (valN N f) (bare (.index t x y) ty)) = some (.value (.int .i64 (a k))) := by
    show pureRun P (Instr.index t (valN N f x) (valN N f y) >>= fun a => pure (Next.value a)) = _
    rw [pureRun_bind, hx, hy]
    have hc : pureRun P (Instr.index t (.agg ⟨arrN m a⟩) (.int .i64 (k : Int))) = some (.int .i64 (a k)) := by
      unfold Instr.index
      rw [pureRun_bind]
      have ha : pureRun P (asIntOf (.int .i64 (k : Int))) = some (IntKind.i64, (k : Int)) := rfl
      rw [ha, Option.bind_some]
      simp only [pureRun_bind, pr_under hu, Option.bind_some]
      rw [if_pos ⟨by omega, by omega⟩]
      simp only [pureRun_bind, pr_size hi, Option.bind_some, h1, Nat.mul_one, Int.toNat_natCast]
      exact pr_part he (by rw [← Array.getElem?_toList]; exact arrN_get hk)
    rw [hc]; rfl
  rw [e1]
  rfl
theorem info3 : ∃ i, Tryz.prog.info? 3 = some i ∧ i.size = 1 := ⟨_, by rfl, by rfl⟩
theorem index10 {N : Nat} {f : Go.Vm.Fr} {x y : Operand} {ty : TypeId} {a : Nat → Int} {k : Nat} (hx : valN N f x = .agg ⟨arrN 10 a⟩) (hy : valN N f y = .int .i64 (k : Int)) (hk : k < 10) :
    plainF Tryz.prog N (.index 130 x y) ty f h = some (.int .i64 (a k), h) := by
  obtain ⟨i, h1, h2⟩ := info3
  exact plainF_index hx hy hk (by rfl) h1 h2 (by rfl)
theorem eqArr10 {N : Nat} {f : Go.Vm.Fr} {x y : Operand} {ty u : TypeId} {a b : Nat → Int} (hx : valN N f x = .agg ⟨arrN 10 a⟩) (hy : valN N f y = .agg ⟨arrN 10 b⟩) :
    plainF Tryz.prog N (.binOp .eql 130 x y u) ty f h = some (.bool (decide (∀ k, k ∈ List.range 10 → a k = b k)), h) := by
  obtain ⟨i, h1, h2⟩ := info3
  exact plainF_eqArr hx hy plain_arrN plain_arrN (by rfl) (by rfl) h1 h2 (by rfl) fun k hk => ⟨by rw [← Array.getElem?_toList]; exact arrN_get (List.mem_range.1 hk), by rw [← Array.getElem?_toList]; exact arrN_get (List.mem_range.1 hk)⟩
theorem arrN_len {m : Nat} {a : Nat → Int} : (arrN m a).length = m := by simp [arrN]
theorem arrN_one {m : Nat} {a : Nat → Int} : allB oneCell (arrN m a) = true := by
  rw [allB_iff]; intro v hv; obtain ⟨i, _, rfl⟩ := List.mem_map.1 hv; rfl
theorem arrN_set {m k : Nat} {a : Nat → Int} {x : Int} (hk : k < m) : splice (arrN m a) k [.int .i64 x] = arrN m fun j => if j = k then x else a j := by
  apply List.ext_getElem?
  intro j
  unfold splice
  by_cases c : j < m
  · rw [arrN_get c]
    by_cases e : j < k
    · rw [List.getElem?_append_left (by rw [List.length_take, arrN_len]; omega), List.getElem?_take_of_lt e, arrN_get c, if_neg (by omega)]
    · by_cases e2 : j = k
      · subst e2
        rw [List.getElem?_append_right (by rw [List.length_take, arrN_len]; omega), List.length_take, arrN_len, Nat.min_eq_left (by omega), Nat.sub_self, if_pos rfl]
        rfl
      · rw [List.getElem?_append_right (by rw [List.length_take, arrN_len]; omega), List.length_take, arrN_len, Nat.min_eq_left (by omega), if_neg e2]
        obtain ⟨q, rfl⟩ : ∃ q, j = k + 1 + q := ⟨j - k - 1, by omega⟩
        rw [show k + 1 + q - k = q + 1 by omega]
        show (List.drop (k + [Value.int .i64 x].length) (arrN m a))[q]? = _
        rw [List.getElem?_drop]
        exact arrN_get c
  · rw [List.getElem?_eq_none (l := arrN m _) (by rw [arrN_len]; omega), List.getElem?_eq_none]
    simp only [List.length_append, List.length_take, List.length_drop, arrN_len, List.length_cons, List.length_nil]
    omega
theorem arrN_congr {m : Nat} {a b : Nat → Int} (he : ∀ j, j < m → a j = b j) : arrN m a = arrN m b := by
  unfold arrN
  exact List.map_congr_left fun j hj => by rw [he j (List.mem_range.1 hj)]
theorem arr_ld {g : AHeap} {p m : Nat} {a : Nat → Int} (hr : Row g p (arrN m a)) : loadAgg m g (.pointer (some ⟨p, 0, none⟩)) = some (.agg ⟨arrN m a⟩) := hr.whole (n := m) arrN_len
theorem res_three {a n t u : Nat} {f : Go.Vm.Fr} : resV f h [.cellN a n, .tmp t, .tmp u] = match loadAgg n h (f a) with
  | some v => some (.tuple ⟨[v, f t, f u]⟩)
  | none => none := by
  simp only [resV, resL, res1]
  cases loadAgg n h (f a) <;> rfl

def CondM (n : Nat) (h : AHeap) (k : Nat) (ok : Value) (m : Nat) (elem : Nat → Value) (p : Nat → Prop) : Prop :=
  ∀ g, (∀ i, i < h.next → g.get i = h.get i) → h.next ≤ g.next → g.next ≤ h.next + k → ∀ i, i < m → ∃ b, (b = true ↔ p i) ∧ call n ok [elem i] g = some (.bool b, g)
def moV (vt hr : Nat → Int) (k : Nat) : Value := .agg ⟨[.int .i64 (vt k), .int .i64 (hr k)]⟩
def s121 : SCode := (.seq (.ops [jO 4 (.mov (.const (.bool false)))]) (.seq (.seq (.ops [jO 7 (.mov (T 0)), jO 8 (.len (T 7)), jO 9 (.mov (jK 0))]) (.block 0 (.loop (.seq (.ops [jO 10 (.int2 .lss (T 9) (T 8))]) (.seq (.cond (T 10) .skip (.exit 0)) (.seq (.block 1 (.seq (.ops [jO 11 (.idxSl 2 (T 7) (T 9)), jO 12 (.loadN 2 (T 11)), jO 6 (.alloc [(.int .i64 0), (.int .i64 0)]), ⟨none, none, .store 2 (T 6) (T 12)⟩]) (.seq (.ops [jO 13 (.mov (T 1)), jO 14 (.loadN 2 (T 6)), jO 15 (.call (T 13) [(T 14)]), jO 16 (.not (T 15))]) (.cond (T 16) (.seq (.ops [jO 4 (.mov (.const (.bool false)))]) .ret) .skip)))) (.ops [jO 17 (.int2 .add (T 9) (jK 1)), jO 9 (.mov (T 17))]))))))) (.seq (.ops [jO 4 (.mov (.const (.bool true)))]) .ret)))
theorem fok121 : FnOk Tryz.prog 121 18 s121 [.tmp 4] := ⟨Tryz.f121, _, Tryz.func121, rfl, Tryz.ntmps121, by kernel_rfl, by kernel_rfl⟩
open Classical in
theorem everyMom_c (hn : 100 ≤ n) (hr : h.next + 60 < far) {v ok : Value} {m : Nat} {vt hh : Nat → Int} {p : Nat → Prop} (hv : Ranges h v m vt hh) (hm : m ≤ 30) (hok : CondM (n - 1) h.shutAll 40 ok m (moV vt hh) p) :
    call n (.func (.func 121) #[] #[]) [v, ok] h = some (.bool (decide (∀ i, i < m → p i)), h) := by
  obtain ⟨n, rfl⟩ : ∃ p, n = p + 1 := ⟨n - 1, by omega⟩
  refine call_plain0 fok121 rfl rfl (by simp) rfl ?_
  have hv := Cells.shut hv
  have hr : h.shutAll.next + 60 < far := hr
  have hfl : h.shutAll.floor ≤ h.shutAll.next := Nat.le_refl _
  rw [Nat.add_sub_cancel] at hok
  generalize h.shutAll = h at hv hok hr hfl
  simp only [rn0, reduceIte, Nat.reduceEqDiff, Nat.reduceAdd, Nat.reduceMul, Nat.reduceSub, Nat.reduceLeDiff, Nat.reduceLT, s121, jO, jF, jR, jS, jU, jA, jK, Cells.len hv]
  refine W_loop m (fun k f g m' => ((∀ i, i < h.next → g.get i = h.get i) ∧ g.next = h.next + k ∧ g.floor = h.floor) ∧ m' = [] ∧ f 1 = ok ∧ f 7 = v ∧ f 8 = .int .i64 (m : Int) ∧ f 9 = .int .i64 (k : Int) ∧ ∀ i, i < k → p i) (by simp; omega) ?_ ?_ ?_
  · simp only [rn0, reduceIte, Nat.reduceEqDiff, Nat.reduceAdd, Nat.reduceMul, Nat.reduceSub, Nat.reduceLeDiff, Nat.reduceLT, Nat.not_lt_zero, false_implies, implies_true, Nat.add_zero]
    try trivial
  · rintro k f g m' hk ⟨⟨g1, g2, g3⟩, rfl, f1, f7, f8, f9, hlt⟩
    have hk' : (k : Int) < (m : Int) := by omega
    have hw : wrapF .i64 ((k : Int) + 1) = ((k + 1 : Nat) : Int) := by rw [wrap_in (by omega) (by omega)]; rfl
    have hvg := Cells.mono hv (AHeap.subOf g1)
    simp only [rn0, reduceIte, Nat.reduceEqDiff, Nat.reduceAdd, Nat.reduceMul, Nat.reduceSub, Nat.reduceLeDiff, Nat.reduceLT, f1, f7, f8, f9, hk', Cells.idx hvg hk, ranges_ld hvg hk]
    refine step_new (vs := [.int .i64 (vt k), .int .i64 (hh k)]) (by omega) (by omega) rfl (by simp only [rn0, reduceIte, Nat.reduceEqDiff, Nat.reduceAdd, Nat.reduceMul, Nat.reduceSub, Nat.reduceLeDiff, Nat.reduceLT]; rfl) rfl rfl rfl fun g' hg' => ?_
    have old' : ∀ i, i < h.next → g'.get i = h.get i := fun i hi => by rw [hg'.old i (by omega), g1 i hi]
    have hin : ((∀ i, i < h.next → g'.get i = h.get i) ∧ g'.next = h.next + (k + 1) ∧ g'.floor = h.floor) = True := eq_true ⟨old', by rw [hg'.next, g2]; omega, by rw [hg'.floor, g3]⟩
    obtain ⟨b, hb, e⟩ := hok g' old' (by rw [hg'.next, g2]; omega) (by rw [hg'.next, g2]; omega) k hk
    unfold moV at e
    have wh := hg'.row.whole (n := 2) rfl
    cases b with
    | true =>
      have hp : p k := hb.1 rfl
      simp only [rn0, reduceIte, Nat.reduceEqDiff, Nat.reduceAdd, Nat.reduceMul, Nat.reduceSub, Nat.reduceLeDiff, Nat.reduceLT, f1, f7, f8, f9, wh, e, hw, hin]
      intro j hj
      by_cases ej : j = k
      · subst ej; exact hp
      · exact hlt j (by omega)
    | false =>
      have hp : ¬ ∀ i, i < m → p i := fun h => by have := hb.2 (h k hk); cases this
      simp only [rn0, reduceIte, Nat.reduceEqDiff, Nat.reduceAdd, Nat.reduceMul, Nat.reduceSub, Nat.reduceLeDiff, Nat.reduceLT, f1, f7, f8, f9, wh, e, hw, hp]
  · rintro f g m' ⟨⟨g1, g2, g3⟩, rfl, f1, f7, f8, f9, hlt⟩
    simp only [rn0, reduceIte, Nat.reduceEqDiff, Nat.reduceAdd, Nat.reduceMul, Nat.reduceSub, Nat.reduceLeDiff, Nat.reduceLT, f1, f7, f8, f9, Int.lt_irrefl, eq_true hlt]
def s122 : SCode := (.seq (.ops [jO 2 (.box (T 0)), jO 3 (.box (T 1)), jO 4 (.mov (.const (.bool false)))]) (.seq (.draw [jF 5 (.fieldAddr 0 (T 2)), jF 6 (.fieldAddr 0 (T 5)), jF 7 (.fieldAddr 5 (T 6)), jS 8 (.load1 (T 7)), jF 9 (.fieldAddr 0 (T 3)), jS 10 (.load1 (T 9)), jF 11 (.idxSl 4 (T 8) (T 10)), jF 12 (.fieldAddr 0 (T 11)), jS 13 (.load1 (T 12)), jF 14 (.fieldAddr 0 (T 2)), jF 15 (.fieldAddr 0 (T 14)), jF 16 (.fieldAddr 0 (T 15)), jS 17 (.load1 (T 16)), jF 18 (.build #[(0, 1), (1, 1)] [(.int .i64 0), (.int .i64 0)] [0, 1] [(T 13), (T 17)]), jF 19 (.fieldAddr 1 (T 3)), jS 20 (.load1 (T 19)), jA 21 (.call (.func 123) [(T 18), (T 20)]), jF 4 (.mov (T 21))]) .ret))
theorem fok122 : FnOk Tryz.prog 122 22 s122 [.tmp 4] := ⟨Tryz.f122, _, Tryz.func122, rfl, Tryz.ntmps122, by kernel_rfl, by kernel_rfl⟩
theorem isMoment_c (hn : 2 ≤ n) (hr : h.next + 10 < far) {wv vv sv kv mv : Value} {G : MG} (hy : GangR h wv vv sv kv G) (hmv : oneCell mv = true) {v : Nat} (hv : v < G.s.nv) (t : Int) :
    call n (.func (.func 122) ⟨[.agg ⟨crL G wv vv sv kv mv⟩]⟩ #[]) [.agg ⟨[.int .i64 (v : Int), .int .i64 t]⟩] h = some (.bool (decide (G.s.vb v ≤ t ∧ t ≤ G.s.last)), h) := by
  obtain ⟨n, rfl⟩ : ∃ p, n = p + 1 := ⟨n - 1, by omega⟩
  refine call_plain (xs := [.agg ⟨crL G wv vv sv kv mv⟩]) (ys := []) fok122 rfl rfl (by simp) rfl ?_
  have hy := hy.shut
  have hr : h.shutAll.next + 10 < far := hr
  generalize h.shutAll = h at hy hr
  simp only [s122, jO, jF, jR, jS, jU, jA, jK, W_seq, W_ops]
  refine ops_box (cs := crL G wv vv sv kv mv) (by omega) rfl (cr_one hy hmv) fun g1 hx1 => ?_
  have n1 := hx1.next
  refine ops_box (cs := [.int .i64 (v : Int), .int .i64 t]) (by omega) rfl rfl fun g2 hx2 => ?_
  have n2 := hx2.next
  have r1 := hx1.row.mono hx2.sub
  have r2 := hx2.row
  have hy2 := hy.mono (hx1.sub.trans hx2.sub)
  have eh := hasG_c (n := n) (h := g2) (by omega) (by omega) (G.s.vb v) G.s.last t
  simp only [rn0, reduceIte, Nat.reduceEqDiff, Nat.reduceAdd, Nat.reduceMul, Nat.reduceSub, Nat.reduceLeDiff, Nat.reduceLT]
  refine W_draw All ?_
  simp only [rn0, reduceIte, Nat.reduceEqDiff, Nat.reduceAdd, Nat.reduceMul, Nat.reduceSub, Nat.reduceLeDiff, Nat.reduceLT, r1.ld, r2.ld, crg, Nat.zero_add, List.getElem?_cons_zero, List.getElem?_cons_succ, Cells.self hy2.s.v, Cells.idx hy2.s.v hv, Cells.fld hy2.s.v hv, begin_ld hy2.s hv, build_range, self_two, eqV_int, eh]
def s77 : SCode := (.seq (.ops [jO 2 (.box (T 0)), jO 4 (.mov (.const (.bool false)))]) (.seq (.seq (.ops [jO 7 (.mov (T 1)), jO 8 (.len (T 7)), jO 9 (.fieldAddr 0 (T 2)), jO 10 (.fieldAddr 9 (T 9)), jO 11 (.load1 (T 10)), jO 12 (.len (T 11)), jO 13 (.int2 .neq (T 8) (T 12))]) (.cond (T 13) (.seq (.ops [jO 4 (.mov (.const (.bool false)))]) .ret) .skip)) (.seq (.seq (.ops [jO 14 (.mov (T 1)), jO 15 (.len (T 14)), jO 16 (.mov (jK 0))]) (.block 0 (.loop (.seq (.ops [jO 17 (.int2 .lss (T 16) (T 15))]) (.seq (.cond (T 17) .skip (.exit 0)) (.seq (.block 1 (.seq (.ops [jO 18 (.mov (T 16)), jO 19 (.idxSl 1 (T 14) (T 16)), jO 20 (.load1 (T 19)), jO 5 (.mov (T 18)), jO 6 (.mov (T 20))]) (.seq (.ops [jO 21 (.fieldAddr 0 (T 2)), jO 22 (.fieldAddr 9 (T 21)), jO 23 (.load1 (T 22)), jO 24 (.mov (T 5)), jO 25 (.idxSl 3 (T 23) (T 24)), jO 26 (.fieldAddr 1 (T 25)), jO 27 (.loadN 2 (T 26)), jO 28 (.mov (T 6)), jO 29 (.call (.func 123) [(T 27), (T 28)]), jO 30 (.not (T 29))]) (.cond (T 30) (.seq (.ops [jO 4 (.mov (.const (.bool false)))]) .ret) .skip)))) (.ops [jO 31 (.int2 .add (T 16) (jK 1)), jO 16 (.mov (T 31))]))))))) (.seq (.ops [jO 4 (.mov (.const (.bool true)))]) .ret))))
theorem fok77 : FnOk Tryz.prog 77 32 s77 [.tmp 4] := ⟨Tryz.f77, _, Tryz.func77, rfl, Tryz.ntmps77, by kernel_rfl, by kernel_rfl⟩
theorem isHours_c (hn : 110 ≤ n) (hr : h.next + 50 < far) {wv vv sv kv mv lv : Value} {G : MG} {m : Nat} {x : Nat → Int} (hy : GangR h wv vv sv kv G) (hmv : oneCell mv = true) (hc : Ints h lv m x) (h30 : m ≤ 30) :
    call n (.func (.func 77) #[] #[]) [.agg ⟨crL G wv vv sv kv mv⟩, lv] h = some (.bool (decide (HrsOk G m x)), h) := by
  obtain ⟨n, rfl⟩ : ∃ p, n = p + 1 := ⟨n - 1, by omega⟩
  refine call_plain0 fok77 rfl rfl (by simp) rfl ?_
  have hy := hy.shut
  have hc := Cells.shut hc
  have hr : h.shutAll.next + 50 < far := hr
  generalize h.shutAll = h at hy hc hr
  simp only [s77, jO, jF, jR, jS, jU, jA, jK, W_seq, W_ops]
  refine ops_box (cs := crL G wv vv sv kv mv) (by omega) rfl (cr_one hy hmv) fun h1 hx1 => ?_
  have n1 := hx1.next
  have r1 := hx1.row
  have hy := hy.mono hx1.sub
  have hc : Ints h1 lv m x := Cells.mono hc hx1.sub
  by_cases c2 : (m : Int) = (G.nk : Int)
  case neg =>
    have : ¬ HrsOk G m x := fun e => c2 (by rw [e.1])
    simp only [rn0, reduceIte, Nat.reduceEqDiff, Nat.reduceAdd, Nat.reduceMul, Nat.reduceSub, Nat.reduceLeDiff, Nat.reduceLT, r1.ld, crg, Nat.zero_add, Cells.len hc, Cells.len hy.k, c2, this]
  have c2' : m = G.nk := by omega
  simp only [rn0, reduceIte, Nat.reduceEqDiff, Nat.reduceAdd, Nat.reduceMul, Nat.reduceSub, Nat.reduceLeDiff, Nat.reduceLT, r1.ld, crg, Nat.zero_add, Cells.len hc, Cells.len hy.k, decide_eq_true c2]
  refine W_loop m (fun k f g ms => g = h1 ∧ ms = [] ∧ f 2 = .pointer (some ⟨h.next, 0, none⟩) ∧ f 14 = lv ∧ f 15 = .int .i64 (m : Int) ∧ f 16 = .int .i64 (k : Int) ∧ ∀ i, i < k → G.klo i ≤ x i ∧ x i ≤ G.khi i) (by simp; omega) ?_ ?_ ?_
  · simp only [rn0, reduceIte, Nat.reduceEqDiff, Nat.reduceAdd, Nat.reduceMul, Nat.reduceSub, Nat.reduceLeDiff, Nat.reduceLT, Nat.not_lt_zero, false_implies, implies_true, Int.natCast_zero]
    try trivial
  · rintro k f g ms hk ⟨rfl, rfl, f2, f14, f15, f16, hlt⟩
    have hk' : (k : Int) < (m : Int) := by omega
    have hkv : k < G.nk := by omega
    have hw : wrapF .i64 ((k : Int) + 1) = ((k + 1 : Nat) : Int) := by rw [wrap_in (by omega) (by omega)]; rfl
    have ek := hasG_c (n := n) (h := g) (by omega) (by omega) (G.klo k) (G.khi k) (x k)
    by_cases hkk : G.klo k ≤ x k ∧ x k ≤ G.khi k
    · simp only [rn0, reduceIte, Nat.reduceEqDiff, Nat.reduceAdd, Nat.reduceMul, Nat.reduceSub, Nat.reduceLeDiff, Nat.reduceLT, f2, f14, f15, f16, hk', Cells.idx hc hk, Cells.ld hc hk Nat.zero_lt_one, r1.ld, crg, Nat.zero_add, Cells.idx hy.k hkv, Cells.fld hy.k hkv, hours_ld hy hkv, ek, hkk, and_self, hw]
      intro j hj
      by_cases e : j = k
      · subst e; exact hkk
      · exact hlt j (by omega)
    · have : ¬ HrsOk G m x := fun e => hkk (e.2 k hk)
      simp only [rn0, reduceIte, Nat.reduceEqDiff, Nat.reduceAdd, Nat.reduceMul, Nat.reduceSub, Nat.reduceLeDiff, Nat.reduceLT, f2, f14, f15, f16, hk', Cells.idx hc hk, Cells.ld hc hk Nat.zero_lt_one, r1.ld, crg, Nat.zero_add, Cells.idx hy.k hkv, Cells.fld hy.k hkv, hours_ld hy hkv, ek, hkk, this]
  · rintro f g ms ⟨rfl, rfl, f2, f14, f15, f16, hW⟩
    have : HrsOk G m x := ⟨c2', hW⟩
    simp only [rn0, reduceIte, Nat.reduceEqDiff, Nat.reduceAdd, Nat.reduceMul, Nat.reduceSub, Nat.reduceLeDiff, Nat.reduceLT, f14, f15, f16, Int.lt_irrefl, this]
def s87 : SCode := (.seq (.ops [jO 2 (.box (T 0)), jO 3 (.box (T 1)), jO 4 (.mov (.const (.bool false)))]) (.seq (.ops [jO 5 (.fieldAddr 10 (T 2)), jO 6 (.load1 (T 5)), jO 7 (.loadN 2 (T 3)), jO 8 (.lookup 144 (.bool false) false (T 6) (T 7)), jO 4 (.mov (T 8))]) .ret))
theorem fok87 : FnOk Tryz.prog 87 9 s87 [.tmp 4] := ⟨Tryz.f87, _, Tryz.func87, rfl, Tryz.ntmps87, by kernel_rfl, by kernel_rfl⟩
theorem isRipe_w (hr : h.next + 10 < far) {wv vv sv kv : Value} {G : MG} {r : Nat} (hy : GangR h wv vv sv kv G) (hm : MapB h r key2 (rip G G.nk)) {v : Nat} {t : Int} :
    W { P := Tryz.prog, cf := pcall Tryz.prog A K n, N := 9, fn := 87, ar := none, n := n } s87 (retQ [RS.tmp 4] fun v' x => v' = .bool (rip G G.nk ((v : Int), t))) (fr0 [.agg ⟨crL G wv vv sv kv (.map (some r))⟩, .agg ⟨[.int .i64 (v : Int), .int .i64 t]⟩]) h [] := by
  simp only [s87, jO, jF, jR, jS, jU, jA, jK, W_seq, W_ops]
  refine ops_box (cs := crL G wv vv sv kv (.map (some r))) (by omega) rfl (cr_one hy rfl) fun g1 hx1 => ?_
  have n1 := hx1.next
  refine ops_box (cs := [.int .i64 (v : Int), .int .i64 t]) (by omega) rfl rfl fun g2 hx2 => ?_
  have n2 := hx2.next
  have r1 := hx1.row.mono hx2.sub
  have r2 := hx2.row
  have hm2 : MapB g2 r key2 (rip G G.nk) := (hm.keep (hx1.old _ hm.lt)).keep (hx2.old _ (by have := hm.lt; omega))
  have el : lookupA Tryz.prog 144 (.bool false) false g2 (.map (some r)) (.agg ⟨[.int .i64 (v : Int), .int .i64 t]⟩) = some (.bool (rip G G.nk ((v : Int), t)), g2) := lookupB keyM hm2 ((v : Int), t)
  simp only [rn0, reduceIte, Nat.reduceEqDiff, Nat.reduceAdd, Nat.reduceMul, Nat.reduceSub, Nat.reduceLeDiff, Nat.reduceLT, r1.ld, crg, Nat.zero_add, r2.whole (n := 2) rfl, x_lookup, el]
theorem isRipeB_c (hn : 1 ≤ n) (hr : h.next + 10 < far) {wv vv sv kv : Value} {G : MG} {r : Nat} (hy : GangR h wv vv sv kv G) (hm : MapB h r key2 (rip G G.nk)) (v : Nat) (t : Int) :
    call n (.func (.func 87) ⟨[.agg ⟨crL G wv vv sv kv (.map (some r))⟩]⟩ #[]) [.agg ⟨[.int .i64 (v : Int), .int .i64 t]⟩] h = some (.bool (rip G G.nk ((v : Int), t)), h) := by
  obtain ⟨n, rfl⟩ : ∃ p, n = p + 1 := ⟨n - 1, by omega⟩
  refine call_plain (xs := [.agg ⟨crL G wv vv sv kv (.map (some r))⟩]) (ys := []) fok87 rfl rfl (by simp) rfl ?_
  exact isRipe_w (show h.shutAll.next + 10 < far from hr) hy.shut hm.shut
open Classical in
theorem rip_iff {G : MG} {v : Nat} {t : Int} (hv : v < G.nk) : rip G G.nk ((v : Int), t) = true ↔ RipeS G v t := by
  unfold rip
  rw [decide_eq_true_iff]
  simp only [Int.toNat_natCast]
  exact ⟨fun h => h.2.2, fun h => ⟨by omega, by omega, h⟩⟩

noncomputable def errPG (G : MG) (m : Nat) (p : Nat → Int) : Int := if faultG G ≠ 0 then faultG G else if PlanOk G m p then 0 else 2
def OpenPG (h : AHeap) (G : MG) (wv vv sv kv : Value) (m : Nat) (p : Nat → Int) (v : Value) (h' : AHeap) : Prop :=
  (∀ i, i < h.next → h'.get i = h.get i) ∧ h.next ≤ h'.next ∧ h'.next ≤ h.next + 200 ∧ h'.floor = h.floor ∧
    ((errPG G m p ≠ 0 ∧ v = .tuple ⟨[.agg ⟨zcL⟩, nilS, .int .i64 (errPG G m p)]⟩) ∨ (errPG G m p = 0 ∧ ∃ r pv, v = .tuple ⟨[.agg ⟨crL G wv vv sv kv (.map (some r))⟩, pv, .int .i64 0]⟩ ∧ MapB h' r key2 (rip G G.nk) ∧ h.next ≤ r ∧ r < h'.next ∧ Ranges h' pv G.nk (fun k => (k : Int)) p ∧ oneCell pv = true))
def s76 : SCode := (.seq (.ops [jO 2 (.box (T 0)), jO 4 (.alloc [(.int .i64 0), (.int .i64 0), (.slice none 0 0), (.int .i64 0), (.int .i64 0), (.slice none 0 0), (.slice none 0 0), (.int .i64 0), (.int .i64 0), (.slice none 0 0), (.map none)]), jO 5 (.mov (.const (.slice none 0 0))), jO 6 (.mov (jK 0))]) (.seq (.ops [jO 13 (.loadN 10 (T 2)), jO 14 (.call (.func 92) [(T 13)]), jO 12 (.mov (T 14)), jO 15 (.extract 0 (T 12)), jO 16 (.extract 1 (T 12)), jO 7 (.alloc [(.int .i64 0), (.int .i64 0), (.slice none 0 0), (.int .i64 0), (.int .i64 0), (.slice none 0 0), (.slice none 0 0), (.int .i64 0), (.int .i64 0), (.slice none 0 0), (.map none)]), ⟨none, none, .store 11 (T 7) (T 15)⟩, jO 8 (.mov (T 16))]) (.seq (.block 0 (.seq (.ops [jO 18 (.mov (T 8)), jO 19 (.int2 .neq (T 18) (jK 0)), jO 17 (.mov (T 19))]) (.cond (T 17) (.seq (.ops [jO 20 (.build #[(0, 10), (10, 1)] [(.int .i64 0), (.int .i64 0), (.slice none 0 0), (.int .i64 0), (.int .i64 0), (.slice none 0 0), (.slice none 0 0), (.int .i64 0), (.int .i64 0), (.slice none 0 0), (.map none)] [] []), jO 21 (.mov (T 8)), ⟨none, none, .store 11 (T 4) (T 20)⟩, jO 5 (.mov (.const (.slice none 0 0))), jO 6 (.mov (T 21))]) .ret) (.seq (.ops [jO 23 (.mov (T 1)), jO 24 (.len (T 23)), jO 25 (.fieldAddr 0 (T 7)), jO 26 (.fieldAddr 9 (T 25)), jO 27 (.load1 (T 26)), jO 28 (.len (T 27)), jO 29 (.int2 .neq (T 24) (T 28)), jO 22 (.mov (T 29))]) (.cond (T 22) (.seq (.ops [jO 30 (.build #[(0, 10), (10, 1)] [(.int .i64 0), (.int .i64 0), (.slice none 0 0), (.int .i64 0), (.int .i64 0), (.slice none 0 0), (.slice none 0 0), (.int .i64 0), (.int .i64 0), (.slice none 0 0), (.map none)] [] []), ⟨none, none, .store 11 (T 4) (T 30)⟩, jO 5 (.mov (.const (.slice none 0 0))), jO 6 (.mov (jK 2))]) .ret) .skip))))) (.seq (.ops [jO 9 (.mov (.const (.slice none 0 0)))]) (.seq (.seq (.ops [jO 31 (.mov (T 1)), jO 32 (.len (T 31)), jO 33 (.mov (jK 0))]) (.block 1 (.loop (.seq (.ops [jO 34 (.int2 .lss (T 33) (T 32))]) (.seq (.cond (T 34) .skip (.exit 1)) (.seq (.block 2 (.seq (.ops [jO 35 (.mov (T 33)), jO 36 (.idxSl 1 (T 31) (T 33)), jO 37 (.load1 (T 36)), jO 10 (.mov (T 35)), jO 11 (.mov (T 37))]) (.ops [jO 38 (.mov (T 9)), jO 39 (.mov (T 10)), jO 40 (.mov (T 11)), jO 41 (.build #[(0, 1), (1, 1)] [(.int .i64 0), (.int .i64 0)] [0, 1] [(T 39), (T 40)]), jO 42 (.bslice 2 1 [(.int .i64 0), (.int .i64 0)] [0] [(T 41)]), jO 43 (.append 2 16 (T 38) (T 42)), jO 9 (.mov (T 43))]))) (.ops [jO 44 (.int2 .add (T 33) (jK 1)), jO 33 (.mov (T 44))]))))))) (.seq (.seq (.ops [jO 45 (.mov (T 9)), jO 46 (.loadN 11 (T 7)), jO 47 (.mkfunc 122 [(T 46)] []), jO 48 (.call (.func 121) [(T 45), (T 47)]), jO 49 (.not (T 48))]) (.cond (T 49) (.seq (.ops [jO 50 (.build #[(0, 10), (10, 1)] [(.int .i64 0), (.int .i64 0), (.slice none 0 0), (.int .i64 0), (.int .i64 0), (.slice none 0 0), (.slice none 0 0), (.int .i64 0), (.int .i64 0), (.slice none 0 0), (.map none)] [] []), ⟨none, none, .store 11 (T 4) (T 50)⟩, jO 5 (.mov (.const (.slice none 0 0))), jO 6 (.mov (jK 2))]) .ret) .skip)) (.seq (.ops [jO 51 (.loadN 11 (T 7)), jO 52 (.mov (T 9)), ⟨none, none, .store 11 (T 4) (T 51)⟩, jO 5 (.mov (T 52)), jO 6 (.mov (jK 0))]) .ret)))))))
theorem fok76 : FnOk Tryz.prog 76 53 s76 [.cellN 4 11, .tmp 5, .tmp 6] := ⟨Tryz.f76, _, Tryz.func76, rfl, Tryz.ntmps76, by kernel_rfl, by kernel_rfl⟩
set_option maxHeartbeats 2000000 in
theorem openPG_c (hn : 2530 ≤ n) (hr : h.next + 1400000 < far) (hfl : h.floor ≤ h.next) {wv vv sv kv lv : Value} {G : MG} {m : Nat} {p : Nat → Int} (hy : GangR h wv vv sv kv G) (hT : ThinS G.s) (hl : G.nk ≤ 30) (hp : Ints h lv m p) (hm30 : m ≤ 30) :
    ∃ v h', call n (.func (.func 76) #[] #[]) [.agg ⟨gaL G wv vv sv kv⟩, lv] h = some (v, h') ∧ OpenPG h G wv vv sv kv m p v h' := by
  obtain ⟨n, rfl⟩ : ∃ p, n = p + 1 := ⟨n - 1, by omega⟩
  refine call_any0 fok76 rfl rfl (by simp) ?_
  simp only [s76, jO, jF, jR, jS, jU, jA, jK, W_seq, W_ops]
  refine ops_box (cs := gaL G wv vv sv kv) (by omega) rfl hy.one fun g1 hx1 => ?_
  have n1 := hx1.next
  have f1 := hx1.floor
  simp only [rn0, reduceIte, Nat.reduceEqDiff, Nat.reduceAdd, Nat.reduceMul, Nat.reduceSub, Nat.reduceLeDiff, Nat.reduceLT]
  refine step_row (cs := zcL) (by omega) rfl rfl fun g2 hx2 => ?_
  have n2 := hx2.next
  have f2 := hx2.floor
  have hy2 := hy.mono (hx1.sub.trans hx2.sub)
  have r2 := hx1.row.mono hx2.sub
  have old2 : ∀ i, i < h.next → g2.get i = h.get i := fun i hi => by rw [hx2.old i (by omega), hx1.old i hi]
  obtain ⟨ov, g3, e3, o3, u3, m3, f3, hO⟩ := openG_c (n := n) (h := g2) (by omega) (by omega) (by omega) hy2 hT hl
  have q3 : g3.get g1.next = some (.row zcL true 0) := by rw [o3 _ (by omega)]; exact hx2.get
  rcases hO with ⟨hf, rfl⟩ | ⟨hf, r, rfl, hm3, hr3⟩
  · have he : errPG G m p = faultG G := if_pos hf
    simp only [rn0, reduceIte, Nat.reduceEqDiff, Nat.reduceAdd, Nat.reduceMul, Nat.reduceSub, Nat.reduceLeDiff, Nat.reduceLT, r2.whole (n := 10) rfl, e3, ex0, ex1]
    refine step_new (vs := zcL) (by omega) (by omega) rfl (by simp only [rn0, reduceIte, Nat.reduceEqDiff, Nat.reduceAdd, Nat.reduceMul, Nat.reduceSub, Nat.reduceLeDiff, Nat.reduceLT]; rfl) rfl rfl rfl fun g4 hx4 => ?_
    have n4 := hx4.next
    have f4 := hx4.floor
    simp only [rn0, reduceIte, Nat.reduceEqDiff, Nat.reduceAdd, Nat.reduceMul, Nat.reduceSub, Nat.reduceLeDiff, Nat.reduceLT, hf, build_cr0]
    refine step_store (b := g1.next) (off := 0) (vs := zcL) rfl (by rw [hx4.old _ (by omega)]; exact q3) (by omega) (by omega) rfl rfl rfl (by simp [zcL]) fun g5 hs5 => ?_
    have n5 := hs5.next
    have f5 := hs5.floor
    rw [splice_all (by rfl)] at hs5
    simp only [rn0, reduceIte, Nat.reduceEqDiff, Nat.reduceAdd, Nat.reduceMul, Nat.reduceSub, Nat.reduceLeDiff, Nat.reduceLT, res_three, hs5.row.whole (n := 11) rfl]
    exact ⟨fun i hi => by rw [hs5.old i (by omega), hx4.old i (by omega), o3 i (by omega), old2 i hi], by omega, by omega, by omega, .inl ⟨by rw [he]; exact hf, by rw [he]⟩⟩
  have hG := goodG.1 hf
  obtain ⟨z0, z1, z4, z5, _⟩ := hG.sizes
  have hy3 := hy2.mono (AHeap.subOf o3)
  simp only [rn0, reduceIte, Nat.reduceEqDiff, Nat.reduceAdd, Nat.reduceMul, Nat.reduceSub, Nat.reduceLeDiff, Nat.reduceLT, r2.whole (n := 10) rfl, e3, ex0, ex1]
  refine step_new (vs := crL G wv vv sv kv (.map (some r))) (by omega) (by omega) rfl (by simp only [rn0, reduceIte, Nat.reduceEqDiff, Nat.reduceAdd, Nat.reduceMul, Nat.reduceSub, Nat.reduceLeDiff, Nat.reduceLT]; rfl) (cr_one hy3 rfl) rfl rfl fun g4 hx4 => ?_
  have n4 := hx4.next
  have f4 := hx4.floor
  have r4 := hx4.row
  have q4 : g4.get g1.next = some (.row zcL true 0) := by rw [hx4.old _ (by omega)]; exact q3
  have hm4 : MapB g4 r key2 (rip G G.nk) := hm3.keep (hx4.old _ hm3.lt)
  have hrl := hm3.lt
  have old4 : ∀ i, i < h.next → g4.get i = h.get i := fun i hi => by rw [hx4.old i (by omega), o3 i (by omega), old2 i hi]
  have hp4 : Ints g4 lv m p := Cells.mono hp (AHeap.subOf old4)
  have hy4 := hy3.mono hx4.sub
  obtain ⟨A7, hA7⟩ : ∃ q, q = g3.next := ⟨_, rfl⟩
  rw [← hA7] at r4
  rw [← hA7]
  by_cases c2 : (m : Int) = (G.nk : Int)
  case neg =>
    have he : errPG G m p = 2 := by unfold errPG; rw [if_neg (by simpa using hf), if_neg (fun q => c2 (by rw [q.1]))]
    simp only [rn0, reduceIte, Nat.reduceEqDiff, Nat.reduceAdd, Nat.reduceMul, Nat.reduceSub, Nat.reduceLeDiff, Nat.reduceLT, r4.ld, crg, Nat.zero_add, Cells.len hp4, Cells.len hy4.k, c2, build_cr0]
    refine step_store (b := g1.next) (off := 0) (vs := zcL) rfl q4 (by omega) (by omega) rfl rfl rfl (by simp [zcL]) fun g5 hs5 => ?_
    have n5 := hs5.next
    have f5 := hs5.floor
    rw [splice_all (by rfl)] at hs5
    simp only [rn0, reduceIte, Nat.reduceEqDiff, Nat.reduceAdd, Nat.reduceMul, Nat.reduceSub, Nat.reduceLeDiff, Nat.reduceLT, res_three, hs5.row.whole (n := 11) rfl]
    exact ⟨fun i hi => by rw [hs5.old i (by omega), old4 i hi], by omega, by omega, by omega, .inl ⟨by rw [he]; decide, by rw [he]⟩⟩
  have c2' : m = G.nk := by omega
  simp only [rn0, reduceIte, Nat.reduceEqDiff, Nat.reduceAdd, Nat.reduceMul, Nat.reduceSub, Nat.reduceLeDiff, Nat.reduceLT, r4.ld, crg, Nat.zero_add, Cells.len hp4, Cells.len hy4.k, decide_eq_true c2]
  refine W_loop m (fun k f g ms => (∃ v, (∀ i, i < g4.next → g.get i = g4.get i) ∧ g.floor = h.floor ∧ g4.next ≤ g.next ∧ g.next ≤ g4.next + 2 * k ∧ GrowC g4.next g v 2 k (fun k j => .int .i64 (if j = 0 then (k : Int) else p k)) ∧ f 9 = v) ∧ ms = [] ∧ f 4 = .pointer (some ⟨g1.next, 0, none⟩) ∧ f 7 = .pointer (some ⟨A7, 0, none⟩) ∧ f 31 = lv ∧ f 32 = .int .i64 (m : Int) ∧ f 33 = .int .i64 (k : Int)) (by simp; omega) ?_ ?_ ?_
  · simp only [rn0, reduceIte, Nat.reduceEqDiff, Nat.reduceAdd, Nat.reduceMul, Nat.reduceSub, Nat.reduceLeDiff, Nat.reduceLT, Int.natCast_zero]
    first | exact ⟨⟨nilS, fun i _ => trivial, by omega, by omega, by omega, .nil, rfl⟩, rfl⟩ | exact ⟨nilS, fun i _ => trivial, by omega, by omega, by omega, .nil, rfl⟩ | exact ⟨nilS, fun i _ => trivial, by omega, by omega, .nil, rfl⟩
  · rintro k f g ms hk' ⟨⟨v, ho, hfg, hup, hnx, gv, p9⟩, rfl, p4, p7, p31, p32, p33⟩
    have hi' : (k : Int) < (m : Int) := by omega
    have hwk : wrapF .i64 ((k : Int) + 1) = ((k + 1 : Nat) : Int) := by rw [wrap_in (by omega) (by omega)]; rfl
    have hpg : Ints g lv m p := Cells.mono hp4 (AHeap.subOf ho)
    simp only [rn0, reduceIte, Nat.reduceEqDiff, Nat.reduceAdd, Nat.reduceMul, Nat.reduceSub, Nat.reduceLeDiff, Nat.reduceLT, p4, p7, p9, p31, p32, p33, hi', Cells.idx hpg hk', Cells.ld hpg hk' Nat.zero_lt_one, build_range, sl_range]
    refine step_slice (by omega) rfl fun g5 hx5 => ?_
    have n5 := hx5.next
    obtain ⟨v', g6, e6, gv6, o6, n6, f6, old6, u6⟩ := grow_push (h := g) (bytes := 16) gv (by omega) (by omega) (by omega) hx5 rfl rfl (fun j hj => by
      obtain rfl | rfl : j = 0 ∨ j = 1 := by omega
      all_goals rfl) (by simp [maxBytes]; omega) (by simp [maxBytes]; omega)
    simp only [rn0, reduceIte, Nat.reduceEqDiff, Nat.reduceAdd, Nat.reduceMul, Nat.reduceSub, Nat.reduceLeDiff, Nat.reduceLT, p4, p7, p9, p31, p32, p33, e6, hwk]
    first | exact ⟨⟨v', fun i hi => by rw [old6 i (by omega), ho i hi], by omega, by omega, by omega, gv6, rfl⟩, rfl⟩ | exact ⟨v', fun i hi => by rw [old6 i (by omega), ho i hi], by omega, by omega, by omega, gv6, rfl⟩
  rintro f g ms ⟨⟨v, ho, hfg, hup, hnx, gv, p9⟩, rfl, p4, p7, p31, p32, p33⟩
  have sg : Sub All g4 g := AHeap.subOf ho
  have hyg := hy4.mono sg
  have rg := r4.mono sg
  have hvc : Ranges g v m (fun k => (k : Int)) p := gv.cells
  have hvo := gv.one
  have hmg : MapB g r key2 (rip G G.nk) := hm4.keep (ho _ (by omega))
  have qg : g.get g1.next = some (.row zcL true 0) := by rw [ho _ (by omega)]; exact q4
  have ee := everyMom_c (n := n) (h := g) (ok := .func (.func 122) ⟨[.agg ⟨crL G wv vv sv kv (.map (some r))⟩]⟩ #[]) (p := fun i => G.s.vb i ≤ p i ∧ p i ≤ G.s.last) (by omega) (by omega) hvc hm30 (fun g' og ug lg i hi => by
    have hn' : g.shutAll.next = g.next := rfl
    exact ⟨_, decide_eq_true_iff, isMoment_c (n := n - 1) (h := g') (mv := .map (some r)) (by omega) (by omega) ((hyg.shut).mono (AHeap.subOf og)) rfl (v := i) (by omega) (p i)⟩)
  by_cases c3 : ∀ i, i < m → G.s.vb i ≤ p i ∧ p i ≤ G.s.last
  case neg =>
    have he : errPG G m p = 2 := by unfold errPG; rw [if_neg (by simpa using hf), if_neg (fun q => c3 q.2)]
    simp only [rn0, reduceIte, Nat.reduceEqDiff, Nat.reduceAdd, Nat.reduceMul, Nat.reduceSub, Nat.reduceLeDiff, Nat.reduceLT, p4, p7, p9, p31, p32, p33, Int.lt_irrefl, rg.whole (n := 11) rfl, ee, eq_false c3, build_cr0]
    refine step_store (b := g1.next) (off := 0) (vs := zcL) rfl qg (by omega) (by omega) rfl rfl rfl (by simp [zcL]) fun g5 hs5 => ?_
    have n5 := hs5.next
    have f5 := hs5.floor
    rw [splice_all (by rfl)] at hs5
    simp only [rn0, reduceIte, Nat.reduceEqDiff, Nat.reduceAdd, Nat.reduceMul, Nat.reduceSub, Nat.reduceLeDiff, Nat.reduceLT, p4, res_three, hs5.row.whole (n := 11) rfl]
    exact ⟨fun i hi => by rw [hs5.old i (by omega), ho i (by omega), old4 i hi], by omega, by omega, by omega, .inl ⟨by rw [he]; decide, by rw [he]⟩⟩
  have he : errPG G m p = 0 := by unfold errPG; rw [if_neg (by simpa using hf), if_pos ⟨c2', c3⟩]
  simp only [rn0, reduceIte, Nat.reduceEqDiff, Nat.reduceAdd, Nat.reduceMul, Nat.reduceSub, Nat.reduceLeDiff, Nat.reduceLT, p4, p7, p9, p31, p32, p33, Int.lt_irrefl, rg.whole (n := 11) rfl, ee, eq_true c3]
  refine step_store (b := g1.next) (off := 0) (vs := crL G wv vv sv kv (.map (some r))) rfl qg (by omega) (by omega) rfl (cr_one hyg rfl) rfl (by simp [zcL]) fun g5 hs5 => ?_
  have n5 := hs5.next
  have f5 := hs5.floor
  rw [splice_all (by rfl)] at hs5
  have hv5 : Ranges g5 v G.nk (fun k => (k : Int)) p := by
    rw [← c2']
    have hc : GrowC g4.next g5 v 2 m _ := gv.keep hs5.keep (by omega)
    exact hc.cells
  simp only [rn0, reduceIte, Nat.reduceEqDiff, Nat.reduceAdd, Nat.reduceMul, Nat.reduceSub, Nat.reduceLeDiff, Nat.reduceLT, p4, res_three, hs5.row.whole (n := 11) rfl]
  exact ⟨fun i hi => by rw [hs5.old i (by omega), ho i (by omega), old4 i hi], by omega, by omega, by omega, .inr ⟨he, r, v, rfl, hmg.keep (hs5.old _ (by omega)), by omega, by omega, hv5, hvo⟩⟩
theorem makeL {m : Nat} (hm : m ≤ 1000) : makeSl 1 8 [.int .i64 0] h (.int .i64 (m : Int)) (.int .i64 (m : Int)) = newSlice h (arrN m fun _ => 0) m m 0 := by
  rw [make_intsL hm, repl_one]
  congr 1
  apply List.ext_getElem?
  intro i
  by_cases hi : i < m
  · rw [List.getElem?_replicate, if_pos hi, arrN_get hi]
  · rw [List.getElem?_eq_none (by simp; omega), List.getElem?_eq_none (by rw [arrN_len]; omega)]
theorem arr_ints {g : AHeap} {b m cap : Nat} {a : Nat → Int} (hr : Row g b (arrN m a)) : Ints g (.slice (some ⟨b, 0, none⟩) m cap) m a := cells_row hr fun k j hk hj => by
  obtain rfl : j = 0 := by omega
  rw [Nat.mul_one, Nat.add_zero]; exact arrN_get hk
def s85 : SCode := (.seq (.ops [jO 2 (.box (T 0)), jO 4 (.mov (.const (.slice none 0 0)))]) (.seq (.ops [jO 8 (.mov (T 1)), jO 9 (.len (T 8)), jO 10 (.mkslice 1 8 [(.int .i64 0)] (T 9) (T 9)), jO 5 (.mov (T 10))]) (.seq (.seq (.ops [jO 11 (.mov (T 1)), jO 12 (.len (T 11)), jO 13 (.mov (jK 0))]) (.block 0 (.loop (.seq (.ops [jO 14 (.int2 .lss (T 13) (T 12))]) (.seq (.cond (T 14) .skip (.exit 0)) (.seq (.block 1 (.seq (.ops [jO 15 (.mov (T 13)), jO 16 (.idxSl 3 (T 11) (T 13)), jO 17 (.loadN 3 (T 16)), jO 7 (.alloc [(.int .i64 0), (.int .i64 0), (.int .i64 0)]), jO 6 (.mov (T 15)), ⟨none, none, .store 3 (T 7) (T 17)⟩]) (.ops [jO 18 (.mov (T 5)), jO 19 (.mov (T 6)), jO 20 (.fieldAddr 0 (T 2)), jO 21 (.load1 (T 20)), jO 22 (.fieldAddr 1 (T 7)), jO 23 (.loadN 2 (T 22)), jO 24 (.call (T 21) [(T 23)]), jO 25 (.idxSl 1 (T 18) (T 19)), ⟨none, none, .store 1 (T 25) (T 24)⟩]))) (.ops [jO 26 (.int2 .add (T 13) (jK 1)), jO 13 (.mov (T 26))]))))))) (.seq (.ops [jO 27 (.mov (T 5)), jO 4 (.mov (T 27))]) .ret))))
theorem fok85 : FnOk Tryz.prog 85 28 s85 [.tmp 4] := ⟨Tryz.f85, _, Tryz.func85, rfl, Tryz.ntmps85, by kernel_rfl, by kernel_rfl⟩
set_option maxHeartbeats 1000000 in
theorem endHours_c (hn : 60 ≤ n) (hr : h.next + 100 < far) (hfl : h.floor ≤ h.next) {wv vv sv kv : Value} {G : MG} (hy : GangR h wv vv sv kv G) (hl : G.nk ≤ 30) {F : Nat} {val : Nat → Int}
    (hF : ∀ g : AHeap, g.next < far → ∀ k, k < G.nk → call (n - 1) (.func (.func F) #[] #[]) [.agg ⟨[.int .i64 (G.klo k), .int .i64 (G.khi k)]⟩] g = some (.int .i64 (val k), g)) :
    ∃ v h', call n (.func (.func 85) #[] #[]) [.agg ⟨[.func (.func F) #[] #[]]⟩, kv] h = some (v, h') ∧ Ints h' v G.nk val ∧ oneCell v = true ∧ (∀ i, i < h.next → h'.get i = h.get i) ∧ h.next ≤ h'.next ∧ h'.next ≤ h.next + 60 ∧ h'.floor = h.floor := by
  obtain ⟨n, rfl⟩ : ∃ p, n = p + 1 := ⟨n - 1, by omega⟩
  rw [Nat.add_sub_cancel] at hF
  refine call_any0 fok85 rfl rfl (by simp) ?_
  simp only [s85, jO, jF, jR, jS, jU, jA, jK, W_seq, W_ops]
  refine ops_box (cs := [.func (.func F) #[] #[]]) (by omega) rfl rfl fun g1 hx1 => ?_
  have n1 := hx1.next
  have f1 := hx1.floor
  have hy1 := hy.mono hx1.sub
  have r1 := hx1.row
  simp only [rn0, reduceIte, Nat.reduceEqDiff, Nat.reduceAdd, Nat.reduceMul, Nat.reduceSub, Nat.reduceLeDiff, Nat.reduceLT, Cells.len hy1.k, makeL (show G.nk ≤ 1000 by omega)]
  refine step_slice (by omega) arrN_one fun g2 hx2 => ?_
  have n2 := hx2.next
  have f2 := hx2.floor
  have hy2 := hy1.mono hx2.sub
  have r2 := r1.mono hx2.sub
  obtain ⟨B, hB⟩ : ∃ q, q = g1.next := ⟨_, rfl⟩
  have q2 := hx2.get
  rw [← hB] at q2
  rw [← hB]
  simp only [rn0, reduceIte, Nat.reduceEqDiff, Nat.reduceAdd, Nat.reduceMul, Nat.reduceSub, Nat.reduceLeDiff, Nat.reduceLT, Cells.len hy2.k]
  refine W_loop G.nk (fun k f g ms => ((∀ i, i < B → g.get i = g2.get i) ∧ g.get B = some (.row (arrN G.nk fun j => if j < k then val j else 0) true 0) ∧ g2.next ≤ g.next ∧ g.next ≤ g2.next + k ∧ g.floor = g2.floor) ∧ ms = [] ∧ f 2 = .pointer (some ⟨h.next, 0, none⟩) ∧ f 5 = .slice (some ⟨B, 0, none⟩) G.nk G.nk ∧ f 11 = kv ∧ f 12 = .int .i64 (G.nk : Int) ∧ f 13 = .int .i64 (k : Int)) (by simp; omega) ?_ ?_ ?_
  · simp only [rn0, reduceIte, Nat.reduceEqDiff, Nat.reduceAdd, Nat.reduceMul, Nat.reduceSub, Nat.reduceLeDiff, Nat.reduceLT, Int.natCast_zero, Nat.not_lt_zero]
    first | exact ⟨fun _ _ => trivial, q2, by omega, by omega⟩ | exact ⟨⟨fun _ _ => trivial, q2, by omega, by omega⟩, rfl⟩ | exact ⟨fun _ _ => trivial, q2, Nat.le_refl _⟩ | exact ⟨fun _ _ => trivial, q2⟩
  · rintro k f g ms hk ⟨⟨og, qg, ug, ng, fg⟩, rfl, p2, p5, p11, p12, p13⟩
    have hk' : (k : Int) < (G.nk : Int) := by omega
    have hwk : wrapF .i64 ((k : Int) + 1) = ((k + 1 : Nat) : Int) := by rw [wrap_in (by omega) (by omega)]; rfl
    have sub : ∀ i, i < h.next → g.get i = h.get i := fun i hi => by rw [og i (by omega), hx2.old i (by omega), hx1.old i hi]
    have hyg := hy.mono (AHeap.subOf sub)
    have rg : Row g h.next [.func (.func F) #[] #[]] := by
      obtain ⟨w, gr, e⟩ := r2
      exact ⟨w, gr, by rw [og _ (by omega)]; exact e⟩
    simp only [rn0, reduceIte, Nat.reduceEqDiff, Nat.reduceAdd, Nat.reduceMul, Nat.reduceSub, Nat.reduceLeDiff, Nat.reduceLT, p2, p5, p11, p12, p13, hk', Cells.idx hyg.k hk, work_ld hyg hk]
    refine step_row (cs := [.int .i64 0, .int .i64 0, .int .i64 0]) (by omega) rfl rfl fun g3 hx3 => ?_
    have n3 := hx3.next
    have f3 := hx3.floor
    simp only [rn0, reduceIte, Nat.reduceEqDiff, Nat.reduceAdd, Nat.reduceMul, Nat.reduceSub, Nat.reduceLeDiff, Nat.reduceLT, p2, p5, p11, p12, p13]
    refine step_store (b := g.next) (off := 0) (vs := woL G k) rfl hx3.get (by omega) (by omega) rfl rfl rfl (by simp [woL]) fun g4 hs4 => ?_
    rw [splice_all (by rfl)] at hs4
    have n4 := hs4.next
    have f4 := hs4.floor
    have o4 : ∀ i, i < g.next → g4.get i = g.get i := fun i hi => by rw [hs4.old i (by omega), hx3.old i hi]
    have rg4 := rg.mono (AHeap.subOf o4)
    have r4 : Row g4 g.next (woL G k) := hs4.row
    have hl2 : loadAgg 2 g4 (.pointer (some ⟨g.next, 1, none⟩)) = some (.agg ⟨[.int .i64 (G.klo k), .int .i64 (G.khi k)]⟩) := r4.ldN 1 2 (by simp [woL]) (by simp [woL])
    have ec := hF g4 (by omega) k hk
    have q4 : g4.get B = some (.row (arrN G.nk fun j => if j < k then val j else 0) true 0) := by rw [o4 _ (by omega)]; exact qg
    have hix := Cells.idx (arr_ints (cap := G.nk) ⟨_, _, q4⟩) hk
    have hpt : ptrO (.slice (some ⟨B, 0, none⟩) G.nk G.nk) 1 k 0 = .pointer (some ⟨B, k, none⟩) := by simp [ptrO]
    rw [hpt] at hix
    simp only [rn0, reduceIte, Nat.reduceEqDiff, Nat.reduceAdd, Nat.reduceMul, Nat.reduceSub, Nat.reduceLeDiff, Nat.reduceLT, p2, p5, p11, p12, p13, rg4.ld, Nat.zero_add, List.getElem?_cons_zero, hl2, ec, hix]
    refine step_store (b := B) (off := k) (vs := [.int .i64 (val k)]) rfl q4 (by omega) (by omega) rfl rfl rfl (by rw [arrN_len]; exact hk) fun g5 hs5 => ?_
    have n5 := hs5.next
    have f5 := hs5.floor
    have q5 := hs5.get
    rw [arrN_set hk, arrN_congr (b := fun j => if j < k + 1 then val j else 0) (fun j hj => by
      by_cases e : j = k
      · subst e; rw [if_pos rfl, if_pos (by omega)]
      · rw [if_neg e]
        by_cases e2 : j < k
        · rw [if_pos e2, if_pos (by omega)]
        · rw [if_neg e2, if_neg (by omega)])] at q5
    simp only [rn0, reduceIte, Nat.reduceEqDiff, Nat.reduceAdd, Nat.reduceMul, Nat.reduceSub, Nat.reduceLeDiff, Nat.reduceLT, p2, p5, p11, p12, p13, hwk]
    have fin := And.intro (fun i (hi : i < B) => (by rw [hs5.old i (by omega), o4 i (by omega), og i hi] : g5.get i = g2.get i)) (And.intro q5 (And.intro (by omega : g2.next ≤ g5.next) (And.intro (by omega : g5.next ≤ g2.next + (k + 1)) (by omega : g5.floor = g2.floor))))
    first | exact fin | exact ⟨fin, rfl⟩
  · rintro f g ms ⟨⟨og, qg, ug, ng, fg⟩, rfl, p2, p5, p11, p12, p13⟩
    simp only [rn0, reduceIte, Nat.reduceEqDiff, Nat.reduceAdd, Nat.reduceMul, Nat.reduceSub, Nat.reduceLeDiff, Nat.reduceLT, p2, p5, p11, p12, p13, Int.lt_irrefl]
    rw [arrN_congr (b := val) (fun j hj => if_pos hj)] at qg
    exact ⟨arr_ints ⟨_, _, qg⟩, rfl, fun i hi => by rw [og i (by omega), hx2.old i (by omega), hx1.old i hi], by omega, by omega, by omega⟩

def MomOk (G : MG) (m : Nat) (vt : Nat → Nat) (hr : Nat → Int) : Prop := m ≤ 4 ∧ ∀ k, k < m → vt k < G.nk ∧ 0 ≤ hr k ∧ hr k ≤ 5
noncomputable def shN (G : MG) (vt : Nat → Nat) (hr x : Nat → Int) : Nat → Nat → Int
  | 0, _ => 0
  | k + 1, t => shN G vt hr x k t + (if hr k < (t : Int) ∧ (t : Int) ≤ hr k + x (vt k) then G.km (vt k) else 0)
def InT (G : MG) (vt : Nat → Nat) (hr x : Nat → Int) (k : Nat) : Prop := ∀ j, j < k → x (vt j) ≤ 0 ∨ hr j + x (vt j) ≤ G.close
noncomputable instance (G : MG) (vt : Nat → Nat) (hr x : Nat → Int) (k : Nat) : Decidable (InT G vt hr x k) := Classical.propDecidable _
theorem shN_bound {G : MG} (hG : GoodG G) {m : Nat} {vt : Nat → Nat} {hr x : Nat → Int} (hm : MomOk G m vt hr) : ∀ k, k ≤ m → ∀ t, 0 ≤ shN G vt hr x k t ∧ shN G vt hr x k t ≤ 9 * k
  | 0, _, _ => by simp [shN]
  | k + 1, hk, t => by
    have h1 := shN_bound hG hm k (by omega) t (x := x)
    have h2 := (hG.works (vt k) (hm.2 k (by omega)).1).1
    rw [shN]
    by_cases c : hr k < (t : Int) ∧ (t : Int) ≤ hr k + x (vt k)
    · rw [if_pos c]; omega
    · rw [if_neg c]; omega
theorem build_z10 : buildA (fun i => some (i * 1, 1)) ⟨[.int .i64 0, .int .i64 0, .int .i64 0, .int .i64 0, .int .i64 0, .int .i64 0, .int .i64 0, .int .i64 0, .int .i64 0, .int .i64 0]⟩ [] h [] = some (.agg ⟨arrN 10 fun _ => 0⟩, h) := id rfl
def s78 : SCode := (.seq (.ops [jO 3 (.box (T 0)), jO 6 (.alloc [(.int .i64 0), (.int .i64 0), (.int .i64 0), (.int .i64 0), (.int .i64 0), (.int .i64 0), (.int .i64 0), (.int .i64 0), (.int .i64 0), (.int .i64 0)]), jO 7 (.mov (.const (.bool false)))]) (.seq (.seq (.ops [jO 12 (.mov (T 1)), jO 13 (.len (T 12)), jO 14 (.mov (jK 0))]) (.block 0 (.loop (.seq (.ops [jO 15 (.int2 .lss (T 14) (T 13))]) (.seq (.cond (T 15) .skip (.exit 0)) (.seq (.block 1 (.seq (.ops [jO 16 (.idxSl 2 (T 12) (T 14)), jO 17 (.loadN 2 (T 16)), jO 9 (.alloc [(.int .i64 0), (.int .i64 0)]), ⟨none, none, .store 2 (T 9) (T 17)⟩]) (.seq (.ops [jO 18 (.mov (T 2)), jO 19 (.fieldAddr 0 (T 9)), jO 20 (.load1 (T 19)), jO 21 (.idxSl 1 (T 18) (T 20)), jO 22 (.load1 (T 21)), jO 23 (.mov (jK 0))]) (.block 2 (.loop (.seq (.ops [jO 24 (.int2 .lss (T 23) (T 22))]) (.seq (.cond (T 24) .skip (.exit 2)) (.seq (.block 3 (.seq (.ops [jO 25 (.mov (T 23)), jO 10 (.mov (T 25))]) (.seq (.ops [jO 26 (.fieldAddr 1 (T 9)), jO 27 (.load1 (T 26)), jO 28 (.int2 .add (T 27) (jK 1)), jO 29 (.mov (T 10)), jO 30 (.int2 .add (T 28) (T 29)), jO 11 (.mov (T 30))]) (.seq (.seq (.ops [jO 31 (.mov (T 11)), jO 32 (.fieldAddr 0 (T 3)), jO 33 (.fieldAddr 8 (T 32)), jO 34 (.load1 (T 33)), jO 35 (.int2 .gtr (T 31) (T 34))]) (.cond (T 35) (.seq (.ops [jO 36 (.buildArr 1 [(.int .i64 0), (.int .i64 0), (.int .i64 0), (.int .i64 0), (.int .i64 0), (.int .i64 0), (.int .i64 0), (.int .i64 0), (.int .i64 0), (.int .i64 0)] [] []), ⟨none, none, .store 10 (T 6) (T 36)⟩, jO 7 (.mov (.const (.bool false)))]) .ret) .skip)) (.draw [jF 37 (.mov (T 11)), jF 38 (.idxArr 10 1 (T 6) (T 37)), jS 39 (.load1 (T 38)), jF 40 (.fieldAddr 0 (T 3)), jF 41 (.fieldAddr 9 (T 40)), jS 42 (.load1 (T 41)), jF 43 (.fieldAddr 0 (T 9)), jS 44 (.load1 (T 43)), jF 45 (.idxSl 3 (T 42) (T 44)), jF 46 (.fieldAddr 0 (T 45)), jS 47 (.load1 (T 46)), jF 48 (.int2 .add (T 39) (T 47)), jF 49 (.idxArr 10 1 (T 6) (T 37)), ⟨.any, ⟨none, none, .store 1 (T 49) (T 48)⟩⟩]))))) (.ops [jO 50 (.int2 .add (T 23) (jK 1)), jO 23 (.mov (T 50))]))))))))) (.ops [jO 51 (.int2 .add (T 14) (jK 1)), jO 14 (.mov (T 51))]))))))) (.seq (.ops [jO 52 (.loadN 10 (T 6)), ⟨none, none, .store 10 (T 6) (T 52)⟩, jO 7 (.mov (.const (.bool true)))]) .ret)))
theorem fok78 : FnOk Tryz.prog 78 53 s78 [.cellN 6 10, .tmp 7] := ⟨Tryz.f78, _, Tryz.func78, rfl, Tryz.ntmps78, by kernel_rfl, by kernel_rfl⟩
set_option maxHeartbeats 2000000 in
theorem playW_c (hn : 60 ≤ n) (hr : h.next + 100 < far) {wv vv sv kv mv pv xv : Value} {G : MG} {m q : Nat} {vt : Nat → Nat} {hh x : Nat → Int} (hy : GangR h wv vv sv kv G) (hG : GoodG G) (hmv : oneCell mv = true) (hp : Ranges h pv m (fun k => (vt k : Int)) hh) (hm : MomOk G m vt hh) (hx : Ints h xv q x) (hq : G.nk ≤ q) (hs : ∀ v, v < G.nk → 0 ≤ x v ∧ x v ≤ 4) :
    call n (.func (.func 78) #[] #[]) [.agg ⟨crL G wv vv sv kv mv⟩, pv, xv] h = some (.tuple ⟨[.agg ⟨arrN 10 fun t => if InT G vt hh x m then shN G vt hh x m t else 0⟩, .bool (decide (InT G vt hh x m))]⟩, h) := by
  obtain ⟨n, rfl⟩ : ∃ p, n = p + 1 := ⟨n - 1, by omega⟩
  refine call_plain0 fok78 rfl rfl (by simp) (by simp [plainV, arrN, List.range_succ]; rfl) ?_
  have hy := hy.shut
  have hp := Cells.shut hp
  have hx := Cells.shut hx
  have hr : h.shutAll.next + 100 < far := hr
  have hfl : h.shutAll.floor ≤ h.shutAll.next := Nat.le_refl _
  generalize h.shutAll = h at hy hp hx hr hfl
  obtain ⟨z0, z1, z4, z5, _, _, zc0, zc9⟩ := hG.sizes
  obtain ⟨hm4, hmo⟩ := hm
  have hmo' : MomOk G m vt hh := ⟨hm4, hmo⟩
  simp only [s78, jO, jF, jR, jS, jU, jA, jK, W_seq, W_ops]
  refine ops_box (cs := crL G wv vv sv kv mv) (by omega) rfl (cr_one hy hmv) fun g1 hx1 => ?_
  have n1 := hx1.next
  have f1 := hx1.floor
  simp only [rn0, reduceIte, Nat.reduceEqDiff, Nat.reduceAdd, Nat.reduceMul, Nat.reduceSub, Nat.reduceLeDiff, Nat.reduceLT]
  refine step_row (cs := arrN 10 fun _ => 0) (by omega) rfl rfl fun g2 hx2 => ?_
  have n2 := hx2.next
  have f2 := hx2.floor
  have s12 := hx1.sub.trans hx2.sub
  have hy2 := hy.mono s12
  have r2 := hx1.row.mono hx2.sub
  have hp2 : Ranges g2 pv m (fun k => (vt k : Int)) hh := Cells.mono hp s12
  have hx2' : Ints g2 xv q x := Cells.mono hx s12
  obtain ⟨B, hB⟩ : ∃ q, q = g1.next := ⟨_, rfl⟩
  have q2 := hx2.get
  rw [← hB] at q2
  rw [← hB]
  have e0 : (fun _ => 0 : Nat → Int) = shN G vt hh x 0 := by funext t; rfl
  rw [e0] at q2
  have old2 : ∀ i, i < h.next → g2.get i = h.get i := fun i hi => by rw [hx2.old i (by omega), hx1.old i hi]
  simp only [rn0, reduceIte, Nat.reduceEqDiff, Nat.reduceAdd, Nat.reduceMul, Nat.reduceSub, Nat.reduceLeDiff, Nat.reduceLT, Cells.len hp2]
  refine W_loop m (fun k f g ms => ((∀ i, i < B → g.get i = g2.get i) ∧ g.get B = some (.row (arrN 10 (shN G vt hh x k)) true 0) ∧ g2.next ≤ g.next ∧ g.next ≤ g2.next + k ∧ g.floor = g2.floor ∧ InT G vt hh x k) ∧ ms = [] ∧ f 2 = xv ∧ f 3 = .pointer (some ⟨h.next, 0, none⟩) ∧ f 6 = .pointer (some ⟨B, 0, none⟩) ∧ f 12 = pv ∧ f 13 = .int .i64 (m : Int) ∧ f 14 = .int .i64 (k : Int)) (by simp; omega) ?_ ?_ ?_
  · simp only [rn0, reduceIte, Nat.reduceEqDiff, Nat.reduceAdd, Nat.reduceMul, Nat.reduceSub, Nat.reduceLeDiff, Nat.reduceLT, Int.natCast_zero]
    have hi0 : InT G vt hh x 0 := fun j hj => by omega
    first | exact ⟨fun _ _ => trivial, q2, hi0⟩ | exact ⟨⟨fun _ _ => trivial, q2, Nat.le_refl _, Nat.le_refl _, rfl, hi0⟩, rfl⟩ | exact ⟨fun _ _ => trivial, q2, Nat.le_refl _, hi0⟩ | exact ⟨fun _ _ => trivial, q2, Nat.le_refl _, Nat.le_refl _, hi0⟩
  · rintro k f g ms hk ⟨⟨og, qg, ug, ng, fg, hin⟩, rfl, p2, p3, p6, p12, p13, p14⟩
    have hk' : (k : Int) < (m : Int) := by omega
    have hwk : wrapF .i64 ((k : Int) + 1) = ((k + 1 : Nat) : Int) := by rw [wrap_in (by omega) (by omega)]; rfl
    have sub : ∀ i, i < h.next → g.get i = h.get i := fun i hi => by rw [og i (by omega), old2 i hi]
    have sg : Sub All h g := AHeap.subOf sub
    have hyg := hy.mono sg
    have hpg : Ranges g pv m (fun k => (vt k : Int)) hh := Cells.mono hp sg
    have hxg : Ints g xv q x := Cells.mono hx sg
    have rg : Row g h.next (crL G wv vv sv kv mv) := by
      obtain ⟨w, gr, e⟩ := r2
      exact ⟨w, gr, by rw [og _ (by omega)]; exact e⟩
    obtain ⟨v1, v2, v3⟩ := hmo k hk
    obtain ⟨H, hH⟩ : ∃ H : Nat, (H : Int) = hh k := ⟨(hh k).toNat, by omega⟩
    obtain ⟨X, hX⟩ : ∃ X : Nat, (X : Int) = x (vt k) := ⟨(x (vt k)).toNat, by have := hs _ v1; omega⟩
    have hXs := hs _ v1
    have hkm := (hG.works _ v1).1
    simp only [rn0, reduceIte, Nat.reduceEqDiff, Nat.reduceAdd, Nat.reduceMul, Nat.reduceSub, Nat.reduceLeDiff, Nat.reduceLT, p2, p3, p6, p12, p13, p14, hk', Cells.idx hpg hk, ranges_ld hpg hk]
    refine step_new (vs := [.int .i64 (vt k : Int), .int .i64 (hh k)]) (by omega) (by omega) rfl (by simp only [rn0, reduceIte, Nat.reduceEqDiff, Nat.reduceAdd, Nat.reduceMul, Nat.reduceSub, Nat.reduceLeDiff, Nat.reduceLT]; rfl) rfl rfl rfl fun g4 hx4 => ?_
    have n4 := hx4.next
    have f4 := hx4.floor
    have r4 := hx4.row
    have hx4' : Ints g4 xv q x := Cells.mono hxg hx4.sub
    have hy4 := hyg.mono hx4.sub
    have rg4 := rg.mono hx4.sub
    have q4 : g4.get B = some (.row (arrN 10 (shN G vt hh x k)) true 0) := by rw [hx4.old _ (by omega)]; exact qg
    obtain ⟨D, hD⟩ : ∃ q, q = g.next := ⟨_, rfl⟩
    rw [← hD] at r4
    rw [← hD]
    simp only [rn0, reduceIte, Nat.reduceEqDiff, Nat.reduceAdd, Nat.reduceMul, Nat.reduceSub, Nat.reduceLeDiff, Nat.reduceLT, p2, p3, p6, p12, p13, p14, r4.ld, Nat.zero_add, List.getElem?_cons_zero, List.getElem?_cons_succ, Cells.idx hx4' (show vt k < q by omega), Cells.ld hx4' (show vt k < q by omega) Nat.zero_lt_one]
    rw [← hX]
    refine W_loop X (fun i f g' ms => ((∀ j, j ≠ B → g'.get j = g4.get j) ∧ g'.get B = some (.row (arrN 10 fun t => shN G vt hh x k t + (if hh k < (t : Int) ∧ (t : Int) ≤ hh k + (i : Int) then G.km (vt k) else 0)) true 0) ∧ g'.next = g4.next ∧ g'.floor = g4.floor ∧ (i = 0 ∨ hh k + (i : Int) ≤ G.close)) ∧ ms = [] ∧ f 2 = xv ∧ f 3 = .pointer (some ⟨h.next, 0, none⟩) ∧ f 6 = .pointer (some ⟨B, 0, none⟩) ∧ f 9 = .pointer (some ⟨D, 0, none⟩) ∧ f 12 = pv ∧ f 13 = .int .i64 (m : Int) ∧ f 14 = .int .i64 (k : Int) ∧ f 22 = .int .i64 (X : Int) ∧ f 23 = .int .i64 (i : Int)) (by simp; omega) ?_ ?_ ?_
    · simp only [rn0, reduceIte, Nat.reduceEqDiff, Nat.reduceAdd, Nat.reduceMul, Nat.reduceSub, Nat.reduceLeDiff, Nat.reduceLT, p2, p3, p6, p12, p13, p14, Int.natCast_zero, Int.add_zero, true_or]
      have q4' : g4.get B = some (.row (arrN 10 fun t => shN G vt hh x k t + (if hh k < (t : Int) ∧ (t : Int) ≤ hh k then G.km (vt k) else 0)) true 0) := by
        rw [q4, arrN_congr fun j hj => ?_]
        rw [if_neg (by omega), Int.add_zero]
      first | exact ⟨fun _ _ => trivial, q4'⟩ | exact ⟨⟨fun _ _ => trivial, q4', rfl, rfl⟩, rfl⟩ | exact q4'
    · rintro i f g' ms hi ⟨⟨og', qg', ng', fg', hci⟩, rfl, p2, p3, p6, p9, p12, p13, p14, p22, p23⟩
      have hi' : (i : Int) < (X : Int) := by omega
      have hwi : wrapF .i64 ((i : Int) + 1) = ((i + 1 : Nat) : Int) := by rw [wrap_in (by omega) (by omega)]; rfl
      have w1 : wrapF .i64 (hh k + 1) = hh k + 1 := wrap_in (by omega) (by omega)
      have w2 : wrapF .i64 (hh k + 1 + (i : Int)) = ((H + 1 + i : Nat) : Int) := by rw [wrap_in (by omega) (by omega)]; omega
      have sub' : ∀ j, j < h.next → g'.get j = h.get j := fun j hj => by rw [og' j (by omega), hx4.old j (by omega), sub j hj]
      have hy' := hy.mono (AHeap.subOf sub')
      have r9 : Row g' D [.int .i64 (vt k : Int), .int .i64 (hh k)] := by
        obtain ⟨w, gr, e⟩ := r4
        exact ⟨w, gr, by rw [og' _ (by omega)]; exact e⟩
      have rr : Row g' h.next (crL G wv vv sv kv mv) := by
        obtain ⟨w, gr, e⟩ := rg4
        exact ⟨w, gr, by rw [og' _ (by omega)]; exact e⟩
      by_cases c : G.close < ((H + 1 + i : Nat) : Int)
      · have hno : ¬ InT G vt hh x m := fun e => by rcases e k hk with e | e <;> omega
        simp only [rn0, reduceIte, Nat.reduceEqDiff, Nat.reduceAdd, Nat.reduceMul, Nat.reduceSub, Nat.reduceLeDiff, Nat.reduceLT, p2, p3, p6, p9, p12, p13, p14, p22, p23, hi', r9.ld, Nat.zero_add, List.getElem?_cons_zero, List.getElem?_cons_succ, w1, w2, rr.ld, crg, gt_iff_lt, c, x_buildArr, build_z10]
        refine step_store (b := B) (off := 0) (vs := arrN 10 fun _ => 0) rfl qg' (by omega) (by omega) rfl arrN_one rfl (by simp [arrN_len]) fun g5 hs5 => ?_
        rw [splice_all (by simp [arrN_len])] at hs5
        simp only [rn0, reduceIte, Nat.reduceEqDiff, Nat.reduceAdd, Nat.reduceMul, Nat.reduceSub, Nat.reduceLeDiff, Nat.reduceLT, p6, res_two, arr_ld hs5.row, hno]
      · have ht : H + 1 + i < 10 := by omega
        have rB : Row g' B _ := ⟨_, _, qg'⟩
        have lB := arrN_get (a := fun t => shN G vt hh x k t + (if hh k < (t : Int) ∧ (t : Int) ≤ hh k + (i : Int) then G.km (vt k) else 0)) ht
        have hb := shN_bound hG hmo' k (by omega) (H + 1 + i) (x := x)
        have hold : (if hh k < ((H + 1 + i : Nat) : Int) ∧ ((H + 1 + i : Nat) : Int) ≤ hh k + (i : Int) then G.km (vt k) else 0) = 0 := if_neg (by omega)
        rw [hold, Int.add_zero] at lB
        have w3 : wrapF .i64 (shN G vt hh x k (H + 1 + i) + G.km (vt k)) = shN G vt hh x k (H + 1 + i) + G.km (vt k) := wrap_in (by omega) (by omega)
        simp only [rn0, reduceIte, Nat.reduceEqDiff, Nat.reduceAdd, Nat.reduceMul, Nat.reduceSub, Nat.reduceLeDiff, Nat.reduceLT, p2, p3, p6, p9, p12, p13, p14, p22, p23, hi', r9.ld, Nat.zero_add, List.getElem?_cons_zero, List.getElem?_cons_succ, w1, w2, rr.ld, crg, gt_iff_lt, c]
        refine W_draw All ?_
        simp only [rn0, reduceIte, Nat.reduceEqDiff, Nat.reduceAdd, Nat.reduceMul, Nat.reduceSub, Nat.reduceLeDiff, Nat.reduceLT, p2, p3, p6, p9, idxArr_p ht, rB.ld, lB, Nat.zero_add, r9.ld, List.getElem?_cons_zero, List.getElem?_cons_succ, rr.ld, crg, Cells.self hy'.k, Cells.idx hy'.k v1, Cells.fld hy'.k v1, men_ld hy' v1, eqV_int, w3]
        refine up_store (b := B) (off := H + 1 + i) (vs := [.int .i64 (shN G vt hh x k (H + 1 + i) + G.km (vt k))]) rfl qg' (by omega) (by omega) rfl rfl rfl (by rw [arrN_len]; exact ht) (fun _ _ => trivial) fun g5 hs5 => ?_
        have n5 := hs5.next
        have f5 := hs5.floor
        have q5 := hs5.get
        rw [arrN_set ht, arrN_congr (b := fun t => shN G vt hh x k t + (if hh k < (t : Int) ∧ (t : Int) ≤ hh k + ((i + 1 : Nat) : Int) then G.km (vt k) else 0)) (fun j hj => by
          by_cases e : j = H + 1 + i
          · rw [if_pos e, if_pos (by omega), e]
          · rw [if_neg e]
            by_cases e2 : hh k < (j : Int) ∧ (j : Int) ≤ hh k + (i : Int)
            · rw [if_pos e2, if_pos (by omega)]
            · rw [if_neg e2, if_neg (by omega)])] at q5
        simp only [rn0, reduceIte, Nat.reduceEqDiff, Nat.reduceAdd, Nat.reduceMul, Nat.reduceSub, Nat.reduceLeDiff, Nat.reduceLT, p2, p3, p6, p9, p12, p13, p14, p22, p23, hwi]
        have fin := And.intro (fun j (hj : j ≠ B) => (by rw [hs5.old j hj, og' j hj] : g5.get j = g4.get j)) (And.intro q5 (And.intro (by omega : g5.next = g4.next) (And.intro (by omega : g5.floor = g4.floor) (show i + 1 = 0 ∨ hh k + ((i + 1 : Nat) : Int) ≤ G.close from .inr (by omega)))))
        first | exact fin | exact ⟨fin, rfl⟩ | exact ⟨fin.1, fin.2.1, fin.2.2.1, fin.2.2.2.1, by simpa using fin.2.2.2.2⟩ | (simp only [Nat.add_eq_zero_iff, Nat.one_ne_zero, and_false, false_or] at fin ⊢; exact fin) | (simp only [Nat.add_eq_zero_iff, Nat.one_ne_zero, and_false, false_or] at fin ⊢; exact ⟨fin, rfl⟩)
    · rintro f g' ms ⟨⟨og', qg', ng', fg', hci⟩, rfl, p2, p3, p6, p9, p12, p13, p14, p22, p23⟩
      have hin' : InT G vt hh x (k + 1) := fun j hj => by
        by_cases e : j = k
        · subst e
          rcases hci with e | e
          · left; omega
          · right; omega
        · exact hin j (by omega)
      simp only [rn0, reduceIte, Nat.reduceEqDiff, Nat.reduceAdd, Nat.reduceMul, Nat.reduceSub, Nat.reduceLeDiff, Nat.reduceLT, p2, p3, p6, p9, p12, p13, p14, p22, p23, Int.lt_irrefl, hwk]
      rw [hX] at qg'
      have qg' : g'.get B = some (.row (arrN 10 (shN G vt hh x (k + 1))) true 0) := qg'
      have fin := And.intro (fun j (hj : j < B) => (by rw [og' j (by omega), hx4.old j (by omega), og j hj] : g'.get j = g2.get j)) (And.intro qg' (And.intro (by omega : g2.next ≤ g'.next) (And.intro (by omega : g'.next ≤ g2.next + (k + 1)) (And.intro (by omega : g'.floor = g2.floor) hin'))))
      first | exact fin | exact ⟨fin, rfl⟩
  · rintro f g ms ⟨⟨og, qg, ug, ng, fg, hin⟩, rfl, p2, p3, p6, p12, p13, p14⟩
    have rB : Row g B _ := ⟨_, _, qg⟩
    simp only [rn0, reduceIte, Nat.reduceEqDiff, Nat.reduceAdd, Nat.reduceMul, Nat.reduceSub, Nat.reduceLeDiff, Nat.reduceLT, p2, p3, p6, p12, p13, p14, Int.lt_irrefl, arr_ld rB]
    refine step_store (b := B) (off := 0) (vs := arrN 10 (shN G vt hh x m)) rfl qg (by omega) (by omega) rfl arrN_one rfl (by simp [arrN_len]) fun g5 hs5 => ?_
    rw [splice_all (by simp [arrN_len])] at hs5
    simp only [rn0, reduceIte, Nat.reduceEqDiff, Nat.reduceAdd, Nat.reduceMul, Nat.reduceSub, Nat.reduceLeDiff, Nat.reduceLT, p6, res_two, arr_ld hs5.row, hin]

def s142 : SCode := (.seq (.ops [jO 4 (.mov (jK 0))]) (.seq (.seq (.ops [jO 7 (.mov (T 1)), jO 8 (.len (T 7)), jO 9 (.mov (jK 0))]) (.block 0 (.loop (.seq (.ops [jO 10 (.int2 .lss (T 9) (T 8))]) (.seq (.cond (T 10) .skip (.exit 0)) (.seq (.block 1 (.seq (.ops [jO 11 (.idxSl 1 (T 7) (T 9)), jO 12 (.load1 (T 11)), jO 6 (.mov (T 12))]) (.ops [jO 13 (.mov (T 0)), jO 14 (.mov (T 6)), jO 15 (.plain (.call { callee := .builtin .min, args := #[(T 13), (T 14)], argTypes := #[3, 3] }) 3), jO 0 (.mov (T 15))]))) (.ops [jO 16 (.int2 .add (T 9) (jK 1)), jO 9 (.mov (T 16))]))))))) (.seq (.ops [jO 17 (.mov (T 0)), jO 4 (.mov (T 17))]) .ret)))
theorem fok142 : FnOk Tryz.prog 142 18 s142 [.tmp 4] := ⟨Tryz.f142, _, Tryz.func142, rfl, Tryz.ntmps142, by kernel_rfl, by kernel_rfl⟩
theorem minimumG_c {m : Nat} (hn : m + 2 ≤ n) (hm : m ≤ 1000) {v : Value} {a : Nat → Int} (hi : Ints h v m a) (x : Int) : call n (.func (.func 142) #[] #[]) [.int .i64 x, v] h = some (.int .i64 (minN x a m), h) := by
  obtain ⟨n, rfl⟩ : ∃ p, n = p + 1 := ⟨n - 1, by omega⟩
  refine call_plain0 fok142 rfl rfl (by simp) rfl ?_
  have hi := Cells.shut hi
  generalize h.shutAll = h at hi
  simp only [rn0, reduceIte, Nat.reduceEqDiff, Nat.reduceAdd, Nat.reduceMul, Nat.reduceSub, Nat.reduceLeDiff, Nat.reduceLT, s142, jO, jF, jR, jS, jU, jA, jK, Cells.len hi]
  refine W_loop m (fun k f g ms => g = h ∧ ms = [] ∧ f 0 = .int .i64 (minN x a k) ∧ f 7 = v ∧ f 8 = .int .i64 (m : Int) ∧ f 9 = .int .i64 (k : Int)) (by simp; omega) ?_ ?_ ?_
  · simp only [rn0, reduceIte, Nat.reduceEqDiff, Nat.reduceAdd, Nat.reduceMul, Nat.reduceSub, Nat.reduceLeDiff, Nat.reduceLT]
    exact ⟨rfl, rfl⟩
  · rintro k f g ms hk ⟨rfl, rfl, f0, f7, f8, f9⟩
    have hk' : (k : Int) < (m : Int) := by omega
    have hw : wrapF .i64 ((k : Int) + 1) = ((k + 1 : Nat) : Int) := by rw [wrap_in (by omega) (by omega)]; rfl
    have he : min (minN x a k) (a k) = minN x a (k + 1) := rfl
    simp only [rn0, reduceIte, Nat.reduceEqDiff, Nat.reduceAdd, Nat.reduceMul, Nat.reduceSub, Nat.reduceLeDiff, Nat.reduceLT, f0, f7, f8, f9, hk', Cells.idx hi hk, Cells.ld hi hk Nat.zero_lt_one, valN_tmp, he, hw]
  · rintro f g ms ⟨rfl, rfl, f0, f7, f8, f9⟩
    simp only [rn0, reduceIte, Nat.reduceEqDiff, Nat.reduceAdd, Nat.reduceMul, Nat.reduceSub, Nat.reduceLeDiff, Nat.reduceLT, f0, f7, f8, f9, Int.lt_irrefl]
theorem minG_one (hn : 10 ≤ n) {g : AHeap} {b : Nat} {x y : Int} (hg : g.get b = some (.row [.int .i64 y] true 0)) : call n (.func (.func 142) #[] #[]) [.int .i64 x, .slice (some ⟨b, 0, none⟩) 1 1] g = some (.int .i64 (min x y), g) := by
  have hone : Ints g (.slice (some ⟨b, 0, none⟩) 1 1) 1 (fun _ => y) := ⟨_, _, rfl, fun x e => by cases e; rfl, .inr ⟨_, 0, _, _, _, rfl, hg, fun i j hi hj => by
    have hi : i = 0 := by omega
    have hj : j = 0 := by omega
    subst hi hj; rfl⟩⟩
  exact minimumG_c (n := n) (h := g) (m := 1) (by omega) (by omega) hone x
def s128 : SCode := (.seq (.ops [jO 2 (.box (T 0)), jO 4 (.alloc [(.int .i64 0), (.int .i64 0), (.int .i64 0), (.int .i64 0), (.int .i64 0), (.int .i64 0), (.int .i64 0), (.int .i64 0), (.int .i64 0), (.int .i64 0)])]) (.seq (.seq (.ops [jO 7 (.loadN 10 (T 2)), jO 8 (.mov (jK 0))]) (.block 0 (.loop (.seq (.ops [jO 9 (.int2 .lss (T 8) (jK 10))]) (.seq (.cond (T 9) .skip (.exit 0)) (.seq (.block 1 (.seq (.ops [jO 10 (.mov (T 8)), jO 11 (.plain (.index 130 (T 7) (T 8)) 3), jO 5 (.mov (T 10)), jO 6 (.mov (T 11))]) (.ops [jO 12 (.mov (T 5)), jO 13 (.mov (T 6)), jO 14 (.mov (T 1)), jO 15 (.bslice 1 1 [(.int .i64 0)] [0] [(T 14)]), jO 16 (.call (.func 142) [(T 13), (T 15)]), jO 17 (.idxArr 10 1 (T 2) (T 12)), ⟨none, none, .store 1 (T 17) (T 16)⟩]))) (.ops [jO 18 (.int2 .add (T 8) (jK 1)), jO 8 (.mov (T 18))]))))))) (.seq (.ops [jO 19 (.loadN 10 (T 2)), ⟨none, none, .store 10 (T 4) (T 19)⟩]) .ret)))
theorem fok128 : FnOk Tryz.prog 128 20 s128 [.cellN 4 10] := ⟨Tryz.f128, _, Tryz.func128, rfl, Tryz.ntmps128, by kernel_rfl, by kernel_rfl⟩
set_option maxHeartbeats 1000000 in
theorem atMost_c (hn : 40 ≤ n) (hr : h.next + 50 < far) (a : Nat → Int) (men : Int) :
    call n (.func (.func 128) #[] #[]) [.agg ⟨arrN 10 a⟩, .int .i64 men] h = some (.agg ⟨arrN 10 fun t => min (a t) men⟩, h) := by
  obtain ⟨n, rfl⟩ : ∃ p, n = p + 1 := ⟨n - 1, by omega⟩
  refine call_plain0 fok128 rfl rfl (by simp) plain_arrN ?_
  have hr : h.shutAll.next + 50 < far := hr
  have hfl : h.shutAll.floor ≤ h.shutAll.next := Nat.le_refl _
  generalize h.shutAll = h at hr hfl
  simp only [s128, jO, jF, jR, jS, jU, jA, jK, W_seq, W_ops]
  refine ops_box (cs := arrN 10 a) (by omega) rfl arrN_one fun g1 hx1 => ?_
  have n1 := hx1.next
  have f1 := hx1.floor
  simp only [rn0, reduceIte, Nat.reduceEqDiff, Nat.reduceAdd, Nat.reduceMul, Nat.reduceSub, Nat.reduceLeDiff, Nat.reduceLT]
  refine step_row (cs := arrN 10 fun _ => 0) (by omega) rfl rfl fun g2 hx2 => ?_
  have n2 := hx2.next
  have f2 := hx2.floor
  have q1 : g2.get h.next = some (.row (arrN 10 a) true 0) := by rw [hx2.old _ (by omega)]; exact hx1.get
  have q2 := hx2.get
  obtain ⟨B, hB⟩ : ∃ q, q = g1.next := ⟨_, rfl⟩
  rw [← hB] at q2
  rw [← hB]
  simp only [rn0, reduceIte, Nat.reduceEqDiff, Nat.reduceAdd, Nat.reduceMul, Nat.reduceSub, Nat.reduceLeDiff, Nat.reduceLT, arr_ld ⟨_, _, q1⟩]
  refine W_loop 10 (fun k f g ms => (g.get h.next = some (.row (arrN 10 fun t => if t < k then min (a t) men else a t) true 0) ∧ g.get B = some (.row (arrN 10 fun _ => 0) true 0) ∧ g2.next ≤ g.next ∧ g.next ≤ g2.next + k ∧ g.floor = g2.floor) ∧ ms = [] ∧ f 1 = .int .i64 men ∧ f 2 = .pointer (some ⟨h.next, 0, none⟩) ∧ f 4 = .pointer (some ⟨B, 0, none⟩) ∧ f 7 = .agg ⟨arrN 10 a⟩ ∧ f 8 = .int .i64 (k : Int)) (by simp; omega) ?_ ?_ ?_
  · simp only [rn0, reduceIte, Nat.reduceEqDiff, Nat.reduceAdd, Nat.reduceMul, Nat.reduceSub, Nat.reduceLeDiff, Nat.reduceLT, Int.natCast_zero, Nat.not_lt_zero]
    first | exact ⟨q1, q2⟩ | exact ⟨⟨q1, q2, Nat.le_refl _, Nat.le_refl _, rfl⟩, rfl⟩ | exact ⟨q1, q2, Nat.le_refl _⟩ | exact ⟨q1, q2, Nat.le_refl _, Nat.le_refl _⟩
  · rintro k f g ms hk ⟨⟨qg, qB, ug, ng, fg⟩, rfl, p1, p2, p4, p7, p8⟩
    have hk' : (k : Int) < 10 := by omega
    have hwk : wrapF .i64 ((k : Int) + 1) = ((k + 1 : Nat) : Int) := by rw [wrap_in (by omega) (by omega)]; rfl
    have he := fun (f : Go.Vm.Fr) (e1 : f 7 = .agg ⟨arrN 10 a⟩) (e2 : f 8 = .int .i64 (k : Int)) => index10 (h := g) (N := 20) (f := f) (x := T 7) (y := T 8) (ty := 3) (a := a) (k := k) (by rw [valN_tmp (by omega)]; exact e1) (by rw [valN_tmp (by omega)]; exact e2) hk
    simp only [rn0, reduceIte, Nat.reduceEqDiff, Nat.reduceAdd, Nat.reduceMul, Nat.reduceSub, Nat.reduceLeDiff, Nat.reduceLT, p1, p2, p4, p7, p8, hk']
    rw [he _ (by simp only [rn0, reduceIte, Nat.reduceEqDiff, Nat.reduceAdd, Nat.reduceMul, Nat.reduceSub, Nat.reduceLeDiff, Nat.reduceLT, p7]) (by simp only [rn0, reduceIte, Nat.reduceEqDiff, Nat.reduceAdd, Nat.reduceMul, Nat.reduceSub, Nat.reduceLeDiff, p8])]
    simp only [rn0, reduceIte, Nat.reduceEqDiff, Nat.reduceAdd, Nat.reduceMul, Nat.reduceSub, Nat.reduceLeDiff, Nat.reduceLT, p1, p2, p4, p7, p8, sl_int]
    refine step_slice (by omega) rfl fun g4 hx4 => ?_
    have n4 := hx4.next
    have f4 := hx4.floor
    have em := minG_one (n := n) (x := a k) (by omega) hx4.get
    have q4 : g4.get h.next = some (.row (arrN 10 fun t => if t < k then min (a t) men else a t) true 0) := by rw [hx4.old _ (by omega)]; exact qg
    simp only [rn0, reduceIte, Nat.reduceEqDiff, Nat.reduceAdd, Nat.reduceMul, Nat.reduceSub, Nat.reduceLeDiff, Nat.reduceLT, p1, p2, p4, p7, p8, em, idxArr_p hk, Nat.zero_add]
    refine step_store (b := h.next) (off := k) (vs := [.int .i64 (min (a k) men)]) rfl q4 (by omega) (by omega) rfl rfl rfl (by rw [arrN_len]; exact hk) fun g5 hs5 => ?_
    have n5 := hs5.next
    have f5 := hs5.floor
    have q5 := hs5.get
    rw [arrN_set hk, arrN_congr (b := fun t => if t < k + 1 then min (a t) men else a t) (fun j hj => by
      by_cases e : j = k
      · subst e; rw [if_pos rfl, if_pos (by omega)]
      · rw [if_neg e]
        by_cases e2 : j < k
        · rw [if_pos e2, if_pos (by omega)]
        · rw [if_neg e2, if_neg (by omega)])] at q5
    simp only [rn0, reduceIte, Nat.reduceEqDiff, Nat.reduceAdd, Nat.reduceMul, Nat.reduceSub, Nat.reduceLeDiff, Nat.reduceLT, p1, p2, p4, p7, p8, hwk]
    have fin := And.intro q5 (And.intro (by rw [hs5.old _ (by omega), hx4.old _ (by omega)]; exact qB : g5.get B = some (.row (arrN 10 fun _ => 0) true 0)) (And.intro (by omega : g2.next ≤ g5.next) (And.intro (by omega : g5.next ≤ g2.next + (k + 1)) (by omega : g5.floor = g2.floor))))
    first | exact fin | exact ⟨fin, rfl⟩
  · rintro f g ms ⟨⟨qg, qB, ug, ng, fg⟩, rfl, p1, p2, p4, p7, p8⟩
    have hk' : ¬ ((10 : Nat) : Int) < 10 := by decide
    rw [arrN_congr (b := fun t => min (a t) men) (fun j hj => if_pos hj)] at qg
    simp only [rn0, reduceIte, Nat.reduceEqDiff, Nat.reduceAdd, Nat.reduceMul, Nat.reduceSub, Nat.reduceLeDiff, Nat.reduceLT, p1, p2, p4, p7, p8, hk', arr_ld ⟨_, _, qg⟩]
    refine step_store (b := B) (off := 0) (vs := arrN 10 fun t => min (a t) men) rfl qB (by omega) (by omega) rfl arrN_one rfl (by simp [arrN_len]) fun g5 hs5 => ?_
    rw [splice_all (by simp [arrN_len])] at hs5
    simp only [rn0, reduceIte, Nat.reduceEqDiff, Nat.reduceAdd, Nat.reduceMul, Nat.reduceSub, Nat.reduceLeDiff, Nat.reduceLT, p4, arr_ld hs5.row]
def SureW (G : MG) (m : Nat) (vt : Nat → Nat) (hh : Nat → Int) : Prop := (∀ k, k < m → RipeS G (vt k) (hh k)) ∧ InT G vt hh G.khi m ∧ ∀ t, t ∈ List.range 10 → shN G vt hh G.khi m t ≤ G.men
noncomputable instance (G : MG) (m : Nat) (vt : Nat → Nat) (hh : Nat → Int) : Decidable (SureW G m vt hh) := Classical.propDecidable _
theorem build_f1 {F : Nat} : buildA (fun x => (#[(0, 1)] : Array (Nat × Nat))[x]?) ⟨[.nilFunc]⟩ [0] h [.func (.func F) #[] #[]] = some (.agg ⟨[.func (.func F) #[] #[]]⟩, h) := id rfl
theorem khi_s {G : MG} (hG : GoodG G) : ∀ v, v < G.nk → 0 ≤ G.khi v ∧ G.khi v ≤ 4 := fun v hv => by have := (hG.works v hv).2; omega
theorem klo_s {G : MG} (hG : GoodG G) : ∀ v, v < G.nk → 0 ≤ G.klo v ∧ G.klo v ≤ 4 := fun v hv => by have := (hG.works v hv).2; omega
theorem high_h {G : MG} (hn : 1 ≤ n) : ∀ g : AHeap, g.next < far → ∀ k, k < G.nk → call n (.func (.func 84) #[] #[]) [.agg ⟨[.int .i64 (G.klo k), .int .i64 (G.khi k)]⟩] g = some (.int .i64 (G.khi k), g) := fun g hg k hk => high_c hn hg _ _
theorem low_h {G : MG} (hn : 1 ≤ n) : ∀ g : AHeap, g.next < far → ∀ k, k < G.nk → call n (.func (.func 86) #[] #[]) [.agg ⟨[.int .i64 (G.klo k), .int .i64 (G.khi k)]⟩] g = some (.int .i64 (G.klo k), g) := fun g hg k hk => low_c hn hg _ _
structure Crew (h : AHeap) (wv vv sv kv : Value) (r : Nat) (G : MG) : Prop where
  y : GangR h wv vv sv kv G
  m : MapB h r key2 (rip G G.nk)
  good : GoodG G
theorem Crew.old {g : AHeap} {wv vv sv kv : Value} {r : Nat} {G : MG} (hc : Crew h wv vv sv kv r G) (ho : ∀ i, i < h.next → g.get i = h.get i) : Crew g wv vv sv kv r G := ⟨hc.y.mono (AHeap.subOf ho), hc.m.keep (ho _ hc.m.lt), hc.good⟩
theorem Crew.shut {wv vv sv kv : Value} {r : Nat} {G : MG} (hc : Crew h wv vv sv kv r G) : Crew h.shutAll wv vv sv kv r G := hc.old fun _ _ => rfl
def s95 : SCode := (.seq (.ops [jO 2 (.box (T 0)), jO 4 (.mov (.const (.bool false)))]) (.seq (.seq (.ops [jO 7 (.mov (T 1)), jO 8 (.loadN 11 (T 2)), jO 9 (.mkfunc 87 [(T 8)] []), jO 10 (.call (.func 121) [(T 7), (T 9)]), jO 11 (.not (T 10))]) (.cond (T 11) (.seq (.ops [jO 4 (.mov (.const (.bool false)))]) .ret) .skip)) (.seq (.draw [jR 13 (.loadN 11 (T 2)), jF 14 (.mov (T 1)), jF 15 (.build #[(0, 1)] [.nilFunc] [0] [(.func 84)]), jF 16 (.fieldAddr 0 (T 2)), jF 17 (.fieldAddr 9 (T 16)), jS 18 (.load1 (T 17)), jU 19 (.call (.func 85) [(T 15), (T 18)]), jA 20 (.call (.func 78) [(T 13), (T 14), (T 19)]), jF 12 (.mov (T 20)), jF 21 (.extract 0 (T 12)), jF 22 (.extract 1 (T 12)), jA 5 (.alloc [(.int .i64 0), (.int .i64 0), (.int .i64 0), (.int .i64 0), (.int .i64 0), (.int .i64 0), (.int .i64 0), (.int .i64 0), (.int .i64 0), (.int .i64 0)]), ⟨.any, ⟨none, none, .store 10 (T 5) (T 21)⟩⟩, jF 6 (.mov (T 22))]) (.seq (.draw [jF 23 (.mov (T 6)), jF 24 (.mov (T 23)), ⟨.rd, ⟨some 25, (some (24, true)), .loadN 10 (T 5)⟩⟩, ⟨.rd1, ⟨some 26, (some (24, true)), .loadN 10 (T 5)⟩⟩, ⟨.free, ⟨some 27, (some (24, true)), .fieldAddr 0 (T 2)⟩⟩, ⟨.free, ⟨some 28, (some (24, true)), .fieldAddr 7 (T 27)⟩⟩, ⟨.rd1, ⟨some 29, (some (24, true)), .load1 (T 28)⟩⟩, ⟨.up, ⟨some 30, (some (24, true)), .call (.func 128) [(T 26), (T 29)]⟩⟩, ⟨.free, ⟨some 31, (some (24, true)), .bin .eql (.binOp .eql 130 (T 25) (T 30) 130) 4 (T 25) (T 30)⟩⟩, jF 32 (.pick (T 24) (T 31) (.const (.bool false))), jF 4 (.mov (T 32))]) .ret))))
theorem fok95 : FnOk Tryz.prog 95 33 s95 [.tmp 4] := ⟨Tryz.f95, _, Tryz.func95, rfl, Tryz.ntmps95, by kernel_rfl, by kernel_rfl⟩
set_option maxHeartbeats 2000000 in
theorem isSure_c (hn : 110 ≤ n) (hr : h.next + 200 < far) {wv vv sv kv pv : Value} {G : MG} {r m : Nat} {vt : Nat → Nat} {hh : Nat → Int} (hc : Crew h wv vv sv kv r G) (hp : Ranges h pv m (fun k => (vt k : Int)) hh) (hm : MomOk G m vt hh) :
    call n (.func (.func 95) #[] #[]) [.agg ⟨crL G wv vv sv kv (.map (some r))⟩, pv] h = some (.bool (decide (SureW G m vt hh)), h) := by
  classical
  obtain ⟨n, rfl⟩ : ∃ p, n = p + 1 := ⟨n - 1, by omega⟩
  refine call_plain0 fok95 rfl rfl (by simp) rfl ?_
  have hc := hc.shut
  have hp := Cells.shut hp
  have hr : h.shutAll.next + 200 < far := hr
  have hfl : h.shutAll.floor ≤ h.shutAll.next := Nat.le_refl _
  generalize h.shutAll = h at hc hp hr hfl
  obtain ⟨z0, z1, z4, z5, _, _, zc0, zc9⟩ := hc.good.sizes
  have hG := hc.good
  simp only [s95, jO, jF, jR, jS, jU, jA, jK, W_seq, W_ops]
  refine ops_box (cs := crL G wv vv sv kv (.map (some r))) (by omega) rfl (cr_one hc.y rfl) fun g1 hx1 => ?_
  have n1 := hx1.next
  have f1 := hx1.floor
  have hc1 := hc.old hx1.old
  have r1 := hx1.row
  have hp1 : Ranges g1 pv m (fun k => (vt k : Int)) hh := Cells.mono hp hx1.sub
  have ee := everyMom_c (n := n) (h := g1) (ok := .func (.func 87) ⟨[.agg ⟨crL G wv vv sv kv (.map (some r))⟩]⟩ #[]) (p := fun i => RipeS G (vt i) (hh i)) (by omega) (by omega) hp1 (by have := hm.1; omega) (fun g' og ug lg i hi => by
    have hn' : g1.shutAll.next = g1.next := rfl
    have hcg := hc1.shut.old og
    exact ⟨_, rip_iff (hm.2 i hi).1, isRipeB_c (n := n - 1) (h := g') (by omega) (by omega) hcg.y hcg.m (vt i) (hh i)⟩)
  by_cases c1 : ∀ i, i < m → RipeS G (vt i) (hh i)
  case neg =>
    have : ¬ SureW G m vt hh := fun e => c1 e.1
    simp only [rn0, reduceIte, Nat.reduceEqDiff, Nat.reduceAdd, Nat.reduceMul, Nat.reduceSub, Nat.reduceLeDiff, Nat.reduceLT, r1.whole (n := 11) rfl, ee, eq_false c1, this]
  obtain ⟨hv, g2, e2, ih, oh, o2, u2, m2, f2⟩ := endHours_c (n := n) (h := g1) (by omega) (by omega) (by omega) hc1.y (by omega) (high_h (by omega))
  have s12 : Sub All g1 g2 := AHeap.subOf o2
  have hc2 := hc1.old o2
  have hp2 : Ranges g2 pv m (fun k => (vt k : Int)) hh := Cells.mono hp1 s12
  have ep := playW_c (n := n) (h := g2) (mv := .map (some r)) (by omega) (by omega) hc2.y hG rfl hp2 hm ih (Nat.le_refl _) (khi_s hG)
  obtain ⟨a, ha⟩ : ∃ a : Nat → Int, a = fun t => if InT G vt hh G.khi m then shN G vt hh G.khi m t else 0 := ⟨_, rfl⟩
  rw [← ha] at ep
  have hkv : eqV kv kv = true := Cells.self hc1.y.k
  have hcs : eqV (.agg ⟨crL G wv vv sv kv (.map (some r))⟩) (.agg ⟨crL G wv vv sv kv (.map (some r))⟩) = true := by
    have hmm : eqCell (.map (some r)) (.map (some r)) = true := by simp [eqCell]
    simp [crL, eqV, eqCells, eqC_int, Cells.selfC hc.y.s.w, Cells.selfC hc.y.s.v, Cells.selfC hc.y.s.s, Cells.selfC hc.y.k, hmm]
  simp only [rn0, reduceIte, Nat.reduceEqDiff, Nat.reduceAdd, Nat.reduceMul, Nat.reduceSub, Nat.reduceLeDiff, Nat.reduceLT, r1.whole (n := 11) rfl, ee, eq_true c1]
  refine W_draw All ?_
  simp only [rn0, reduceIte, Nat.reduceEqDiff, Nat.reduceAdd, Nat.reduceMul, Nat.reduceSub, Nat.reduceLeDiff, Nat.reduceLT, r1.whole (n := 11) rfl, r1.ld, crg, Nat.zero_add, hcs, hkv, build_f1, e2, ep, ex0, ex1]
  first | refine ⟨u2, ?_⟩ | refine ⟨⟨u2, s12⟩, ?_⟩ | skip
  refine up_row (cs := arrN 10 fun _ => 0) (by omega) rfl rfl (fun _ _ => trivial) fun g3 hx3 => ?_
  have n3 := hx3.next
  have f3 := hx3.floor
  simp only [rn0, reduceIte, Nat.reduceEqDiff, Nat.reduceAdd, Nat.reduceMul, Nat.reduceSub, Nat.reduceLeDiff, Nat.reduceLT]
  refine up_store (b := g2.next) (off := 0) (vs := arrN 10 a) rfl hx3.get (by omega) (by omega) rfl arrN_one rfl (by simp [arrN_len]) (fun _ _ => trivial) fun g4 hs4 => ?_
  rw [splice_all (by simp [arrN_len])] at hs4
  have n4 := hs4.next
  have f4 := hs4.floor
  have r4 := hs4.row
  have o4 : ∀ i, i < g2.next → g4.get i = g2.get i := fun i hi => by rw [hs4.old i (by omega), hx3.old i hi]
  have r14 := (r1.mono s12).mono (AHeap.subOf o4)
  have em := atMost_c (n := n) (h := g4) (by omega) (by omega) a G.men
  have hself : eqV (.agg ⟨arrN 10 a⟩) (.agg ⟨arrN 10 a⟩) = true := by simp [arrN, List.range_succ, eqV, eqCells, eqC_int]
  have he := fun (f : Go.Vm.Fr) (g : AHeap) (e1 : f 25 = .agg ⟨arrN 10 a⟩) (e2 : f 30 = .agg ⟨arrN 10 fun t => min (a t) G.men⟩) => eqArr10 (h := g) (N := 33) (f := f) (x := T 25) (y := T 30) (ty := 4) (u := 130) (a := a) (b := fun t => min (a t) G.men) (by rw [valN_tmp (by omega)]; exact e1) (by rw [valN_tmp (by omega)]; exact e2)
  by_cases c2 : InT G vt hh G.khi m
  case neg =>
    have : ¬ SureW G m vt hh := fun e => c2 e.2.1
    simp only [rn0, reduceIte, Nat.reduceEqDiff, Nat.reduceAdd, Nat.reduceMul, Nat.reduceSub, Nat.reduceLeDiff, Nat.reduceLT]
    refine W_draw All ?_
    simp only [rn0, reduceIte, Nat.reduceEqDiff, Nat.reduceAdd, Nat.reduceMul, Nat.reduceSub, Nat.reduceLeDiff, Nat.reduceLT, c2, d_guard, dg_tt, dg_tf, dg_ft, dg_ff, dg_un, this]
  have hiff : (∀ t, t ∈ List.range 10 → a t = min (a t) G.men) ↔ SureW G m vt hh := by
    rw [ha]
    simp only [if_pos c2]
    constructor
    · intro q
      exact ⟨c1, c2, fun t ht => by have := q t ht; omega⟩
    · intro q t ht
      have := q.2.2 t ht
      omega
  have hd : decide (∀ t, t ∈ List.range 10 → a t = min (a t) G.men) = decide (SureW G m vt hh) := decide_eq_decide.2 hiff
  simp only [rn0, reduceIte, Nat.reduceEqDiff, Nat.reduceAdd, Nat.reduceMul, Nat.reduceSub, Nat.reduceLeDiff, Nat.reduceLT]
  refine W_draw All ?_
  simp only [rn0, reduceIte, Nat.reduceEqDiff, Nat.reduceAdd, Nat.reduceMul, Nat.reduceSub, Nat.reduceLeDiff, Nat.reduceLT, c2, d_guard, dg_tt, dg_tf, dg_ft, dg_ff, dg_un, arr_ld r4, hself, r14.ld, crg, Nat.zero_add, eqV_int, em, x_binA, binA_agg]
  rw [he _ _ (by simp only [rn0, reduceIte, Nat.reduceEqDiff, Nat.reduceAdd, Nat.reduceMul, Nat.reduceSub, Nat.reduceLeDiff, Nat.reduceLT]) (by simp only [rn0, reduceIte, Nat.reduceEqDiff, Nat.reduceAdd, Nat.reduceMul, Nat.reduceSub, Nat.reduceLeDiff])]
  simp only [rn0, reduceIte, Nat.reduceEqDiff, Nat.reduceAdd, Nat.reduceMul, Nat.reduceSub, Nat.reduceLeDiff, Nat.reduceLT, d_guard, dg_tt, dg_tf, dg_ft, dg_ff, dg_un]
  rw [hd]
end Go.Vm.St
