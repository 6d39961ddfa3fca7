/- Texts of the proofs of this seat, put together: StC, StOnward. -/
import Derived.Test.YtffgdpkogokdhaaPk13
import Derived.Test.YtffgdpkogokdhaaRows
import Derived.WalkKit
import Derived.ProofKit
import Derived.OpenShut

namespace Go.Vm.St
open Go.Vm.Vat Go.Proofs Go.ChangeShapes Go.WideShapes Go.ChangeAt Go.RowKit
set_option linter.unusedSimpArgs false
set_option linter.unusedVariables false
set_option maxRecDepth 10000
variable {n : Nat} {h : AHeap}
/-! ### The calls of this program are sound -/
theorem own : ownKnob Try.prog.godebug = none := by kernel_rfl
theorem mixedOn : Try.prog.follows .mixedOrders = true := by kernel_rfl
theorem namesAll : (Try.prog.funcs.toList.all fun fn => !(fn.name == "runtime.NumGoroutine")) = true := by kernel_rfl
theorem namesFine : NamesFine Try.prog := by
  intro f fn hf
  have h := List.all_eq_true.1 namesAll fn (Array.mem_toList_iff.2 (Array.mem_of_getElem? hf))
  simpa using h
theorem tabOk : ∀ E ∈ StAwake.tab, ∃ cf, SoundCF Try.prog cf ∧ entryOk cf E = true := by
  have hs := vm_sound namesFine mixedOn StAwake.quiet 1000
  intro E hE
  refine ⟨_, hs, ?_⟩
  revert E
  simp only [StAwake.tab, List.forall_mem_cons, List.not_mem_nil, false_implies, implies_true, and_true]
  exact ⟨StAwake.ok0, StAwake.ok1, StAwake.ok2, StAwake.ok3, StAwake.ok4, StAwake.ok5, StAwake.ok6, StAwake.ok7, StAwake.ok8⟩
theorem kOk : KOk Try.prog K := by
  intro f v hK
  unfold K at hK
  split at hK
  · rename_i e
    subst e
    cases hK
    refine ⟨rfl, acallO Try.prog StAwake.quiet StAwake.tab 1000, ?_⟩
    have hm := StAwake.main_ok
    cases hr : acallO Try.prog StAwake.quiet StAwake.tab 1000 (.func (.func 24) #[] #[]) [] AHeap.empty with
    | none => rw [hr] at hm; cases hm
    | some vh =>
      obtain ⟨v, h'⟩ := vh
      rw [hr] at hm
      unfold StAwake.isTrue at hm
      split at hm
      · rename_i e
        cases e
        exact ⟨h', acallO_sound namesFine mixedOn StAwake.quiet tabOk 1000, rfl⟩
      · cases hm
  · cases hK
theorem sound (n : Nat) : SoundCF Try.prog (call n) := pcall_sound namesFine mixedOn kOk n
/-! ### The statements' arguments -/
theorem laidOk : laidOutB Try.prog = true := by kernel_rfl
theorem mapsOk : mapsRowed Try.prog = true := by kernel_rfl
theorem slicesOk : ((List.range Try.prog.types.size).all fun t => match Try.prog.underlying t with | some (.slice e) => decide (0 < Try.prog.cellsOf e) | _ => true) = true := by kernel_rfl
theorem kids : Kids Try.prog (· < Try.prog.types.size) := kids_rows laidOk mapsOk
theorem tsize : 120 < Try.prog.types.size := of_decide_eq_true (by kernel_rfl)
theorem cell_int {P : Program} {w : World} {r : Reach} {b : Nat} {t : TypeId} {k : IntKind} {v x : Value} (ht : P.underlying t = some (.int k)) (ho : Value.okWide P w r b t v) (hc : v.cells.toList = [x]) : v = x := by
  unfold Value.okWide at ho
  rw [ht] at ho
  cases v <;> simp_all [Value.cells, Cell.okWide, Cell.ok]
theorem agg_struct {P : Program} {w : World} {r : Reach} {b : Nat} {t : TypeId} {fs : Array Field} {v : Value} {cs : List Value} (ht : P.underlying t = some (.struct fs)) (ho : Value.okWide P w r b t v) (hc : v.cells.toList = cs) : v = .agg ⟨cs⟩ := by
  unfold Value.okWide at ho
  rw [ht] at ho
  obtain ⟨cs', rfl, _⟩ := ho
  subst hc
  rfl
theorem map_int {φ : Emb} {k : IntKind} {a : Int} : mapV φ (.int k a) = .int k a := by simp [mapV]
theorem stands_steep {w : World} {φ : Emb} {a b c d : Int} {u0 u1 u2 fv vv sv : Value} (h0 : Stands φ h u0 fv) (h1 : Stands φ h u1 vv) (h2 : Stands φ h u2 sv) : mapV φ (.agg ⟨[.int .i64 a, .int .i64 b, u0, .int .i64 c, .int .i64 d, u1, u2]⟩) = .agg ⟨[.int .i64 a, .int .i64 b, fv, .int .i64 c, .int .i64 d, vv, sv]⟩ ∧ okV φ h.next (.agg ⟨[.int .i64 a, .int .i64 b, u0, .int .i64 c, .int .i64 d, u1, u2]⟩) := by
  refine ⟨?_, ?_⟩
  · simp only [mapV, mapArr, mapL, h0.map, h1.map, h2.map]
  · simp only [okV, okA, okL, and_true, true_and]
    exact ⟨h0.ok, h1.ok, h2.ok⟩
end Go.Vm.St

namespace Go.Vm.St
open Go.Proofs Go.Vm.Vat
set_option linter.unusedSimpArgs false
set_option linter.unusedVariables false
set_option maxRecDepth 10000
variable {n : Nat} {h : AHeap}
def s13 : SCode := (.seq (.ops [⟨(some 2), none, .box (T 0)⟩, ⟨(some 4), none, .mov (.const (.bool false))⟩]) (.seq (.seq (.ops [⟨(some 10), none, .loadN 7 (T 2)⟩, ⟨(some 11), none, .call (.func 59) [(T 10)]⟩, ⟨(some 12), none, .not (T 11)⟩]) (.cond (T 12) (.seq (.ops [⟨(some 13), none, .call (.func 24) []⟩, ⟨(some 4), none, .mov (T 13)⟩]) .ret) .skip)) (.seq (.draw [⟨.rd1, ⟨(some 15), none, .loadN 7 (T 2)⟩⟩, ⟨.up, ⟨(some 16), none, .call (.func 26) [(T 15)]⟩⟩, ⟨.rd, ⟨(some 17), none, .loadN 7 (T 2)⟩⟩, ⟨.free, ⟨(some 18), none, .mov (T 1)⟩⟩, ⟨.free, ⟨(some 19), none, .plain (.convert 90 3 (T 18)) 3⟩⟩, ⟨.rd, ⟨(some 20), none, .loadN 7 (T 2)⟩⟩, ⟨.up, ⟨(some 21), none, .call (.func 64) [(T 20)]⟩⟩, ⟨.free, ⟨(some 22), none, .plain (.binOp .rem 3 (T 19) (T 21) 3) 3⟩⟩, ⟨.any, ⟨(some 23), none, .call (.func 63) [(T 17), (T 22)]⟩⟩, ⟨.any, ⟨(some 24), none, .call (.func 27) [(T 23)]⟩⟩, ⟨.any, ⟨(some 25), none, .call (.func 25) [(T 16), (T 24)]⟩⟩, ⟨.free, ⟨(some 14), none, .mov (T 25)⟩⟩, ⟨.free, ⟨(some 26), none, .extract 0 (T 14)⟩⟩, ⟨.free, ⟨(some 27), none, .extract 1 (T 14)⟩⟩, ⟨.free, ⟨(some 28), none, .extract 2 (T 14)⟩⟩, ⟨.free, ⟨(some 5), none, .mov (T 26)⟩⟩, ⟨.free, ⟨(some 6), none, .mov (T 27)⟩⟩, ⟨.free, ⟨(some 7), none, .mov (T 28)⟩⟩]) (.seq (.seq (.ops [⟨(some 29), none, .mov (T 7)⟩, ⟨(some 30), none, .int2 .neq (T 29) (.const (.int .i64 (0)))⟩, ⟨(some 31), none, .mov (T 30)⟩, ⟨(some 32), (some (31, false)), .mov (T 5)⟩, ⟨(some 33), (some (31, false)), .len (T 32)⟩, ⟨(some 34), (some (31, false)), .fieldAddr 5 (T 2)⟩, ⟨(some 35), (some (31, false)), .load1 (T 34)⟩, ⟨(some 36), (some (31, false)), .len (T 35)⟩, ⟨(some 37), (some (31, false)), .int2 .neq (T 33) (T 36)⟩, ⟨(some 38), none, .pick (T 31) (.const (.bool true)) (T 37)⟩, ⟨(some 39), none, .mov (T 38)⟩, ⟨(some 40), (some (39, false)), .mov (T 6)⟩, ⟨(some 41), (some (39, false)), .len (T 40)⟩, ⟨(some 42), (some (39, false)), .mov (T 5)⟩, ⟨(some 43), (some (39, false)), .len (T 42)⟩, ⟨(some 44), (some (39, false)), .int2 .neq (T 41) (T 43)⟩, ⟨(some 45), none, .pick (T 39) (.const (.bool true)) (T 44)⟩]) (.cond (T 45) (.seq (.ops [⟨(some 4), none, .mov (.const (.bool false))⟩]) .ret) .skip)) (.seq (.seq (.ops [⟨(some 8), none, .mov (.const (.int .i64 (0)))⟩]) (.block 0 (.loop (.seq (.seq (.ops [⟨(some 46), none, .mov (T 8)⟩, ⟨(some 47), none, .mov (T 5)⟩, ⟨(some 48), none, .len (T 47)⟩, ⟨(some 49), none, .int2 .lss (T 46) (T 48)⟩]) (.cond (T 49) .skip (.exit 0))) (.seq (.block 1 (.seq (.seq (.draw [⟨.free, ⟨(some 52), none, .mov (T 5)⟩⟩, ⟨.free, ⟨(some 53), none, .mov (T 8)⟩⟩, ⟨.free, ⟨(some 54), none, .idxSl 1 (T 52) (T 53)⟩⟩, ⟨.rd1, ⟨(some 55), none, .load1 (T 54)⟩⟩, ⟨.free, ⟨(some 56), none, .len (T 55)⟩⟩, ⟨.free, ⟨(some 57), none, .mov (T 6)⟩⟩, ⟨.free, ⟨(some 58), none, .mov (T 8)⟩⟩, ⟨.free, ⟨(some 59), none, .idxSl 1 (T 57) (T 58)⟩⟩, ⟨.rd1, ⟨(some 60), none, .load1 (T 59)⟩⟩, ⟨.free, ⟨(some 61), none, .len (T 60)⟩⟩, ⟨.free, ⟨(some 62), none, .int2 .neq (T 56) (T 61)⟩⟩, ⟨.free, ⟨(some 63), none, .mov (T 62)⟩⟩, ⟨.free, ⟨(some 64), (some (63, false)), .mov (T 5)⟩⟩, ⟨.free, ⟨(some 65), (some (63, false)), .mov (T 8)⟩⟩, ⟨.free, ⟨(some 66), (some (63, false)), .idxSl 1 (T 64) (T 65)⟩⟩, ⟨.rd1, ⟨(some 67), (some (63, false)), .load1 (T 66)⟩⟩, ⟨.free, ⟨(some 68), (some (63, false)), .len (T 67)⟩⟩, ⟨.free, ⟨(some 69), (some (63, false)), .fieldAddr 0 (T 2)⟩⟩, ⟨.rd1, ⟨(some 70), (some (63, false)), .load1 (T 69)⟩⟩, ⟨.free, ⟨(some 71), (some (63, false)), .fieldAddr 5 (T 2)⟩⟩, ⟨.rd1, ⟨(some 72), (some (63, false)), .load1 (T 71)⟩⟩, ⟨.free, ⟨(some 73), (some (63, false)), .mov (T 8)⟩⟩, ⟨.free, ⟨(some 74), (some (63, false)), .idxSl 4 (T 72) (T 73)⟩⟩, ⟨.free, ⟨(some 75), (some (63, false)), .fieldAddr 0 (T 74)⟩⟩, ⟨.rd1, ⟨(some 76), (some (63, false)), .load1 (T 75)⟩⟩, ⟨.free, ⟨(some 77), (some (63, false)), .int2 .sub (T 70) (T 76)⟩⟩, ⟨.free, ⟨(some 78), (some (63, false)), .int2 .add (T 77) (.const (.int .i64 (1)))⟩⟩, ⟨.free, ⟨(some 79), (some (63, false)), .int2 .neq (T 68) (T 78)⟩⟩, ⟨.free, ⟨(some 80), none, .pick (T 63) (.const (.bool true)) (T 79)⟩⟩]) (.cond (T 80) (.seq (.ops [⟨(some 4), none, .mov (.const (.bool false))⟩]) .ret) .skip)) (.seq (.ops [⟨(some 9), none, .mov (.const (.int .i64 (1)))⟩]) (.block 2 (.loop (.seq (.seq (.ops [⟨(some 81), none, .mov (T 9)⟩, ⟨(some 82), none, .mov (T 5)⟩, ⟨(some 83), none, .mov (T 8)⟩, ⟨(some 84), none, .idxSl 1 (T 82) (T 83)⟩, ⟨(some 85), none, .load1 (T 84)⟩, ⟨(some 86), none, .len (T 85)⟩, ⟨(some 87), none, .int2 .lss (T 81) (T 86)⟩]) (.cond (T 87) .skip (.exit 2))) (.seq (.block 3 (.seq (.draw [⟨.free, ⟨(some 90), none, .mov (T 5)⟩⟩, ⟨.free, ⟨(some 91), none, .mov (T 8)⟩⟩, ⟨.free, ⟨(some 92), none, .idxSl 1 (T 90) (T 91)⟩⟩, ⟨.rd1, ⟨(some 93), none, .load1 (T 92)⟩⟩, ⟨.free, ⟨(some 94), none, .mov (T 9)⟩⟩, ⟨.free, ⟨(some 95), none, .idxSl 1 (T 93) (T 94)⟩⟩, ⟨.rd1, ⟨(some 96), none, .load1 (T 95)⟩⟩, ⟨.free, ⟨(some 97), none, .mov (T 5)⟩⟩, ⟨.free, ⟨(some 98), none, .mov (T 8)⟩⟩, ⟨.free, ⟨(some 99), none, .idxSl 1 (T 97) (T 98)⟩⟩, ⟨.rd1, ⟨(some 100), none, .load1 (T 99)⟩⟩, ⟨.free, ⟨(some 101), none, .mov (T 9)⟩⟩, ⟨.free, ⟨(some 102), none, .int2 .sub (T 101) (.const (.int .i64 (1)))⟩⟩, ⟨.free, ⟨(some 103), none, .idxSl 1 (T 100) (T 102)⟩⟩, ⟨.rd1, ⟨(some 104), none, .load1 (T 103)⟩⟩, ⟨.free, ⟨(some 105), none, .int2 .lss (T 96) (T 104)⟩⟩, ⟨.free, ⟨(some 106), none, .mov (T 105)⟩⟩, ⟨.free, ⟨(some 107), (some (106, false)), .mov (T 6)⟩⟩, ⟨.free, ⟨(some 108), (some (106, false)), .mov (T 8)⟩⟩, ⟨.free, ⟨(some 109), (some (106, false)), .idxSl 1 (T 107) (T 108)⟩⟩, ⟨.rd1, ⟨(some 110), (some (106, false)), .load1 (T 109)⟩⟩, ⟨.free, ⟨(some 111), (some (106, false)), .mov (T 9)⟩⟩, ⟨.free, ⟨(some 112), (some (106, false)), .idxSl 1 (T 110) (T 111)⟩⟩, ⟨.rd1, ⟨(some 113), (some (106, false)), .load1 (T 112)⟩⟩, ⟨.free, ⟨(some 114), (some (106, false)), .mov (T 6)⟩⟩, ⟨.free, ⟨(some 115), (some (106, false)), .mov (T 8)⟩⟩, ⟨.free, ⟨(some 116), (some (106, false)), .idxSl 1 (T 114) (T 115)⟩⟩, ⟨.rd1, ⟨(some 117), (some (106, false)), .load1 (T 116)⟩⟩, ⟨.free, ⟨(some 118), (some (106, false)), .mov (T 9)⟩⟩, ⟨.free, ⟨(some 119), (some (106, false)), .int2 .sub (T 118) (.const (.int .i64 (1)))⟩⟩, ⟨.free, ⟨(some 120), (some (106, false)), .idxSl 1 (T 117) (T 119)⟩⟩, ⟨.rd1, ⟨(some 121), (some (106, false)), .load1 (T 120)⟩⟩, ⟨.free, ⟨(some 122), (some (106, false)), .int2 .lss (T 113) (T 121)⟩⟩, ⟨.free, ⟨(some 123), none, .pick (T 106) (.const (.bool true)) (T 122)⟩⟩]) (.cond (T 123) (.seq (.ops [⟨(some 4), none, .mov (.const (.bool false))⟩]) .ret) .skip))) (.ops [⟨(some 88), none, .mov (T 9)⟩, ⟨(some 89), none, .int2 .add (T 88) (.const (.int .i64 (1)))⟩, ⟨(some 9), none, .mov (T 89)⟩])))))))) (.ops [⟨(some 50), none, .mov (T 8)⟩, ⟨(some 51), none, .int2 .add (T 50) (.const (.int .i64 (1)))⟩, ⟨(some 8), none, .mov (T 51)⟩])))))) (.seq (.ops [⟨(some 124), none, .call (.func 24) []⟩, ⟨(some 4), none, .mov (T 124)⟩]) .ret))))))
theorem fok13 : FnOk Try.prog 13 125 s13 [.tmp 4] := ⟨Try.f13, _, Try.func13, rfl, Try.ntmps13, by kernel_rfl, by kernel_rfl⟩
set_option maxHeartbeats 1000000 in
theorem onward_c (hn : 200 ≤ n) (hr : h.next + 5000 < far) (hfl : h.floor ≤ h.next) {wv vv sv : Value} {S : MS} (hy : SteepR h wv vv sv S) (a0 : Int) (wf0 : (Lit.int .u16 a0).wf = true) :
    ∃ v h', call n (.func (.func 13) #[] #[]) [.agg ⟨stL S wv vv sv⟩, .int .u16 a0] h = some (v, h') ∧ v = .bool true := by
  obtain ⟨n, rfl⟩ : ∃ p, n = p + 1 := ⟨n - 1, by omega⟩
  obtain ⟨w, rfl, hw16⟩ := wf16 wf0
  refine call_any0 fok13 rfl rfl (by simp) ?_
  simp only [s13, W_seq, W_ops]
  refine ops_box (cs := stL S wv vv sv) (by omega) rfl hy.one fun g1 hx1 => ?_
  have n1 := hx1.next
  have f1 := hx1.floor
  have hy1 := hy.mono hx1.sub
  have r1 := hx1.row
  have er := ready_c (n := n) (h := g1) (by omega) (by omega) hy1
  by_cases hTf : ThinS S ∧ faultS S = 0
  case neg =>
    simp only [rn0, rn1, rn2, rn3, rn4, rn5, rn6, rn7, rn8, if_true, if_false, Nat.le_refl, true_and, and_true, decide_true, decide_false, Bool.not_true, Bool.not_false, reduceIte, Nat.reduceEqDiff, Nat.reduceAdd, Nat.reduceMul, Nat.reduceSub, Nat.reduceLeDiff, Nat.reduceLT, r1.whole (n := 7) rfl, er, hTf, awake_c (n := n) (h := g1) (by omega)]
  obtain ⟨hT, hf⟩ := hTf
  have hG := good_of hf
  obtain ⟨mp1, mp2⟩ := many_pos hG
  obtain ⟨_, _, zw, zw6, zv4, _⟩ := hG.sizes
  have hdt : decide (ThinS S ∧ faultS S = 0) = true := decide_eq_true ⟨hT, hf⟩
  rw [hdt] at er
  obtain ⟨w2, v2, s2, g2, e2, hy2, o2, u2, m2, f2⟩ := steepL_c (n := n) (h := g1) (by omega) (by omega) (by omega) hy1 hT
  have sub2 : Sub All g1 g2 := AHeap.subOf o2
  have em := many_c (n := n) (h := g2) (by omega) (by omega) (hy1.mono sub2) hG.args (by omega)
  have z1 : ¬ manyS S = 0 := by omega
  obtain ⟨k, hk⟩ : ∃ k : Nat, (w : Int).tmod (manyS S) = (k : Int) := ⟨((w : Int).tmod (manyS S)).toNat, by have := Int.tmod_nonneg (manyS S) (a := (w : Int)) (by omega); omega⟩
  have hk2 : k ≤ 100000 := by have := Int.tmod_lt_of_pos (w : Int) (b := manyS S) (by omega); omega
  obtain ⟨tw, tf, g3, e3, ht3, o3, u3, m3, f3, _, _⟩ := nth_c (n := n) (h := g2) (by omega) (by omega) (by omega) (hy1.mono sub2) hG hk2
  have sub3 : Sub All g2 g3 := AHeap.subOf o3
  have hu := nthU_in (S := S) (m := k) hG
  obtain ⟨tw4, tf4, g4, e4, ht4, o4, u4, m4, f4⟩ := truthL_c (n := n) (h := g3) (by omega) (by omega) (by omega) ht3 (by omega) (sp := nthU S k S.nw)
  have sub4 : Sub All g3 g4 := AHeap.subOf o4
  obtain ⟨o, q, g5, e5, ro, rq, o5, u5, m5, f5⟩ := play_u (n := n) (h := g4) (by omega) (by omega) (by omega) ((hy2.mono sub3).mono sub4) hT hG ht4 hu
  have sub5 : Sub All g4 g5 := AHeap.subOf o5
  have sub15 : Sub All g1 g5 := sub2.trans (sub3.trans (sub4.trans sub5))
  have hy5 := hy1.mono sub15
  have r5 := r1.mono sub15
  generalize nthU S k = u at *
  obtain ⟨ra, co, io⟩ := ro
  obtain ⟨rb, cq, iq⟩ := rq
  simp only [rn0, rn1, rn2, rn3, rn4, rn5, rn6, rn7, rn8, if_true, if_false, Nat.le_refl, true_and, and_true, decide_true, decide_false, Bool.not_true, Bool.not_false, reduceIte, Nat.reduceEqDiff, Nat.reduceAdd, Nat.reduceMul, Nat.reduceSub, Nat.reduceLeDiff, Nat.reduceLT, r1.whole (n := 7) rfl, er]
  refine W_draw All ?_
  simp only [rn0, rn1, rn2, rn3, rn4, rn5, rn6, rn7, rn8, if_true, if_false, Nat.le_refl, true_and, and_true, decide_true, decide_false, Bool.not_true, Bool.not_false, reduceIte, Nat.reduceEqDiff, Nat.reduceAdd, Nat.reduceMul, Nat.reduceSub, Nat.reduceLeDiff, Nat.reduceLT, r1.whole (n := 7) rfl, e2, sub2, sub2.trans sub3, hy1.self, p_conv16, r_16 hw16, valN_tmp, valN_const, Nat.reduceLT, em, r_rem z1, p_rem, hk, e3, e4, e5, x_extract, ex30, ex31, ex32]
  refine ⟨by omega, by omega, by omega, by omega, ?_⟩
  simp only [rn0, rn1, rn2, rn3, rn4, rn5, rn6, rn7, rn8, if_true, if_false, Nat.le_refl, true_and, and_true, decide_true, decide_false, Bool.not_true, Bool.not_false, reduceIte, Nat.reduceEqDiff, Nat.reduceAdd, Nat.reduceMul, Nat.reduceSub, Nat.reduceLeDiff, Nat.reduceLT, Cells.len co, Cells.len cq, r5.ld, stg, Cells.len hy5.v]
  refine W_loop S.nv (fun k f g ms => g = g5 ∧ ms = [] ∧ f 2 = .pointer (some ⟨h.next, 0, none⟩) ∧ f 5 = o ∧ f 6 = q ∧ f 8 = .int .i64 (k : Int)) (by simp; omega) ?_ ?_ ?_
  · simp only [rn0, rn1, rn2, rn3, rn4, rn5, rn6, rn7, rn8, if_true, if_false, Nat.le_refl, true_and, and_true, decide_true, decide_false, Bool.not_true, Bool.not_false, reduceIte, Nat.reduceEqDiff, Nat.reduceAdd, Nat.reduceMul, Nat.reduceSub, Nat.reduceLeDiff, Nat.reduceLT]
    first | done | trivial
  · rintro k f g ms hk ⟨rfl, rfl, p2, p5, p6, p8⟩
    have hk' : (k : Int) < (S.nv : Int) := by omega
    have hw : wrapF .i64 ((k : Int) + 1) = ((k + 1 : Nat) : Int) := by rw [wrap_in (by omega) (by omega)]; rfl
    obtain ⟨m1', m2', m3'⟩ := hoursN_ok hG hk
    obtain ⟨⟨vb1, vb2⟩, _⟩ := hG.args.vat k hk
    have ws1 : wrapF .i64 (S.last - S.vb k) = S.last - S.vb k := wrap_in (by omega) (by omega)
    have ws2 : wrapF .i64 (S.last - S.vb k + 1) = (hoursN S k : Int) := by rw [wrap_in (by omega) (by omega), m1']
    have ia := io k hk
    have ib := iq k hk
    simp only [rn0, rn1, rn2, rn3, rn4, rn5, rn6, rn7, rn8, if_true, if_false, Nat.le_refl, true_and, and_true, decide_true, decide_false, Bool.not_true, Bool.not_false, reduceIte, Nat.reduceEqDiff, Nat.reduceAdd, Nat.reduceMul, Nat.reduceSub, Nat.reduceLeDiff, Nat.reduceLT, p2, p5, p6, p8, Cells.len co, hk']
    refine W_draw All ?_
    simp only [rn0, rn1, rn2, rn3, rn4, rn5, rn6, rn7, rn8, if_true, if_false, Nat.le_refl, true_and, and_true, decide_true, decide_false, Bool.not_true, Bool.not_false, reduceIte, Nat.reduceEqDiff, Nat.reduceAdd, Nat.reduceMul, Nat.reduceSub, Nat.reduceLeDiff, Nat.reduceLT, p2, p5, p6, p8, Cells.idx co hk, Cells.ld co hk Nat.zero_lt_one, Cells.idx cq hk, Cells.ld cq hk Nat.zero_lt_one, Cells.len ia, Cells.len ib, r5.ld, stg, Nat.zero_add, Nat.add_zero, Cells.idx hy5.v hk, Cells.fld hy5.v hk, begin_ld hy5 hk, ws1, ws2, d_guard, dg_tt, dg_tf, dg_ft, dg_ff]
    refine W_loop (hoursN S k - 1) (fun j f g' ms => g' = g ∧ ms = [] ∧ f 2 = .pointer (some ⟨h.next, 0, none⟩) ∧ f 5 = o ∧ f 6 = q ∧ f 8 = .int .i64 (k : Int) ∧ f 9 = .int .i64 ((j + 1 : Nat) : Int)) (by simp; omega) ?_ ?_ ?_
    · simp only [rn0, rn1, rn2, rn3, rn4, rn5, rn6, rn7, rn8, if_true, if_false, Nat.le_refl, true_and, and_true, decide_true, decide_false, Bool.not_true, Bool.not_false, reduceIte, Nat.reduceEqDiff, Nat.reduceAdd, Nat.reduceMul, Nat.reduceSub, Nat.reduceLeDiff, Nat.reduceLT, p2, p5, p6, p8]
      first | done | trivial | exact ⟨rfl, rfl⟩
    · rintro j f g' ms hj ⟨rfl, rfl, p2, p5, p6, p8, p9⟩
      have hj' : ((j + 1 : Nat) : Int) < (hoursN S k : Int) := by omega
      have hj1 : j + 1 < hoursN S k := by omega
      have hj0 : j < hoursN S k := by omega
      have hw1 : wrapF .i64 (((j + 1 : Nat) : Int) + 1) = ((j + 1 + 1 : Nat) : Int) := by rw [wrap_in (by omega) (by omega)]; rfl
      have hw2 : wrapF .i64 (((j + 1 : Nat) : Int) - 1) = (j : Int) := by rw [wrap_in (by omega) (by omega)]; omega
      have ho := hour_at hG hk hj0
      have ho' := hour_at hG hk hj1
      have ee : S.vb k + ((j + 1 : Nat) : Int) = S.vb k + (j : Int) + 1 := by omega
      rw [ee] at ho'
      have b1 : ¬ blueS S u k (S.vb k + ((j + 1 : Nat) : Int)) < blueS S u k (S.vb k + (j : Int)) := by
        rw [ee]; have := blue_next hG hu ho ho'; omega
      have b2 : ¬ kindS S u k (S.vb k + ((j + 1 : Nat) : Int)) < kindS S u k (S.vb k + (j : Int)) := by
        rw [ee]; have := kind_next hG hu ho ho'; omega
      simp only [rn0, rn1, rn2, rn3, rn4, rn5, rn6, rn7, rn8, if_true, if_false, Nat.le_refl, true_and, and_true, decide_true, decide_false, Bool.not_true, Bool.not_false, reduceIte, Nat.reduceEqDiff, Nat.reduceAdd, Nat.reduceMul, Nat.reduceSub, Nat.reduceLeDiff, Nat.reduceLT, p2, p5, p6, p8, p9, Cells.idx co hk, Cells.ld co hk Nat.zero_lt_one, Cells.len ia, hj']
      refine W_draw All ?_
      simp only [rn0, rn1, rn2, rn3, rn4, rn5, rn6, rn7, rn8, if_true, if_false, Nat.le_refl, true_and, and_true, decide_true, decide_false, Bool.not_true, Bool.not_false, reduceIte, Nat.reduceEqDiff, Nat.reduceAdd, Nat.reduceMul, Nat.reduceSub, Nat.reduceLeDiff, Nat.reduceLT, p2, p5, p6, p8, p9, Cells.idx co hk, Cells.ld co hk Nat.zero_lt_one, Cells.idx cq hk, Cells.ld cq hk Nat.zero_lt_one, Cells.idx ia hj1, Cells.ld ia hj1 Nat.zero_lt_one, Cells.idx ia hj0, Cells.ld ia hj0 Nat.zero_lt_one, Cells.idx ib hj1, Cells.ld ib hj1 Nat.zero_lt_one, Cells.idx ib hj0, Cells.ld ib hj0 Nat.zero_lt_one, hw1, hw2, b1, b2, d_guard, dg_tt, dg_tf, dg_ft, dg_ff]
    · rintro f g' ms ⟨rfl, rfl, p2, p5, p6, p8, p9⟩
      have he : ((hoursN S k - 1 + 1 : Nat) : Int) = (hoursN S k : Int) := by omega
      rw [he] at p9
      simp only [rn0, rn1, rn2, rn3, rn4, rn5, rn6, rn7, rn8, if_true, if_false, Nat.le_refl, true_and, and_true, decide_true, decide_false, Bool.not_true, Bool.not_false, reduceIte, Nat.reduceEqDiff, Nat.reduceAdd, Nat.reduceMul, Nat.reduceSub, Nat.reduceLeDiff, Nat.reduceLT, p2, p5, p6, p8, p9, Cells.idx co hk, Cells.ld co hk Nat.zero_lt_one, Cells.len ia, Int.lt_irrefl, hw]
  · rintro f g ms ⟨rfl, rfl, p2, p5, p6, p8⟩
    simp only [rn0, rn1, rn2, rn3, rn4, rn5, rn6, rn7, rn8, if_true, if_false, Nat.le_refl, true_and, and_true, decide_true, decide_false, Bool.not_true, Bool.not_false, reduceIte, Nat.reduceEqDiff, Nat.reduceAdd, Nat.reduceMul, Nat.reduceSub, Nat.reduceLeDiff, Nat.reduceLT, p2, p5, p6, p8, Cells.len co, Int.lt_irrefl, awake_c (n := n) (h := g) (by omega)]
end Go.Vm.St
