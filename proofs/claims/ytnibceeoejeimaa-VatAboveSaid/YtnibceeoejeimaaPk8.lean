/- Texts of the proofs of this seat, put together: VatEnds, VatEnds2, VatMore, VatAbove. -/
import Derived.Test.YtnibceeoejeimaaPk7

namespace Go.Vm.Vat
open Go.Proofs
set_option linter.unusedSimpArgs false
set_option linter.unusedVariables false
set_option maxRecDepth 10000
variable {n : Nat} {h : AHeap}

/-- four bits -/
def bitsE (b1 b2 b3 b4 : Bool) : Nat := (bif b1 then 1 else 0) + (bif b2 then 2 else 0) + (bif b3 then 4 else 0) + (bif b4 then 8 else 0)
theorem bitsE_lt {b1 b2 b3 b4 : Bool} : bitsE b1 b2 b3 b4 < 16 := by cases b1 <;> cases b2 <;> cases b3 <;> cases b4 <;> decide
theorem bitsE_1 {b1 b2 b3 b4 : Bool} : bitsE b1 b2 b3 b4 ||| 1 = bitsE true b2 b3 b4 := by cases b1 <;> cases b2 <;> cases b3 <;> cases b4 <;> rfl
theorem bitsE_2 {b1 b2 b3 b4 : Bool} : bitsE b1 b2 b3 b4 ||| 2 = bitsE b1 true b3 b4 := by cases b1 <;> cases b2 <;> cases b3 <;> cases b4 <;> rfl
theorem bitsE_4 {b1 b2 b3 b4 : Bool} : bitsE b1 b2 b3 b4 ||| 4 = bitsE b1 b2 true b4 := by cases b1 <;> cases b2 <;> cases b3 <;> cases b4 <;> rfl
theorem bitsE_8 {b1 b2 b3 b4 : Bool} : bitsE b1 b2 b3 b4 ||| 8 = bitsE b1 b2 b3 true := by cases b1 <;> cases b2 <;> cases b3 <;> cases b4 <;> rfl
theorem or_1 {other : AHeap → Option (Value × AHeap)} {b1 b2 b3 b4 : Bool} : run2 orF other (.int .i64 ((bitsE b1 b2 b3 b4 : Nat) : Int)) (.int .i64 1) h = some (.int .i64 ((bitsE true b2 b3 b4 : Nat) : Int), h) := by
  have hl := bitsE_lt (b1 := b1) (b2 := b2) (b3 := b3) (b4 := b4)
  have := r_or (other := other) (h := h) (a := bitsE b1 b2 b3 b4) (b := 1) (by omega) (by omega)
  rw [bitsE_1] at this; exact this
theorem or_2 {other : AHeap → Option (Value × AHeap)} {b1 b2 b3 b4 : Bool} : run2 orF other (.int .i64 ((bitsE b1 b2 b3 b4 : Nat) : Int)) (.int .i64 2) h = some (.int .i64 ((bitsE b1 true b3 b4 : Nat) : Int), h) := by
  have hl := bitsE_lt (b1 := b1) (b2 := b2) (b3 := b3) (b4 := b4)
  have := r_or (other := other) (h := h) (a := bitsE b1 b2 b3 b4) (b := 2) (by omega) (by omega)
  rw [bitsE_2] at this; exact this
theorem or_4 {other : AHeap → Option (Value × AHeap)} {b1 b2 b3 b4 : Bool} : run2 orF other (.int .i64 ((bitsE b1 b2 b3 b4 : Nat) : Int)) (.int .i64 4) h = some (.int .i64 ((bitsE b1 b2 true b4 : Nat) : Int), h) := by
  have hl := bitsE_lt (b1 := b1) (b2 := b2) (b3 := b3) (b4 := b4)
  have := r_or (other := other) (h := h) (a := bitsE b1 b2 b3 b4) (b := 4) (by omega) (by omega)
  rw [bitsE_4] at this; exact this
theorem or_8 {other : AHeap → Option (Value × AHeap)} {b1 b2 b3 b4 : Bool} : run2 orF other (.int .i64 ((bitsE b1 b2 b3 b4 : Nat) : Int)) (.int .i64 8) h = some (.int .i64 ((bitsE b1 b2 b3 true : Nat) : Int), h) := by
  have hl := bitsE_lt (b1 := b1) (b2 := b2) (b3 := b3) (b4 := b4)
  have := r_or (other := other) (h := h) (a := bitsE b1 b2 b3 b4) (b := 8) (by omega) (by omega)
  rw [bitsE_8] at this; exact this
/-- among the first k -/
def Seen (L : List (Nat → Int)) (p : (Nat → Int) → Prop) (k : Nat) : Prop := ∃ i, i < k ∧ p (L.getD i fun _ => 0)
noncomputable instance (L : List (Nat → Int)) (p : (Nat → Int) → Prop) (k : Nat) : Decidable (Seen L p k) := Classical.propDecidable _
theorem seen_yes {L : List (Nat → Int)} {p : (Nat → Int) → Prop} {k : Nat} (h : p (L.getD k fun _ => 0)) : decide (Seen L p (k + 1)) = true := decide_eq_true ⟨k, by omega, h⟩
theorem seen_no {L : List (Nat → Int)} {p : (Nat → Int) → Prop} {k : Nat} (h : ¬ p (L.getD k fun _ => 0)) : decide (Seen L p (k + 1)) = decide (Seen L p k) := decide_eq_decide.2
  ⟨fun ⟨i, h1, h2⟩ => by
    by_cases e : i = k
    · subst e; exact absurd h2 h
    · exact ⟨i, by omega, h2⟩, fun ⟨i, h1, h2⟩ => ⟨i, by omega, h2⟩⟩
theorem seen_all {Y : MY} (hf : faultN Y = 0) {p : (Nat → Int) → Prop} (h : ∃ t, t ∈ truths Y ∧ p t) : decide (Seen (refTruths Y) p (refTruths Y).length) = true := by
  obtain ⟨t, h1, h2⟩ := h
  obtain ⟨i, hi, rfl⟩ := mem_getD ((refTruths_mem hf).2 h1)
  exact decide_eq_true ⟨i, hi, h2⟩
theorem seen_zero {L : List (Nat → Int)} {p : (Nat → Int) → Prop} : decide (Seen L p 0) = false := decide_eq_false fun ⟨i, h, _⟩ => by omega

def s11 : SCode := (.seq (.ops [⟨(some 3), none, .box (T 0)⟩, ⟨(some 6), none, .mov (.const (.bool false))⟩]) (.seq (.seq (.ops [⟨(some 18), none, .loadN 3 (T 3)⟩, ⟨(some 19), none, .call (.func 62) [(T 18)]⟩, ⟨(some 20), none, .not (T 19)⟩, ⟨(some 21), none, .mov (T 20)⟩, ⟨(some 22), (some (21, false)), .fieldAddr 0 (T 3)⟩, ⟨(some 23), (some (21, false)), .load1 (T 22)⟩, ⟨(some 24), (some (21, false)), .len (T 23)⟩, ⟨(some 25), (some (21, false)), .int2 .eql (T 24) (.const (.int .i64 (0)))⟩, ⟨(some 26), none, .pick (T 21) (.const (.bool true)) (T 25)⟩, ⟨(some 27), none, .mov (T 26)⟩, ⟨(some 28), (some (27, false)), .fieldAddr 1 (T 3)⟩, ⟨(some 29), (some (27, false)), .load1 (T 28)⟩, ⟨(some 30), (some (27, false)), .len (T 29)⟩, ⟨(some 31), (some (27, false)), .int2 .eql (T 30) (.const (.int .i64 (0)))⟩, ⟨(some 32), none, .pick (T 27) (.const (.bool true)) (T 31)⟩]) (.cond (T 32) (.seq (.ops [⟨(some 33), none, .call (.func 24) []⟩, ⟨(some 6), none, .mov (T 33)⟩]) .ret) .skip)) (.seq (.draw [⟨.free, ⟨(some 34), none, .mov (T 1)⟩⟩, ⟨.free, ⟨(some 35), none, .plain (.convert 5 3 (T 34)) 3⟩⟩, ⟨.free, ⟨(some 36), none, .fieldAddr 1 (T 3)⟩⟩, ⟨.rd1, ⟨(some 37), none, .load1 (T 36)⟩⟩, ⟨.free, ⟨(some 38), none, .len (T 37)⟩⟩, ⟨.free, ⟨(some 39), none, .plain (.binOp .rem 3 (T 35) (T 38) 3) 3⟩⟩, ⟨.free, ⟨(some 40), none, .mov (T 2)⟩⟩, ⟨.free, ⟨(some 41), none, .plain (.convert 5 3 (T 40)) 3⟩⟩, ⟨.free, ⟨(some 42), none, .fieldAddr 0 (T 3)⟩⟩, ⟨.rd1, ⟨(some 43), none, .load1 (T 42)⟩⟩, ⟨.free, ⟨(some 44), none, .len (T 43)⟩⟩, ⟨.free, ⟨(some 45), none, .plain (.binOp .rem 3 (T 41) (T 44) 3) 3⟩⟩, ⟨.free, ⟨(some 7), none, .mov (T 39)⟩⟩, ⟨.free, ⟨(some 8), none, .mov (T 45)⟩⟩]) (.seq (.ops [⟨(some 47), none, .loadN 3 (T 3)⟩, ⟨(some 48), none, .call (.func 26) [(T 47)]⟩, ⟨(some 49), none, .call (.func 34) [(T 48)]⟩, ⟨(some 46), none, .mov (T 49)⟩, ⟨(some 50), none, .extract 0 (T 46)⟩, ⟨(some 51), none, .extract 1 (T 46)⟩, ⟨(some 9), none, .mov (T 50)⟩, ⟨(some 10), none, .mov (T 51)⟩]) (.seq (.ops [⟨(some 53), none, .loadN 3 (T 3)⟩, ⟨(some 54), none, .call (.func 26) [(T 53)]⟩, ⟨(some 55), none, .call (.func 35) [(T 54)]⟩, ⟨(some 52), none, .mov (T 55)⟩, ⟨(some 56), none, .extract 0 (T 52)⟩, ⟨(some 57), none, .extract 1 (T 52)⟩, ⟨(some 11), none, .mov (T 56)⟩, ⟨(some 12), none, .mov (T 57)⟩]) (.seq (.ops [⟨(some 58), none, .loadN 3 (T 3)⟩, ⟨(some 59), none, .call (.func 64) [(T 58)]⟩, ⟨(some 13), none, .mov (T 59)⟩]) (.seq (.seq (.ops [⟨(some 60), none, .mov (T 13)⟩, ⟨(some 61), none, .len (T 60)⟩, ⟨(some 62), none, .int2 .eql (T 61) (.const (.int .i64 (0)))⟩]) (.cond (T 62) (.seq (.ops [⟨(some 63), none, .mov (T 10)⟩, ⟨(some 64), none, .int2 .eql (T 63) (.const (.int .i64 (11)))⟩, ⟨(some 65), none, .mov (T 64)⟩, ⟨(some 66), (some (65, true)), .mov (T 12)⟩, ⟨(some 67), (some (65, true)), .mov (T 10)⟩, ⟨(some 68), (some (65, true)), .int2 .eql (T 66) (T 67)⟩, ⟨(some 69), none, .pick (T 65) (T 68) (.const (.bool false))⟩, ⟨(some 70), none, .mov (T 69)⟩, ⟨(some 71), (some (70, true)), .call (.func 24) []⟩, ⟨(some 72), none, .pick (T 70) (T 71) (.const (.bool false))⟩, ⟨(some 6), none, .mov (T 72)⟩]) .ret) .skip)) (.seq (.seq (.ops [⟨(some 73), none, .mov (T 10)⟩, ⟨(some 74), none, .int2 .neq (T 73) (.const (.int .i64 (0)))⟩, ⟨(some 75), none, .mov (T 74)⟩, ⟨(some 76), (some (75, false)), .mov (T 12)⟩, ⟨(some 77), (some (75, false)), .int2 .neq (T 76) (.const (.int .i64 (0)))⟩, ⟨(some 78), none, .pick (T 75) (.const (.bool true)) (T 77)⟩, ⟨(some 79), none, .mov (T 78)⟩, ⟨(some 80), (some (79, false)), .mov (T 9)⟩, ⟨(some 81), (some (79, false)), .len (T 80)⟩, ⟨(some 82), (some (79, false)), .fieldAddr 1 (T 3)⟩, ⟨(some 83), (some (79, false)), .load1 (T 82)⟩, ⟨(some 84), (some (79, false)), .len (T 83)⟩, ⟨(some 85), (some (79, false)), .int2 .neq (T 81) (T 84)⟩, ⟨(some 86), none, .pick (T 79) (.const (.bool true)) (T 85)⟩, ⟨(some 87), none, .mov (T 86)⟩, ⟨(some 88), (some (87, false)), .mov (T 11)⟩, ⟨(some 89), (some (87, false)), .len (T 88)⟩, ⟨(some 90), (some (87, false)), .fieldAddr 0 (T 3)⟩, ⟨(some 91), (some (87, false)), .load1 (T 90)⟩, ⟨(some 92), (some (87, false)), .len (T 91)⟩, ⟨(some 93), (some (87, false)), .int2 .neq (T 89) (T 92)⟩, ⟨(some 94), none, .pick (T 87) (.const (.bool true)) (T 93)⟩]) (.cond (T 94) (.seq (.ops [⟨(some 6), none, .mov (.const (.bool false))⟩]) .ret) .skip)) (.seq (.ops [⟨(some 14), none, .mov (.const (.int .i64 (0)))⟩]) (.seq (.seq (.ops [⟨(some 15), none, .mov (.const (.int .i64 (0)))⟩]) (.block 0 (.loop (.seq (.seq (.ops [⟨(some 95), none, .mov (T 15)⟩, ⟨(some 96), none, .mov (T 13)⟩, ⟨(some 97), none, .len (T 96)⟩, ⟨(some 98), none, .int2 .lss (T 95) (T 97)⟩]) (.cond (T 98) .skip (.exit 0))) (.seq (.block 1 (.seq (.draw [⟨.rd1, ⟨(some 101), none, .loadN 3 (T 3)⟩⟩, ⟨.free, ⟨(some 102), none, .mov (T 13)⟩⟩, ⟨.free, ⟨(some 103), none, .mov (T 15)⟩⟩, ⟨.free, ⟨(some 104), none, .idxSl 1 (T 102) (T 103)⟩⟩, ⟨.rd1, ⟨(some 105), none, .load1 (T 104)⟩⟩, ⟨.free, ⟨(some 106), none, .mov (T 7)⟩⟩, ⟨.up, ⟨(some 107), none, .call (.func 33) [(T 101), (T 105), (T 106)]⟩⟩, ⟨.free, ⟨(some 108), none, .mov (T 13)⟩⟩, ⟨.free, ⟨(some 109), none, .mov (T 15)⟩⟩, ⟨.free, ⟨(some 110), none, .idxSl 1 (T 108) (T 109)⟩⟩, ⟨.rd, ⟨(some 111), none, .load1 (T 110)⟩⟩, ⟨.free, ⟨(some 112), none, .mov (T 8)⟩⟩, ⟨.free, ⟨(some 113), none, .idxSl 1 (T 111) (T 112)⟩⟩, ⟨.rd, ⟨(some 114), none, .load1 (T 113)⟩⟩, ⟨.free, ⟨(some 16), none, .mov (T 107)⟩⟩, ⟨.free, ⟨(some 17), none, .mov (T 114)⟩⟩]) (.seq (.seq (.ops [⟨(some 115), none, .mov (T 16)⟩, ⟨(some 116), none, .mov (T 9)⟩, ⟨(some 117), none, .mov (T 7)⟩, ⟨(some 118), none, .idxSl 2 (T 116) (T 117)⟩, ⟨(some 119), none, .fieldAddr 0 (T 118)⟩, ⟨(some 120), none, .load1 (T 119)⟩, ⟨(some 121), none, .int2 .eql (T 115) (T 120)⟩]) (.cond (T 121) (.ops [⟨(some 122), none, .mov (T 14)⟩, ⟨(some 123), none, .plain (.binOp .or 3 (T 122) (.const (.int .i64 (1))) 3) 3⟩, ⟨(some 14), none, .mov (T 123)⟩]) .skip)) (.seq (.seq (.ops [⟨(some 124), none, .mov (T 16)⟩, ⟨(some 125), none, .mov (T 9)⟩, ⟨(some 126), none, .mov (T 7)⟩, ⟨(some 127), none, .idxSl 2 (T 125) (T 126)⟩, ⟨(some 128), none, .fieldAddr 1 (T 127)⟩, ⟨(some 129), none, .load1 (T 128)⟩, ⟨(some 130), none, .int2 .eql (T 124) (T 129)⟩]) (.cond (T 130) (.ops [⟨(some 131), none, .mov (T 14)⟩, ⟨(some 132), none, .plain (.binOp .or 3 (T 131) (.const (.int .i64 (2))) 3) 3⟩, ⟨(some 14), none, .mov (T 132)⟩]) .skip)) (.seq (.seq (.ops [⟨(some 133), none, .mov (T 17)⟩, ⟨(some 134), none, .mov (T 11)⟩, ⟨(some 135), none, .mov (T 8)⟩, ⟨(some 136), none, .idxSl 2 (T 134) (T 135)⟩, ⟨(some 137), none, .fieldAddr 0 (T 136)⟩, ⟨(some 138), none, .load1 (T 137)⟩, ⟨(some 139), none, .int2 .eql (T 133) (T 138)⟩]) (.cond (T 139) (.ops [⟨(some 140), none, .mov (T 14)⟩, ⟨(some 141), none, .plain (.binOp .or 3 (T 140) (.const (.int .i64 (4))) 3) 3⟩, ⟨(some 14), none, .mov (T 141)⟩]) .skip)) (.seq (.ops [⟨(some 142), none, .mov (T 17)⟩, ⟨(some 143), none, .mov (T 11)⟩, ⟨(some 144), none, .mov (T 8)⟩, ⟨(some 145), none, .idxSl 2 (T 143) (T 144)⟩, ⟨(some 146), none, .fieldAddr 1 (T 145)⟩, ⟨(some 147), none, .load1 (T 146)⟩, ⟨(some 148), none, .int2 .eql (T 142) (T 147)⟩]) (.cond (T 148) (.ops [⟨(some 149), none, .mov (T 14)⟩, ⟨(some 150), none, .plain (.binOp .or 3 (T 149) (.const (.int .i64 (8))) 3) 3⟩, ⟨(some 14), none, .mov (T 150)⟩]) .skip))))))) (.ops [⟨(some 99), none, .mov (T 15)⟩, ⟨(some 100), none, .int2 .add (T 99) (.const (.int .i64 (1)))⟩, ⟨(some 15), none, .mov (T 100)⟩])))))) (.seq (.ops [⟨(some 151), none, .mov (T 14)⟩, ⟨(some 152), none, .int2 .eql (T 151) (.const (.int .i64 (15)))⟩, ⟨(some 153), none, .mov (T 152)⟩, ⟨(some 154), (some (153, true)), .call (.func 24) []⟩, ⟨(some 155), none, .pick (T 153) (T 154) (.const (.bool false))⟩, ⟨(some 6), none, .mov (T 155)⟩]) .ret)))))))))))
theorem fok11 : FnOk Try.prog 11 156 s11 [.tmp 6] := ⟨Try.f11, _, Try.func11, rfl, Try.ntmps11, by kernel_rfl, by kernel_rfl⟩
theorem ends_1 (hn : 10090 ≤ n) (hr : h.next + 3000000 < far) (hfl : h.floor ≤ h.next) {fv vv sv : Value} {Y : MY} (hy : YardR h fv vv sv Y) (hT : Thin Y) (hf : faultN Y = 0) (hnf : 0 < Y.nf) (hnv : 0 < Y.nv) {a1 a2 : Nat} (w1 : a1 < 256) (w2 : a2 < 256) :
    ∃ v h', call n (.func (.func 11) #[] #[]) [.agg ⟨[fv, vv, sv]⟩, .int .u8 (a1 : Int), .int .u8 (a2 : Int)] h = some (v, h') ∧ v = .bool true := by
  obtain ⟨n, rfl⟩ : ∃ p, n = p + 1 := ⟨n - 1, by omega⟩
  refine call_any0 fok11 rfl rfl (by simp) ?_
  simp only [s11, W_seq, W_ops]
  refine ops_box (cs := [fv, vv, sv]) (by omega) rfl hy.one fun g1 hx1 => ?_
  have n1 := hx1.next
  have f1 := hx1.floor
  have hy1 := hy.mono hx1.sub
  have x1 := hx1.row.whole (n := 3) rfl
  have r1 := hx1.row
  have hrd := ready_c (n := n) (h := g1) (by omega) (by omega) hy1
  have hrd' : decide (Thin Y ∧ faultN Y = 0) = true := decide_eq_true ⟨hT, hf⟩
  rw [hrd'] at hrd
  obtain ⟨rr, hrw, hq⟩ := hy1.v
  have z1 : ¬ (Y.nf : Int) = 0 := by omega
  have z2 : ¬ (Y.nv : Int) = 0 := by omega
  obtain ⟨one, hone⟩ : ∃ o, o = a1 % Y.nv := ⟨_, rfl⟩
  obtain ⟨fld, hfld⟩ : ∃ o, o = a2 % Y.nf := ⟨_, rfl⟩
  have hov : one < Y.nv := by rw [hone]; exact Nat.mod_lt _ hnv
  have hof : fld < Y.nf := by rw [hfld]; exact Nat.mod_lt _ hnf
  have m1 : (a1 : Int).tmod (Y.nv : Int) = (one : Int) := by rw [hone]; rfl
  have m2 : (a2 : Int).tmod (Y.nf : Int) = (fld : Int) := by rw [hfld]; rfl
  simp only [rn0, rn1, rn2, rn3, rn4, rn5, rn6, rn7, rn8, if_true, if_false, Nat.le_refl, true_and, and_true, decide_true, decide_false, Bool.not_true, Bool.not_false, reduceIte, Nat.reduceEqDiff, Nat.reduceAdd, Nat.reduceMul, Nat.reduceSub, Nat.reduceLeDiff, Nat.reduceLT, x1, hrd, r1.ld, Nat.zero_add, List.getElem?_cons_zero, List.getElem?_cons_succ, Cells.len hy1.f, Cells.len hrw, z1, z2]
  refine W_draw All ?_
  simp only [rn0, rn1, rn2, rn3, rn4, rn5, rn6, rn7, rn8, if_true, if_false, Nat.le_refl, true_and, and_true, decide_true, decide_false, Bool.not_true, Bool.not_false, reduceIte, Nat.reduceEqDiff, Nat.reduceAdd, Nat.reduceMul, Nat.reduceSub, Nat.reduceLeDiff, Nat.reduceLT, p_conv8, r_8 w1, r_8 w2, valN_tmp, Nat.reduceLT, r1.ld, Nat.zero_add, List.getElem?_cons_zero, List.getElem?_cons_succ, Cells.len hy1.f, Cells.len hrw, r_rem z1, r_rem z2, m1, m2]
  obtain ⟨F1, V1, S1, g2, ey2, hy2, m2'⟩ := yard_c (n := n) (h := g1) (by omega) (by omega) (by omega) hy1 hT
  have n2 := m2'.next
  have u2 := m2'.up
  have f2 := m2'.floor
  obtain ⟨bv, g3, eb3, m3, hb3⟩ := boundsV_c (n := n) (h := g2) (by omega) (by omega) (by omega) hy2 hT
  have n3 := m3.next
  have u3 := m3.up
  have f3 := m3.floor
  have s3 : Sub All g1 g3 := m2'.sub.trans m3.sub
  have w3 := (hx1.row.mono s3).whole (n := 3) rfl
  obtain ⟨F2, V2, S2, g4, ey4, hy4, m4⟩ := yard_c (n := n) (h := g3) (by omega) (by omega) (by omega) (hy1.mono s3) hT
  have n4 := m4.next
  have u4 := m4.up
  have f4 := m4.floor
  obtain ⟨fw, g5, ef5, m5, hf5⟩ := fieldsV_c (n := n) (h := g4) (by omega) (by omega) (by omega) hy4 hT
  have n5 := m5.next
  have u5 := m5.up
  have f5 := m5.floor
  have s5 : Sub All g1 g5 := s3.trans (m4.sub.trans m5.sub)
  have w5 := (hx1.row.mono s5).whole (n := 3) rfl
  obtain ⟨l, g6, et6, hl6, m6⟩ := truthsRef_c (n := n) (h := g5) (by omega) (by omega) (by omega) (hy1.mono s5) hf
  have n6 := m6.next
  have u6 := m6.up
  have f6 := m6.floor
  have s6 : Sub All g1 g6 := s5.trans m6.sub
  have w6 := (hx1.row.mono s6).whole (n := 3) rfl
  have r6 := hx1.row.mono s6
  have hy6 := hy1.mono s6
  have haw := awake_c (n := n) (h := g6) (by omega)
  change TruthsL g6 l Y.nf (refTruths Y) at hl6
  have hl6' := hl6
  obtain ⟨rl, q1, q2⟩ := hl6
  rcases hb3 with ⟨h0, _⟩ | ⟨_, hn0, rfl⟩ | ⟨_, hne, bl, rfl, hbl⟩
  · exact absurd hf h0
  · rcases hf5 with ⟨h0, _⟩ | ⟨_, _, rfl⟩ | ⟨_, h0, _⟩
    · exact absurd hf h0
    · have hlz : (refTruths Y).length = 0 := by rw [(refTruths_nil hf).2 hn0]; rfl
      simp only [rn0, rn1, rn2, rn3, rn4, rn5, rn6, rn7, rn8, if_true, if_false, Nat.le_refl, true_and, and_true, decide_true, decide_false, Bool.not_true, Bool.not_false, reduceIte, Nat.reduceEqDiff, Nat.reduceAdd, Nat.reduceMul, Nat.reduceSub, Nat.reduceLeDiff, Nat.reduceLT, x1, ey2, eb3, ex0, ex1, w3, ey4, ef5, w5, et6, Cells.len q1, hlz, Int.natCast_zero, haw, Int.reduceEq]
    · exact absurd hn0 h0
  rcases hf5 with ⟨h0, _⟩ | ⟨_, h0, _⟩ | ⟨_, _, fl, rfl, hfl5⟩
  · exact absurd hf h0
  · exact absurd h0 hne
  have hlz : ¬ ((refTruths Y).length : Int) = 0 := fun e => ((not_congr (refTruths_nil hf)).2 hne) (List.eq_nil_of_length_eq_zero (by omega))
  have hbl6 := Cells.mono hbl ((m4.sub.trans m5.sub).trans m6.sub)
  have hfl6 := Cells.mono hfl5 m6.sub
  obtain ⟨rr6, hrw6, hq6⟩ := hy6.v
  simp only [rn0, rn1, rn2, rn3, rn4, rn5, rn6, rn7, rn8, if_true, if_false, Nat.le_refl, true_and, and_true, decide_true, decide_false, Bool.not_true, Bool.not_false, reduceIte, Nat.reduceEqDiff, Nat.reduceAdd, Nat.reduceMul, Nat.reduceSub, Nat.reduceLeDiff, Nat.reduceLT, x1, ey2, eb3, ex0, ex1, w3, ey4, ef5, w5, et6, Cells.len q1, hlz, Int.natCast_zero, r6.ld, Nat.zero_add, List.getElem?_cons_zero, List.getElem?_cons_succ, Cells.len hbl6, Cells.len hfl6, Cells.len hrw6, Cells.len hy6.f]
  obtain ⟨z5, z6, z7⟩ := (good_of hf).sz
  have hlen := refTruths_len hf
  obtain ⟨P1, hP1⟩ : ∃ P : (Nat → Int) → Prop, P = (fun t => blueN t (Y.q one) Y.nf = loN (fun t => blueN t (Y.q one) Y.nf) (truths Y)) := ⟨_, rfl⟩
  obtain ⟨P2, hP2⟩ : ∃ P : (Nat → Int) → Prop, P = (fun t => blueN t (Y.q one) Y.nf = hiN (fun t => blueN t (Y.q one) Y.nf) (truths Y)) := ⟨_, rfl⟩
  obtain ⟨P3, hP3⟩ : ∃ P : (Nat → Int) → Prop, P = (fun t => t fld = loN (fun t => t fld) (truths Y)) := ⟨_, rfl⟩
  obtain ⟨P4, hP4⟩ : ∃ P : (Nat → Int) → Prop, P = (fun t => t fld = hiN (fun t => t fld) (truths Y)) := ⟨_, rfl⟩
  refine W_loop (refTruths Y).length (fun k f g ms => g = g6 ∧ ms = [] ∧ f 3 = .pointer (some ⟨h.next, 0, none⟩) ∧ f 7 = .int .i64 (one : Int) ∧ f 8 = .int .i64 (fld : Int) ∧ f 9 = bl ∧ f 11 = fl ∧ f 13 = l ∧ f 15 = .int .i64 (k : Int) ∧ f 14 = .int .i64 ((bitsE (decide (Seen (refTruths Y) P1 k)) (decide (Seen (refTruths Y) P2 k)) (decide (Seen (refTruths Y) P3 k)) (decide (Seen (refTruths Y) P4 k)) : Nat) : Int)) (by simp; omega) ?_ ?_ ?_
  · simp only [rn0, rn1, rn2, rn3, rn4, rn5, rn6, rn7, rn8, if_true, if_false, Nat.le_refl, true_and, and_true, decide_true, decide_false, Bool.not_true, Bool.not_false, reduceIte, Nat.reduceEqDiff, Nat.reduceAdd, Nat.reduceMul, Nat.reduceSub, Nat.reduceLeDiff, Nat.reduceLT, seen_zero]
    exact ⟨rfl, rfl⟩
  · rintro k f g ms hk ⟨rfl, rfl, p3, p7, p8, p9, p11, p13, p15, p14⟩
    have hk' : (k : Int) < ((refTruths Y).length : Int) := by omega
    have hw : wrapF .i64 ((k : Int) + 1) = ((k + 1 : Nat) : Int) := by rw [wrap_in (by omega) (by omega)]; rfl
    have q2k : Ints g (rl k) Y.nf ((refTruths Y).getD k fun _ => 0) := q2 k hk
    obtain ⟨v1, v2⟩ := (good_of hf).v one hov
    have eb := blue_c (n := n) (h := g) (at_ := one) (nb := Y.nf) (b := (refTruths Y).getD k fun _ => 0) (by omega) (by omega) hy6 q2k (by omega) hov (by omega) (refTruths_range hf (refTruths_at hk)) (fun j hj => v2 j (by omega))
    have hsl := Cells.self q2k
    have l1 : loadCell g (ptrO bl 2 one 0) = some (.int .i64 (loN (fun t => blueN t (Y.q one) Y.nf) (truths Y))) := Cells.ld hbl6 hov (by omega)
    have l2 : loadCell g (ptrO bl 2 one 1) = some (.int .i64 (hiN (fun t => blueN t (Y.q one) Y.nf) (truths Y))) := Cells.ld hbl6 hov (by omega)
    have l3 : loadCell g (ptrO fl 2 fld 0) = some (.int .i64 (loN (fun t => t fld) (truths Y))) := Cells.ld hfl6 hof (by omega)
    have l4 : loadCell g (ptrO fl 2 fld 1) = some (.int .i64 (hiN (fun t => t fld) (truths Y))) := Cells.ld hfl6 hof (by omega)
    simp only [rn0, rn1, rn2, rn3, rn4, rn5, rn6, rn7, rn8, if_true, if_false, Nat.le_refl, true_and, and_true, decide_true, decide_false, Bool.not_true, Bool.not_false, reduceIte, Nat.reduceEqDiff, Nat.reduceAdd, Nat.reduceMul, Nat.reduceSub, Nat.reduceLeDiff, Nat.reduceLT, p3, p7, p8, p9, p11, p13, p14, p15, Cells.len q1, hk']
    refine W_draw All ?_
    simp only [rn0, rn1, rn2, rn3, rn4, rn5, rn6, rn7, rn8, if_true, if_false, Nat.le_refl, true_and, and_true, decide_true, decide_false, Bool.not_true, Bool.not_false, reduceIte, Nat.reduceEqDiff, Nat.reduceAdd, Nat.reduceMul, Nat.reduceSub, Nat.reduceLeDiff, Nat.reduceLT, p3, p7, p8, p9, p11, p13, p14, p15, w6, Cells.idx q1 hk, Cells.ld q1 hk Nat.zero_lt_one, eb, hsl, Cells.idx q2k hof, Cells.ld q2k hof Nat.zero_lt_one, Cells.idx hbl6 hov, Cells.fld hbl6 hov, l1]
    refine cond_merge (fun f ga ms => ga = g ∧ ms = [] ∧ f 3 = .pointer (some ⟨h.next, 0, none⟩) ∧ f 7 = .int .i64 (one : Int) ∧ f 8 = .int .i64 (fld : Int) ∧ f 9 = bl ∧ f 11 = fl ∧ f 13 = l ∧ f 15 = .int .i64 (k : Int) ∧ f 14 = .int .i64 ((bitsE (decide (Seen (refTruths Y) P1 (k + 1))) (decide (Seen (refTruths Y) P2 k)) (decide (Seen (refTruths Y) P3 k)) (decide (Seen (refTruths Y) P4 k)) : Nat) : Int) ∧ f 16 = .int .i64 (blueN ((refTruths Y).getD k fun _ => 0) (Y.q one) Y.nf) ∧ f 17 = .int .i64 ((refTruths Y).getD k (fun _ => 0) fld)) (fun hp => ?_) (fun hp => ?_) ?_
    · have hp' : P1 ((refTruths Y).getD k fun _ => 0) := by rw [hP1]; exact of_decide_eq_true hp
      simp only [rn0, rn1, rn2, rn3, rn4, rn5, rn6, rn7, rn8, if_true, if_false, Nat.le_refl, true_and, and_true, decide_true, decide_false, Bool.not_true, Bool.not_false, reduceIte, Nat.reduceEqDiff, Nat.reduceAdd, Nat.reduceMul, Nat.reduceSub, Nat.reduceLeDiff, Nat.reduceLT, p3, p7, p8, p9, p11, p13, p14, p15, valN_tmp, valN_const, Nat.reduceLT, p_or, or_1, seen_yes hp']
    · have hp' : ¬ P1 ((refTruths Y).getD k fun _ => 0) := by rw [hP1]; exact of_decide_eq_false hp
      simp only [rn0, rn1, rn2, rn3, rn4, rn5, rn6, rn7, rn8, if_true, if_false, Nat.le_refl, true_and, and_true, decide_true, decide_false, Bool.not_true, Bool.not_false, reduceIte, Nat.reduceEqDiff, Nat.reduceAdd, Nat.reduceMul, Nat.reduceSub, Nat.reduceLeDiff, Nat.reduceLT, p3, p7, p8, p9, p11, p13, p14, p15, seen_no hp']
    clear p3 p7 p8 p9 p11 p13 p14 p15
    rintro f ga ms ⟨rfl, rfl, p3, p7, p8, p9, p11, p13, p15, p14, p16, p17⟩
    simp only [rn0, rn1, rn2, rn3, rn4, rn5, rn6, rn7, rn8, if_true, if_false, Nat.le_refl, true_and, and_true, decide_true, decide_false, Bool.not_true, Bool.not_false, reduceIte, Nat.reduceEqDiff, Nat.reduceAdd, Nat.reduceMul, Nat.reduceSub, Nat.reduceLeDiff, Nat.reduceLT, p3, p7, p8, p9, p11, p13, p14, p15, p16, p17, Cells.idx hbl6 hov, Cells.fld hbl6 hov, l2]
    refine cond_merge (fun f gb ms => gb = ga ∧ ms = [] ∧ f 3 = .pointer (some ⟨h.next, 0, none⟩) ∧ f 7 = .int .i64 (one : Int) ∧ f 8 = .int .i64 (fld : Int) ∧ f 9 = bl ∧ f 11 = fl ∧ f 13 = l ∧ f 15 = .int .i64 (k : Int) ∧ f 14 = .int .i64 ((bitsE (decide (Seen (refTruths Y) P1 (k + 1))) (decide (Seen (refTruths Y) P2 (k + 1))) (decide (Seen (refTruths Y) P3 k)) (decide (Seen (refTruths Y) P4 k)) : Nat) : Int) ∧ f 16 = .int .i64 (blueN ((refTruths Y).getD k fun _ => 0) (Y.q one) Y.nf) ∧ f 17 = .int .i64 ((refTruths Y).getD k (fun _ => 0) fld)) (fun hp => ?_) (fun hp => ?_) ?_
    · have hp' : P2 ((refTruths Y).getD k fun _ => 0) := by rw [hP2]; exact of_decide_eq_true hp
      simp only [rn0, rn1, rn2, rn3, rn4, rn5, rn6, rn7, rn8, if_true, if_false, Nat.le_refl, true_and, and_true, decide_true, decide_false, Bool.not_true, Bool.not_false, reduceIte, Nat.reduceEqDiff, Nat.reduceAdd, Nat.reduceMul, Nat.reduceSub, Nat.reduceLeDiff, Nat.reduceLT, p3, p7, p8, p9, p11, p13, p14, p15, p16, p17, valN_tmp, valN_const, Nat.reduceLT, p_or, or_2, seen_yes hp']
    · have hp' : ¬ P2 ((refTruths Y).getD k fun _ => 0) := by rw [hP2]; exact of_decide_eq_false hp
      simp only [rn0, rn1, rn2, rn3, rn4, rn5, rn6, rn7, rn8, if_true, if_false, Nat.le_refl, true_and, and_true, decide_true, decide_false, Bool.not_true, Bool.not_false, reduceIte, Nat.reduceEqDiff, Nat.reduceAdd, Nat.reduceMul, Nat.reduceSub, Nat.reduceLeDiff, Nat.reduceLT, p3, p7, p8, p9, p11, p13, p14, p15, p16, p17, seen_no hp']
    clear p3 p7 p8 p9 p11 p13 p14 p15 p16 p17
    rintro f gb ms ⟨rfl, rfl, p3, p7, p8, p9, p11, p13, p15, p14, p16, p17⟩
    simp only [rn0, rn1, rn2, rn3, rn4, rn5, rn6, rn7, rn8, if_true, if_false, Nat.le_refl, true_and, and_true, decide_true, decide_false, Bool.not_true, Bool.not_false, reduceIte, Nat.reduceEqDiff, Nat.reduceAdd, Nat.reduceMul, Nat.reduceSub, Nat.reduceLeDiff, Nat.reduceLT, p3, p7, p8, p9, p11, p13, p14, p15, p16, p17, Cells.idx hfl6 hof, Cells.fld hfl6 hof, l3]
    refine cond_merge (fun f gc ms => gc = gb ∧ ms = [] ∧ f 3 = .pointer (some ⟨h.next, 0, none⟩) ∧ f 7 = .int .i64 (one : Int) ∧ f 8 = .int .i64 (fld : Int) ∧ f 9 = bl ∧ f 11 = fl ∧ f 13 = l ∧ f 15 = .int .i64 (k : Int) ∧ f 14 = .int .i64 ((bitsE (decide (Seen (refTruths Y) P1 (k + 1))) (decide (Seen (refTruths Y) P2 (k + 1))) (decide (Seen (refTruths Y) P3 (k + 1))) (decide (Seen (refTruths Y) P4 k)) : Nat) : Int) ∧ f 16 = .int .i64 (blueN ((refTruths Y).getD k fun _ => 0) (Y.q one) Y.nf) ∧ f 17 = .int .i64 ((refTruths Y).getD k (fun _ => 0) fld)) (fun hp => ?_) (fun hp => ?_) ?_
    · have hp' : P3 ((refTruths Y).getD k fun _ => 0) := by rw [hP3]; exact of_decide_eq_true hp
      simp only [rn0, rn1, rn2, rn3, rn4, rn5, rn6, rn7, rn8, if_true, if_false, Nat.le_refl, true_and, and_true, decide_true, decide_false, Bool.not_true, Bool.not_false, reduceIte, Nat.reduceEqDiff, Nat.reduceAdd, Nat.reduceMul, Nat.reduceSub, Nat.reduceLeDiff, Nat.reduceLT, p3, p7, p8, p9, p11, p13, p14, p15, p16, p17, valN_tmp, valN_const, Nat.reduceLT, p_or, or_4, seen_yes hp']
    · have hp' : ¬ P3 ((refTruths Y).getD k fun _ => 0) := by rw [hP3]; exact of_decide_eq_false hp
      simp only [rn0, rn1, rn2, rn3, rn4, rn5, rn6, rn7, rn8, if_true, if_false, Nat.le_refl, true_and, and_true, decide_true, decide_false, Bool.not_true, Bool.not_false, reduceIte, Nat.reduceEqDiff, Nat.reduceAdd, Nat.reduceMul, Nat.reduceSub, Nat.reduceLeDiff, Nat.reduceLT, p3, p7, p8, p9, p11, p13, p14, p15, p16, p17, seen_no hp']
    clear p3 p7 p8 p9 p11 p13 p14 p15 p16 p17
    rintro f gc ms ⟨rfl, rfl, p3, p7, p8, p9, p11, p13, p15, p14, p16, p17⟩
    simp only [rn0, rn1, rn2, rn3, rn4, rn5, rn6, rn7, rn8, if_true, if_false, Nat.le_refl, true_and, and_true, decide_true, decide_false, Bool.not_true, Bool.not_false, reduceIte, Nat.reduceEqDiff, Nat.reduceAdd, Nat.reduceMul, Nat.reduceSub, Nat.reduceLeDiff, Nat.reduceLT, p3, p7, p8, p9, p11, p13, p14, p15, p16, p17, Cells.idx hfl6 hof, Cells.fld hfl6 hof, l4]
    refine cond_merge' (fun f gd ms => gd = gc ∧ ms = [] ∧ f 3 = .pointer (some ⟨h.next, 0, none⟩) ∧ f 7 = .int .i64 (one : Int) ∧ f 8 = .int .i64 (fld : Int) ∧ f 9 = bl ∧ f 11 = fl ∧ f 13 = l ∧ f 15 = .int .i64 (k : Int) ∧ f 14 = .int .i64 ((bitsE (decide (Seen (refTruths Y) P1 (k + 1))) (decide (Seen (refTruths Y) P2 (k + 1))) (decide (Seen (refTruths Y) P3 (k + 1))) (decide (Seen (refTruths Y) P4 (k + 1))) : Nat) : Int) ∧ f 16 = .int .i64 (blueN ((refTruths Y).getD k fun _ => 0) (Y.q one) Y.nf) ∧ f 17 = .int .i64 ((refTruths Y).getD k (fun _ => 0) fld)) (fun hp => ?_) (fun hp => ?_) ?_
    · have hp' : P4 ((refTruths Y).getD k fun _ => 0) := by rw [hP4]; exact of_decide_eq_true hp
      simp only [rn0, rn1, rn2, rn3, rn4, rn5, rn6, rn7, rn8, if_true, if_false, Nat.le_refl, true_and, and_true, decide_true, decide_false, Bool.not_true, Bool.not_false, reduceIte, Nat.reduceEqDiff, Nat.reduceAdd, Nat.reduceMul, Nat.reduceSub, Nat.reduceLeDiff, Nat.reduceLT, p3, p7, p8, p9, p11, p13, p14, p15, p16, p17, valN_tmp, valN_const, Nat.reduceLT, p_or, or_8, seen_yes hp']
    · have hp' : ¬ P4 ((refTruths Y).getD k fun _ => 0) := by rw [hP4]; exact of_decide_eq_false hp
      simp only [rn0, rn1, rn2, rn3, rn4, rn5, rn6, rn7, rn8, if_true, if_false, Nat.le_refl, true_and, and_true, decide_true, decide_false, Bool.not_true, Bool.not_false, reduceIte, Nat.reduceEqDiff, Nat.reduceAdd, Nat.reduceMul, Nat.reduceSub, Nat.reduceLeDiff, Nat.reduceLT, p3, p7, p8, p9, p11, p13, p14, p15, p16, p17, seen_no hp']
    clear p3 p7 p8 p9 p11 p13 p14 p15 p16 p17
    rintro f gd ms ⟨rfl, rfl, p3, p7, p8, p9, p11, p13, p15, p14, p16, p17⟩
    simp only [rn0, rn1, rn2, rn3, rn4, rn5, rn6, rn7, rn8, if_true, if_false, Nat.le_refl, true_and, and_true, decide_true, decide_false, Bool.not_true, Bool.not_false, reduceIte, Nat.reduceEqDiff, Nat.reduceAdd, Nat.reduceMul, Nat.reduceSub, Nat.reduceLeDiff, Nat.reduceLT, p3, p7, p8, p9, p11, p13, p14, p15, p16, p17, hw]
  · rintro f g ms ⟨rfl, rfl, p3, p7, p8, p9, p11, p13, p15, p14⟩
    have e1 : decide (Seen (refTruths Y) P1 (refTruths Y).length) = true := seen_all hf (by rw [hP1]; exact lo_mem (val := fun t => blueN t (Y.q one) Y.nf) hne)
    have e2 : decide (Seen (refTruths Y) P2 (refTruths Y).length) = true := seen_all hf (by rw [hP2]; exact hi_mem (val := fun t => blueN t (Y.q one) Y.nf) hne)
    have e3 : decide (Seen (refTruths Y) P3 (refTruths Y).length) = true := seen_all hf (by rw [hP3]; exact lo_mem (val := fun t => t fld) hne)
    have e4 : decide (Seen (refTruths Y) P4 (refTruths Y).length) = true := seen_all hf (by rw [hP4]; exact hi_mem (val := fun t => t fld) hne)
    rw [e1, e2, e3, e4] at p14
    have e15 : ((bitsE true true true true : Nat) : Int) = 15 := rfl
    rw [e15] at p14
    simp only [rn0, rn1, rn2, rn3, rn4, rn5, rn6, rn7, rn8, if_true, if_false, Nat.le_refl, true_and, and_true, decide_true, decide_false, Bool.not_true, Bool.not_false, reduceIte, Nat.reduceEqDiff, Nat.reduceAdd, Nat.reduceMul, Nat.reduceSub, Nat.reduceLeDiff, Nat.reduceLT, p3, p7, p8, p9, p11, p13, p14, p15, Cells.len q1, Int.lt_irrefl, haw]
end Go.Vm.Vat

namespace Go.Vm.Vat
open Go.Proofs
set_option linter.unusedSimpArgs false
set_option linter.unusedVariables false
set_option maxRecDepth 10000
variable {n : Nat} {h : AHeap}

theorem ready_big (hn : 3 ≤ n) (hr : h.next + 5 < far) {u0 u1 u2 : Value} (hb : Big u0 u1 u2) : call n (.func (.func 62) #[] #[]) [.agg ⟨[u0, u1, u2]⟩] h = some (.bool false, h) := by
  obtain ⟨n, rfl⟩ : ∃ p, n = p + 1 := ⟨n - 1, by omega⟩
  refine call_plain0 fok62 rfl rfl (by simp) rfl ?_
  have hr : h.shutAll.next + 5 < far := hr
  generalize h.shutAll = h at hr
  simp only [s62, W_seq, W_ops]
  refine ops_box (cs := [u0, u1, u2]) (by omega) rfl hb.one fun g1 hx1 => ?_
  have n1 := hx1.next
  have w1 := hx1.row.whole (n := 3) rfl
  have ht := thin_big (n := n) (h := g1) (by omega) (by omega) hb
  simp only [rn0, rn1, rn2, rn3, rn4, rn5, rn6, rn7, rn8, if_true, if_false, Nat.le_refl, true_and, and_true, decide_true, decide_false, Bool.not_true, Bool.not_false, reduceIte, Nat.reduceEqDiff, Nat.reduceAdd, Nat.reduceMul, Nat.reduceSub, Nat.reduceLeDiff, Nat.reduceLT, w1, ht]
theorem ends_c (hn : 10100 ≤ n) (hr : h.next + 3000000 < far) (hfl : h.floor ≤ h.next) {fv vv sv : Value} {Y : MY} (hy : YardR h fv vv sv Y) (a1 : Int) (wf1 : (Lit.int .u8 a1).wf = true) (a2 : Int) (wf2 : (Lit.int .u8 a2).wf = true) :
    ∃ v h', call n (.func (.func 11) #[] #[]) [.agg ⟨[fv, vv, sv]⟩, .int .u8 a1, .int .u8 a2] h = some (v, h') ∧ v = .bool true := by
  obtain ⟨k1, rfl, h1⟩ := wf8 wf1
  obtain ⟨k2, rfl, h2⟩ := wf8 wf2
  by_cases hg : (Thin Y ∧ faultN Y = 0) ∧ 0 < Y.nf ∧ 0 < Y.nv
  · exact ends_1 (by omega) hr hfl hy hg.1.1 hg.1.2 hg.2.1 hg.2.2 h1 h2
  obtain ⟨n, rfl⟩ : ∃ p, n = p + 1 := ⟨n - 1, by omega⟩
  refine call_any0 fok11 rfl rfl (by simp) ?_
  simp only [s11, W_seq, W_ops]
  refine ops_box (cs := [fv, vv, sv]) (by omega) rfl hy.one fun g1 hx1 => ?_
  have n1 := hx1.next
  have hy1 := hy.mono hx1.sub
  have x1 := hx1.row.whole (n := 3) rfl
  have r1 := hx1.row
  have hrd := ready_c (n := n) (h := g1) (by omega) (by omega) hy1
  have haw := awake_c (n := n) (h := g1) (by omega)
  by_cases c1 : Thin Y ∧ faultN Y = 0
  case neg =>
    rw [decide_eq_false c1] at hrd
    simp only [rn0, rn1, rn2, rn3, rn4, rn5, rn6, rn7, rn8, if_true, if_false, Nat.le_refl, true_and, and_true, decide_true, decide_false, Bool.not_true, Bool.not_false, reduceIte, Nat.reduceEqDiff, Nat.reduceAdd, Nat.reduceMul, Nat.reduceSub, Nat.reduceLeDiff, Nat.reduceLT, x1, hrd, haw]
  rw [decide_eq_true c1] at hrd
  obtain ⟨rr, hrw, hq⟩ := hy1.v
  by_cases c2 : (Y.nf : Int) = 0
  · simp only [rn0, rn1, rn2, rn3, rn4, rn5, rn6, rn7, rn8, if_true, if_false, Nat.le_refl, true_and, and_true, decide_true, decide_false, Bool.not_true, Bool.not_false, reduceIte, Nat.reduceEqDiff, Nat.reduceAdd, Nat.reduceMul, Nat.reduceSub, Nat.reduceLeDiff, Nat.reduceLT, x1, hrd, r1.ld, Nat.zero_add, List.getElem?_cons_zero, List.getElem?_cons_succ, Cells.len hy1.f, Cells.len hrw, c2, haw]
  have c3 : (Y.nv : Int) = 0 := by
    apply Classical.byContradiction
    intro hn
    exact hg ⟨c1, by omega, by omega⟩
  simp only [rn0, rn1, rn2, rn3, rn4, rn5, rn6, rn7, rn8, if_true, if_false, Nat.le_refl, true_and, and_true, decide_true, decide_false, Bool.not_true, Bool.not_false, reduceIte, Nat.reduceEqDiff, Nat.reduceAdd, Nat.reduceMul, Nat.reduceSub, Nat.reduceLeDiff, Nat.reduceLT, x1, hrd, r1.ld, Nat.zero_add, List.getElem?_cons_zero, List.getElem?_cons_succ, Cells.len hy1.f, Cells.len hrw, c2, c3, haw]
end Go.Vm.Vat

namespace Go.Vm.Vat
open Go.Proofs
set_option linter.unusedSimpArgs false
set_option linter.unusedVariables false
set_option maxRecDepth 10000
variable {n : Nat} {h : AHeap}

/-- in a truth, more blue in the one vat than in the other -/
def Above (Y : MY) (a b : Nat) (t : Nat → Int) : Prop := blueN t (Y.q b) Y.nf < blueN t (Y.q a) Y.nf
def MoreArgs (Y : MY) (one other : Int) : Prop := (0 ≤ one ∧ one ≤ (Y.nv : Int) - 1) ∧ (0 ≤ other ∧ other ≤ (Y.nv : Int) - 1)
open Classical in
noncomputable def verdictV (Y : MY) (a b : Nat) : Int := if ∀ t, t ∈ truths Y → ¬ Above Y a b t then 2 else if ∀ t, t ∈ truths Y → Above Y a b t then 1 else 3
open Classical in
/-- what More answers -/
noncomputable def moreV (Y : MY) (one other : Int) : Int × Int :=
  if faultN Y ≠ 0 then (0, faultN Y) else if ¬ MoreArgs Y one other then (0, 2) else if one = other then (0, 6) else if truths Y = [] then (0, 11)
  else (verdictV Y one.toNat other.toNat, 0)
/-- how many of the first k -/
noncomputable def cntTo (p : Nat → Prop) : Nat → Nat
  | 0 => 0
  | k + 1 => open Classical in cntTo p k + (if p k then 1 else 0)
theorem cntTo_yes {p : Nat → Prop} {k : Nat} (h : p k) : cntTo p (k + 1) = cntTo p k + 1 := by rw [cntTo, if_pos h]
theorem cntTo_no {p : Nat → Prop} {k : Nat} (h : ¬ p k) : cntTo p (k + 1) = cntTo p k := by rw [cntTo, if_neg h, Nat.add_zero]
theorem cntTo_le {p : Nat → Prop} : ∀ k, cntTo p k ≤ k
  | 0 => Nat.le_refl _
  | k + 1 => by
    have := cntTo_le (p := p) k
    by_cases h : p k
    · rw [cntTo_yes h]; omega
    · rw [cntTo_no h]; omega
theorem cntTo_none {p : Nat → Prop} : ∀ k, cntTo p k = 0 ↔ ∀ i, i < k → ¬ p i
  | 0 => ⟨fun _ i hi => by omega, fun _ => rfl⟩
  | k + 1 => by
    have := cntTo_none (p := p) k
    by_cases h : p k
    · rw [cntTo_yes h]
      exact ⟨fun e => by omega, fun e => absurd h (e k (by omega))⟩
    · rw [cntTo_no h, this]
      refine ⟨fun e i hi => ?_, fun e i hi => e i (by omega)⟩
      by_cases e1 : i = k
      · subst e1; exact h
      · exact e i (by omega)
theorem cntTo_all {p : Nat → Prop} : ∀ k, cntTo p k = k ↔ ∀ i, i < k → p i
  | 0 => ⟨fun _ i hi => by omega, fun _ => rfl⟩
  | k + 1 => by
    have := cntTo_all (p := p) k
    have hl := cntTo_le (p := p) k
    by_cases h : p k
    · rw [cntTo_yes h]
      refine ⟨fun e i hi => ?_, fun e => by rw [this.2 fun i hi => e i (by omega)]⟩
      by_cases e1 : i = k
      · subst e1; exact h
      · exact this.1 (by omega) i (by omega)
    · rw [cntTo_no h]
      exact ⟨fun e => by omega, fun e => absurd (e k (by omega)) h⟩
theorem self4 {F V S tv : Value} {Y : MY} (hy : YardR h F V S Y) (ht : TruthsR h tv (truths Y)) : eqV (.agg ⟨[F, V, S, tv]⟩) (.agg ⟨[F, V, S, tv]⟩) = true := by
  obtain ⟨rr, hr, _⟩ := hy.v
  simp [eqV, eqCells, Cells.selfC hy.f, Cells.selfC hr, Cells.selfC hy.s, Cells.selfC ht]
theorem self_arr {t : Nat → Int} : eqV (.agg ⟨arr t⟩) (.agg ⟨arr t⟩) = true := by simp [arr, List.range_succ, eqV, eqCells, eqCell, sameK, eqI_eq]
def s40 : SCode := (.seq (.ops [⟨(some 3), none, .box (T 0)⟩, ⟨(some 6), none, .mov (.const (.int .i64 (0)))⟩, ⟨(some 7), none, .mov (.const (.int .i64 (0)))⟩]) (.seq (.ops [⟨(some 14), none, .loadN 3 (T 3)⟩, ⟨(some 15), none, .call (.func 78) [(T 14)]⟩, ⟨(some 13), none, .mov (T 15)⟩, ⟨(some 16), none, .extract 0 (T 13)⟩, ⟨(some 17), none, .extract 1 (T 13)⟩, ⟨(some 8), none, .alloc [(.slice none 0 0), (.slice none 0 0), (.slice none 0 0), (.slice none 0 0)]⟩, ⟨none, none, .store 4 (T 8) (T 16)⟩, ⟨(some 9), none, .mov (T 17)⟩]) (.seq (.block 0 (.seq (.ops [⟨(some 19), none, .mov (T 9)⟩, ⟨(some 20), none, .int2 .neq (T 19) (.const (.int .i64 (0)))⟩, ⟨(some 18), none, .mov (T 20)⟩]) (.cond (T 18) (.seq (.ops [⟨(some 21), none, .mov (T 9)⟩, ⟨(some 6), none, .mov (.const (.int .i64 (0)))⟩, ⟨(some 7), none, .mov (T 21)⟩]) .ret) (.seq (.ops [⟨(some 23), none, .loadN 4 (T 8)⟩, ⟨(some 24), none, .mov (T 1)⟩, ⟨(some 25), none, .call (.func 92) [(T 23), (T 24)]⟩, ⟨(some 26), none, .not (T 25)⟩, ⟨(some 27), none, .mov (T 26)⟩, ⟨(some 28), (some (27, false)), .loadN 4 (T 8)⟩, ⟨(some 29), (some (27, false)), .mov (T 2)⟩, ⟨(some 30), (some (27, false)), .call (.func 92) [(T 28), (T 29)]⟩, ⟨(some 31), (some (27, false)), .not (T 30)⟩, ⟨(some 32), none, .pick (T 27) (.const (.bool true)) (T 31)⟩, ⟨(some 22), none, .mov (T 32)⟩]) (.cond (T 22) (.seq (.ops [⟨(some 6), none, .mov (.const (.int .i64 (0)))⟩, ⟨(some 7), none, .mov (.const (.int .i64 (2)))⟩]) .ret) (.seq (.ops [⟨(some 34), none, .mov (T 1)⟩, ⟨(some 35), none, .mov (T 2)⟩, ⟨(some 36), none, .int2 .eql (T 34) (T 35)⟩, ⟨(some 33), none, .mov (T 36)⟩]) (.cond (T 33) (.seq (.ops [⟨(some 6), none, .mov (.const (.int .i64 (0)))⟩, ⟨(some 7), none, .mov (.const (.int .i64 (6)))⟩]) .ret) (.seq (.ops [⟨(some 38), none, .fieldAddr 3 (T 8)⟩, ⟨(some 39), none, .load1 (T 38)⟩, ⟨(some 40), none, .len (T 39)⟩, ⟨(some 41), none, .int2 .eql (T 40) (.const (.int .i64 (0)))⟩, ⟨(some 37), none, .mov (T 41)⟩]) (.cond (T 37) (.seq (.ops [⟨(some 6), none, .mov (.const (.int .i64 (0)))⟩, ⟨(some 7), none, .mov (.const (.int .i64 (11)))⟩]) .ret) .skip))))))))) (.seq (.ops [⟨(some 10), none, .mov (.const (.int .i64 (0)))⟩]) (.seq (.seq (.ops [⟨(some 42), none, .fieldAddr 3 (T 8)⟩, ⟨(some 43), none, .load1 (T 42)⟩, ⟨(some 44), none, .len (T 43)⟩, ⟨(some 45), none, .mov (.const (.int .i64 (0)))⟩]) (.block 1 (.loop (.seq (.ops [⟨(some 46), none, .int2 .lss (T 45) (T 44)⟩]) (.seq (.cond (T 46) .skip (.exit 1)) (.seq (.block 2 (.seq (.ops [⟨(some 47), none, .idxSl 5 (T 43) (T 45)⟩, ⟨(some 48), none, .loadN 5 (T 47)⟩, ⟨(some 12), none, .alloc [(.int .i64 (0)), (.int .i64 (0)), (.int .i64 (0)), (.int .i64 (0)), (.int .i64 (0))]⟩, ⟨none, none, .store 5 (T 12) (T 48)⟩]) (.seq (.draw [⟨.rd1, ⟨(some 49), none, .loadN 4 (T 8)⟩⟩, ⟨.rd1, ⟨(some 50), none, .loadN 5 (T 12)⟩⟩, ⟨.free, ⟨(some 51), none, .mov (T 1)⟩⟩, ⟨.up, ⟨(some 52), none, .call (.func 77) [(T 49), (T 50), (T 51)]⟩⟩, ⟨.rd, ⟨(some 53), none, .loadN 4 (T 8)⟩⟩, ⟨.rd, ⟨(some 54), none, .loadN 5 (T 12)⟩⟩, ⟨.free, ⟨(some 55), none, .mov (T 2)⟩⟩, ⟨.any, ⟨(some 56), none, .call (.func 77) [(T 53), (T 54), (T 55)]⟩⟩, ⟨.free, ⟨(some 57), none, .int2 .gtr (T 52) (T 56)⟩⟩]) (.cond (T 57) (.ops [⟨(some 58), none, .mov (T 10)⟩, ⟨(some 59), none, .int2 .add (T 58) (.const (.int .i64 (1)))⟩, ⟨(some 10), none, .mov (T 59)⟩]) .skip)))) (.ops [⟨(some 60), none, .int2 .add (T 45) (.const (.int .i64 (1)))⟩, ⟨(some 45), none, .mov (T 60)⟩]))))))) (.seq (.seq (.ops [⟨(some 61), none, .mov (T 10)⟩]) (.block 3 (.seq (.ops [⟨(some 63), none, .int2 .eql (T 61) (.const (.int .i64 (0)))⟩, ⟨(some 62), none, .mov (T 63)⟩]) (.cond (T 62) (.seq (.ops [⟨(some 6), none, .mov (.const (.int .i64 (2)))⟩, ⟨(some 7), none, .mov (.const (.int .i64 (0)))⟩]) .ret) (.seq (.ops [⟨(some 65), none, .fieldAddr 3 (T 8)⟩, ⟨(some 66), none, .load1 (T 65)⟩, ⟨(some 67), none, .len (T 66)⟩, ⟨(some 68), none, .int2 .eql (T 61) (T 67)⟩, ⟨(some 64), none, .mov (T 68)⟩]) (.cond (T 64) (.seq (.ops [⟨(some 6), none, .mov (.const (.int .i64 (1)))⟩, ⟨(some 7), none, .mov (.const (.int .i64 (0)))⟩]) .ret) .skip)))))) (.seq (.ops [⟨(some 6), none, .mov (.const (.int .i64 (3)))⟩, ⟨(some 7), none, .mov (.const (.int .i64 (0)))⟩]) .ret)))))))
theorem fok40 : FnOk Try.prog 40 69 s40 [.tmp 6, .tmp 7] := ⟨Try.f40, _, Try.func40, rfl, Try.ntmps40, by kernel_rfl, by kernel_rfl⟩
open Classical in
theorem more_c (hn : 10060 ≤ n) (hr : h.next + 500000 < far) {F V S : Value} {Y : MY} (hy : YardR h F V S Y) (hY : Thin Y) (one other : Int) :
    call n (.func (.func 40) #[] #[]) [.agg ⟨[F, V, S]⟩, .int .i64 one, .int .i64 other] h = some (.tuple ⟨[.int .i64 (moreV Y one other).1, .int .i64 (moreV Y one other).2]⟩, h) := by
  obtain ⟨n, rfl⟩ : ∃ p, n = p + 1 := ⟨n - 1, by omega⟩
  refine call_plain0 fok40 rfl rfl (by simp) rfl ?_
  have hy := hy.shut
  have hr : h.shutAll.next + 500000 < far := hr
  have hfl : h.shutAll.floor ≤ h.shutAll.next := Nat.le_refl _
  generalize h.shutAll = h at hy hr hfl
  generalize hres : moreV Y one other = res
  simp only [s40, W_seq, W_ops]
  refine ops_box (cs := [F, V, S]) (by omega) rfl hy.one fun g1 hx1 => ?_
  have n1 := hx1.next
  have f1 := hx1.floor
  have w1 := hx1.row.whole (n := 3) rfl
  obtain ⟨v, g2, eo, hm, ho⟩ := open_c (n := n) (h := g1) (by omega) (by omega) (by omega) (hy.mono hx1.sub) hY
  have n2 := hm.next
  have u2 := hm.up
  have f2 := hm.floor
  rcases ho with ⟨hf, rfl⟩ | ⟨hf, tv, rfl, htr, hlong⟩
  · have hrr : res = (0, faultN Y) := by rw [← hres]; unfold moreV; rw [if_pos hf]
    rw [hrr]
    simp only [rn0, rn1, rn2, rn3, rn4, rn5, rn6, rn7, rn8, if_true, if_false, Nat.le_refl, true_and, and_true, decide_true, decide_false, Bool.not_true, Bool.not_false, reduceIte, Nat.reduceEqDiff, Nat.reduceAdd, Nat.reduceMul, Nat.reduceSub, Nat.reduceLeDiff, Nat.reduceLT, w1, eo, ex0, ex1]
    refine step_new (vs := [nilS, nilS, nilS, nilS]) (by omega) (by omega) rfl (by simp only [rn0, rn1, rn2, rn3, rn4, rn5, rn6, rn7, rn8, if_true, if_false, Nat.le_refl, true_and, and_true, decide_true, decide_false, Bool.not_true, Bool.not_false, reduceIte, Nat.reduceEqDiff, Nat.reduceAdd, Nat.reduceMul, Nat.reduceSub, Nat.reduceLeDiff, Nat.reduceLT]; rfl) rfl rfl rfl fun g3 hx3 => ?_
    simp only [rn0, rn1, rn2, rn3, rn4, rn5, rn6, rn7, rn8, if_true, if_false, Nat.le_refl, true_and, and_true, decide_true, decide_false, Bool.not_true, Bool.not_false, reduceIte, Nat.reduceEqDiff, Nat.reduceAdd, Nat.reduceMul, Nat.reduceSub, Nat.reduceLeDiff, Nat.reduceLT, hf, ret_tt]
  have hG := good_of hf
  have ho4 : allB oneCell [F, V, S, tv] = true := by have h1 := hy.one; have h2 := Cells.one htr; simp [allB] at h1 ⊢; simp [h1, h2]
  have hrr : res = if ¬ MoreArgs Y one other then (0, 2) else if one = other then (0, 6) else if truths Y = [] then (0, 11)
      else (verdictV Y one.toNat other.toNat, 0) := by rw [← hres]; unfold moreV; rw [if_neg (by simpa using hf)]
  clear hres
  simp only [rn0, rn1, rn2, rn3, rn4, rn5, rn6, rn7, rn8, if_true, if_false, Nat.le_refl, true_and, and_true, decide_true, decide_false, Bool.not_true, Bool.not_false, reduceIte, Nat.reduceEqDiff, Nat.reduceAdd, Nat.reduceMul, Nat.reduceSub, Nat.reduceLeDiff, Nat.reduceLT, w1, eo, ex0, ex1, hf]
  refine step_new (vs := [F, V, S, tv]) (by omega) (by omega) rfl (by simp only [rn0, rn1, rn2, rn3, rn4, rn5, rn6, rn7, rn8, if_true, if_false, Nat.le_refl, true_and, and_true, decide_true, decide_false, Bool.not_true, Bool.not_false, reduceIte, Nat.reduceEqDiff, Nat.reduceAdd, Nat.reduceMul, Nat.reduceSub, Nat.reduceLeDiff, Nat.reduceLT]; rfl) ho4 rfl rfl fun g3 hx3 => ?_
  have n3 := hx3.next
  have f3 := hx3.floor
  have hs3 : Sub All h g3 := hx1.sub.trans (hm.sub.trans hx3.sub)
  have hy3 := hy.mono hs3
  have w3 := hx3.row.whole (n := 4) rfl
  have htr3 : TruthsR g3 tv (truths Y) := Cells.mono htr hx3.sub
  obtain ⟨rr, hrw, hq⟩ := hy3.v
  have ev := hasVat_c (n := n) (h := g3) (by omega) (by omega) hrw ho4 one
  have eg := hasVat_c (n := n) (h := g3) (by omega) (by omega) hrw ho4 other
  by_cases a1 : 0 ≤ one ∧ one ≤ (Y.nv : Int) - 1
  case neg =>
    rw [if_pos (fun (e : MoreArgs Y one other) => a1 e.1)] at hrr
    rw [hrr]
    simp only [rn0, rn1, rn2, rn3, rn4, rn5, rn6, rn7, rn8, if_true, if_false, Nat.le_refl, true_and, and_true, decide_true, decide_false, Bool.not_true, Bool.not_false, reduceIte, Nat.reduceEqDiff, Nat.reduceAdd, Nat.reduceMul, Nat.reduceSub, Nat.reduceLeDiff, Nat.reduceLT, w3, ev, a1, ret_tt]
  by_cases a2 : 0 ≤ other ∧ other ≤ (Y.nv : Int) - 1
  case neg =>
    rw [if_pos (fun (e : MoreArgs Y one other) => a2 e.2)] at hrr
    rw [hrr]
    simp only [rn0, rn1, rn2, rn3, rn4, rn5, rn6, rn7, rn8, if_true, if_false, Nat.le_refl, true_and, and_true, decide_true, decide_false, Bool.not_true, Bool.not_false, reduceIte, Nat.reduceEqDiff, Nat.reduceAdd, Nat.reduceMul, Nat.reduceSub, Nat.reduceLeDiff, Nat.reduceLT, w3, ev, a1, eg, a2, and_self, ret_tt]
  have hargs : MoreArgs Y one other := ⟨a1, a2⟩
  rw [if_neg (by simpa using hargs)] at hrr
  by_cases a3 : one = other
  · rw [if_pos a3] at hrr
    rw [hrr]
    simp only [rn0, rn1, rn2, rn3, rn4, rn5, rn6, rn7, rn8, if_true, if_false, Nat.le_refl, true_and, and_true, decide_true, decide_false, Bool.not_true, Bool.not_false, reduceIte, Nat.reduceEqDiff, Nat.reduceAdd, Nat.reduceMul, Nat.reduceSub, Nat.reduceLeDiff, Nat.reduceLT, w3, ev, a1, eg, a2, and_self, a3, ret_tt]
  rw [if_neg a3] at hrr
  by_cases he : truths Y = []
  · rw [if_pos he] at hrr
    rw [hrr]
    have hl : (truths Y).length = 0 := by rw [he]; rfl
    simp only [rn0, rn1, rn2, rn3, rn4, rn5, rn6, rn7, rn8, if_true, if_false, Nat.le_refl, true_and, and_true, decide_true, decide_false, Bool.not_true, Bool.not_false, reduceIte, Nat.reduceEqDiff, Nat.reduceAdd, Nat.reduceMul, Nat.reduceSub, Nat.reduceLeDiff, Nat.reduceLT, w3, ev, a1, eg, a2, and_self, a3, hx3.row.ld, Nat.zero_add, List.getElem?_cons_zero, List.getElem?_cons_succ, Cells.len htr3, hl, Int.natCast_zero, ret_tt]
  rw [if_neg he] at hrr
  have hl : ¬ ((truths Y).length : Int) = 0 := fun e => he (List.eq_nil_of_length_eq_zero (by omega))
  obtain ⟨aN, rfl⟩ : ∃ k : Nat, one = k := ⟨one.toNat, by omega⟩
  obtain ⟨bN, rfl⟩ : ∃ k : Nat, other = k := ⟨other.toNat, by omega⟩
  simp only [Int.toNat_natCast] at hrr
  have hlen := truths_len hf
  have hav : aN < Y.nv := by omega
  have hbv : bN < Y.nv := by omega
  simp only [rn0, rn1, rn2, rn3, rn4, rn5, rn6, rn7, rn8, if_true, if_false, Nat.le_refl, true_and, and_true, decide_true, decide_false, Bool.not_true, Bool.not_false, reduceIte, Nat.reduceEqDiff, Nat.reduceAdd, Nat.reduceMul, Nat.reduceSub, Nat.reduceLeDiff, Nat.reduceLT, w3, ev, a1, eg, a2, and_self, a3, hx3.row.ld, Nat.zero_add, List.getElem?_cons_zero, List.getElem?_cons_succ, Cells.len htr3, hl]
  refine W_loop (truths Y).length (fun k f' g ms => (Sub All g3 g ∧ g.floor = g3.floor ∧ g3.next ≤ g.next ∧ g.next ≤ g3.next + k) ∧ ms = [] ∧ f' 1 = .int .i64 (aN : Int) ∧ f' 2 = .int .i64 (bN : Int) ∧ f' 8 = .pointer (some ⟨g2.next, 0, none⟩) ∧
    f' 10 = .int .i64 (cntTo (fun i => Above Y aN bN ((truths Y).getD i fun _ => 0)) k : Int) ∧ f' 43 = tv ∧ f' 44 = .int .i64 ((truths Y).length : Int) ∧ f' 45 = .int .i64 (k : Int)) (by simp; omega) ?_ ?_ ?_
  · simp only [rn0, rn1, rn2, rn3, rn4, rn5, rn6, rn7, rn8, if_true, if_false, Nat.le_refl, true_and, and_true, decide_true, decide_false, Bool.not_true, Bool.not_false, reduceIte, Nat.reduceEqDiff, Nat.reduceAdd, Nat.reduceMul, Nat.reduceSub, Nat.reduceLeDiff, Nat.reduceLT, cntTo]
    first | exact ⟨by omega, rfl⟩ | exact ⟨by omega, rfl, rfl⟩
  · rintro k f' g ms hk ⟨⟨hs, hfg, hup, hnx⟩, rfl, p1, p2, p8, p10, p43, p44, p45⟩
    have hk' : (k : Int) < ((truths Y).length : Int) := by omega
    have hw : wrapF .i64 ((k : Int) + 1) = ((k + 1 : Nat) : Int) := by rw [wrap_in (by omega) (by omega)]; rfl
    have hcl := cntTo_le (p := fun i => Above Y aN bN ((truths Y).getD i fun _ => 0)) k
    have hwc : wrapF .i64 ((cntTo (fun i => Above Y aN bN ((truths Y).getD i fun _ => 0)) k : Int) + 1) = ((cntTo (fun i => Above Y aN bN ((truths Y).getD i fun _ => 0)) k + 1 : Nat) : Int) := by rw [wrap_in (by omega) (by omega)]; rfl
    have ht := Cells.mono htr3 hs
    have hld : loadAgg 5 g (ptrO tv 5 k 0) = some (.agg ⟨arr ((truths Y).getD k fun _ => 0)⟩) := truths_ld ht hk
    simp only [rn0, rn1, rn2, rn3, rn4, rn5, rn6, rn7, rn8, if_true, if_false, Nat.le_refl, true_and, and_true, decide_true, decide_false, Bool.not_true, Bool.not_false, reduceIte, Nat.reduceEqDiff, Nat.reduceAdd, Nat.reduceMul, Nat.reduceSub, Nat.reduceLeDiff, Nat.reduceLT, p1, p2, p8, p10, p43, p44, p45, hk', Cells.idx ht hk, hld]
    refine step_new (vs := arr ((truths Y).getD k fun _ => 0)) (by omega) (by omega) rfl (by simp only [rn0, rn1, rn2, rn3, rn4, rn5, rn6, rn7, rn8, if_true, if_false, Nat.le_refl, true_and, and_true, decide_true, decide_false, Bool.not_true, Bool.not_false, reduceIte, Nat.reduceEqDiff, Nat.reduceAdd, Nat.reduceMul, Nat.reduceSub, Nat.reduceLeDiff, Nat.reduceLT]; rfl) arr_one arr_len rfl fun g6 hx6 => ?_
    have n6 := hx6.next
    have f6 := hx6.floor
    have s36 : Sub All g3 g6 := hs.trans hx6.sub
    have w6 := (hx3.row.mono s36).whole (n := 4) rfl
    have t6 := hx6.row.whole arr_len
    have hy6 := hy3.mono s36
    obtain ⟨v1, v2⟩ := hG.v aN hav
    obtain ⟨u1, u2'⟩ := hG.v bN hbv
    have hrg := truths_range hf (truths_at hk)
    have hsz := hG.sz.1
    have e1 := inVat_c (n := n) (h := g6) (b := (truths Y).getD k fun _ => 0) (F := F) (S := S) (T := tv) (at_ := aN) (by omega) (by omega) hy6.v ho4 hav v1 hsz hrg (fun i hi => v2 i (by omega))
    have e2 := inVat_c (n := n) (h := g6) (b := (truths Y).getD k fun _ => 0) (F := F) (S := S) (T := tv) (at_ := bN) (by omega) (by omega) hy6.v ho4 hbv u1 hsz hrg (fun i hi => u2' i (by omega))
    simp only [rn0, rn1, rn2, rn3, rn4, rn5, rn6, rn7, rn8, if_true, if_false, Nat.le_refl, true_and, and_true, decide_true, decide_false, Bool.not_true, Bool.not_false, reduceIte, Nat.reduceEqDiff, Nat.reduceAdd, Nat.reduceMul, Nat.reduceSub, Nat.reduceLeDiff, Nat.reduceLT, p1, p2, p8, p10, p43, p44, p45]
    refine W_draw All ?_
    by_cases hA : Above Y aN bN ((truths Y).getD k fun _ => 0)
    · have hA' : blueN ((truths Y).getD k fun _ => 0) (Y.q bN) Y.nf < blueN ((truths Y).getD k fun _ => 0) (Y.q aN) Y.nf := hA
      have hc := cntTo_yes (p := fun i => Above Y aN bN ((truths Y).getD i fun _ => 0)) (k := k) hA
      simp only [rn0, rn1, rn2, rn3, rn4, rn5, rn6, rn7, rn8, if_true, if_false, Nat.le_refl, true_and, and_true, decide_true, decide_false, Bool.not_true, Bool.not_false, reduceIte, Nat.reduceEqDiff, Nat.reduceAdd, Nat.reduceMul, Nat.reduceSub, Nat.reduceLeDiff, Nat.reduceLT, p1, p2, p8, p10, p43, p44, p45, w6, t6, e1, e2, self4 hy6 (Cells.mono ht hx6.sub), self_arr, hA', hwc, hw, hc]
      exact ⟨s36, by omega, by omega, by omega⟩
    · have hA' : ¬ blueN ((truths Y).getD k fun _ => 0) (Y.q bN) Y.nf < blueN ((truths Y).getD k fun _ => 0) (Y.q aN) Y.nf := hA
      have hc := cntTo_no (p := fun i => Above Y aN bN ((truths Y).getD i fun _ => 0)) (k := k) hA
      simp only [rn0, rn1, rn2, rn3, rn4, rn5, rn6, rn7, rn8, if_true, if_false, Nat.le_refl, true_and, and_true, decide_true, decide_false, Bool.not_true, Bool.not_false, reduceIte, Nat.reduceEqDiff, Nat.reduceAdd, Nat.reduceMul, Nat.reduceSub, Nat.reduceLeDiff, Nat.reduceLT, p1, p2, p8, p10, p43, p44, p45, w6, t6, e1, e2, self4 hy6 (Cells.mono ht hx6.sub), self_arr, hA', hw, hc]
      exact ⟨s36, by omega, by omega, by omega⟩
  · rintro f' g ms ⟨⟨hs, hfg, hup, hnx⟩, rfl, p1, p2, p8, p10, p43, p44, p45⟩
    have r3 := hx3.row.mono hs
    have ht := Cells.mono htr3 hs
    have hcl := cntTo_le (p := fun i => Above Y aN bN ((truths Y).getD i fun _ => 0)) (truths Y).length
    have hno : ((cntTo (fun i => Above Y aN bN ((truths Y).getD i fun _ => 0)) (truths Y).length : Int) = 0) ↔ ∀ t, t ∈ truths Y → ¬ Above Y aN bN t := by
      rw [← all_getD' (p := fun t => ¬ Above Y aN bN t), ← cntTo_none (p := fun i => Above Y aN bN ((truths Y).getD i fun _ => 0))]; omega
    have hal : ((cntTo (fun i => Above Y aN bN ((truths Y).getD i fun _ => 0)) (truths Y).length : Int) = ((truths Y).length : Int)) ↔ ∀ t, t ∈ truths Y → Above Y aN bN t := by
      rw [← all_getD' (p := fun t => Above Y aN bN t), ← cntTo_all (p := fun i => Above Y aN bN ((truths Y).getD i fun _ => 0))]; omega
    unfold verdictV at hrr
    by_cases c1 : ∀ t, t ∈ truths Y → ¬ Above Y aN bN t
    · rw [if_pos c1] at hrr
      rw [hrr]
      have c1' := hno.2 c1
      simp only [rn0, rn1, rn2, rn3, rn4, rn5, rn6, rn7, rn8, if_true, if_false, Nat.le_refl, true_and, and_true, decide_true, decide_false, Bool.not_true, Bool.not_false, reduceIte, Nat.reduceEqDiff, Nat.reduceAdd, Nat.reduceMul, Nat.reduceSub, Nat.reduceLeDiff, Nat.reduceLT, p1, p2, p8, p10, p43, p44, p45, Int.lt_irrefl, c1', ret_tt]
    have c1' := mt hno.1 c1
    rw [if_neg c1] at hrr
    by_cases c2 : ∀ t, t ∈ truths Y → Above Y aN bN t
    · rw [if_pos c2] at hrr
      rw [hrr]
      have c2' := hal.2 c2
      have hl2 : ¬ ((truths Y).length : Int) = 0 := hl
      simp only [rn0, rn1, rn2, rn3, rn4, rn5, rn6, rn7, rn8, if_true, if_false, Nat.le_refl, true_and, and_true, decide_true, decide_false, Bool.not_true, Bool.not_false, reduceIte, Nat.reduceEqDiff, Nat.reduceAdd, Nat.reduceMul, Nat.reduceSub, Nat.reduceLeDiff, Nat.reduceLT, p1, p2, p8, p10, p43, p44, p45, Int.lt_irrefl, c2', hl2, r3.ld, Nat.zero_add, List.getElem?_cons_zero, List.getElem?_cons_succ, Cells.len ht, ret_tt]
    have c2' := mt hal.1 c2
    rw [if_neg c2] at hrr
    rw [hrr]
    simp only [rn0, rn1, rn2, rn3, rn4, rn5, rn6, rn7, rn8, if_true, if_false, Nat.le_refl, true_and, and_true, decide_true, decide_false, Bool.not_true, Bool.not_false, reduceIte, Nat.reduceEqDiff, Nat.reduceAdd, Nat.reduceMul, Nat.reduceSub, Nat.reduceLeDiff, Nat.reduceLT, p1, p2, p8, p10, p43, p44, p45, Int.lt_irrefl, c1', c2', r3.ld, Nat.zero_add, List.getElem?_cons_zero, List.getElem?_cons_succ, Cells.len ht, ret_tt]
end Go.Vm.Vat

namespace Go.Vm.Vat
open Go.Proofs
set_option linter.unusedSimpArgs false
set_option linter.unusedVariables false
set_option maxRecDepth 10000
variable {n : Nat} {h : AHeap}

open Classical in
theorem moreV_in {Y : MY} (hf : faultN Y = 0) {a b : Nat} (ha : a < Y.nv) (hb : b < Y.nv) (hab : a ≠ b) : moreV Y (a : Int) (b : Int) = if truths Y = [] then (0, 11) else (verdictV Y a b, 0) := by
  unfold moreV
  rw [if_neg (by simpa using hf), if_neg (fun e => e ⟨⟨by omega, by omega⟩, ⟨by omega, by omega⟩⟩), if_neg (by omega), Int.toNat_natCast, Int.toNat_natCast]
theorem verdict_1 {Y : MY} {a b : Nat} : verdictV Y a b = 1 ↔ (¬ ∀ t, t ∈ truths Y → ¬ Above Y a b t) ∧ ∀ t, t ∈ truths Y → Above Y a b t := by
  unfold verdictV
  by_cases h1 : ∀ t, t ∈ truths Y → ¬ Above Y a b t
  · rw [if_pos h1]; exact ⟨fun e => by omega, fun e => absurd h1 e.1⟩
  · rw [if_neg h1]
    by_cases h2 : ∀ t, t ∈ truths Y → Above Y a b t
    · rw [if_pos h2]; exact ⟨fun _ => ⟨h1, h2⟩, fun _ => rfl⟩
    · rw [if_neg h2]; exact ⟨fun e => by omega, fun e => absurd e.2 h2⟩
theorem verdict_2 {Y : MY} {a b : Nat} (h1 : ∀ t, t ∈ truths Y → ¬ Above Y a b t) : verdictV Y a b = 2 := by unfold verdictV; rw [if_pos h1]
theorem mod_2 {p m : Nat} (h : p < 2 * m) : p % m = if p < m then p else p - m := by
  by_cases c : p < m
  · rw [if_pos c, Nat.mod_eq_of_lt c]
  · rw [if_neg c, Nat.mod_eq_sub_mod (by omega), Nat.mod_eq_of_lt (by omega)]
theorem blueN_mono {t q q' : Nat → Int} {m : Nat} (ht : ∀ k, k < m → 0 ≤ t k) (hq : ∀ k, k < m → q k ≤ q' k) : ∀ i, i ≤ m → blueN t q i ≤ blueN t q' i
  | 0, _ => Int.le_refl _
  | i + 1, hi => by
    have h1 := blueN_mono ht hq i (by omega)
    have h2 := Int.mul_le_mul_of_nonneg_left (hq i (by omega)) (ht i (by omega))
    simp only [blueN]; omega
/-- fewer bundles of a field, among the first k -/
def Fewer (Y : MY) (a b k : Nat) : Prop := ∃ i, i < k ∧ Y.q a i < Y.q b i
noncomputable instance (Y : MY) (a b k : Nat) : Decidable (Fewer Y a b k) := Classical.propDecidable _
theorem fewer_yes {Y : MY} {a b k : Nat} (h : Y.q a k < Y.q b k) : decide (Fewer Y a b (k + 1)) = true := decide_eq_true ⟨k, by omega, h⟩
theorem fewer_no {Y : MY} {a b k : Nat} (h : ¬ Y.q a k < Y.q b k) : decide (Fewer Y a b (k + 1)) = decide (Fewer Y a b k) := decide_eq_decide.2
  ⟨fun ⟨i, h1, h2⟩ => by
    by_cases e : i = k
    · subst e; exact absurd h2 h
    · exact ⟨i, by omega, h2⟩, fun ⟨i, h1, h2⟩ => ⟨i, by omega, h2⟩⟩
theorem fewer_more {Y : MY} {a b k : Nat} (h : decide (Fewer Y a b k) = true) : decide (Fewer Y a b (k + 1)) = true := by
  obtain ⟨i, h1, h2⟩ := of_decide_eq_true h
  exact decide_eq_true ⟨i, by omega, h2⟩
theorem fewer_zero {Y : MY} {a b : Nat} : decide (Fewer Y a b 0) = false := decide_eq_false fun ⟨i, h, _⟩ => by omega
theorem quo8' {a : Nat} (h : a < 256) : IntKind.wrap .i64 ((a : Int).tdiv 8) = ((a / 8 : Nat) : Int) := by
  have e : (a : Int).tdiv 8 = ((a / 8 : Nat) : Int) := rfl
  rw [e]; exact IntWalk.i64_in _ (by omega)

def s12 : SCode := (.seq (.ops [⟨(some 2), none, .box (T 0)⟩, ⟨(some 4), none, .mov (.const (.bool false))⟩]) (.seq (.ops [⟨(some 19), none, .fieldAddr 1 (T 2)⟩, ⟨(some 20), none, .load1 (T 19)⟩, ⟨(some 21), none, .len (T 20)⟩, ⟨(some 5), none, .mov (T 21)⟩]) (.seq (.seq (.ops [⟨(some 22), none, .loadN 3 (T 2)⟩, ⟨(some 23), none, .call (.func 62) [(T 22)]⟩, ⟨(some 24), none, .not (T 23)⟩, ⟨(some 25), none, .mov (T 24)⟩, ⟨(some 26), (some (25, false)), .mov (T 5)⟩, ⟨(some 27), (some (25, false)), .int2 .lss (T 26) (.const (.int .i64 (3)))⟩, ⟨(some 28), none, .pick (T 25) (.const (.bool true)) (T 27)⟩]) (.cond (T 28) (.seq (.ops [⟨(some 29), none, .call (.func 24) []⟩, ⟨(some 4), none, .mov (T 29)⟩]) .ret) .skip)) (.seq (.ops [⟨(some 30), none, .mov (T 1)⟩, ⟨(some 31), none, .plain (.convert 5 3 (T 30)) 3⟩, ⟨(some 32), none, .mov (T 5)⟩, ⟨(some 33), none, .plain (.binOp .rem 3 (T 31) (T 32) 3) 3⟩, ⟨(some 6), none, .mov (T 33)⟩]) (.seq (.ops [⟨(some 34), none, .mov (T 6)⟩, ⟨(some 35), none, .int2 .add (T 34) (.const (.int .i64 (1)))⟩, ⟨(some 36), none, .mov (T 1)⟩, ⟨(some 37), none, .plain (.convert 5 3 (T 36)) 3⟩, ⟨(some 38), none, .plain (.binOp .quo 3 (T 37) (.const (.int .i64 (8))) 3) 3⟩, ⟨(some 39), none, .mov (T 5)⟩, ⟨(some 40), none, .int2 .sub (T 39) (.const (.int .i64 (1)))⟩, ⟨(some 41), none, .plain (.binOp .rem 3 (T 38) (T 40) 3) 3⟩, ⟨(some 42), none, .int2 .add (T 35) (T 41)⟩, ⟨(some 43), none, .mov (T 5)⟩, ⟨(some 44), none, .plain (.binOp .rem 3 (T 42) (T 43) 3) 3⟩, ⟨(some 7), none, .mov (T 44)⟩]) (.seq (.ops [⟨(some 45), none, .mov (T 7)⟩, ⟨(some 46), none, .int2 .add (T 45) (.const (.int .i64 (1)))⟩, ⟨(some 47), none, .mov (T 5)⟩, ⟨(some 48), none, .plain (.binOp .rem 3 (T 46) (T 47) 3) 3⟩, ⟨(some 8), none, .mov (T 48)⟩]) (.seq (.seq (.ops [⟨(some 49), none, .mov (T 8)⟩, ⟨(some 50), none, .mov (T 6)⟩, ⟨(some 51), none, .int2 .eql (T 49) (T 50)⟩]) (.cond (T 51) (.ops [⟨(some 52), none, .mov (T 8)⟩, ⟨(some 53), none, .int2 .add (T 52) (.const (.int .i64 (1)))⟩, ⟨(some 54), none, .mov (T 5)⟩, ⟨(some 55), none, .plain (.binOp .rem 3 (T 53) (T 54) 3) 3⟩, ⟨(some 8), none, .mov (T 55)⟩]) .skip)) (.seq (.ops [⟨(some 57), none, .loadN 3 (T 2)⟩, ⟨(some 58), none, .call (.func 26) [(T 57)]⟩, ⟨(some 59), none, .mov (T 6)⟩, ⟨(some 60), none, .mov (T 7)⟩, ⟨(some 61), none, .call (.func 40) [(T 58), (T 59), (T 60)]⟩, ⟨(some 56), none, .mov (T 61)⟩, ⟨(some 62), none, .extract 0 (T 56)⟩, ⟨(some 63), none, .extract 1 (T 56)⟩, ⟨(some 9), none, .mov (T 62)⟩, ⟨(some 10), none, .mov (T 63)⟩]) (.seq (.ops [⟨(some 65), none, .loadN 3 (T 2)⟩, ⟨(some 66), none, .call (.func 26) [(T 65)]⟩, ⟨(some 67), none, .mov (T 7)⟩, ⟨(some 68), none, .mov (T 6)⟩, ⟨(some 69), none, .call (.func 40) [(T 66), (T 67), (T 68)]⟩, ⟨(some 64), none, .mov (T 69)⟩, ⟨(some 70), none, .extract 0 (T 64)⟩, ⟨(some 71), none, .extract 1 (T 64)⟩, ⟨(some 11), none, .mov (T 70)⟩, ⟨(some 12), none, .mov (T 71)⟩]) (.seq (.ops [⟨(some 73), none, .loadN 3 (T 2)⟩, ⟨(some 74), none, .call (.func 26) [(T 73)]⟩, ⟨(some 75), none, .mov (T 7)⟩, ⟨(some 76), none, .mov (T 8)⟩, ⟨(some 77), none, .call (.func 40) [(T 74), (T 75), (T 76)]⟩, ⟨(some 72), none, .mov (T 77)⟩, ⟨(some 78), none, .extract 0 (T 72)⟩, ⟨(some 79), none, .extract 1 (T 72)⟩, ⟨(some 13), none, .mov (T 78)⟩, ⟨(some 14), none, .mov (T 79)⟩]) (.seq (.ops [⟨(some 81), none, .loadN 3 (T 2)⟩, ⟨(some 82), none, .call (.func 26) [(T 81)]⟩, ⟨(some 83), none, .mov (T 6)⟩, ⟨(some 84), none, .mov (T 8)⟩, ⟨(some 85), none, .call (.func 40) [(T 82), (T 83), (T 84)]⟩, ⟨(some 80), none, .mov (T 85)⟩, ⟨(some 86), none, .extract 0 (T 80)⟩, ⟨(some 87), none, .extract 1 (T 80)⟩, ⟨(some 15), none, .mov (T 86)⟩, ⟨(some 16), none, .mov (T 87)⟩]) (.seq (.seq (.ops [⟨(some 88), none, .mov (T 10)⟩, ⟨(some 89), none, .int2 .neq (T 88) (.const (.int .i64 (0)))⟩]) (.cond (T 89) (.seq (.ops [⟨(some 90), none, .mov (T 10)⟩, ⟨(some 91), none, .int2 .eql (T 90) (.const (.int .i64 (11)))⟩, ⟨(some 92), none, .mov (T 91)⟩, ⟨(some 93), (some (92, true)), .mov (T 12)⟩, ⟨(some 94), (some (92, true)), .mov (T 10)⟩, ⟨(some 95), (some (92, true)), .int2 .eql (T 93) (T 94)⟩, ⟨(some 96), none, .pick (T 92) (T 95) (.const (.bool false))⟩, ⟨(some 97), none, .mov (T 96)⟩, ⟨(some 98), (some (97, true)), .mov (T 14)⟩, ⟨(some 99), (some (97, true)), .mov (T 10)⟩, ⟨(some 100), (some (97, true)), .int2 .eql (T 98) (T 99)⟩, ⟨(some 101), none, .pick (T 97) (T 100) (.const (.bool false))⟩, ⟨(some 102), none, .mov (T 101)⟩, ⟨(some 103), (some (102, true)), .mov (T 16)⟩, ⟨(some 104), (some (102, true)), .mov (T 10)⟩, ⟨(some 105), (some (102, true)), .int2 .eql (T 103) (T 104)⟩, ⟨(some 106), none, .pick (T 102) (T 105) (.const (.bool false))⟩, ⟨(some 107), none, .mov (T 106)⟩, ⟨(some 108), (some (107, true)), .call (.func 24) []⟩, ⟨(some 109), none, .pick (T 107) (T 108) (.const (.bool false))⟩, ⟨(some 4), none, .mov (T 109)⟩]) .ret) .skip)) (.seq (.seq (.ops [⟨(some 110), none, .mov (T 12)⟩, ⟨(some 111), none, .int2 .neq (T 110) (.const (.int .i64 (0)))⟩, ⟨(some 112), none, .mov (T 111)⟩, ⟨(some 113), (some (112, false)), .mov (T 14)⟩, ⟨(some 114), (some (112, false)), .int2 .neq (T 113) (.const (.int .i64 (0)))⟩, ⟨(some 115), none, .pick (T 112) (.const (.bool true)) (T 114)⟩, ⟨(some 116), none, .mov (T 115)⟩, ⟨(some 117), (some (116, false)), .mov (T 16)⟩, ⟨(some 118), (some (116, false)), .int2 .neq (T 117) (.const (.int .i64 (0)))⟩, ⟨(some 119), none, .pick (T 116) (.const (.bool true)) (T 118)⟩]) (.cond (T 119) (.seq (.ops [⟨(some 4), none, .mov (.const (.bool false))⟩]) .ret) .skip)) (.seq (.ops [⟨(some 17), none, .mov (.const (.bool false))⟩]) (.seq (.seq (.ops [⟨(some 18), none, .mov (.const (.int .i64 (0)))⟩]) (.block 0 (.loop (.seq (.seq (.ops [⟨(some 120), none, .mov (T 18)⟩, ⟨(some 121), none, .fieldAddr 0 (T 2)⟩, ⟨(some 122), none, .load1 (T 121)⟩, ⟨(some 123), none, .len (T 122)⟩, ⟨(some 124), none, .int2 .lss (T 120) (T 123)⟩]) (.cond (T 124) .skip (.exit 0))) (.seq (.block 1 (.draw [⟨.free, ⟨(some 127), none, .mov (T 17)⟩⟩, ⟨.free, ⟨(some 128), none, .mov (T 127)⟩⟩, ⟨.free, ⟨(some 129), (some (128, false)), .fieldAddr 1 (T 2)⟩⟩, ⟨.rd1, ⟨(some 130), (some (128, false)), .load1 (T 129)⟩⟩, ⟨.free, ⟨(some 131), (some (128, false)), .mov (T 6)⟩⟩, ⟨.free, ⟨(some 132), (some (128, false)), .idxSl 1 (T 130) (T 131)⟩⟩, ⟨.rd1, ⟨(some 133), (some (128, false)), .load1 (T 132)⟩⟩, ⟨.free, ⟨(some 134), (some (128, false)), .mov (T 18)⟩⟩, ⟨.free, ⟨(some 135), (some (128, false)), .idxSl 1 (T 133) (T 134)⟩⟩, ⟨.rd1, ⟨(some 136), (some (128, false)), .load1 (T 135)⟩⟩, ⟨.free, ⟨(some 137), (some (128, false)), .fieldAddr 1 (T 2)⟩⟩, ⟨.rd1, ⟨(some 138), (some (128, false)), .load1 (T 137)⟩⟩, ⟨.free, ⟨(some 139), (some (128, false)), .mov (T 7)⟩⟩, ⟨.free, ⟨(some 140), (some (128, false)), .idxSl 1 (T 138) (T 139)⟩⟩, ⟨.rd1, ⟨(some 141), (some (128, false)), .load1 (T 140)⟩⟩, ⟨.free, ⟨(some 142), (some (128, false)), .mov (T 18)⟩⟩, ⟨.free, ⟨(some 143), (some (128, false)), .idxSl 1 (T 141) (T 142)⟩⟩, ⟨.rd1, ⟨(some 144), (some (128, false)), .load1 (T 143)⟩⟩, ⟨.free, ⟨(some 145), (some (128, false)), .int2 .lss (T 136) (T 144)⟩⟩, ⟨.free, ⟨(some 146), none, .pick (T 128) (.const (.bool true)) (T 145)⟩⟩, ⟨.free, ⟨(some 17), none, .mov (T 146)⟩⟩])) (.ops [⟨(some 125), none, .mov (T 18)⟩, ⟨(some 126), none, .int2 .add (T 125) (.const (.int .i64 (1)))⟩, ⟨(some 18), none, .mov (T 126)⟩])))))) (.seq (.ops [⟨(some 147), none, .mov (T 9)⟩, ⟨(some 148), none, .int2 .neq (T 147) (.const (.int .i64 (1)))⟩, ⟨(some 149), none, .mov (T 148)⟩, ⟨(some 150), (some (149, false)), .mov (T 11)⟩, ⟨(some 151), (some (149, false)), .int2 .eql (T 150) (.const (.int .i64 (2)))⟩, ⟨(some 152), none, .pick (T 149) (.const (.bool true)) (T 151)⟩, ⟨(some 153), none, .mov (T 152)⟩, ⟨(some 154), (some (153, true)), .mov (T 9)⟩, ⟨(some 155), (some (153, true)), .int2 .neq (T 154) (.const (.int .i64 (1)))⟩, ⟨(some 156), (some (153, true)), .mov (T 155)⟩, ⟨(some 157), (some (156, false)), .mov (T 13)⟩, ⟨(some 158), (some (156, false)), .int2 .neq (T 157) (.const (.int .i64 (1)))⟩, ⟨(some 159), (some (153, true)), .pick (T 156) (.const (.bool true)) (T 158)⟩, ⟨(some 160), (some (153, true)), .mov (T 159)⟩, ⟨(some 161), (some (160, false)), .mov (T 15)⟩, ⟨(some 162), (some (160, false)), .int2 .eql (T 161) (.const (.int .i64 (1)))⟩, ⟨(some 163), (some (153, true)), .pick (T 160) (.const (.bool true)) (T 162)⟩, ⟨(some 164), none, .pick (T 153) (T 163) (.const (.bool false))⟩, ⟨(some 165), none, .mov (T 164)⟩, ⟨(some 166), (some (165, true)), .mov (T 17)⟩, ⟨(some 167), (some (165, true)), .mov (T 166)⟩, ⟨(some 168), (some (167, false)), .mov (T 11)⟩, ⟨(some 169), (some (167, false)), .int2 .eql (T 168) (.const (.int .i64 (2)))⟩, ⟨(some 170), (some (165, true)), .pick (T 167) (.const (.bool true)) (T 169)⟩, ⟨(some 171), none, .pick (T 165) (T 170) (.const (.bool false))⟩, ⟨(some 172), none, .mov (T 171)⟩, ⟨(some 173), (some (172, true)), .call (.func 24) []⟩, ⟨(some 174), none, .pick (T 172) (T 173) (.const (.bool false))⟩, ⟨(some 4), none, .mov (T 174)⟩]) .ret))))))))))))))))
theorem fok12 : FnOk Try.prog 12 175 s12 [.tmp 4] := ⟨Try.f12, _, Try.func12, rfl, Try.ntmps12, by kernel_rfl, by kernel_rfl⟩
theorem above_e (hn : 10090 ≤ n) (hr : h.next + 3000000 < far) (hfl : h.floor ≤ h.next) {fv vv sv : Value} {Y : MY} (hy : YardR h fv vv sv Y) (hT : Thin Y) (hf : faultN Y = 0) (hnv : 3 ≤ Y.nv) {a1 a b0 c0 c : Nat} (w1 : a1 < 256) (ha : a = a1 % Y.nv) (hb0 : b0 = (a + 1 + a1 / 8 % (Y.nv - 1)) % Y.nv) (hc0 : c0 = (b0 + 1) % Y.nv) (hc : c = if c0 = a then (c0 + 1) % Y.nv else c0) (he : truths Y = []) :
    ∃ v h', call n (.func (.func 12) #[] #[]) [.agg ⟨[fv, vv, sv]⟩, .int .u8 (a1 : Int)] h = some (v, h') ∧ v = .bool true := by
  obtain ⟨n, rfl⟩ : ∃ p, n = p + 1 := ⟨n - 1, by omega⟩
  refine call_any0 fok12 rfl rfl (by simp) ?_
  simp only [s12, W_seq, W_ops]
  refine ops_box (cs := [fv, vv, sv]) (by omega) rfl hy.one fun g1 hx1 => ?_
  have n1 := hx1.next
  have f1 := hx1.floor
  have hy1 := hy.mono hx1.sub
  have x1 := hx1.row.whole (n := 3) rfl
  have r1 := hx1.row
  have hrd := ready_c (n := n) (h := g1) (by omega) (by omega) hy1
  have hrd' : decide (Thin Y ∧ faultN Y = 0) = true := decide_eq_true ⟨hT, hf⟩
  rw [hrd'] at hrd
  obtain ⟨rr, hrw, hq⟩ := hy1.v
  have hz := (good_of hf).sz
  obtain ⟨z5, z6, z7⟩ := hz
  have z2 : ¬ (Y.nv : Int) = 0 := by omega
  have z8 : ¬ (8 : Int) = 0 := by decide
  have z9 : ¬ ((Y.nv - 1 : Nat) : Int) = 0 := by omega
  have z3 : ¬ (Y.nv : Int) < 3 := by omega
  have hx : a1 / 8 % (Y.nv - 1) < Y.nv - 1 := Nat.mod_lt _ (by omega)
  obtain ⟨x, hxx⟩ : ∃ x, x = a1 / 8 % (Y.nv - 1) := ⟨_, rfl⟩
  rw [← hxx] at hx hb0
  have hav : a < Y.nv := by rw [ha]; exact Nat.mod_lt _ (by omega)
  have hbv : b0 < Y.nv := by rw [hb0]; exact Nat.mod_lt _ (by omega)
  have hc0v : c0 < Y.nv := by rw [hc0]; exact Nat.mod_lt _ (by omega)
  have m1 : (a1 : Int).tmod (Y.nv : Int) = (a : Int) := by rw [ha]; rfl
  have m2 : ((a1 / 8 : Nat) : Int).tmod ((Y.nv - 1 : Nat) : Int) = (x : Int) := by rw [hxx]; rfl
  have m3 : ((a + 1 + x : Nat) : Int).tmod (Y.nv : Int) = (b0 : Int) := by rw [hb0]; rfl
  have m4 : ((b0 + 1 : Nat) : Int).tmod (Y.nv : Int) = (c0 : Int) := by rw [hc0]; rfl
  have k1 : wrapF .i64 ((a : Int) + 1) = ((a + 1 : Nat) : Int) := by rw [wrap_in (by omega) (by omega)]; rfl
  have k2 : wrapF .i64 ((Y.nv : Int) - 1) = ((Y.nv - 1 : Nat) : Int) := by rw [wrap_in (by omega) (by omega)]; omega
  have k3 : wrapF .i64 (((a + 1 : Nat) : Int) + (x : Int)) = ((a + 1 + x : Nat) : Int) := by rw [wrap_in (by omega) (by omega)]; rfl
  have k4 : wrapF .i64 ((b0 : Int) + 1) = ((b0 + 1 : Nat) : Int) := by rw [wrap_in (by omega) (by omega)]; rfl
  have k5 : wrapF .i64 ((c0 : Int) + 1) = ((c0 + 1 : Nat) : Int) := by rw [wrap_in (by omega) (by omega)]; rfl
  have d1 := mod_2 (p := a + 1 + x) (m := Y.nv) (by omega)
  have d2 := mod_2 (p := b0 + 1) (m := Y.nv) (by omega)
  have d3 := mod_2 (p := c0 + 1) (m := Y.nv) (by omega)
  rw [← hb0] at d1
  rw [← hc0] at d2
  have hab : a ≠ b0 := by
    by_cases c1 : a + 1 + x < Y.nv
    · rw [if_pos c1] at d1; omega
    · rw [if_neg c1] at d1; omega
  have hcs : c < Y.nv ∧ c ≠ a ∧ c ≠ b0 := by
    by_cases c1 : c0 = a
    · rw [if_pos c1, d3] at hc
      by_cases c2 : b0 + 1 < Y.nv
      · rw [if_pos c2] at d2
        by_cases c3 : c0 + 1 < Y.nv
        · rw [if_pos c3] at hc; omega
        · rw [if_neg c3] at hc; omega
      · rw [if_neg c2] at d2
        by_cases c3 : c0 + 1 < Y.nv
        · rw [if_pos c3] at hc; omega
        · rw [if_neg c3] at hc; omega
    · rw [if_neg c1] at hc
      by_cases c2 : b0 + 1 < Y.nv
      · rw [if_pos c2] at d2; omega
      · rw [if_neg c2] at d2; omega
  obtain ⟨hcv, hca, hcb⟩ := hcs
  simp only [rn0, rn1, rn2, rn3, rn4, rn5, rn6, rn7, rn8, if_true, if_false, Nat.le_refl, true_and, and_true, decide_true, decide_false, Bool.not_true, Bool.not_false, reduceIte, Nat.reduceEqDiff, Nat.reduceAdd, Nat.reduceMul, Nat.reduceSub, Nat.reduceLeDiff, Nat.reduceLT, x1, hrd, r1.ld, Nat.zero_add, List.getElem?_cons_zero, List.getElem?_cons_succ, Cells.len hrw, z2, z3, p_conv8, r_8 w1, valN_tmp, valN_const, Nat.reduceLT, r_rem z2, r_quo z8, quo8' w1, m1, k1, k2, r_rem z9, m2, k3, m3, k4, m4]
  refine cond_merge (fun f g ms => g = g1 ∧ ms = [] ∧ f 2 = .pointer (some ⟨h.next, 0, none⟩) ∧ f 6 = .int .i64 (a : Int) ∧ f 7 = .int .i64 (b0 : Int) ∧ f 8 = .int .i64 (c : Int)) (fun hp => ?_) (fun hp => ?_) ?_
  · have hp' : c0 = a := by have := of_decide_eq_true hp; omega
    rw [if_pos hp'] at hc
    have m5 : ((c0 + 1 : Nat) : Int).tmod (Y.nv : Int) = (c : Int) := by rw [hc]; rfl
    simp only [rn0, rn1, rn2, rn3, rn4, rn5, rn6, rn7, rn8, if_true, if_false, Nat.le_refl, true_and, and_true, decide_true, decide_false, Bool.not_true, Bool.not_false, reduceIte, Nat.reduceEqDiff, Nat.reduceAdd, Nat.reduceMul, Nat.reduceSub, Nat.reduceLeDiff, Nat.reduceLT, k5, valN_tmp, valN_const, Nat.reduceLT, r_rem z2, m5]
  · have hp' : ¬ c0 = a := by have := of_decide_eq_false hp; omega
    rw [if_neg hp'] at hc
    subst hc
    simp only [rn0, rn1, rn2, rn3, rn4, rn5, rn6, rn7, rn8, if_true, if_false, Nat.le_refl, true_and, and_true, decide_true, decide_false, Bool.not_true, Bool.not_false, reduceIte, Nat.reduceEqDiff, Nat.reduceAdd, Nat.reduceMul, Nat.reduceSub, Nat.reduceLeDiff, Nat.reduceLT]
  rintro f g ms ⟨rfl, rfl, p2, p6, p7, p8⟩
  obtain ⟨F1, V1, S1, g2, ey1, hy2, mm2⟩ := yard_c (n := n) (h := g) (by omega) (by omega) (by omega) hy1 hT
  have n2 := mm2.next
  have u2 := mm2.up
  have f2 := mm2.floor
  have s2 : Sub All g g2 := mm2.sub
  have e1 := more_c (n := n) (h := g2) (by omega) (by omega) hy2 hT (a : Int) (b0 : Int)
  obtain ⟨F2, V2, S2, g3, ey2, hy3, mm3⟩ := yard_c (n := n) (h := g2) (by omega) (by omega) (by omega) (hy1.mono s2) hT
  have n3 := mm3.next
  have u3 := mm3.up
  have f3 := mm3.floor
  have s3 : Sub All g g3 := s2.trans mm3.sub
  have e2 := more_c (n := n) (h := g3) (by omega) (by omega) hy3 hT (b0 : Int) (a : Int)
  obtain ⟨F3, V3, S3, g4, ey3, hy4, mm4⟩ := yard_c (n := n) (h := g3) (by omega) (by omega) (by omega) (hy1.mono s3) hT
  have n4 := mm4.next
  have u4' := mm4.up
  have f4 := mm4.floor
  have s4 : Sub All g g4 := s3.trans mm4.sub
  have e3 := more_c (n := n) (h := g4) (by omega) (by omega) hy4 hT (b0 : Int) (c : Int)
  obtain ⟨F4, V4, S4, g5, ey4, hy5, mm5⟩ := yard_c (n := n) (h := g4) (by omega) (by omega) (by omega) (hy1.mono s4) hT
  have n5 := mm5.next
  have u5 := mm5.up
  have f5 := mm5.floor
  have s5 : Sub All g g5 := s4.trans mm5.sub
  have e4 := more_c (n := n) (h := g5) (by omega) (by omega) hy5 hT (a : Int) (c : Int)
  have x2 := (r1.mono s2).whole (n := 3) rfl
  have x3 := (r1.mono s3).whole (n := 3) rfl
  have x4 := (r1.mono s4).whole (n := 3) rfl
  have haw := awake_c (n := n) (h := g5) (by omega)
  have v1 := moreV_in hf hav hbv hab
  have v2 := moreV_in hf hbv hav (fun e => hab e.symm)
  have v3 := moreV_in hf hbv hcv (fun e => hcb e.symm)
  have v4 := moreV_in hf hav hcv (fun e => hca e.symm)
  rw [if_pos he] at v1 v2 v3 v4
  rw [v1] at e1
  rw [v2] at e2
  rw [v3] at e3
  rw [v4] at e4
  simp only [rn0, rn1, rn2, rn3, rn4, rn5, rn6, rn7, rn8, if_true, if_false, Nat.le_refl, true_and, and_true, decide_true, decide_false, Bool.not_true, Bool.not_false, reduceIte, Nat.reduceEqDiff, Nat.reduceAdd, Nat.reduceMul, Nat.reduceSub, Nat.reduceLeDiff, Nat.reduceLT, p2, p6, p7, p8, x1, ey1, e1, x2, ey2, e2, x3, ey3, e3, x4, ey4, e4, ex0, ex1, Int.reduceEq, haw]
theorem above_m (hn : 10090 ≤ n) (hr : h.next + 3000000 < far) (hfl : h.floor ≤ h.next) {fv vv sv : Value} {Y : MY} (hy : YardR h fv vv sv Y) (hT : Thin Y) (hf : faultN Y = 0) (hnv : 3 ≤ Y.nv) {a1 a b0 c0 c : Nat} (w1 : a1 < 256) (ha : a = a1 % Y.nv) (hb0 : b0 = (a + 1 + a1 / 8 % (Y.nv - 1)) % Y.nv) (hc0 : c0 = (b0 + 1) % Y.nv) (hc : c = if c0 = a then (c0 + 1) % Y.nv else c0) (he : truths Y ≠ []) :
    ∃ v h', call n (.func (.func 12) #[] #[]) [.agg ⟨[fv, vv, sv]⟩, .int .u8 (a1 : Int)] h = some (v, h') ∧ v = .bool true := by
  obtain ⟨n, rfl⟩ : ∃ p, n = p + 1 := ⟨n - 1, by omega⟩
  refine call_any0 fok12 rfl rfl (by simp) ?_
  simp only [s12, W_seq, W_ops]
  refine ops_box (cs := [fv, vv, sv]) (by omega) rfl hy.one fun g1 hx1 => ?_
  have n1 := hx1.next
  have f1 := hx1.floor
  have hy1 := hy.mono hx1.sub
  have x1 := hx1.row.whole (n := 3) rfl
  have r1 := hx1.row
  have hrd := ready_c (n := n) (h := g1) (by omega) (by omega) hy1
  have hrd' : decide (Thin Y ∧ faultN Y = 0) = true := decide_eq_true ⟨hT, hf⟩
  rw [hrd'] at hrd
  obtain ⟨rr, hrw, hq⟩ := hy1.v
  have hz := (good_of hf).sz
  obtain ⟨z5, z6, z7⟩ := hz
  have z2 : ¬ (Y.nv : Int) = 0 := by omega
  have z8 : ¬ (8 : Int) = 0 := by decide
  have z9 : ¬ ((Y.nv - 1 : Nat) : Int) = 0 := by omega
  have z3 : ¬ (Y.nv : Int) < 3 := by omega
  have hx : a1 / 8 % (Y.nv - 1) < Y.nv - 1 := Nat.mod_lt _ (by omega)
  obtain ⟨x, hxx⟩ : ∃ x, x = a1 / 8 % (Y.nv - 1) := ⟨_, rfl⟩
  rw [← hxx] at hx hb0
  have hav : a < Y.nv := by rw [ha]; exact Nat.mod_lt _ (by omega)
  have hbv : b0 < Y.nv := by rw [hb0]; exact Nat.mod_lt _ (by omega)
  have hc0v : c0 < Y.nv := by rw [hc0]; exact Nat.mod_lt _ (by omega)
  have m1 : (a1 : Int).tmod (Y.nv : Int) = (a : Int) := by rw [ha]; rfl
  have m2 : ((a1 / 8 : Nat) : Int).tmod ((Y.nv - 1 : Nat) : Int) = (x : Int) := by rw [hxx]; rfl
  have m3 : ((a + 1 + x : Nat) : Int).tmod (Y.nv : Int) = (b0 : Int) := by rw [hb0]; rfl
  have m4 : ((b0 + 1 : Nat) : Int).tmod (Y.nv : Int) = (c0 : Int) := by rw [hc0]; rfl
  have k1 : wrapF .i64 ((a : Int) + 1) = ((a + 1 : Nat) : Int) := by rw [wrap_in (by omega) (by omega)]; rfl
  have k2 : wrapF .i64 ((Y.nv : Int) - 1) = ((Y.nv - 1 : Nat) : Int) := by rw [wrap_in (by omega) (by omega)]; omega
  have k3 : wrapF .i64 (((a + 1 : Nat) : Int) + (x : Int)) = ((a + 1 + x : Nat) : Int) := by rw [wrap_in (by omega) (by omega)]; rfl
  have k4 : wrapF .i64 ((b0 : Int) + 1) = ((b0 + 1 : Nat) : Int) := by rw [wrap_in (by omega) (by omega)]; rfl
  have k5 : wrapF .i64 ((c0 : Int) + 1) = ((c0 + 1 : Nat) : Int) := by rw [wrap_in (by omega) (by omega)]; rfl
  have d1 := mod_2 (p := a + 1 + x) (m := Y.nv) (by omega)
  have d2 := mod_2 (p := b0 + 1) (m := Y.nv) (by omega)
  have d3 := mod_2 (p := c0 + 1) (m := Y.nv) (by omega)
  rw [← hb0] at d1
  rw [← hc0] at d2
  have hab : a ≠ b0 := by
    by_cases c1 : a + 1 + x < Y.nv
    · rw [if_pos c1] at d1; omega
    · rw [if_neg c1] at d1; omega
  have hcs : c < Y.nv ∧ c ≠ a ∧ c ≠ b0 := by
    by_cases c1 : c0 = a
    · rw [if_pos c1, d3] at hc
      by_cases c2 : b0 + 1 < Y.nv
      · rw [if_pos c2] at d2
        by_cases c3 : c0 + 1 < Y.nv
        · rw [if_pos c3] at hc; omega
        · rw [if_neg c3] at hc; omega
      · rw [if_neg c2] at d2
        by_cases c3 : c0 + 1 < Y.nv
        · rw [if_pos c3] at hc; omega
        · rw [if_neg c3] at hc; omega
    · rw [if_neg c1] at hc
      by_cases c2 : b0 + 1 < Y.nv
      · rw [if_pos c2] at d2; omega
      · rw [if_neg c2] at d2; omega
  obtain ⟨hcv, hca, hcb⟩ := hcs
  simp only [rn0, rn1, rn2, rn3, rn4, rn5, rn6, rn7, rn8, if_true, if_false, Nat.le_refl, true_and, and_true, decide_true, decide_false, Bool.not_true, Bool.not_false, reduceIte, Nat.reduceEqDiff, Nat.reduceAdd, Nat.reduceMul, Nat.reduceSub, Nat.reduceLeDiff, Nat.reduceLT, x1, hrd, r1.ld, Nat.zero_add, List.getElem?_cons_zero, List.getElem?_cons_succ, Cells.len hrw, z2, z3, p_conv8, r_8 w1, valN_tmp, valN_const, Nat.reduceLT, r_rem z2, r_quo z8, quo8' w1, m1, k1, k2, r_rem z9, m2, k3, m3, k4, m4]
  refine cond_merge (fun f g ms => g = g1 ∧ ms = [] ∧ f 2 = .pointer (some ⟨h.next, 0, none⟩) ∧ f 6 = .int .i64 (a : Int) ∧ f 7 = .int .i64 (b0 : Int) ∧ f 8 = .int .i64 (c : Int)) (fun hp => ?_) (fun hp => ?_) ?_
  · have hp' : c0 = a := by have := of_decide_eq_true hp; omega
    rw [if_pos hp'] at hc
    have m5 : ((c0 + 1 : Nat) : Int).tmod (Y.nv : Int) = (c : Int) := by rw [hc]; rfl
    simp only [rn0, rn1, rn2, rn3, rn4, rn5, rn6, rn7, rn8, if_true, if_false, Nat.le_refl, true_and, and_true, decide_true, decide_false, Bool.not_true, Bool.not_false, reduceIte, Nat.reduceEqDiff, Nat.reduceAdd, Nat.reduceMul, Nat.reduceSub, Nat.reduceLeDiff, Nat.reduceLT, k5, valN_tmp, valN_const, Nat.reduceLT, r_rem z2, m5]
  · have hp' : ¬ c0 = a := by have := of_decide_eq_false hp; omega
    rw [if_neg hp'] at hc
    subst hc
    simp only [rn0, rn1, rn2, rn3, rn4, rn5, rn6, rn7, rn8, if_true, if_false, Nat.le_refl, true_and, and_true, decide_true, decide_false, Bool.not_true, Bool.not_false, reduceIte, Nat.reduceEqDiff, Nat.reduceAdd, Nat.reduceMul, Nat.reduceSub, Nat.reduceLeDiff, Nat.reduceLT]
  rintro f g ms ⟨rfl, rfl, p2, p6, p7, p8⟩
  obtain ⟨F1, V1, S1, g2, ey1, hy2, mm2⟩ := yard_c (n := n) (h := g) (by omega) (by omega) (by omega) hy1 hT
  have n2 := mm2.next
  have u2 := mm2.up
  have f2 := mm2.floor
  have s2 : Sub All g g2 := mm2.sub
  have e1 := more_c (n := n) (h := g2) (by omega) (by omega) hy2 hT (a : Int) (b0 : Int)
  obtain ⟨F2, V2, S2, g3, ey2, hy3, mm3⟩ := yard_c (n := n) (h := g2) (by omega) (by omega) (by omega) (hy1.mono s2) hT
  have n3 := mm3.next
  have u3 := mm3.up
  have f3 := mm3.floor
  have s3 : Sub All g g3 := s2.trans mm3.sub
  have e2 := more_c (n := n) (h := g3) (by omega) (by omega) hy3 hT (b0 : Int) (a : Int)
  obtain ⟨F3, V3, S3, g4, ey3, hy4, mm4⟩ := yard_c (n := n) (h := g3) (by omega) (by omega) (by omega) (hy1.mono s3) hT
  have n4 := mm4.next
  have u4' := mm4.up
  have f4 := mm4.floor
  have s4 : Sub All g g4 := s3.trans mm4.sub
  have e3 := more_c (n := n) (h := g4) (by omega) (by omega) hy4 hT (b0 : Int) (c : Int)
  obtain ⟨F4, V4, S4, g5, ey4, hy5, mm5⟩ := yard_c (n := n) (h := g4) (by omega) (by omega) (by omega) (hy1.mono s4) hT
  have n5 := mm5.next
  have u5 := mm5.up
  have f5 := mm5.floor
  have s5 : Sub All g g5 := s4.trans mm5.sub
  have e4 := more_c (n := n) (h := g5) (by omega) (by omega) hy5 hT (a : Int) (c : Int)
  have x2 := (r1.mono s2).whole (n := 3) rfl
  have x3 := (r1.mono s3).whole (n := 3) rfl
  have x4 := (r1.mono s4).whole (n := 3) rfl
  have haw := awake_c (n := n) (h := g5) (by omega)
  have v1 := moreV_in hf hav hbv hab
  have v2 := moreV_in hf hbv hav (fun e => hab e.symm)
  have v3 := moreV_in hf hbv hcv (fun e => hcb e.symm)
  have v4 := moreV_in hf hav hcv (fun e => hca e.symm)
  rw [if_neg he] at v1 v2 v3 v4
  rw [v1] at e1
  rw [v2] at e2
  rw [v3] at e3
  rw [v4] at e4
  have F1 : verdictV Y a b0 = 1 → verdictV Y b0 a = 2 := fun e => verdict_2 fun t ht hA => by
    have := (verdict_1.1 e).2 t ht
    unfold Above at hA this
    omega
  have F2 : verdictV Y a b0 = 1 → verdictV Y b0 c = 1 → verdictV Y a c = 1 := fun q1 q2 => by
    have r1 := (verdict_1.1 q1).2
    have r2 := (verdict_1.1 q2).2
    have r3 : ∀ t, t ∈ truths Y → Above Y a c t := fun t ht => by
      have := r1 t ht
      have := r2 t ht
      unfold Above at *
      omega
    refine verdict_1.2 ⟨fun hx => ?_, r3⟩
    obtain ⟨t, ht⟩ := List.exists_mem_of_ne_nil _ he
    exact hx t ht (r3 t ht)
  have F3 : decide (Fewer Y a b0 Y.nf) = false → verdictV Y b0 a = 2 := fun e => verdict_2 fun t ht hA => by
    have hno := of_decide_eq_false e
    have := blueN_mono (t := t) (q := Y.q b0) (q' := Y.q a) (m := Y.nf) (fun k hk => (truths_range hf ht k hk).1) (fun k hk => by
      apply Classical.byContradiction
      intro hc
      exact hno ⟨k, hk, by omega⟩) Y.nf (Nat.le_refl _)
    unfold Above at hA
    omega
  generalize verdictV Y a b0 = vu at e1 F1 F2
  generalize verdictV Y b0 a = vv' at e2 F1 F3
  generalize verdictV Y b0 c = vw at e3 F2
  generalize verdictV Y a c = vx at e4 F2
  clear v1 v2 v3 v4
  simp only [rn0, rn1, rn2, rn3, rn4, rn5, rn6, rn7, rn8, if_true, if_false, Nat.le_refl, true_and, and_true, decide_true, decide_false, Bool.not_true, Bool.not_false, reduceIte, Nat.reduceEqDiff, Nat.reduceAdd, Nat.reduceMul, Nat.reduceSub, Nat.reduceLeDiff, Nat.reduceLT, p2, p6, p7, p8, x1, ey1, e1, x2, ey2, e2, x3, ey3, e3, x4, ey4, e4, ex0, ex1, Int.reduceEq]
  have hy5' := hy1.mono s5
  obtain ⟨rr5, hrw5, hq5⟩ := hy5'.v
  have r5 := r1.mono s5
  have hcnt : ∀ k, k < Y.nv → Y.cnt k = Y.nf := fun k hk => ((good_of hf).v k hk).1
  refine W_loop Y.nf (fun k f g ms => g = g5 ∧ ms = [] ∧ f 2 = .pointer (some ⟨h.next, 0, none⟩) ∧ f 6 = .int .i64 (a : Int) ∧ f 7 = .int .i64 (b0 : Int) ∧ f 9 = .int .i64 vu ∧ f 11 = .int .i64 vv' ∧ f 13 = .int .i64 vw ∧ f 15 = .int .i64 vx ∧ f 17 = .bool (decide (Fewer Y a b0 k)) ∧ f 18 = .int .i64 (k : Int)) (by simp; omega) ?_ ?_ ?_
  · simp only [rn0, rn1, rn2, rn3, rn4, rn5, rn6, rn7, rn8, if_true, if_false, Nat.le_refl, true_and, and_true, decide_true, decide_false, Bool.not_true, Bool.not_false, reduceIte, Nat.reduceEqDiff, Nat.reduceAdd, Nat.reduceMul, Nat.reduceSub, Nat.reduceLeDiff, Nat.reduceLT, p2, p6, p7, p8, fewer_zero]
    first | done | exact ⟨rfl, rfl⟩ | rfl
  · clear p2 p6 p7 p8
    rintro k f g ms hk ⟨rfl, rfl, p2, p6, p7, p9, p11, p13, p15, p17, p18⟩
    have hk' : (k : Int) < (Y.nf : Int) := by omega
    have hw : wrapF .i64 ((k : Int) + 1) = ((k + 1 : Nat) : Int) := by rw [wrap_in (by omega) (by omega)]; rfl
    have hka : k < Y.cnt a := by rw [hcnt a hav]; exact hk
    have hkb : k < Y.cnt b0 := by rw [hcnt b0 hbv]; exact hk
    simp only [rn0, rn1, rn2, rn3, rn4, rn5, rn6, rn7, rn8, if_true, if_false, Nat.le_refl, true_and, and_true, decide_true, decide_false, Bool.not_true, Bool.not_false, reduceIte, Nat.reduceEqDiff, Nat.reduceAdd, Nat.reduceMul, Nat.reduceSub, Nat.reduceLeDiff, Nat.reduceLT, p2, p6, p7, p9, p11, p13, p15, p17, p18, r5.ld, Nat.zero_add, List.getElem?_cons_zero, List.getElem?_cons_succ, Cells.len hy5'.f, hk']
    refine W_draw All ?_
    have hD : decide (Fewer Y a b0 k) = true ∨ decide (Fewer Y a b0 k) = false := by cases decide (Fewer Y a b0 k) <;> simp
    rcases hD with hD | hD
    · have hD' := fewer_more hD
      simp only [rn0, rn1, rn2, rn3, rn4, rn5, rn6, rn7, rn8, if_true, if_false, Nat.le_refl, true_and, and_true, decide_true, decide_false, Bool.not_true, Bool.not_false, reduceIte, Nat.reduceEqDiff, Nat.reduceAdd, Nat.reduceMul, Nat.reduceSub, Nat.reduceLeDiff, Nat.reduceLT, p2, p6, p7, p9, p11, p13, p15, p17, p18, d_guard, dg_tt, dg_tf, dg_ft, dg_ff, hD, hD', hw]
    · by_cases hl : Y.q a k < Y.q b0 k
      · have hD' := fewer_yes hl
        simp only [rn0, rn1, rn2, rn3, rn4, rn5, rn6, rn7, rn8, if_true, if_false, Nat.le_refl, true_and, and_true, decide_true, decide_false, Bool.not_true, Bool.not_false, reduceIte, Nat.reduceEqDiff, Nat.reduceAdd, Nat.reduceMul, Nat.reduceSub, Nat.reduceLeDiff, Nat.reduceLT, p2, p6, p7, p9, p11, p13, p15, p17, p18, d_guard, dg_tt, dg_tf, dg_ft, dg_ff, r5.ld, Nat.zero_add, List.getElem?_cons_zero, List.getElem?_cons_succ, Cells.idx hrw5 hav, Cells.ld hrw5 hav Nat.zero_lt_one, Cells.idx hrw5 hbv, Cells.ld hrw5 hbv Nat.zero_lt_one, Cells.idx (hq5 a hav) hka, Cells.ld (hq5 a hav) hka Nat.zero_lt_one, Cells.idx (hq5 b0 hbv) hkb, Cells.ld (hq5 b0 hbv) hkb Nat.zero_lt_one, hD, hD', hl, hw]
      · have hD' := (fewer_no hl).trans hD
        simp only [rn0, rn1, rn2, rn3, rn4, rn5, rn6, rn7, rn8, if_true, if_false, Nat.le_refl, true_and, and_true, decide_true, decide_false, Bool.not_true, Bool.not_false, reduceIte, Nat.reduceEqDiff, Nat.reduceAdd, Nat.reduceMul, Nat.reduceSub, Nat.reduceLeDiff, Nat.reduceLT, p2, p6, p7, p9, p11, p13, p15, p17, p18, d_guard, dg_tt, dg_tf, dg_ft, dg_ff, r5.ld, Nat.zero_add, List.getElem?_cons_zero, List.getElem?_cons_succ, Cells.idx hrw5 hav, Cells.ld hrw5 hav Nat.zero_lt_one, Cells.idx hrw5 hbv, Cells.ld hrw5 hbv Nat.zero_lt_one, Cells.idx (hq5 a hav) hka, Cells.ld (hq5 a hav) hka Nat.zero_lt_one, Cells.idx (hq5 b0 hbv) hkb, Cells.ld (hq5 b0 hbv) hkb Nat.zero_lt_one, hD, hD', hl, hw]
  · clear p2 p6 p7 p8
    rintro f g ms ⟨rfl, rfl, p2, p6, p7, p9, p11, p13, p15, p17, p18⟩
    generalize decide (Fewer Y a b0 Y.nf) = D at p17 F3
    by_cases c1 : vu = 1
    · have c2 := F1 c1
      subst c1 c2
      by_cases c3 : vw = 1
      · have c4 := F2 rfl c3
        subst c3 c4
        cases D <;> simp only [rn0, rn1, rn2, rn3, rn4, rn5, rn6, rn7, rn8, if_true, if_false, Nat.le_refl, true_and, and_true, decide_true, decide_false, Bool.not_true, Bool.not_false, reduceIte, Nat.reduceEqDiff, Nat.reduceAdd, Nat.reduceMul, Nat.reduceSub, Nat.reduceLeDiff, Nat.reduceLT, p2, p6, p7, p9, p11, p13, p15, p17, p18, r5.ld, Nat.zero_add, List.getElem?_cons_zero, List.getElem?_cons_succ, Cells.len hy5'.f, Int.lt_irrefl, Int.reduceEq, haw]
      · cases D <;> simp only [rn0, rn1, rn2, rn3, rn4, rn5, rn6, rn7, rn8, if_true, if_false, Nat.le_refl, true_and, and_true, decide_true, decide_false, Bool.not_true, Bool.not_false, reduceIte, Nat.reduceEqDiff, Nat.reduceAdd, Nat.reduceMul, Nat.reduceSub, Nat.reduceLeDiff, Nat.reduceLT, p2, p6, p7, p9, p11, p13, p15, p17, p18, r5.ld, Nat.zero_add, List.getElem?_cons_zero, List.getElem?_cons_succ, Cells.len hy5'.f, Int.lt_irrefl, Int.reduceEq, c3, haw]
    · cases D with
      | true => simp only [rn0, rn1, rn2, rn3, rn4, rn5, rn6, rn7, rn8, if_true, if_false, Nat.le_refl, true_and, and_true, decide_true, decide_false, Bool.not_true, Bool.not_false, reduceIte, Nat.reduceEqDiff, Nat.reduceAdd, Nat.reduceMul, Nat.reduceSub, Nat.reduceLeDiff, Nat.reduceLT, p2, p6, p7, p9, p11, p13, p15, p17, p18, r5.ld, Nat.zero_add, List.getElem?_cons_zero, List.getElem?_cons_succ, Cells.len hy5'.f, Int.lt_irrefl, Int.reduceEq, c1, haw]
      | false =>
        have c2 := F3 rfl
        subst c2
        simp only [rn0, rn1, rn2, rn3, rn4, rn5, rn6, rn7, rn8, if_true, if_false, Nat.le_refl, true_and, and_true, decide_true, decide_false, Bool.not_true, Bool.not_false, reduceIte, Nat.reduceEqDiff, Nat.reduceAdd, Nat.reduceMul, Nat.reduceSub, Nat.reduceLeDiff, Nat.reduceLT, p2, p6, p7, p9, p11, p13, p15, p17, p18, r5.ld, Nat.zero_add, List.getElem?_cons_zero, List.getElem?_cons_succ, Cells.len hy5'.f, Int.lt_irrefl, Int.reduceEq, c1, haw]
theorem above_c (hn : 10100 ≤ n) (hr : h.next + 3000000 < far) (hfl : h.floor ≤ h.next) {fv vv sv : Value} {Y : MY} (hy : YardR h fv vv sv Y) (a1 : Int) (wf1 : (Lit.int .u8 a1).wf = true) :
    ∃ v h', call n (.func (.func 12) #[] #[]) [.agg ⟨[fv, vv, sv]⟩, .int .u8 a1] h = some (v, h') ∧ v = .bool true := by
  obtain ⟨k1, rfl, h1⟩ := wf8 wf1
  by_cases hg : (Thin Y ∧ faultN Y = 0) ∧ 3 ≤ Y.nv
  · obtain ⟨⟨g1, g2⟩, g3⟩ := hg
    by_cases he : truths Y = []
    · exact above_e (by omega) hr hfl hy g1 g2 g3 h1 rfl rfl rfl rfl he
    · exact above_m (by omega) hr hfl hy g1 g2 g3 h1 rfl rfl rfl rfl he
  obtain ⟨n, rfl⟩ : ∃ p, n = p + 1 := ⟨n - 1, by omega⟩
  refine call_any0 fok12 rfl rfl (by simp) ?_
  simp only [s12, W_seq, W_ops]
  refine ops_box (cs := [fv, vv, sv]) (by omega) rfl hy.one fun g1 hx1 => ?_
  have n1 := hx1.next
  have hy1 := hy.mono hx1.sub
  have x1 := hx1.row.whole (n := 3) rfl
  have r1 := hx1.row
  have hrd := ready_c (n := n) (h := g1) (by omega) (by omega) hy1
  have haw := awake_c (n := n) (h := g1) (by omega)
  obtain ⟨rr, hrw, hq⟩ := hy1.v
  by_cases c1 : Thin Y ∧ faultN Y = 0
  case neg =>
    rw [decide_eq_false c1] at hrd
    simp only [rn0, rn1, rn2, rn3, rn4, rn5, rn6, rn7, rn8, if_true, if_false, Nat.le_refl, true_and, and_true, decide_true, decide_false, Bool.not_true, Bool.not_false, reduceIte, Nat.reduceEqDiff, Nat.reduceAdd, Nat.reduceMul, Nat.reduceSub, Nat.reduceLeDiff, Nat.reduceLT, x1, hrd, r1.ld, Nat.zero_add, List.getElem?_cons_zero, List.getElem?_cons_succ, Cells.len hrw, haw]
  rw [decide_eq_true c1] at hrd
  have c2 : (Y.nv : Int) < 3 := by
    apply Classical.byContradiction
    intro hn
    exact hg ⟨c1, by omega⟩
  simp only [rn0, rn1, rn2, rn3, rn4, rn5, rn6, rn7, rn8, if_true, if_false, Nat.le_refl, true_and, and_true, decide_true, decide_false, Bool.not_true, Bool.not_false, reduceIte, Nat.reduceEqDiff, Nat.reduceAdd, Nat.reduceMul, Nat.reduceSub, Nat.reduceLeDiff, Nat.reduceLT, x1, hrd, r1.ld, Nat.zero_add, List.getElem?_cons_zero, List.getElem?_cons_succ, Cells.len hrw, c2, haw]
end Go.Vm.Vat
