/- Texts of the proofs of this seat, put together: VatEnds, VatEnds2. -/
import Derived.Test.YtnibceeoejeimaaPk7

namespace Go.Vm.Vat
open Go.Proofs
set_option linter.unusedSimpArgs false
set_option linter.unusedVariables false
set_option maxRecDepth 10000
variable {n : Nat} {h : AHeap}

/-- four bits -/
def bitsE (b1 b2 b3 b4 : Bool) : Nat := (bif b1 then 1 else 0) + (bif b2 then 2 else 0) + (bif b3 then 4 else 0) + (bif b4 then 8 else 0)
theorem bitsE_lt {b1 b2 b3 b4 : Bool} : bitsE b1 b2 b3 b4 < 16 := by cases b1 <;> cases b2 <;> cases b3 <;> cases b4 <;> decide
theorem bitsE_1 {b1 b2 b3 b4 : Bool} : bitsE b1 b2 b3 b4 ||| 1 = bitsE true b2 b3 b4 := by cases b1 <;> cases b2 <;> cases b3 <;> cases b4 <;> rfl
theorem bitsE_2 {b1 b2 b3 b4 : Bool} : bitsE b1 b2 b3 b4 ||| 2 = bitsE b1 true b3 b4 := by cases b1 <;> cases b2 <;> cases b3 <;> cases b4 <;> rfl
theorem bitsE_4 {b1 b2 b3 b4 : Bool} : bitsE b1 b2 b3 b4 ||| 4 = bitsE b1 b2 true b4 := by cases b1 <;> cases b2 <;> cases b3 <;> cases b4 <;> rfl
theorem bitsE_8 {b1 b2 b3 b4 : Bool} : bitsE b1 b2 b3 b4 ||| 8 = bitsE b1 b2 b3 true := by cases b1 <;> cases b2 <;> cases b3 <;> cases b4 <;> rfl
theorem or_1 {other : AHeap → Option (Value × AHeap)} {b1 b2 b3 b4 : Bool} : run2 orF other (.int .i64 ((bitsE b1 b2 b3 b4 : Nat) : Int)) (.int .i64 1) h = some (.int .i64 ((bitsE true b2 b3 b4 : Nat) : Int), h) := by
  have hl := bitsE_lt (b1 := b1) (b2 := b2) (b3 := b3) (b4 := b4)
  have := r_or (other := other) (h := h) (a := bitsE b1 b2 b3 b4) (b := 1) (by omega) (by omega)
  rw [bitsE_1] at this; exact this
theorem or_2 {other : AHeap → Option (Value × AHeap)} {b1 b2 b3 b4 : Bool} : run2 orF other (.int .i64 ((bitsE b1 b2 b3 b4 : Nat) : Int)) (.int .i64 2) h = some (.int .i64 ((bitsE b1 true b3 b4 : Nat) : Int), h) := by
  have hl := bitsE_lt (b1 := b1) (b2 := b2) (b3 := b3) (b4 := b4)
  have := r_or (other := other) (h := h) (a := bitsE b1 b2 b3 b4) (b := 2) (by omega) (by omega)
  rw [bitsE_2] at this; exact this
theorem or_4 {other : AHeap → Option (Value × AHeap)} {b1 b2 b3 b4 : Bool} : run2 orF other (.int .i64 ((bitsE b1 b2 b3 b4 : Nat) : Int)) (.int .i64 4) h = some (.int .i64 ((bitsE b1 b2 true b4 : Nat) : Int), h) := by
  have hl := bitsE_lt (b1 := b1) (b2 := b2) (b3 := b3) (b4 := b4)
  have := r_or (other := other) (h := h) (a := bitsE b1 b2 b3 b4) (b := 4) (by omega) (by omega)
  rw [bitsE_4] at this; exact this
theorem or_8 {other : AHeap → Option (Value × AHeap)} {b1 b2 b3 b4 : Bool} : run2 orF other (.int .i64 ((bitsE b1 b2 b3 b4 : Nat) : Int)) (.int .i64 8) h = some (.int .i64 ((bitsE b1 b2 b3 true : Nat) : Int), h) := by
  have hl := bitsE_lt (b1 := b1) (b2 := b2) (b3 := b3) (b4 := b4)
  have := r_or (other := other) (h := h) (a := bitsE b1 b2 b3 b4) (b := 8) (by omega) (by omega)
  rw [bitsE_8] at this; exact this
/-- among the first k -/
def Seen (L : List (Nat → Int)) (p : (Nat → Int) → Prop) (k : Nat) : Prop := ∃ i, i < k ∧ p (L.getD i fun _ => 0)
noncomputable instance (L : List (Nat → Int)) (p : (Nat → Int) → Prop) (k : Nat) : Decidable (Seen L p k) := Classical.propDecidable _
theorem seen_yes {L : List (Nat → Int)} {p : (Nat → Int) → Prop} {k : Nat} (h : p (L.getD k fun _ => 0)) : decide (Seen L p (k + 1)) = true := decide_eq_true ⟨k, by omega, h⟩
theorem seen_no {L : List (Nat → Int)} {p : (Nat → Int) → Prop} {k : Nat} (h : ¬ p (L.getD k fun _ => 0)) : decide (Seen L p (k + 1)) = decide (Seen L p k) := decide_eq_decide.2
  ⟨fun ⟨i, h1, h2⟩ => by
    by_cases e : i = k
    · subst e; exact absurd h2 h
    · exact ⟨i, by omega, h2⟩, fun ⟨i, h1, h2⟩ => ⟨i, by omega, h2⟩⟩
theorem seen_all {Y : MY} (hf : faultN Y = 0) {p : (Nat → Int) → Prop} (h : ∃ t, t ∈ truths Y ∧ p t) : decide (Seen (refTruths Y) p (refTruths Y).length) = true := by
  obtain ⟨t, h1, h2⟩ := h
  obtain ⟨i, hi, rfl⟩ := mem_getD ((refTruths_mem hf).2 h1)
  exact decide_eq_true ⟨i, hi, h2⟩
theorem seen_zero {L : List (Nat → Int)} {p : (Nat → Int) → Prop} : decide (Seen L p 0) = false := decide_eq_false fun ⟨i, h, _⟩ => by omega

def s11 : SCode := (.seq (.ops [⟨(some 3), none, .box (T 0)⟩, ⟨(some 6), none, .mov (.const (.bool false))⟩]) (.seq (.seq (.ops [⟨(some 18), none, .loadN 3 (T 3)⟩, ⟨(some 19), none, .call (.func 62) [(T 18)]⟩, ⟨(some 20), none, .not (T 19)⟩, ⟨(some 21), none, .mov (T 20)⟩, ⟨(some 22), (some (21, false)), .fieldAddr 0 (T 3)⟩, ⟨(some 23), (some (21, false)), .load1 (T 22)⟩, ⟨(some 24), (some (21, false)), .len (T 23)⟩, ⟨(some 25), (some (21, false)), .int2 .eql (T 24) (.const (.int .i64 (0)))⟩, ⟨(some 26), none, .pick (T 21) (.const (.bool true)) (T 25)⟩, ⟨(some 27), none, .mov (T 26)⟩, ⟨(some 28), (some (27, false)), .fieldAddr 1 (T 3)⟩, ⟨(some 29), (some (27, false)), .load1 (T 28)⟩, ⟨(some 30), (some (27, false)), .len (T 29)⟩, ⟨(some 31), (some (27, false)), .int2 .eql (T 30) (.const (.int .i64 (0)))⟩, ⟨(some 32), none, .pick (T 27) (.const (.bool true)) (T 31)⟩]) (.cond (T 32) (.seq (.ops [⟨(some 33), none, .call (.func 24) []⟩, ⟨(some 6), none, .mov (T 33)⟩]) .ret) .skip)) (.seq (.draw [⟨.free, ⟨(some 34), none, .mov (T 1)⟩⟩, ⟨.free, ⟨(some 35), none, .plain (.convert 5 3 (T 34)) 3⟩⟩, ⟨.free, ⟨(some 36), none, .fieldAddr 1 (T 3)⟩⟩, ⟨.rd1, ⟨(some 37), none, .load1 (T 36)⟩⟩, ⟨.free, ⟨(some 38), none, .len (T 37)⟩⟩, ⟨.free, ⟨(some 39), none, .plain (.binOp .rem 3 (T 35) (T 38) 3) 3⟩⟩, ⟨.free, ⟨(some 40), none, .mov (T 2)⟩⟩, ⟨.free, ⟨(some 41), none, .plain (.convert 5 3 (T 40)) 3⟩⟩, ⟨.free, ⟨(some 42), none, .fieldAddr 0 (T 3)⟩⟩, ⟨.rd1, ⟨(some 43), none, .load1 (T 42)⟩⟩, ⟨.free, ⟨(some 44), none, .len (T 43)⟩⟩, ⟨.free, ⟨(some 45), none, .plain (.binOp .rem 3 (T 41) (T 44) 3) 3⟩⟩, ⟨.free, ⟨(some 7), none, .mov (T 39)⟩⟩, ⟨.free, ⟨(some 8), none, .mov (T 45)⟩⟩]) (.seq (.ops [⟨(some 47), none, .loadN 3 (T 3)⟩, ⟨(some 48), none, .call (.func 26) [(T 47)]⟩, ⟨(some 49), none, .call (.func 34) [(T 48)]⟩, ⟨(some 46), none, .mov (T 49)⟩, ⟨(some 50), none, .extract 0 (T 46)⟩, ⟨(some 51), none, .extract 1 (T 46)⟩, ⟨(some 9), none, .mov (T 50)⟩, ⟨(some 10), none, .mov (T 51)⟩]) (.seq (.ops [⟨(some 53), none, .loadN 3 (T 3)⟩, ⟨(some 54), none, .call (.func 26) [(T 53)]⟩, ⟨(some 55), none, .call (.func 35) [(T 54)]⟩, ⟨(some 52), none, .mov (T 55)⟩, ⟨(some 56), none, .extract 0 (T 52)⟩, ⟨(some 57), none, .extract 1 (T 52)⟩, ⟨(some 11), none, .mov (T 56)⟩, ⟨(some 12), none, .mov (T 57)⟩]) (.seq (.ops [⟨(some 58), none, .loadN 3 (T 3)⟩, ⟨(some 59), none, .call (.func 64) [(T 58)]⟩, ⟨(some 13), none, .mov (T 59)⟩]) (.seq (.seq (.ops [⟨(some 60), none, .mov (T 13)⟩, ⟨(some 61), none, .len (T 60)⟩, ⟨(some 62), none, .int2 .eql (T 61) (.const (.int .i64 (0)))⟩]) (.cond (T 62) (.seq (.ops [⟨(some 63), none, .mov (T 10)⟩, ⟨(some 64), none, .int2 .eql (T 63) (.const (.int .i64 (11)))⟩, ⟨(some 65), none, .mov (T 64)⟩, ⟨(some 66), (some (65, true)), .mov (T 12)⟩, ⟨(some 67), (some (65, true)), .mov (T 10)⟩, ⟨(some 68), (some (65, true)), .int2 .eql (T 66) (T 67)⟩, ⟨(some 69), none, .pick (T 65) (T 68) (.const (.bool false))⟩, ⟨(some 70), none, .mov (T 69)⟩, ⟨(some 71), (some (70, true)), .call (.func 24) []⟩, ⟨(some 72), none, .pick (T 70) (T 71) (.const (.bool false))⟩, ⟨(some 6), none, .mov (T 72)⟩]) .ret) .skip)) (.seq (.seq (.ops [⟨(some 73), none, .mov (T 10)⟩, ⟨(some 74), none, .int2 .neq (T 73) (.const (.int .i64 (0)))⟩, ⟨(some 75), none, .mov (T 74)⟩, ⟨(some 76), (some (75, false)), .mov (T 12)⟩, ⟨(some 77), (some (75, false)), .int2 .neq (T 76) (.const (.int .i64 (0)))⟩, ⟨(some 78), none, .pick (T 75) (.const (.bool true)) (T 77)⟩, ⟨(some 79), none, .mov (T 78)⟩, ⟨(some 80), (some (79, false)), .mov (T 9)⟩, ⟨(some 81), (some (79, false)), .len (T 80)⟩, ⟨(some 82), (some (79, false)), .fieldAddr 1 (T 3)⟩, ⟨(some 83), (some (79, false)), .load1 (T 82)⟩, ⟨(some 84), (some (79, false)), .len (T 83)⟩, ⟨(some 85), (some (79, false)), .int2 .neq (T 81) (T 84)⟩, ⟨(some 86), none, .pick (T 79) (.const (.bool true)) (T 85)⟩, ⟨(some 87), none, .mov (T 86)⟩, ⟨(some 88), (some (87, false)), .mov (T 11)⟩, ⟨(some 89), (some (87, false)), .len (T 88)⟩, ⟨(some 90), (some (87, false)), .fieldAddr 0 (T 3)⟩, ⟨(some 91), (some (87, false)), .load1 (T 90)⟩, ⟨(some 92), (some (87, false)), .len (T 91)⟩, ⟨(some 93), (some (87, false)), .int2 .neq (T 89) (T 92)⟩, ⟨(some 94), none, .pick (T 87) (.const (.bool true)) (T 93)⟩]) (.cond (T 94) (.seq (.ops [⟨(some 6), none, .mov (.const (.bool false))⟩]) .ret) .skip)) (.seq (.ops [⟨(some 14), none, .mov (.const (.int .i64 (0)))⟩]) (.seq (.seq (.ops [⟨(some 15), none, .mov (.const (.int .i64 (0)))⟩]) (.block 0 (.loop (.seq (.seq (.ops [⟨(some 95), none, .mov (T 15)⟩, ⟨(some 96), none, .mov (T 13)⟩, ⟨(some 97), none, .len (T 96)⟩, ⟨(some 98), none, .int2 .lss (T 95) (T 97)⟩]) (.cond (T 98) .skip (.exit 0))) (.seq (.block 1 (.seq (.draw [⟨.rd1, ⟨(some 101), none, .loadN 3 (T 3)⟩⟩, ⟨.free, ⟨(some 102), none, .mov (T 13)⟩⟩, ⟨.free, ⟨(some 103), none, .mov (T 15)⟩⟩, ⟨.free, ⟨(some 104), none, .idxSl 1 (T 102) (T 103)⟩⟩, ⟨.rd1, ⟨(some 105), none, .load1 (T 104)⟩⟩, ⟨.free, ⟨(some 106), none, .mov (T 7)⟩⟩, ⟨.up, ⟨(some 107), none, .call (.func 33) [(T 101), (T 105), (T 106)]⟩⟩, ⟨.free, ⟨(some 108), none, .mov (T 13)⟩⟩, ⟨.free, ⟨(some 109), none, .mov (T 15)⟩⟩, ⟨.free, ⟨(some 110), none, .idxSl 1 (T 108) (T 109)⟩⟩, ⟨.rd, ⟨(some 111), none, .load1 (T 110)⟩⟩, ⟨.free, ⟨(some 112), none, .mov (T 8)⟩⟩, ⟨.free, ⟨(some 113), none, .idxSl 1 (T 111) (T 112)⟩⟩, ⟨.rd, ⟨(some 114), none, .load1 (T 113)⟩⟩, ⟨.free, ⟨(some 16), none, .mov (T 107)⟩⟩, ⟨.free, ⟨(some 17), none, .mov (T 114)⟩⟩]) (.seq (.seq (.ops [⟨(some 115), none, .mov (T 16)⟩, ⟨(some 116), none, .mov (T 9)⟩, ⟨(some 117), none, .mov (T 7)⟩, ⟨(some 118), none, .idxSl 2 (T 116) (T 117)⟩, ⟨(some 119), none, .fieldAddr 0 (T 118)⟩, ⟨(some 120), none, .load1 (T 119)⟩, ⟨(some 121), none, .int2 .eql (T 115) (T 120)⟩]) (.cond (T 121) (.ops [⟨(some 122), none, .mov (T 14)⟩, ⟨(some 123), none, .plain (.binOp .or 3 (T 122) (.const (.int .i64 (1))) 3) 3⟩, ⟨(some 14), none, .mov (T 123)⟩]) .skip)) (.seq (.seq (.ops [⟨(some 124), none, .mov (T 16)⟩, ⟨(some 125), none, .mov (T 9)⟩, ⟨(some 126), none, .mov (T 7)⟩, ⟨(some 127), none, .idxSl 2 (T 125) (T 126)⟩, ⟨(some 128), none, .fieldAddr 1 (T 127)⟩, ⟨(some 129), none, .load1 (T 128)⟩, ⟨(some 130), none, .int2 .eql (T 124) (T 129)⟩]) (.cond (T 130) (.ops [⟨(some 131), none, .mov (T 14)⟩, ⟨(some 132), none, .plain (.binOp .or 3 (T 131) (.const (.int .i64 (2))) 3) 3⟩, ⟨(some 14), none, .mov (T 132)⟩]) .skip)) (.seq (.seq (.ops [⟨(some 133), none, .mov (T 17)⟩, ⟨(some 134), none, .mov (T 11)⟩, ⟨(some 135), none, .mov (T 8)⟩, ⟨(some 136), none, .idxSl 2 (T 134) (T 135)⟩, ⟨(some 137), none, .fieldAddr 0 (T 136)⟩, ⟨(some 138), none, .load1 (T 137)⟩, ⟨(some 139), none, .int2 .eql (T 133) (T 138)⟩]) (.cond (T 139) (.ops [⟨(some 140), none, .mov (T 14)⟩, ⟨(some 141), none, .plain (.binOp .or 3 (T 140) (.const (.int .i64 (4))) 3) 3⟩, ⟨(some 14), none, .mov (T 141)⟩]) .skip)) (.seq (.ops [⟨(some 142), none, .mov (T 17)⟩, ⟨(some 143), none, .mov (T 11)⟩, ⟨(some 144), none, .mov (T 8)⟩, ⟨(some 145), none, .idxSl 2 (T 143) (T 144)⟩, ⟨(some 146), none, .fieldAddr 1 (T 145)⟩, ⟨(some 147), none, .load1 (T 146)⟩, ⟨(some 148), none, .int2 .eql (T 142) (T 147)⟩]) (.cond (T 148) (.ops [⟨(some 149), none, .mov (T 14)⟩, ⟨(some 150), none, .plain (.binOp .or 3 (T 149) (.const (.int .i64 (8))) 3) 3⟩, ⟨(some 14), none, .mov (T 150)⟩]) .skip))))))) (.ops [⟨(some 99), none, .mov (T 15)⟩, ⟨(some 100), none, .int2 .add (T 99) (.const (.int .i64 (1)))⟩, ⟨(some 15), none, .mov (T 100)⟩])))))) (.seq (.ops [⟨(some 151), none, .mov (T 14)⟩, ⟨(some 152), none, .int2 .eql (T 151) (.const (.int .i64 (15)))⟩, ⟨(some 153), none, .mov (T 152)⟩, ⟨(some 154), (some (153, true)), .call (.func 24) []⟩, ⟨(some 155), none, .pick (T 153) (T 154) (.const (.bool false))⟩, ⟨(some 6), none, .mov (T 155)⟩]) .ret)))))))))))
theorem fok11 : FnOk Try.prog 11 156 s11 [.tmp 6] := ⟨Try.f11, _, Try.func11, rfl, Try.ntmps11, by kernel_rfl, by kernel_rfl⟩
theorem ends_1 (hn : 10090 ≤ n) (hr : h.next + 3000000 < far) (hfl : h.floor ≤ h.next) {fv vv sv : Value} {Y : MY} (hy : YardR h fv vv sv Y) (hT : Thin Y) (hf : faultN Y = 0) (hnf : 0 < Y.nf) (hnv : 0 < Y.nv) {a1 a2 : Nat} (w1 : a1 < 256) (w2 : a2 < 256) :
    ∃ v h', call n (.func (.func 11) #[] #[]) [.agg ⟨[fv, vv, sv]⟩, .int .u8 (a1 : Int), .int .u8 (a2 : Int)] h = some (v, h') ∧ v = .bool true := by
  obtain ⟨n, rfl⟩ : ∃ p, n = p + 1 := ⟨n - 1, by omega⟩
  refine call_any0 fok11 rfl rfl (by simp) ?_
  simp only [s11, W_seq, W_ops]
  refine ops_box (cs := [fv, vv, sv]) (by omega) rfl hy.one fun g1 hx1 => ?_
  have n1 := hx1.next
  have f1 := hx1.floor
  have hy1 := hy.mono hx1.sub
  have x1 := hx1.row.whole (n := 3) rfl
  have r1 := hx1.row
  have hrd := ready_c (n := n) (h := g1) (by omega) (by omega) hy1
  have hrd' : decide (Thin Y ∧ faultN Y = 0) = true := decide_eq_true ⟨hT, hf⟩
  rw [hrd'] at hrd
  obtain ⟨rr, hrw, hq⟩ := hy1.v
  have z1 : ¬ (Y.nf : Int) = 0 := by omega
  have z2 : ¬ (Y.nv : Int) = 0 := by omega
  obtain ⟨one, hone⟩ : ∃ o, o = a1 % Y.nv := ⟨_, rfl⟩
  obtain ⟨fld, hfld⟩ : ∃ o, o = a2 % Y.nf := ⟨_, rfl⟩
  have hov : one < Y.nv := by rw [hone]; exact Nat.mod_lt _ hnv
  have hof : fld < Y.nf := by rw [hfld]; exact Nat.mod_lt _ hnf
  have m1 : (a1 : Int).tmod (Y.nv : Int) = (one : Int) := by rw [hone]; rfl
  have m2 : (a2 : Int).tmod (Y.nf : Int) = (fld : Int) := by rw [hfld]; rfl
  simp only [rn0, rn1, rn2, rn3, rn4, rn5, rn6, rn7, rn8, if_true, if_false, Nat.le_refl, true_and, and_true, decide_true, decide_false, Bool.not_true, Bool.not_false, reduceIte, Nat.reduceEqDiff, Nat.reduceAdd, Nat.reduceMul, Nat.reduceSub, Nat.reduceLeDiff, Nat.reduceLT, x1, hrd, r1.ld, Nat.zero_add, List.getElem?_cons_zero, List.getElem?_cons_succ, Cells.len hy1.f, Cells.len hrw, z1, z2]
  refine W_draw All ?_
  simp only [rn0, rn1, rn2, rn3, rn4, rn5, rn6, rn7, rn8, if_true, if_false, Nat.le_refl, true_and, and_true, decide_true, decide_false, Bool.not_true, Bool.not_false, reduceIte, Nat.reduceEqDiff, Nat.reduceAdd, Nat.reduceMul, Nat.reduceSub, Nat.reduceLeDiff, Nat.reduceLT, p_conv8, r_8 w1, r_8 w2, valN_tmp, Nat.reduceLT, r1.ld, Nat.zero_add, List.getElem?_cons_zero, List.getElem?_cons_succ, Cells.len hy1.f, Cells.len hrw, r_rem z1, r_rem z2, m1, m2]
  obtain ⟨F1, V1, S1, g2, ey2, hy2, m2'⟩ := yard_c (n := n) (h := g1) (by omega) (by omega) (by omega) hy1 hT
  have n2 := m2'.next
  have u2 := m2'.up
  have f2 := m2'.floor
  obtain ⟨bv, g3, eb3, m3, hb3⟩ := boundsV_c (n := n) (h := g2) (by omega) (by omega) (by omega) hy2 hT
  have n3 := m3.next
  have u3 := m3.up
  have f3 := m3.floor
  have s3 : Sub All g1 g3 := m2'.sub.trans m3.sub
  have w3 := (hx1.row.mono s3).whole (n := 3) rfl
  obtain ⟨F2, V2, S2, g4, ey4, hy4, m4⟩ := yard_c (n := n) (h := g3) (by omega) (by omega) (by omega) (hy1.mono s3) hT
  have n4 := m4.next
  have u4 := m4.up
  have f4 := m4.floor
  obtain ⟨fw, g5, ef5, m5, hf5⟩ := fieldsV_c (n := n) (h := g4) (by omega) (by omega) (by omega) hy4 hT
  have n5 := m5.next
  have u5 := m5.up
  have f5 := m5.floor
  have s5 : Sub All g1 g5 := s3.trans (m4.sub.trans m5.sub)
  have w5 := (hx1.row.mono s5).whole (n := 3) rfl
  obtain ⟨l, g6, et6, hl6, m6⟩ := truthsRef_c (n := n) (h := g5) (by omega) (by omega) (by omega) (hy1.mono s5) hf
  have n6 := m6.next
  have u6 := m6.up
  have f6 := m6.floor
  have s6 : Sub All g1 g6 := s5.trans m6.sub
  have w6 := (hx1.row.mono s6).whole (n := 3) rfl
  have r6 := hx1.row.mono s6
  have hy6 := hy1.mono s6
  have haw := awake_c (n := n) (h := g6) (by omega)
  change TruthsL g6 l Y.nf (refTruths Y) at hl6
  have hl6' := hl6
  obtain ⟨rl, q1, q2⟩ := hl6
  rcases hb3 with ⟨h0, _⟩ | ⟨_, hn0, rfl⟩ | ⟨_, hne, bl, rfl, hbl⟩
  · exact absurd hf h0
  · rcases hf5 with ⟨h0, _⟩ | ⟨_, _, rfl⟩ | ⟨_, h0, _⟩
    · exact absurd hf h0
    · have hlz : (refTruths Y).length = 0 := by rw [(refTruths_nil hf).2 hn0]; rfl
      simp only [rn0, rn1, rn2, rn3, rn4, rn5, rn6, rn7, rn8, if_true, if_false, Nat.le_refl, true_and, and_true, decide_true, decide_false, Bool.not_true, Bool.not_false, reduceIte, Nat.reduceEqDiff, Nat.reduceAdd, Nat.reduceMul, Nat.reduceSub, Nat.reduceLeDiff, Nat.reduceLT, x1, ey2, eb3, ex0, ex1, w3, ey4, ef5, w5, et6, Cells.len q1, hlz, Int.natCast_zero, haw, Int.reduceEq]
    · exact absurd hn0 h0
  rcases hf5 with ⟨h0, _⟩ | ⟨_, h0, _⟩ | ⟨_, _, fl, rfl, hfl5⟩
  · exact absurd hf h0
  · exact absurd h0 hne
  have hlz : ¬ ((refTruths Y).length : Int) = 0 := fun e => ((not_congr (refTruths_nil hf)).2 hne) (List.eq_nil_of_length_eq_zero (by omega))
  have hbl6 := Cells.mono hbl ((m4.sub.trans m5.sub).trans m6.sub)
  have hfl6 := Cells.mono hfl5 m6.sub
  obtain ⟨rr6, hrw6, hq6⟩ := hy6.v
  simp only [rn0, rn1, rn2, rn3, rn4, rn5, rn6, rn7, rn8, if_true, if_false, Nat.le_refl, true_and, and_true, decide_true, decide_false, Bool.not_true, Bool.not_false, reduceIte, Nat.reduceEqDiff, Nat.reduceAdd, Nat.reduceMul, Nat.reduceSub, Nat.reduceLeDiff, Nat.reduceLT, x1, ey2, eb3, ex0, ex1, w3, ey4, ef5, w5, et6, Cells.len q1, hlz, Int.natCast_zero, r6.ld, Nat.zero_add, List.getElem?_cons_zero, List.getElem?_cons_succ, Cells.len hbl6, Cells.len hfl6, Cells.len hrw6, Cells.len hy6.f]
  obtain ⟨z5, z6, z7⟩ := (good_of hf).sz
  have hlen := refTruths_len hf
  obtain ⟨P1, hP1⟩ : ∃ P : (Nat → Int) → Prop, P = (fun t => blueN t (Y.q one) Y.nf = loN (fun t => blueN t (Y.q one) Y.nf) (truths Y)) := ⟨_, rfl⟩
  obtain ⟨P2, hP2⟩ : ∃ P : (Nat → Int) → Prop, P = (fun t => blueN t (Y.q one) Y.nf = hiN (fun t => blueN t (Y.q one) Y.nf) (truths Y)) := ⟨_, rfl⟩
  obtain ⟨P3, hP3⟩ : ∃ P : (Nat → Int) → Prop, P = (fun t => t fld = loN (fun t => t fld) (truths Y)) := ⟨_, rfl⟩
  obtain ⟨P4, hP4⟩ : ∃ P : (Nat → Int) → Prop, P = (fun t => t fld = hiN (fun t => t fld) (truths Y)) := ⟨_, rfl⟩
  refine W_loop (refTruths Y).length (fun k f g ms => g = g6 ∧ ms = [] ∧ f 3 = .pointer (some ⟨h.next, 0, none⟩) ∧ f 7 = .int .i64 (one : Int) ∧ f 8 = .int .i64 (fld : Int) ∧ f 9 = bl ∧ f 11 = fl ∧ f 13 = l ∧ f 15 = .int .i64 (k : Int) ∧ f 14 = .int .i64 ((bitsE (decide (Seen (refTruths Y) P1 k)) (decide (Seen (refTruths Y) P2 k)) (decide (Seen (refTruths Y) P3 k)) (decide (Seen (refTruths Y) P4 k)) : Nat) : Int)) (by simp; omega) ?_ ?_ ?_
  · simp only [rn0, rn1, rn2, rn3, rn4, rn5, rn6, rn7, rn8, if_true, if_false, Nat.le_refl, true_and, and_true, decide_true, decide_false, Bool.not_true, Bool.not_false, reduceIte, Nat.reduceEqDiff, Nat.reduceAdd, Nat.reduceMul, Nat.reduceSub, Nat.reduceLeDiff, Nat.reduceLT, seen_zero]
    exact ⟨rfl, rfl⟩
  · rintro k f g ms hk ⟨rfl, rfl, p3, p7, p8, p9, p11, p13, p15, p14⟩
    have hk' : (k : Int) < ((refTruths Y).length : Int) := by omega
    have hw : wrapF .i64 ((k : Int) + 1) = ((k + 1 : Nat) : Int) := by rw [wrap_in (by omega) (by omega)]; rfl
    have q2k : Ints g (rl k) Y.nf ((refTruths Y).getD k fun _ => 0) := q2 k hk
    obtain ⟨v1, v2⟩ := (good_of hf).v one hov
    have eb := blue_c (n := n) (h := g) (at_ := one) (nb := Y.nf) (b := (refTruths Y).getD k fun _ => 0) (by omega) (by omega) hy6 q2k (by omega) hov (by omega) (refTruths_range hf (refTruths_at hk)) (fun j hj => v2 j (by omega))
    have hsl := Cells.self q2k
    have l1 : loadCell g (ptrO bl 2 one 0) = some (.int .i64 (loN (fun t => blueN t (Y.q one) Y.nf) (truths Y))) := Cells.ld hbl6 hov (by omega)
    have l2 : loadCell g (ptrO bl 2 one 1) = some (.int .i64 (hiN (fun t => blueN t (Y.q one) Y.nf) (truths Y))) := Cells.ld hbl6 hov (by omega)
    have l3 : loadCell g (ptrO fl 2 fld 0) = some (.int .i64 (loN (fun t => t fld) (truths Y))) := Cells.ld hfl6 hof (by omega)
    have l4 : loadCell g (ptrO fl 2 fld 1) = some (.int .i64 (hiN (fun t => t fld) (truths Y))) := Cells.ld hfl6 hof (by omega)
    simp only [rn0, rn1, rn2, rn3, rn4, rn5, rn6, rn7, rn8, if_true, if_false, Nat.le_refl, true_and, and_true, decide_true, decide_false, Bool.not_true, Bool.not_false, reduceIte, Nat.reduceEqDiff, Nat.reduceAdd, Nat.reduceMul, Nat.reduceSub, Nat.reduceLeDiff, Nat.reduceLT, p3, p7, p8, p9, p11, p13, p14, p15, Cells.len q1, hk']
    refine W_draw All ?_
    simp only [rn0, rn1, rn2, rn3, rn4, rn5, rn6, rn7, rn8, if_true, if_false, Nat.le_refl, true_and, and_true, decide_true, decide_false, Bool.not_true, Bool.not_false, reduceIte, Nat.reduceEqDiff, Nat.reduceAdd, Nat.reduceMul, Nat.reduceSub, Nat.reduceLeDiff, Nat.reduceLT, p3, p7, p8, p9, p11, p13, p14, p15, w6, Cells.idx q1 hk, Cells.ld q1 hk Nat.zero_lt_one, eb, hsl, Cells.idx q2k hof, Cells.ld q2k hof Nat.zero_lt_one, Cells.idx hbl6 hov, Cells.fld hbl6 hov, l1]
    refine cond_merge (fun f ga ms => ga = g ∧ ms = [] ∧ f 3 = .pointer (some ⟨h.next, 0, none⟩) ∧ f 7 = .int .i64 (one : Int) ∧ f 8 = .int .i64 (fld : Int) ∧ f 9 = bl ∧ f 11 = fl ∧ f 13 = l ∧ f 15 = .int .i64 (k : Int) ∧ f 14 = .int .i64 ((bitsE (decide (Seen (refTruths Y) P1 (k + 1))) (decide (Seen (refTruths Y) P2 k)) (decide (Seen (refTruths Y) P3 k)) (decide (Seen (refTruths Y) P4 k)) : Nat) : Int) ∧ f 16 = .int .i64 (blueN ((refTruths Y).getD k fun _ => 0) (Y.q one) Y.nf) ∧ f 17 = .int .i64 ((refTruths Y).getD k (fun _ => 0) fld)) (fun hp => ?_) (fun hp => ?_) ?_
    · have hp' : P1 ((refTruths Y).getD k fun _ => 0) := by rw [hP1]; exact of_decide_eq_true hp
      simp only [rn0, rn1, rn2, rn3, rn4, rn5, rn6, rn7, rn8, if_true, if_false, Nat.le_refl, true_and, and_true, decide_true, decide_false, Bool.not_true, Bool.not_false, reduceIte, Nat.reduceEqDiff, Nat.reduceAdd, Nat.reduceMul, Nat.reduceSub, Nat.reduceLeDiff, Nat.reduceLT, p3, p7, p8, p9, p11, p13, p14, p15, valN_tmp, valN_const, Nat.reduceLT, p_or, or_1, seen_yes hp']
    · have hp' : ¬ P1 ((refTruths Y).getD k fun _ => 0) := by rw [hP1]; exact of_decide_eq_false hp
      simp only [rn0, rn1, rn2, rn3, rn4, rn5, rn6, rn7, rn8, if_true, if_false, Nat.le_refl, true_and, and_true, decide_true, decide_false, Bool.not_true, Bool.not_false, reduceIte, Nat.reduceEqDiff, Nat.reduceAdd, Nat.reduceMul, Nat.reduceSub, Nat.reduceLeDiff, Nat.reduceLT, p3, p7, p8, p9, p11, p13, p14, p15, seen_no hp']
    clear p3 p7 p8 p9 p11 p13 p14 p15
    rintro f ga ms ⟨rfl, rfl, p3, p7, p8, p9, p11, p13, p15, p14, p16, p17⟩
    simp only [rn0, rn1, rn2, rn3, rn4, rn5, rn6, rn7, rn8, if_true, if_false, Nat.le_refl, true_and, and_true, decide_true, decide_false, Bool.not_true, Bool.not_false, reduceIte, Nat.reduceEqDiff, Nat.reduceAdd, Nat.reduceMul, Nat.reduceSub, Nat.reduceLeDiff, Nat.reduceLT, p3, p7, p8, p9, p11, p13, p14, p15, p16, p17, Cells.idx hbl6 hov, Cells.fld hbl6 hov, l2]
    refine cond_merge (fun f gb ms => gb = ga ∧ ms = [] ∧ f 3 = .pointer (some ⟨h.next, 0, none⟩) ∧ f 7 = .int .i64 (one : Int) ∧ f 8 = .int .i64 (fld : Int) ∧ f 9 = bl ∧ f 11 = fl ∧ f 13 = l ∧ f 15 = .int .i64 (k : Int) ∧ f 14 = .int .i64 ((bitsE (decide (Seen (refTruths Y) P1 (k + 1))) (decide (Seen (refTruths Y) P2 (k + 1))) (decide (Seen (refTruths Y) P3 k)) (decide (Seen (refTruths Y) P4 k)) : Nat) : Int) ∧ f 16 = .int .i64 (blueN ((refTruths Y).getD k fun _ => 0) (Y.q one) Y.nf) ∧ f 17 = .int .i64 ((refTruths Y).getD k (fun _ => 0) fld)) (fun hp => ?_) (fun hp => ?_) ?_
    · have hp' : P2 ((refTruths Y).getD k fun _ => 0) := by rw [hP2]; exact of_decide_eq_true hp
      simp only [rn0, rn1, rn2, rn3, rn4, rn5, rn6, rn7, rn8, if_true, if_false, Nat.le_refl, true_and, and_true, decide_true, decide_false, Bool.not_true, Bool.not_false, reduceIte, Nat.reduceEqDiff, Nat.reduceAdd, Nat.reduceMul, Nat.reduceSub, Nat.reduceLeDiff, Nat.reduceLT, p3, p7, p8, p9, p11, p13, p14, p15, p16, p17, valN_tmp, valN_const, Nat.reduceLT, p_or, or_2, seen_yes hp']
    · have hp' : ¬ P2 ((refTruths Y).getD k fun _ => 0) := by rw [hP2]; exact of_decide_eq_false hp
      simp only [rn0, rn1, rn2, rn3, rn4, rn5, rn6, rn7, rn8, if_true, if_false, Nat.le_refl, true_and, and_true, decide_true, decide_false, Bool.not_true, Bool.not_false, reduceIte, Nat.reduceEqDiff, Nat.reduceAdd, Nat.reduceMul, Nat.reduceSub, Nat.reduceLeDiff, Nat.reduceLT, p3, p7, p8, p9, p11, p13, p14, p15, p16, p17, seen_no hp']
    clear p3 p7 p8 p9 p11 p13 p14 p15 p16 p17
    rintro f gb ms ⟨rfl, rfl, p3, p7, p8, p9, p11, p13, p15, p14, p16, p17⟩
    simp only [rn0, rn1, rn2, rn3, rn4, rn5, rn6, rn7, rn8, if_true, if_false, Nat.le_refl, true_and, and_true, decide_true, decide_false, Bool.not_true, Bool.not_false, reduceIte, Nat.reduceEqDiff, Nat.reduceAdd, Nat.reduceMul, Nat.reduceSub, Nat.reduceLeDiff, Nat.reduceLT, p3, p7, p8, p9, p11, p13, p14, p15, p16, p17, Cells.idx hfl6 hof, Cells.fld hfl6 hof, l3]
    refine cond_merge (fun f gc ms => gc = gb ∧ ms = [] ∧ f 3 = .pointer (some ⟨h.next, 0, none⟩) ∧ f 7 = .int .i64 (one : Int) ∧ f 8 = .int .i64 (fld : Int) ∧ f 9 = bl ∧ f 11 = fl ∧ f 13 = l ∧ f 15 = .int .i64 (k : Int) ∧ f 14 = .int .i64 ((bitsE (decide (Seen (refTruths Y) P1 (k + 1))) (decide (Seen (refTruths Y) P2 (k + 1))) (decide (Seen (refTruths Y) P3 (k + 1))) (decide (Seen (refTruths Y) P4 k)) : Nat) : Int) ∧ f 16 = .int .i64 (blueN ((refTruths Y).getD k fun _ => 0) (Y.q one) Y.nf) ∧ f 17 = .int .i64 ((refTruths Y).getD k (fun _ => 0) fld)) (fun hp => ?_) (fun hp => ?_) ?_
    · have hp' : P3 ((refTruths Y).getD k fun _ => 0) := by rw [hP3]; exact of_decide_eq_true hp
      simp only [rn0, rn1, rn2, rn3, rn4, rn5, rn6, rn7, rn8, if_true, if_false, Nat.le_refl, true_and, and_true, decide_true, decide_false, Bool.not_true, Bool.not_false, reduceIte, Nat.reduceEqDiff, Nat.reduceAdd, Nat.reduceMul, Nat.reduceSub, Nat.reduceLeDiff, Nat.reduceLT, p3, p7, p8, p9, p11, p13, p14, p15, p16, p17, valN_tmp, valN_const, Nat.reduceLT, p_or, or_4, seen_yes hp']
    · have hp' : ¬ P3 ((refTruths Y).getD k fun _ => 0) := by rw [hP3]; exact of_decide_eq_false hp
      simp only [rn0, rn1, rn2, rn3, rn4, rn5, rn6, rn7, rn8, if_true, if_false, Nat.le_refl, true_and, and_true, decide_true, decide_false, Bool.not_true, Bool.not_false, reduceIte, Nat.reduceEqDiff, Nat.reduceAdd, Nat.reduceMul, Nat.reduceSub, Nat.reduceLeDiff, Nat.reduceLT, p3, p7, p8, p9, p11, p13, p14, p15, p16, p17, seen_no hp']
    clear p3 p7 p8 p9 p11 p13 p14 p15 p16 p17
    rintro f gc ms ⟨rfl, rfl, p3, p7, p8, p9, p11, p13, p15, p14, p16, p17⟩
    simp only [rn0, rn1, rn2, rn3, rn4, rn5, rn6, rn7, rn8, if_true, if_false, Nat.le_refl, true_and, and_true, decide_true, decide_false, Bool.not_true, Bool.not_false, reduceIte, Nat.reduceEqDiff, Nat.reduceAdd, Nat.reduceMul, Nat.reduceSub, Nat.reduceLeDiff, Nat.reduceLT, p3, p7, p8, p9, p11, p13, p14, p15, p16, p17, Cells.idx hfl6 hof, Cells.fld hfl6 hof, l4]
    refine cond_merge' (fun f gd ms => gd = gc ∧ ms = [] ∧ f 3 = .pointer (some ⟨h.next, 0, none⟩) ∧ f 7 = .int .i64 (one : Int) ∧ f 8 = .int .i64 (fld : Int) ∧ f 9 = bl ∧ f 11 = fl ∧ f 13 = l ∧ f 15 = .int .i64 (k : Int) ∧ f 14 = .int .i64 ((bitsE (decide (Seen (refTruths Y) P1 (k + 1))) (decide (Seen (refTruths Y) P2 (k + 1))) (decide (Seen (refTruths Y) P3 (k + 1))) (decide (Seen (refTruths Y) P4 (k + 1))) : Nat) : Int) ∧ f 16 = .int .i64 (blueN ((refTruths Y).getD k fun _ => 0) (Y.q one) Y.nf) ∧ f 17 = .int .i64 ((refTruths Y).getD k (fun _ => 0) fld)) (fun hp => ?_) (fun hp => ?_) ?_
    · have hp' : P4 ((refTruths Y).getD k fun _ => 0) := by rw [hP4]; exact of_decide_eq_true hp
      simp only [rn0, rn1, rn2, rn3, rn4, rn5, rn6, rn7, rn8, if_true, if_false, Nat.le_refl, true_and, and_true, decide_true, decide_false, Bool.not_true, Bool.not_false, reduceIte, Nat.reduceEqDiff, Nat.reduceAdd, Nat.reduceMul, Nat.reduceSub, Nat.reduceLeDiff, Nat.reduceLT, p3, p7, p8, p9, p11, p13, p14, p15, p16, p17, valN_tmp, valN_const, Nat.reduceLT, p_or, or_8, seen_yes hp']
    · have hp' : ¬ P4 ((refTruths Y).getD k fun _ => 0) := by rw [hP4]; exact of_decide_eq_false hp
      simp only [rn0, rn1, rn2, rn3, rn4, rn5, rn6, rn7, rn8, if_true, if_false, Nat.le_refl, true_and, and_true, decide_true, decide_false, Bool.not_true, Bool.not_false, reduceIte, Nat.reduceEqDiff, Nat.reduceAdd, Nat.reduceMul, Nat.reduceSub, Nat.reduceLeDiff, Nat.reduceLT, p3, p7, p8, p9, p11, p13, p14, p15, p16, p17, seen_no hp']
    clear p3 p7 p8 p9 p11 p13 p14 p15 p16 p17
    rintro f gd ms ⟨rfl, rfl, p3, p7, p8, p9, p11, p13, p15, p14, p16, p17⟩
    simp only [rn0, rn1, rn2, rn3, rn4, rn5, rn6, rn7, rn8, if_true, if_false, Nat.le_refl, true_and, and_true, decide_true, decide_false, Bool.not_true, Bool.not_false, reduceIte, Nat.reduceEqDiff, Nat.reduceAdd, Nat.reduceMul, Nat.reduceSub, Nat.reduceLeDiff, Nat.reduceLT, p3, p7, p8, p9, p11, p13, p14, p15, p16, p17, hw]
  · rintro f g ms ⟨rfl, rfl, p3, p7, p8, p9, p11, p13, p15, p14⟩
    have e1 : decide (Seen (refTruths Y) P1 (refTruths Y).length) = true := seen_all hf (by rw [hP1]; exact lo_mem (val := fun t => blueN t (Y.q one) Y.nf) hne)
    have e2 : decide (Seen (refTruths Y) P2 (refTruths Y).length) = true := seen_all hf (by rw [hP2]; exact hi_mem (val := fun t => blueN t (Y.q one) Y.nf) hne)
    have e3 : decide (Seen (refTruths Y) P3 (refTruths Y).length) = true := seen_all hf (by rw [hP3]; exact lo_mem (val := fun t => t fld) hne)
    have e4 : decide (Seen (refTruths Y) P4 (refTruths Y).length) = true := seen_all hf (by rw [hP4]; exact hi_mem (val := fun t => t fld) hne)
    rw [e1, e2, e3, e4] at p14
    have e15 : ((bitsE true true true true : Nat) : Int) = 15 := rfl
    rw [e15] at p14
    simp only [rn0, rn1, rn2, rn3, rn4, rn5, rn6, rn7, rn8, if_true, if_false, Nat.le_refl, true_and, and_true, decide_true, decide_false, Bool.not_true, Bool.not_false, reduceIte, Nat.reduceEqDiff, Nat.reduceAdd, Nat.reduceMul, Nat.reduceSub, Nat.reduceLeDiff, Nat.reduceLT, p3, p7, p8, p9, p11, p13, p14, p15, Cells.len q1, Int.lt_irrefl, haw]
end Go.Vm.Vat

namespace Go.Vm.Vat
open Go.Proofs
set_option linter.unusedSimpArgs false
set_option linter.unusedVariables false
set_option maxRecDepth 10000
variable {n : Nat} {h : AHeap}

theorem ready_big (hn : 3 ≤ n) (hr : h.next + 5 < far) {u0 u1 u2 : Value} (hb : Big u0 u1 u2) : call n (.func (.func 62) #[] #[]) [.agg ⟨[u0, u1, u2]⟩] h = some (.bool false, h) := by
  obtain ⟨n, rfl⟩ : ∃ p, n = p + 1 := ⟨n - 1, by omega⟩
  refine call_plain0 fok62 rfl rfl (by simp) rfl ?_
  have hr : h.shutAll.next + 5 < far := hr
  generalize h.shutAll = h at hr
  simp only [s62, W_seq, W_ops]
  refine ops_box (cs := [u0, u1, u2]) (by omega) rfl hb.one fun g1 hx1 => ?_
  have n1 := hx1.next
  have w1 := hx1.row.whole (n := 3) rfl
  have ht := thin_big (n := n) (h := g1) (by omega) (by omega) hb
  simp only [rn0, rn1, rn2, rn3, rn4, rn5, rn6, rn7, rn8, if_true, if_false, Nat.le_refl, true_and, and_true, decide_true, decide_false, Bool.not_true, Bool.not_false, reduceIte, Nat.reduceEqDiff, Nat.reduceAdd, Nat.reduceMul, Nat.reduceSub, Nat.reduceLeDiff, Nat.reduceLT, w1, ht]
theorem ends_c (hn : 10100 ≤ n) (hr : h.next + 3000000 < far) (hfl : h.floor ≤ h.next) {fv vv sv : Value} {Y : MY} (hy : YardR h fv vv sv Y) (a1 : Int) (wf1 : (Lit.int .u8 a1).wf = true) (a2 : Int) (wf2 : (Lit.int .u8 a2).wf = true) :
    ∃ v h', call n (.func (.func 11) #[] #[]) [.agg ⟨[fv, vv, sv]⟩, .int .u8 a1, .int .u8 a2] h = some (v, h') ∧ v = .bool true := by
  obtain ⟨k1, rfl, h1⟩ := wf8 wf1
  obtain ⟨k2, rfl, h2⟩ := wf8 wf2
  by_cases hg : (Thin Y ∧ faultN Y = 0) ∧ 0 < Y.nf ∧ 0 < Y.nv
  · exact ends_1 (by omega) hr hfl hy hg.1.1 hg.1.2 hg.2.1 hg.2.2 h1 h2
  obtain ⟨n, rfl⟩ : ∃ p, n = p + 1 := ⟨n - 1, by omega⟩
  refine call_any0 fok11 rfl rfl (by simp) ?_
  simp only [s11, W_seq, W_ops]
  refine ops_box (cs := [fv, vv, sv]) (by omega) rfl hy.one fun g1 hx1 => ?_
  have n1 := hx1.next
  have hy1 := hy.mono hx1.sub
  have x1 := hx1.row.whole (n := 3) rfl
  have r1 := hx1.row
  have hrd := ready_c (n := n) (h := g1) (by omega) (by omega) hy1
  have haw := awake_c (n := n) (h := g1) (by omega)
  by_cases c1 : Thin Y ∧ faultN Y = 0
  case neg =>
    rw [decide_eq_false c1] at hrd
    simp only [rn0, rn1, rn2, rn3, rn4, rn5, rn6, rn7, rn8, if_true, if_false, Nat.le_refl, true_and, and_true, decide_true, decide_false, Bool.not_true, Bool.not_false, reduceIte, Nat.reduceEqDiff, Nat.reduceAdd, Nat.reduceMul, Nat.reduceSub, Nat.reduceLeDiff, Nat.reduceLT, x1, hrd, haw]
  rw [decide_eq_true c1] at hrd
  obtain ⟨rr, hrw, hq⟩ := hy1.v
  by_cases c2 : (Y.nf : Int) = 0
  · simp only [rn0, rn1, rn2, rn3, rn4, rn5, rn6, rn7, rn8, if_true, if_false, Nat.le_refl, true_and, and_true, decide_true, decide_false, Bool.not_true, Bool.not_false, reduceIte, Nat.reduceEqDiff, Nat.reduceAdd, Nat.reduceMul, Nat.reduceSub, Nat.reduceLeDiff, Nat.reduceLT, x1, hrd, r1.ld, Nat.zero_add, List.getElem?_cons_zero, List.getElem?_cons_succ, Cells.len hy1.f, Cells.len hrw, c2, haw]
  have c3 : (Y.nv : Int) = 0 := by
    apply Classical.byContradiction
    intro hn
    exact hg ⟨c1, by omega, by omega⟩
  simp only [rn0, rn1, rn2, rn3, rn4, rn5, rn6, rn7, rn8, if_true, if_false, Nat.le_refl, true_and, and_true, decide_true, decide_false, Bool.not_true, Bool.not_false, reduceIte, Nat.reduceEqDiff, Nat.reduceAdd, Nat.reduceMul, Nat.reduceSub, Nat.reduceLeDiff, Nat.reduceLT, x1, hrd, r1.ld, Nat.zero_add, List.getElem?_cons_zero, List.getElem?_cons_succ, Cells.len hy1.f, Cells.len hrw, c2, c3, haw]
end Go.Vm.Vat
