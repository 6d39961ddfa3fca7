/- Texts of the proofs of this seat, put together: VatMemL. -/
import Derived.Test.YtnibceeoejeimaaPk7

namespace Go.Vm.Vat
open Go.Proofs
set_option linter.unusedSimpArgs false
set_option linter.unusedVariables false
set_option maxRecDepth 10000
variable {n : Nat} {h : AHeap}
/-! ### What the five functions answer, in one form each -/
theorem nil_cells {s : Nat} {c : Nat → Nat → Value} : Cells h nilS s 0 c := ⟨none, 0, rfl, fun x e => (by cases e), .inl rfl⟩
theorem nil_own {B s : Nat} : Own B h nilS s 0 := .inl ⟨none, 0, rfl, rfl⟩
open Classical in
noncomputable def errB (Y : MY) : Int := if faultN Y ≠ 0 then faultN Y else if truths Y = [] then 11 else 0
open Classical in
noncomputable def cntB (Y : MY) (m : Nat) : Nat := if faultN Y = 0 ∧ truths Y ≠ [] then m else 0
theorem ranges_form {Y : MY} {m : Nat} {val : Nat → (Nat → Int) → Int} {v : Value} {h' : AHeap} (hR : RangesRo h Y m val v h') :
    ∃ l, v = .tuple ⟨[l, .int .i64 (errB Y)]⟩ ∧ Ranges h' l (cntB Y m) (fun k => loN (val k) (truths Y)) (fun k => hiN (val k) (truths Y)) ∧ Own h.next h' l 2 (cntB Y m) ∧ Made h h' 400000 := by
  obtain ⟨hM, ⟨h1, rfl⟩ | ⟨h1, h2, rfl⟩ | ⟨h1, h2, l, rfl, h3, h4⟩⟩ := hR
  · refine ⟨nilS, ?_, ?_, ?_, hM⟩
    · unfold errB; rw [if_pos h1]
    · unfold cntB; rw [if_neg fun h => h1 h.1]; exact nil_cells
    · unfold cntB; rw [if_neg fun h => h1 h.1]; exact nil_own
  · refine ⟨nilS, ?_, ?_, ?_, hM⟩
    · unfold errB; rw [if_neg (not_not_intro h1), if_pos h2]
    · unfold cntB; rw [if_neg fun h => h.2 h2]; exact nil_cells
    · unfold cntB; rw [if_neg fun h => h.2 h2]; exact nil_own
  · refine ⟨l, ?_, ?_, ?_, hM⟩
    · unfold errB; rw [if_neg (not_not_intro h1), if_neg h2]
    · unfold cntB; rw [if_pos ⟨h1, h2⟩]; exact h3
    · unfold cntB; rw [if_pos ⟨h1, h2⟩]; exact h4
theorem cntB_big {Y : MY} {m : Nat} (hm : faultN Y = 0 → m ≤ 5) : cntB Y m ≤ 5 := by
  unfold cntB
  split
  · rename_i hh; exact hm hh.1
  · omega
open Classical in
noncomputable def errP (Y : MY) (nb : Nat) (b : Nat → Int) : Int := if faultN Y ≠ 0 then faultN Y else if AreB Y nb b then 0 else 2
open Classical in
noncomputable def cntP (Y : MY) (nb : Nat) (b : Nat → Int) : Nat := if faultN Y = 0 ∧ AreB Y nb b then Y.nv else 0
theorem play_form {Y : MY} {nb : Nat} {b : Nat → Int} {v : Value} {h' : AHeap} (hR : PlayRo h Y nb b v h') :
    ∃ l, v = .tuple ⟨[l, .int .i64 (errP Y nb b)]⟩ ∧ (Ints h' l (cntP Y nb b) fun k => blueN b (Y.q k) Y.nf) ∧ Own h.next h' l 1 (cntP Y nb b) ∧ Made h h' 50 := by
  obtain ⟨hM, ⟨h1, rfl⟩ | ⟨h1, h2, rfl⟩ | ⟨h1, h2, l, rfl, h3, h4⟩⟩ := hR
  · refine ⟨nilS, ?_, ?_, ?_, hM⟩
    · unfold errP; rw [if_pos h1]
    · unfold cntP; rw [if_neg fun h => h1 h.1]; exact nil_cells
    · unfold cntP; rw [if_neg fun h => h1 h.1]; exact nil_own
  · refine ⟨nilS, ?_, ?_, ?_, hM⟩
    · unfold errP; rw [if_neg (not_not_intro h1), if_neg h2]
    · unfold cntP; rw [if_neg fun h => h2 h.2]; exact nil_cells
    · unfold cntP; rw [if_neg fun h => h2 h.2]; exact nil_own
  · refine ⟨l, ?_, ?_, ?_, hM⟩
    · unfold errP; rw [if_neg (not_not_intro h1), if_pos h2]
    · unfold cntP; rw [if_pos ⟨h1, h2⟩]; exact h3
    · unfold cntP; rw [if_pos ⟨h1, h2⟩]; exact h4
theorem cntP_le {Y : MY} {nb : Nat} {b : Nat → Int} (hT : Thin Y) : cntP Y nb b ≤ 30 := by
  unfold cntP
  have := hT.2.1
  split <;> omega
noncomputable def leastS (Y : MY) (f m : Int) : Int := if spreadE Y f m = 0 then (bestS Y f.toNat m.toNat).2 else 0
noncomputable def cntS (Y : MY) (f m : Int) : Nat := if spreadE Y f m = 0 then Y.nv else 0
theorem spread_form {Y : MY} {f m : Int} {v : Value} {h' : AHeap} (hR : SpreadRo h Y f m v h') :
    ∃ l, v = .tuple ⟨[l, .int .i64 (leastS Y f m), .int .i64 (spreadE Y f m)]⟩ ∧ Ints h' l (cntS Y f m) (bestS Y f.toNat m.toNat).1 ∧ Own h.next h' l 1 (cntS Y f m) ∧ Made h h' 400000 := by
  obtain ⟨hM, ⟨h1, rfl⟩ | ⟨h1, l, rfl, h3, h4, _⟩⟩ := hR
  · refine ⟨nilS, ?_, ?_, ?_, hM⟩
    · unfold leastS; rw [if_neg h1]
    · unfold cntS; rw [if_neg h1]; exact nil_cells
    · unfold cntS; rw [if_neg h1]; exact nil_own
  · refine ⟨l, ?_, ?_, ?_, hM⟩
    · unfold leastS; rw [if_pos h1, h1]
    · unfold cntS; rw [if_pos h1]; exact h3
    · unfold cntS; rw [if_pos h1]; exact h4
theorem cntS_le {Y : MY} {f m : Int} (hT : Thin Y) : cntS Y f m ≤ 30 := by
  unfold cntS
  have := hT.2.1
  split <;> omega
noncomputable def leaveL (Y : MY) : List Int := if faultN Y = 0 then leaveRun Y else []
theorem leave_form {Y : MY} {v : Value} {h' : AHeap} (hR : LeaveRo h Y v h') :
    ∃ l, v = .tuple ⟨[l, .int .i64 (faultN Y)]⟩ ∧ IntsO h.next h' l (leaveL Y).length (atL (leaveL Y)) ∧ (leaveL Y).length ≤ 5 ∧ Made h h' 260000 := by
  obtain ⟨hM, ⟨h1, rfl⟩ | ⟨h1, l, rfl, h3, h4⟩⟩ := hR
  · refine ⟨nilS, rfl, ?_, ?_, hM⟩
    · unfold leaveL; rw [if_neg h1]; exact ⟨nil_cells, nil_own⟩
    · unfold leaveL; rw [if_neg h1]; exact Nat.zero_le _
  · refine ⟨l, by rw [h1], ?_, ?_, hM⟩
    · unfold leaveL; rw [if_pos h1]; exact h3
    · unfold leaveL; rw [if_pos h1]; exact h4
theorem exm0 {x y z : Value} : extractA 0 (.tuple ⟨[x, y, z]⟩) h = some (x, h) := id rfl
theorem exm1 {x y z : Value} : extractA 1 (.tuple ⟨[x, y, z]⟩) h = some (y, h) := id rfl
theorem exm2 {x y z : Value} : extractA 2 (.tuple ⟨[x, y, z]⟩) h = some (z, h) := id rfl
def s22 : SCode := (.seq (.ops [⟨(some 4), none, .box (T 0)⟩, ⟨(some 8), none, .mov (.const (.bool false))⟩]) (.seq (.seq (.ops [⟨(some 37), none, .loadN 3 (T 4)⟩, ⟨(some 38), none, .call (.func 23) [(T 37)]⟩, ⟨(some 39), none, .not (T 38)⟩, ⟨(some 40), none, .mov (T 39)⟩, ⟨(some 41), (some (40, false)), .mov (T 1)⟩, ⟨(some 42), (some (40, false)), .len (T 41)⟩, ⟨(some 43), (some (40, false)), .int2 .gtr (T 42) (.const (.int .i64 (30)))⟩, ⟨(some 44), none, .pick (T 40) (.const (.bool true)) (T 43)⟩]) (.cond (T 44) (.seq (.ops [⟨(some 45), none, .call (.func 24) []⟩, ⟨(some 8), none, .mov (T 45)⟩]) .ret) .skip)) (.seq (.ops [⟨(some 46), none, .loadN 3 (T 4)⟩, ⟨(some 47), none, .call (.func 26) [(T 46)]⟩, ⟨(some 48), none, .mov (T 1)⟩, ⟨(some 49), none, .call (.func 27) [(T 48)]⟩, ⟨(some 9), none, .alloc [(.slice none 0 0), (.slice none 0 0), (.slice none 0 0)]⟩, ⟨none, none, .store 3 (T 9) (T 47)⟩, ⟨(some 10), none, .mov (T 49)⟩]) (.seq (.seq (.ops [⟨(some 11), none, .mov (.const (.int .i64 (0)))⟩]) (.block 0 (.loop (.seq (.seq (.ops [⟨(some 50), none, .mov (T 11)⟩, ⟨(some 51), none, .int2 .lss (T 50) (.const (.int .i64 (2)))⟩]) (.cond (T 51) .skip (.exit 0))) (.seq (.block 1 (.seq (.draw [⟨.rd1, ⟨(some 54), none, .loadN 3 (T 4)⟩⟩, ⟨.up, ⟨(some 55), none, .call (.func 26) [(T 54)]⟩⟩, ⟨.rd, ⟨(some 56), none, .loadN 3 (T 4)⟩⟩, ⟨.up, ⟨(some 57), none, .call (.func 26) [(T 56)]⟩⟩, ⟨.rd, ⟨(some 58), none, .loadN 3 (T 4)⟩⟩, ⟨.any, ⟨(some 59), none, .call (.func 26) [(T 58)]⟩⟩, ⟨.any, ⟨(some 12), none, .alloc [(.slice none 0 0), (.slice none 0 0), (.slice none 0 0)]⟩⟩, ⟨.any, ⟨(some 13), none, .alloc [(.slice none 0 0), (.slice none 0 0), (.slice none 0 0)]⟩⟩, ⟨.any, ⟨(some 14), none, .alloc [(.slice none 0 0), (.slice none 0 0), (.slice none 0 0)]⟩⟩, ⟨.any, ⟨none, none, .store 3 (T 12) (T 55)⟩⟩, ⟨.any, ⟨none, none, .store 3 (T 13) (T 57)⟩⟩, ⟨.any, ⟨none, none, .store 3 (T 14) (T 59)⟩⟩]) (.seq (.ops [⟨(some 61), none, .loadN 3 (T 12)⟩, ⟨(some 62), none, .call (.func 34) [(T 61)]⟩, ⟨(some 60), none, .mov (T 62)⟩, ⟨(some 63), none, .extract 0 (T 60)⟩, ⟨(some 64), none, .extract 1 (T 60)⟩, ⟨(some 15), none, .mov (T 63)⟩, ⟨(some 16), none, .mov (T 64)⟩]) (.seq (.ops [⟨(some 66), none, .loadN 3 (T 13)⟩, ⟨(some 67), none, .call (.func 35) [(T 66)]⟩, ⟨(some 65), none, .mov (T 67)⟩, ⟨(some 68), none, .extract 0 (T 65)⟩, ⟨(some 69), none, .extract 1 (T 65)⟩, ⟨(some 17), none, .mov (T 68)⟩, ⟨(some 18), none, .mov (T 69)⟩]) (.seq (.ops [⟨(some 71), none, .loadN 3 (T 14)⟩, ⟨(some 72), none, .call (.func 54) [(T 71)]⟩, ⟨(some 70), none, .mov (T 72)⟩, ⟨(some 73), none, .extract 0 (T 70)⟩, ⟨(some 74), none, .extract 1 (T 70)⟩, ⟨(some 19), none, .mov (T 73)⟩, ⟨(some 20), none, .mov (T 74)⟩]) (.seq (.ops [⟨(some 76), none, .loadN 3 (T 4)⟩, ⟨(some 77), none, .call (.func 26) [(T 76)]⟩, ⟨(some 78), none, .mov (T 1)⟩, ⟨(some 79), none, .call (.func 27) [(T 78)]⟩, ⟨(some 80), none, .call (.func 25) [(T 77), (T 79)]⟩, ⟨(some 75), none, .mov (T 80)⟩, ⟨(some 81), none, .extract 0 (T 75)⟩, ⟨(some 82), none, .extract 1 (T 75)⟩, ⟨(some 21), none, .mov (T 81)⟩, ⟨(some 22), none, .mov (T 82)⟩]) (.seq (.ops [⟨(some 84), none, .loadN 3 (T 4)⟩, ⟨(some 85), none, .call (.func 26) [(T 84)]⟩, ⟨(some 86), none, .mov (T 2)⟩, ⟨(some 87), none, .mov (T 3)⟩, ⟨(some 88), none, .call (.func 48) [(T 85), (T 86), (T 87)]⟩, ⟨(some 83), none, .mov (T 88)⟩, ⟨(some 89), none, .extract 0 (T 83)⟩, ⟨(some 90), none, .extract 1 (T 83)⟩, ⟨(some 91), none, .extract 2 (T 83)⟩, ⟨(some 23), none, .mov (T 89)⟩, ⟨(some 24), none, .mov (T 90)⟩, ⟨(some 25), none, .mov (T 91)⟩]) (.seq (.ops [⟨(some 93), none, .loadN 3 (T 9)⟩, ⟨(some 94), none, .call (.func 34) [(T 93)]⟩, ⟨(some 92), none, .mov (T 94)⟩, ⟨(some 95), none, .extract 0 (T 92)⟩, ⟨(some 96), none, .extract 1 (T 92)⟩, ⟨(some 26), none, .mov (T 95)⟩, ⟨(some 27), none, .mov (T 96)⟩]) (.seq (.ops [⟨(some 98), none, .loadN 3 (T 9)⟩, ⟨(some 99), none, .call (.func 35) [(T 98)]⟩, ⟨(some 97), none, .mov (T 99)⟩, ⟨(some 100), none, .extract 0 (T 97)⟩, ⟨(some 101), none, .extract 1 (T 97)⟩, ⟨(some 28), none, .mov (T 100)⟩, ⟨(some 29), none, .mov (T 101)⟩]) (.seq (.ops [⟨(some 103), none, .loadN 3 (T 9)⟩, ⟨(some 104), none, .call (.func 54) [(T 103)]⟩, ⟨(some 102), none, .mov (T 104)⟩, ⟨(some 105), none, .extract 0 (T 102)⟩, ⟨(some 106), none, .extract 1 (T 102)⟩, ⟨(some 30), none, .mov (T 105)⟩, ⟨(some 31), none, .mov (T 106)⟩]) (.seq (.ops [⟨(some 108), none, .loadN 3 (T 9)⟩, ⟨(some 109), none, .mov (T 10)⟩, ⟨(some 110), none, .call (.func 25) [(T 108), (T 109)]⟩, ⟨(some 107), none, .mov (T 110)⟩, ⟨(some 111), none, .extract 0 (T 107)⟩, ⟨(some 112), none, .extract 1 (T 107)⟩, ⟨(some 32), none, .mov (T 111)⟩, ⟨(some 33), none, .mov (T 112)⟩]) (.seq (.ops [⟨(some 114), none, .loadN 3 (T 9)⟩, ⟨(some 115), none, .mov (T 2)⟩, ⟨(some 116), none, .mov (T 3)⟩, ⟨(some 117), none, .call (.func 48) [(T 114), (T 115), (T 116)]⟩, ⟨(some 113), none, .mov (T 117)⟩, ⟨(some 118), none, .extract 0 (T 113)⟩, ⟨(some 119), none, .extract 1 (T 113)⟩, ⟨(some 120), none, .extract 2 (T 113)⟩, ⟨(some 34), none, .mov (T 118)⟩, ⟨(some 35), none, .mov (T 119)⟩, ⟨(some 36), none, .mov (T 120)⟩]) (.seq (.seq (.ops [⟨(some 121), none, .mov (T 16)⟩, ⟨(some 122), none, .mov (T 27)⟩, ⟨(some 123), none, .int2 .neq (T 121) (T 122)⟩, ⟨(some 124), none, .mov (T 123)⟩, ⟨(some 125), (some (124, false)), .mov (T 18)⟩, ⟨(some 126), (some (124, false)), .mov (T 29)⟩, ⟨(some 127), (some (124, false)), .int2 .neq (T 125) (T 126)⟩, ⟨(some 128), none, .pick (T 124) (.const (.bool true)) (T 127)⟩, ⟨(some 129), none, .mov (T 128)⟩, ⟨(some 130), (some (129, false)), .mov (T 20)⟩, ⟨(some 131), (some (129, false)), .mov (T 31)⟩, ⟨(some 132), (some (129, false)), .int2 .neq (T 130) (T 131)⟩, ⟨(some 133), none, .pick (T 129) (.const (.bool true)) (T 132)⟩, ⟨(some 134), none, .mov (T 133)⟩, ⟨(some 135), (some (134, false)), .mov (T 22)⟩, ⟨(some 136), (some (134, false)), .mov (T 33)⟩, ⟨(some 137), (some (134, false)), .int2 .neq (T 135) (T 136)⟩, ⟨(some 138), none, .pick (T 134) (.const (.bool true)) (T 137)⟩, ⟨(some 139), none, .mov (T 138)⟩, ⟨(some 140), (some (139, false)), .mov (T 25)⟩, ⟨(some 141), (some (139, false)), .mov (T 36)⟩, ⟨(some 142), (some (139, false)), .int2 .neq (T 140) (T 141)⟩, ⟨(some 143), none, .pick (T 139) (.const (.bool true)) (T 142)⟩, ⟨(some 144), none, .mov (T 143)⟩, ⟨(some 145), (some (144, false)), .mov (T 24)⟩, ⟨(some 146), (some (144, false)), .mov (T 35)⟩, ⟨(some 147), (some (144, false)), .int2 .neq (T 145) (T 146)⟩, ⟨(some 148), none, .pick (T 144) (.const (.bool true)) (T 147)⟩, ⟨(some 149), none, .mov (T 148)⟩, ⟨(some 150), (some (149, false)), .mov (T 15)⟩, ⟨(some 151), (some (149, false)), .mov (T 26)⟩, ⟨(some 152), (some (149, false)), .call (.func 73) [(T 150), (T 151)]⟩, ⟨(some 153), (some (149, false)), .not (T 152)⟩, ⟨(some 154), none, .pick (T 149) (.const (.bool true)) (T 153)⟩, ⟨(some 155), none, .mov (T 154)⟩, ⟨(some 156), (some (155, false)), .mov (T 17)⟩, ⟨(some 157), (some (155, false)), .mov (T 28)⟩, ⟨(some 158), (some (155, false)), .call (.func 73) [(T 156), (T 157)]⟩, ⟨(some 159), (some (155, false)), .not (T 158)⟩, ⟨(some 160), none, .pick (T 155) (.const (.bool true)) (T 159)⟩, ⟨(some 161), none, .mov (T 160)⟩, ⟨(some 162), (some (161, false)), .mov (T 19)⟩, ⟨(some 163), (some (161, false)), .mov (T 30)⟩, ⟨(some 164), (some (161, false)), .call (.func 52) [(T 162), (T 163)]⟩, ⟨(some 165), (some (161, false)), .not (T 164)⟩, ⟨(some 166), none, .pick (T 161) (.const (.bool true)) (T 165)⟩, ⟨(some 167), none, .mov (T 166)⟩, ⟨(some 168), (some (167, false)), .mov (T 21)⟩, ⟨(some 169), (some (167, false)), .mov (T 32)⟩, ⟨(some 170), (some (167, false)), .call (.func 52) [(T 168), (T 169)]⟩, ⟨(some 171), (some (167, false)), .not (T 170)⟩, ⟨(some 172), none, .pick (T 167) (.const (.bool true)) (T 171)⟩, ⟨(some 173), none, .mov (T 172)⟩, ⟨(some 174), (some (173, false)), .mov (T 23)⟩, ⟨(some 175), (some (173, false)), .mov (T 34)⟩, ⟨(some 176), (some (173, false)), .call (.func 52) [(T 174), (T 175)]⟩, ⟨(some 177), (some (173, false)), .not (T 176)⟩, ⟨(some 178), none, .pick (T 173) (.const (.bool true)) (T 177)⟩]) (.cond (T 178) (.seq (.ops [⟨(some 8), none, .mov (.const (.bool false))⟩]) .ret) .skip)) (.seq (.ops [⟨(some 179), none, .mov (T 26)⟩, ⟨(some 180), none, .mov (T 30)⟩, ⟨(some 181), none, .call (.func 74) [(T 179), (T 180)]⟩]) (.seq (.ops [⟨(some 182), none, .mov (T 28)⟩, ⟨(some 183), none, .mov (T 32)⟩, ⟨(some 184), none, .call (.func 74) [(T 182), (T 183)]⟩]) (.seq (.ops [⟨(some 185), none, .mov (T 34)⟩, ⟨(some 186), none, .call (.func 74) [(.const (.slice none 0 0)), (T 185)]⟩]) (.seq (.draw [⟨.rd, ⟨(some 187), none, .loadN 3 (T 9)⟩⟩, ⟨.rd1, ⟨(some 188), none, .loadN 3 (T 4)⟩⟩, ⟨.up, ⟨(some 189), none, .call (.func 26) [(T 188)]⟩⟩, ⟨.any, ⟨(some 190), none, .call (.func 75) [(T 187), (T 189)]⟩⟩, ⟨.free, ⟨(some 191), none, .not (T 190)⟩⟩, ⟨.free, ⟨(some 192), none, .mov (T 191)⟩⟩, ⟨.free, ⟨(some 193), (some (192, false)), .mov (T 10)⟩⟩, ⟨.free, ⟨(some 194), (some (192, false)), .mov (T 1)⟩⟩, ⟨.any, ⟨(some 195), (some (192, false)), .call (.func 52) [(T 193), (T 194)]⟩⟩, ⟨.free, ⟨(some 196), (some (192, false)), .not (T 195)⟩⟩, ⟨.free, ⟨(some 197), none, .pick (T 192) (.const (.bool true)) (T 196)⟩⟩]) (.cond (T 197) (.seq (.ops [⟨(some 8), none, .mov (.const (.bool false))⟩]) .ret) .skip)))))))))))))))))) (.ops [⟨(some 52), none, .mov (T 11)⟩, ⟨(some 53), none, .int2 .add (T 52) (.const (.int .i64 (1)))⟩, ⟨(some 11), none, .mov (T 53)⟩])))))) (.seq (.ops [⟨(some 198), none, .call (.func 24) []⟩, ⟨(some 8), none, .mov (T 198)⟩]) .ret)))))
theorem fok22 : FnOk Try.prog 22 199 s22 [.tmp 8] := ⟨Try.f22, _, Try.func22, rfl, Try.ntmps22, by kernel_rfl, by kernel_rfl⟩
set_option maxHeartbeats 6000000 in
theorem memory_c (hn : 11200 ≤ n) (hr : h.next + 9000000 < far) (hfl : h.floor ≤ h.next) {fv vv sv vb : Value} {Y : MY} {nb : Nat} {b : Nat → Int} (hy : YardR h fv vv sv Y) (hb : Ints h vb nb b) (fld many : Int) :
    ∃ v h', call n (.func (.func 22) #[] #[]) [.agg ⟨[fv, vv, sv]⟩, vb, .int .i64 fld, .int .i64 many] h = some (v, h') ∧ v = .bool true := by
  obtain ⟨n, rfl⟩ : ∃ p, n = p + 1 := ⟨n - 1, by omega⟩
  refine call_any0 fok22 rfl rfl (by simp) ?_
  simp only [s22, W_seq, W_ops]
  refine ops_box (cs := [fv, vv, sv]) (by omega) rfl hy.one fun g1 hx1 => ?_
  have n1 := hx1.next
  have f1 := hx1.floor
  have e1 : g1.next = h.next + 1 := n1
  have hy1 := hy.mono hx1.sub
  have hb1 := Cells.mono hb hx1.sub
  have w1 := hx1.row.whole (n := 3) rfl
  have ht := thin_c (n := n) (h := g1) (by omega) (by omega) hy1
  have haw : ∀ g, call n (.func (.func 24) #[] #[]) [] g = some (.bool true, g) := fun g => awake_c (n := n) (h := g) (by omega)
  by_cases hT : Thin Y
  case neg => simp only [rn0, rn1, rn2, rn3, rn4, rn5, rn6, rn7, rn8, if_true, if_false, Nat.le_refl, true_and, and_true, decide_true, decide_false, Bool.not_true, Bool.not_false, reduceIte, Nat.reduceEqDiff, Nat.reduceAdd, Nat.reduceMul, Nat.reduceSub, Nat.reduceLeDiff, Nat.reduceLT, w1, ht, hT, haw]
  by_cases hl : nb ≤ 30
  case neg =>
    have hl' : (30 : Int) < nb := by omega
    simp only [rn0, rn1, rn2, rn3, rn4, rn5, rn6, rn7, rn8, if_true, if_false, Nat.le_refl, true_and, and_true, decide_true, decide_false, Bool.not_true, Bool.not_false, reduceIte, Nat.reduceEqDiff, Nat.reduceAdd, Nat.reduceMul, Nat.reduceSub, Nat.reduceLeDiff, Nat.reduceLT, w1, ht, hT, Cells.len hb1, hl', haw]
  have hl' : ¬ (30 : Int) < nb := by omega
  obtain ⟨FO, VO, SO, g2, ey2, hyO, m2⟩ := yard_c (n := n) (h := g1) (by omega) (by omega) (by omega) hy1 hT
  have n2 := m2.next
  have u2 := m2.up
  have f2 := m2.floor
  obtain ⟨mine, g3, el3, hl3, m3, _, _⟩ := list_c (n := n) (h := g2) (by omega) (by omega) (Cells.mono hb1 m2.sub) hl
  have n3 := m3.next
  have u3 := m3.up
  have f3 := m3.floor
  simp only [rn0, rn1, rn2, rn3, rn4, rn5, rn6, rn7, rn8, if_true, if_false, Nat.le_refl, true_and, and_true, decide_true, decide_false, Bool.not_true, Bool.not_false, reduceIte, Nat.reduceEqDiff, Nat.reduceAdd, Nat.reduceMul, Nat.reduceSub, Nat.reduceLeDiff, Nat.reduceLT, w1, ht, hT, Cells.len hb1, hl', ey2, el3]
  refine step_new (vs := [FO, VO, SO]) (by omega) (by omega) rfl (by simp only [rn0, rn1, rn2, rn3, rn4, rn5, rn6, rn7, rn8, if_true, if_false, Nat.le_refl, true_and, and_true, decide_true, decide_false, Bool.not_true, Bool.not_false, reduceIte, Nat.reduceEqDiff, Nat.reduceAdd, Nat.reduceMul, Nat.reduceSub, Nat.reduceLeDiff, Nat.reduceLT]; rfl) hyO.one rfl rfl fun g4 hx4 => ?_
  have n4 := hx4.next
  have f4 := hx4.floor
  have s14 : Sub All g1 g4 := m2.sub.trans (m3.sub.trans hx4.sub)
  have hy4 := hy1.mono s14
  have hb4 := Cells.mono hb1 s14
  have hyO4 := hyO.mono (m3.sub.trans hx4.sub)
  have hM4 := Cells.mono hl3 hx4.sub
  have r14 := hx1.row.mono s14
  have rO4 := hx4.row
  obtain ⟨OB, hOB⟩ : ∃ x, x = g3.next := ⟨_, rfl⟩
  rw [← hOB] at rO4 ⊢
  clear hx1 hx4 hy hb hy1 hb1 hyO hl3 w1 ht el3 ey2
  simp only [rn0, rn1, rn2, rn3, rn4, rn5, rn6, rn7, rn8, if_true, if_false, Nat.le_refl, true_and, and_true, decide_true, decide_false, Bool.not_true, Bool.not_false, reduceIte, Nat.reduceEqDiff, Nat.reduceAdd, Nat.reduceMul, Nat.reduceSub, Nat.reduceLeDiff, Nat.reduceLT]
  refine W_loop 2 (fun i f g ms => (Sub All g4 g ∧ g.floor = g4.floor ∧ g4.next ≤ g.next ∧ g.next ≤ g4.next + 3500000 * i) ∧ ms = [] ∧ f 1 = vb ∧ f 2 = .int .i64 fld ∧ f 3 = .int .i64 many ∧ f 4 = .pointer (some ⟨h.next, 0, none⟩) ∧ f 9 = .pointer (some ⟨OB, 0, none⟩) ∧ f 10 = mine ∧ f 11 = .int .i64 (i : Int)) (by simp; omega) ?_ ?_ ?_
  · simp only [rn0, rn1, rn2, rn3, rn4, rn5, rn6, rn7, rn8, if_true, if_false, Nat.le_refl, true_and, and_true, decide_true, decide_false, Bool.not_true, Bool.not_false, reduceIte, Nat.reduceEqDiff, Nat.reduceAdd, Nat.reduceMul, Nat.reduceSub, Nat.reduceLeDiff, Nat.reduceLT]
    exact ⟨by omega, rfl⟩
  · rintro i f G0 ms hi ⟨⟨s0, fl0, up0, bd0⟩, rfl, p1, p2, p3, p4, p9, p10, p11⟩
    have hi' : (i : Int) < 2 := by omega
    have hwi : wrapF .i64 ((i : Int) + 1) = ((i + 1 : Nat) : Int) := by rw [wrap_in (by omega) (by omega)]; rfl
    have hyG := hy4.mono s0
    have hbG := Cells.mono hb4 s0
    have hyOG := hyO4.mono s0
    have hMG := Cells.mono hM4 s0
    have rG := r14.mono s0
    have rOG := rO4.mono s0
    have wG := rG.whole (n := 3) rfl
    obtain ⟨Fa, Va, Sa, G1, eya, hya, ma⟩ := yard_c (n := n) (h := G0) (by omega) (by omega) (by omega) hyG hT
    have na := ma.next
    have ua := ma.up
    have fa := ma.floor
    obtain ⟨Fb, Vb, Sb, G2, eyb, hyb, mb⟩ := yard_c (n := n) (h := G1) (by omega) (by omega) (by omega) (hyG.mono ma.sub) hT
    have nb' := mb.next
    have ub := mb.up
    have fb := mb.floor
    obtain ⟨Fc, Vc, Sc, G3, eyc, hyc, mc⟩ := yard_c (n := n) (h := G2) (by omega) (by omega) (by omega) (hyG.mono (ma.sub.trans mb.sub)) hT
    have nc := mc.next
    have uc := mc.up
    have fc := mc.floor
    simp only [rn0, rn1, rn2, rn3, rn4, rn5, rn6, rn7, rn8, if_true, if_false, Nat.le_refl, true_and, and_true, decide_true, decide_false, Bool.not_true, Bool.not_false, reduceIte, Nat.reduceEqDiff, Nat.reduceAdd, Nat.reduceMul, Nat.reduceSub, Nat.reduceLeDiff, Nat.reduceLT, p1, p2, p3, p4, p9, p10, p11, hi']
    refine W_draw All ?_
    simp only [rn0, rn1, rn2, rn3, rn4, rn5, rn6, rn7, rn8, if_true, if_false, Nat.le_refl, true_and, and_true, decide_true, decide_false, Bool.not_true, Bool.not_false, reduceIte, Nat.reduceEqDiff, Nat.reduceAdd, Nat.reduceMul, Nat.reduceSub, Nat.reduceLeDiff, Nat.reduceLT, p1, p2, p3, p4, p9, p10, p11, wG, hyG.self, eya, eyb, eyc]
    refine ⟨⟨ua, ma.sub⟩, ⟨ub, ma.sub.trans mb.sub⟩, uc, ?_⟩
    refine up_row (cs := [nilS, nilS, nilS]) (by omega) rfl rfl (fun _ _ => trivial) fun G4 hx4 => ?_
    have n4' := hx4.next
    have f4' := hx4.floor
    simp only [rn0, rn1, rn2, rn3, rn4, rn5, rn6, rn7, rn8, if_true, if_false, Nat.le_refl, true_and, and_true, decide_true, decide_false, Bool.not_true, Bool.not_false, reduceIte, Nat.reduceEqDiff, Nat.reduceAdd, Nat.reduceMul, Nat.reduceSub, Nat.reduceLeDiff, Nat.reduceLT]
    refine up_row (cs := [nilS, nilS, nilS]) (by omega) rfl rfl (fun _ _ => trivial) fun G5 hx5 => ?_
    have n5 := hx5.next
    have f5 := hx5.floor
    simp only [rn0, rn1, rn2, rn3, rn4, rn5, rn6, rn7, rn8, if_true, if_false, Nat.le_refl, true_and, and_true, decide_true, decide_false, Bool.not_true, Bool.not_false, reduceIte, Nat.reduceEqDiff, Nat.reduceAdd, Nat.reduceMul, Nat.reduceSub, Nat.reduceLeDiff, Nat.reduceLT]
    refine up_row (cs := [nilS, nilS, nilS]) (by omega) rfl rfl (fun _ _ => trivial) fun G6 hx6 => ?_
    have n6 := hx6.next
    have f6 := hx6.floor
    simp only [rn0, rn1, rn2, rn3, rn4, rn5, rn6, rn7, rn8, if_true, if_false, Nat.le_refl, true_and, and_true, decide_true, decide_false, Bool.not_true, Bool.not_false, reduceIte, Nat.reduceEqDiff, Nat.reduceAdd, Nat.reduceMul, Nat.reduceSub, Nat.reduceLeDiff, Nat.reduceLT]
    refine up_store (b := G3.next) (off := 0) (vs := [Fa, Va, Sa]) rfl (by rw [hx6.old _ (by omega), hx5.old _ (by omega)]; exact hx4.get) (by omega) (by omega) rfl hya.one rfl (by simp) (fun _ _ => trivial) fun G7 hs7 => ?_
    rw [show splice [nilS, nilS, nilS] 0 [Fa, Va, Sa] = [Fa, Va, Sa] from rfl] at hs7
    have n7 := hs7.next
    have f7 := hs7.floor
    simp only [rn0, rn1, rn2, rn3, rn4, rn5, rn6, rn7, rn8, if_true, if_false, Nat.le_refl, true_and, and_true, decide_true, decide_false, Bool.not_true, Bool.not_false, reduceIte, Nat.reduceEqDiff, Nat.reduceAdd, Nat.reduceMul, Nat.reduceSub, Nat.reduceLeDiff, Nat.reduceLT]
    refine up_store (b := G4.next) (off := 0) (vs := [Fb, Vb, Sb]) rfl (by rw [hs7.old _ (by omega), hx6.old _ (by omega)]; exact hx5.get) (by omega) (by omega) rfl hyb.one rfl (by simp) (fun _ _ => trivial) fun G8 hs8 => ?_
    rw [show splice [nilS, nilS, nilS] 0 [Fb, Vb, Sb] = [Fb, Vb, Sb] from rfl] at hs8
    have n8 := hs8.next
    have f8 := hs8.floor
    simp only [rn0, rn1, rn2, rn3, rn4, rn5, rn6, rn7, rn8, if_true, if_false, Nat.le_refl, true_and, and_true, decide_true, decide_false, Bool.not_true, Bool.not_false, reduceIte, Nat.reduceEqDiff, Nat.reduceAdd, Nat.reduceMul, Nat.reduceSub, Nat.reduceLeDiff, Nat.reduceLT]
    refine up_store (b := G5.next) (off := 0) (vs := [Fc, Vc, Sc]) rfl (by rw [hs8.old _ (by omega), hs7.old _ (by omega)]; exact hx6.get) (by omega) (by omega) rfl hyc.one rfl (by simp) (fun _ _ => trivial) fun G9 hs9 => ?_
    rw [show splice [nilS, nilS, nilS] 0 [Fc, Vc, Sc] = [Fc, Vc, Sc] from rfl] at hs9
    have n9 := hs9.next
    have f9 := hs9.floor
    have s39 : Sub All G3 G9 := fun j cs w gr t hg => by
      have := AHeap.lt_of_get hg
      rw [hs9.old j (by omega), hs8.old j (by omega), hs7.old j (by omega), hx6.old j (by omega), hx5.old j (by omega), hx4.old j (by omega)]; exact hg
    have rA : Row G9 G3.next [Fa, Va, Sa] := ⟨_, _, by rw [hs9.old _ (by omega), hs8.old _ (by omega)]; exact hs7.get⟩
    have rB : Row G9 G4.next [Fb, Vb, Sb] := ⟨_, _, by rw [hs9.old _ (by omega)]; exact hs8.get⟩
    have rC : Row G9 G5.next [Fc, Vc, Sc] := ⟨_, _, hs9.get⟩
    have hyA9 := hya.mono (mb.sub.trans (mc.sub.trans s39))
    have hyB9 := hyb.mono (mc.sub.trans s39)
    have hyC9 := hyc.mono s39
    have s09 : Sub All G0 G9 := ma.sub.trans (mb.sub.trans (mc.sub.trans s39))
    clear hx4 hx5 hx6 hs7 hs8 hs9 hya hyb hyc
    obtain ⟨vl, G10, el1, hR1⟩ := boundsV_o (n := n) (h := G9) (by omega) (by omega) (by omega) hyA9 hT
    obtain ⟨l, rfl, hl, _, k10⟩ := ranges_form hR1
    have n10 := k10.next
    have u10 := k10.up
    have f10 := k10.floor
    obtain ⟨vm, G11, em1, hR2⟩ := fieldsV_o (n := n) (h := G10) (by omega) (by omega) (by omega) (hyB9.mono k10.sub) hT
    obtain ⟨m, rfl, hm, _, k11⟩ := ranges_form hR2
    have n11 := k11.next
    have u11 := k11.up
    have f11 := k11.floor
    have s911 : Sub All G9 G11 := k10.sub.trans k11.sub
    obtain ⟨vn, G12, en1, hR3⟩ := leave_o (n := n) (h := G11) (by omega) (by omega) (by omega) (hyC9.mono s911) hT
    obtain ⟨nl, rfl, hn3, hlen, k12⟩ := leave_form hR3
    have n12 := k12.next
    have u12 := k12.up
    have f12 := k12.floor
    have s912 : Sub All G9 G12 := s911.trans k12.sub
    have s012 : Sub All G0 G12 := s09.trans s912
    obtain ⟨Fp, Vp, Sp, G13, eyp, hyp, k13⟩ := yard_c (n := n) (h := G12) (by omega) (by omega) (by omega) (hyG.mono s012) hT
    have n13 := k13.next
    have u13 := k13.up
    have f13 := k13.floor
    obtain ⟨bp, G14, elp, hbp, k14, _, _⟩ := list_c (n := n) (h := G13) (by omega) (by omega) (Cells.mono hbG (s012.trans k13.sub)) ‹nb ≤ 30›
    have n14 := k14.next
    have u14 := k14.up
    have f14 := k14.floor
    obtain ⟨vp, G15, ep1, hR4⟩ := play_o (n := n) (h := G14) (by omega) (by omega) (by omega) (hyp.mono k14.sub) hT hbp ‹nb ≤ 30›
    obtain ⟨pl, rfl, hp4, _, k15⟩ := play_form hR4
    have n15 := k15.next
    have u15 := k15.up
    have f15 := k15.floor
    have s1215 : Sub All G12 G15 := k13.sub.trans (k14.sub.trans k15.sub)
    have s015 : Sub All G0 G15 := s012.trans s1215
    obtain ⟨Fs, Vs, Ss, G16, eys, hys, k16⟩ := yard_c (n := n) (h := G15) (by omega) (by omega) (by omega) (hyG.mono s015) hT
    have n16 := k16.next
    have u16 := k16.up
    have f16 := k16.floor
    obtain ⟨vs, G17, es1, hR5⟩ := spread_o (n := n) (h := G16) (by omega) (by omega) (by omega) hys hT fld many
    obtain ⟨sl, rfl, hs5, _, k17⟩ := spread_form hR5
    have n17 := k17.next
    have u17 := k17.up
    have f17 := k17.floor
    have s017 : Sub All G0 G17 := s015.trans (k16.sub.trans k17.sub)
    -- the same of its own
    obtain ⟨vo, G18, eo1, hR6⟩ := boundsV_o (n := n) (h := G17) (by omega) (by omega) (by omega) (hyOG.mono s017) hT
    obtain ⟨ol, rfl, ho6, wo6, k18⟩ := ranges_form hR6
    have n18 := k18.next
    have u18 := k18.up
    have f18 := k18.floor
    have s018 := s017.trans k18.sub
    obtain ⟨vq, G19, eq1, hR7⟩ := fieldsV_o (n := n) (h := G18) (by omega) (by omega) (by omega) (hyOG.mono s018) hT
    obtain ⟨ql, rfl, hq7, wq7, k19⟩ := ranges_form hR7
    have n19 := k19.next
    have u19 := k19.up
    have f19 := k19.floor
    have s019 := s018.trans k19.sub
    obtain ⟨vr, G20, er1, hR8⟩ := leave_o (n := n) (h := G19) (by omega) (by omega) (by omega) (hyOG.mono s019) hT
    obtain ⟨rl, rfl, hr8, _, k20⟩ := leave_form hR8
    have n20 := k20.next
    have u20 := k20.up
    have f20 := k20.floor
    have s020 := s019.trans k20.sub
    obtain ⟨vu, G21, eu1, hR9⟩ := play_o (n := n) (h := G20) (by omega) (by omega) (by omega) (hyOG.mono s020) hT (Cells.mono hMG s020) ‹nb ≤ 30›
    obtain ⟨ul, rfl, hu9, wu9, k21⟩ := play_form hR9
    have n21 := k21.next
    have u21 := k21.up
    have f21 := k21.floor
    have s021 := s020.trans k21.sub
    obtain ⟨vw, G22, ew1, hR10⟩ := spread_o (n := n) (h := G21) (by omega) (by omega) (by omega) (hyOG.mono s021) hT fld many
    obtain ⟨wl, rfl, hw10, ww10, k22⟩ := spread_form hR10
    have n22 := k22.next
    have u22 := k22.up
    have f22 := k22.floor
    have s022 := s021.trans k22.sub
    have b5 : cntB Y Y.nv ≤ 5 := cntB_big fun hf => by have := (good_of hf).sz.2.1; omega
    have b6 : cntB Y Y.nf ≤ 5 := cntB_big fun hf => by have := (good_of hf).sz.1; omega
    have bP := cntP_le (nb := nb) (b := b) hT
    have bS := cntS_le (f := fld) (m := many) hT
    -- compared
    have t1822 : Sub All G18 G22 := k19.sub.trans (k20.sub.trans (k21.sub.trans k22.sub))
    have t1022 : Sub All G10 G22 := k11.sub.trans (k12.sub.trans (s1215.trans (k16.sub.trans (k17.sub.trans (k18.sub.trans t1822)))))
    have t1922 : Sub All G19 G22 := k20.sub.trans (k21.sub.trans k22.sub)
    have t1122 : Sub All G11 G22 := k12.sub.trans (s1215.trans (k16.sub.trans (k17.sub.trans (k18.sub.trans t1822))))
    have t1222 : Sub All G12 G22 := s1215.trans (k16.sub.trans (k17.sub.trans (k18.sub.trans t1822)))
    have t1522 : Sub All G15 G22 := k16.sub.trans (k17.sub.trans (k18.sub.trans t1822))
    have t1722 : Sub All G17 G22 := k18.sub.trans t1822
    have c1 := ranges_c (n := n) (h := G22) (by omega) (Cells.mono hl t1022) (Cells.mono ho6 t1822) (by omega)
    have c2 := ranges_c (n := n) (h := G22) (by omega) (Cells.mono hm t1122) (Cells.mono hq7 t1922) (by omega)
    have c3 := same_c (n := n) (h := G22) (by omega) (Cells.mono hn3.1 t1222) (Cells.mono hr8.1 (k21.sub.trans k22.sub)) (by omega)
    have c4 := same_c (n := n) (h := G22) (by omega) (Cells.mono hp4 t1522) (Cells.mono hu9 k22.sub) (by omega)
    have c5 := same_c (n := n) (h := G22) (by omega) (Cells.mono hs5 t1722) hw10 (by omega)
    rw [decide_eq_true ⟨rfl, fun _ _ => rfl⟩] at c3 c4 c5
    -- written over
    have wo : Own G17.next G22 ol 2 (cntB Y Y.nv) := (wo6.mono t1822)
    have wr : Own G17.next G22 rl 1 (leaveL Y).length := (hr8.2.mono (k21.sub.trans k22.sub)).le (by omega)
    have wq : Own G17.next G22 ql 2 (cntB Y Y.nf) := (wq7.mono t1922).le (by omega)
    have wu : Own G17.next G22 ul 1 (cntP Y nb b) := (wu9.mono k22.sub).le (by omega)
    have ww : Own G17.next G22 wl 1 (cntS Y fld many) := ww10.le (by omega)
    obtain ⟨x1, G23, o1, a1, d1, q1, z1⟩ := over_c (n := n) (h := G22) (B := G17.next) (by omega) (by omega) (by omega) (by omega) (by omega) wo wr
    obtain ⟨x2, G24, o2, a2, d2, q2, z2⟩ := over_c (n := n) (h := G23) (B := G17.next) (by omega) (by omega) (by omega) (by omega) (by omega) (z1 _ _ _ _ wq) (z1 _ _ _ _ wu)
    obtain ⟨x3, G25, o3, a3, d3, q3, z3⟩ := over_c (n := n) (h := G24) (B := G17.next) (by omega) (by omega) (by omega) (m := 0) (by omega) (by omega) nil_own (z2 _ _ _ _ (z1 _ _ _ _ ww))
    have s025 : Sub All G0 G25 := fun j cs w gr t hg => by
      have hj := AHeap.lt_of_get (s017 _ _ _ _ t hg)
      rw [q3 j hj, q2 j hj, q1 j hj]; exact s022 _ _ _ _ t hg
    obtain ⟨FE, VE, SE, G26, eye, hyE, k26⟩ := yard_c (n := n) (h := G25) (by omega) (by omega) (by omega) (hyG.mono s025) hT
    have n26 := k26.next
    have u26 := k26.up
    have f26 := k26.floor
    have s026 := s025.trans k26.sub
    have ee := equal_c (n := n) (h := G26) (by omega) (by omega) (by omega) (hyOG.mono s026) hyE hT
    have em := same_c (n := n) (h := G26) (by omega) (Cells.mono hMG s026) (Cells.mono hbG s026) (by omega)
    rw [decide_eq_true ⟨rfl, fun _ _ => rfl⟩] at em
    have vA := rA.whole (n := 3) rfl
    have vB := (rB.mono k10.sub).whole (n := 3) rfl
    have vC := (rC.mono s911).whole (n := 3) rfl
    have v12 := (rG.mono s012).whole (n := 3) rfl
    have v15 := (rG.mono s015).whole (n := 3) rfl
    have v17 := (rOG.mono s017).whole (n := 3) rfl
    have v18 := (rOG.mono s018).whole (n := 3) rfl
    have v19 := (rOG.mono s019).whole (n := 3) rfl
    have v20 := (rOG.mono s020).whole (n := 3) rfl
    have v21 := (rOG.mono s021).whole (n := 3) rfl
    have v25 := (rG.mono s025).whole (n := 3) rfl
    have vO25 := (rOG.mono s025).whole (n := 3) rfl
    simp only [rn0, rn1, rn2, rn3, rn4, rn5, rn6, rn7, rn8, if_true, if_false, Nat.le_refl, true_and, and_true, decide_true, decide_false, Bool.not_true, Bool.not_false, reduceIte, Nat.reduceEqDiff, Nat.reduceAdd, Nat.reduceMul, Nat.reduceSub, Nat.reduceLeDiff, Nat.reduceLT, p1, p2, p3, p4, p9, p10, p11, vA, el1, ex0, ex1, vB, em1, vC, en1, v12, eyp, elp, ep1, v15, eys, es1, exm0, exm1, exm2, v17, eo1, v18, eq1, v19, er1, v20, eu1, v21, ew1, c1, c2, c3, c4, c5, o1, o2, o3]
    refine W_draw All ?_
    simp only [rn0, rn1, rn2, rn3, rn4, rn5, rn6, rn7, rn8, if_true, if_false, Nat.le_refl, true_and, and_true, decide_true, decide_false, Bool.not_true, Bool.not_false, reduceIte, Nat.reduceEqDiff, Nat.reduceAdd, Nat.reduceMul, Nat.reduceSub, Nat.reduceLeDiff, Nat.reduceLT, p1, p2, p3, p4, p9, p10, p11, vO25, (hyOG.mono s025).self, v25, eye, ee, em, d_guard, dg_tt, dg_tf, dg_ft, dg_ff, hwi]
    exact ⟨⟨u26, k26.sub⟩, s0.trans s026, by omega, by omega, by omega⟩
  · rintro f g ms ⟨⟨s0, fl0, up0, bd0⟩, rfl, p1, p2, p3, p4, p9, p10, p11⟩
    have h2 : ¬ ((2 : Nat) : Int) < 2 := by omega
    simp only [rn0, rn1, rn2, rn3, rn4, rn5, rn6, rn7, rn8, if_true, if_false, Nat.le_refl, true_and, and_true, decide_true, decide_false, Bool.not_true, Bool.not_false, reduceIte, Nat.reduceEqDiff, Nat.reduceAdd, Nat.reduceMul, Nat.reduceSub, Nat.reduceLeDiff, Nat.reduceLT, p1, p2, p3, p4, p9, p10, p11, h2, haw]
end Go.Vm.Vat
