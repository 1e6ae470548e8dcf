/-

 Package bound (layer 35): how many steps each instruction of a system's task has (weight, Weights).
-/
import Derived.Test.YthhbhbfkbncegaaGreatDoorFace
import Derived.Test.YthhbhbfkbncegaaGreatDoorWordBase
import Derived.Test.YthhbhbfkbncegaaGreatDoorDmdCalls
section
set_option linter.unusedVariables false
set_option linter.unusedSimpArgs false
namespace Go.Proofs.YthhbhbfkbncegaaGreatDoor.Bd
open Go.ChangeShapes Go.WideShapes Go.ChangeAt Go.RowKit Ws Fc
open Go.Proofs.YthhbhbfkbncegaaGreatDoor.Wd (clamp wclamp)

def trB (k wd sl cp sa : Int) (il rl : Nat) (op : Int) : Bool := rightF k wd sl cp sa il rl && decide (op = 1) && decide (3 ≤ k ∧ k ≤ 5)
def failI (k wd sl cp sa : Int) (il rl : Nat) (op : Int) : Int := if trB k wd sl cp sa il rl op = true then (if k = 5 then 3 else wd + 2) else 0
def endI (k wd sl cp sa : Int) (il rl : Nat) (op : Int) : Int := if trB k wd sl cp sa il rl op = true then (if k = 5 then wd + 4 else wd + 2) else 0
def cleanI (k wd sl cp sa : Int) (il rl : Nat) (op : Int) : Int := if trB k wd sl cp sa il rl op = true then endI k wd sl cp sa il rl op else boundF k wd sl cp sa il rl op
theorem right_wd {k wd sl cp sa : Int} {il rl : Nat} (h : rightF k wd sl cp sa il rl = true) : (1 ≤ wd ∧ wd ≤ 8) ∧ (rl : Int) ≤ 4 ∧ (k = 3 ∨ k = 4 ∨ k = 5 → 1 ≤ cp ∧ cp ≤ 16) ∧ sl ≤ 16 ∧ cp ≤ 16 ∧ 0 ≤ cp := by
 unfold rightF at h
 repeat' split at h
 ·unfold Fo.rightB at h; rw [decide_eq_true_iff] at h; omega
 ·unfold Ch.rightB at h; rw [decide_eq_true_iff] at h; omega
 ·unfold Sq.rightB at h; rw [decide_eq_true_iff] at h; omega
 ·unfold Rg.rightB at h; rw [decide_eq_true_iff] at h; omega
 ·unfold Cb.rightB at h; rw [decide_eq_true_iff] at h; omega
 ·unfold Ff.rightB Ff.rightK at h; rw [decide_eq_true_iff] at h; omega
 ·cases h
theorem bound_bd (k wd sl cp sa : Int) (il rl : Nat) (op : Int) : 0 ≤ boundF k wd sl cp sa il rl op ∧ boundF k wd sl cp sa il rl op ≤ 1000 := by
 unfold boundF
 by_cases h : rightF k wd sl cp sa il rl = true
 ·rw [if_pos h]
  obtain ⟨h1, h2, h3, h4, h5, h6⟩ := right_wd h
  have h7 : 0 ≤ cp * (wd + 2) := Int.mul_nonneg h6 (by omega)
  have h8 : cp * (wd + 2) ≤ 16 * 10 := Int.mul_le_mul h5 (by omega) (by omega) (by omega)
  unfold Fo.boundI Ch.boundI Sq.boundI Rg.boundI Cb.boundI Ff.boundI
  repeat' split
  all_goals omega
 ·rw [if_neg h]
  omega
theorem tr_yes {k wd sl cp sa : Int} {il rl : Nat} {op : Int} (h : trB k wd sl cp sa il rl op = true) : rightF k wd sl cp sa il rl = true ∧ op = 1 ∧ (k = 3 ∨ k = 4 ∨ k = 5) ∧ (1 ≤ wd ∧ wd ≤ 8) ∧ 1 ≤ cp ∧ cp ≤ 16 := by
 unfold trB at h
 rw [Bool.and_eq_true, Bool.and_eq_true, decide_eq_true_iff, decide_eq_true_iff] at h
 obtain ⟨⟨h1, h2⟩, h3⟩ := h
 have hk : k = 3 ∨ k = 4 ∨ k = 5 := by omega
 obtain ⟨h4, _, h5, _⟩ := right_wd h1
 exact ⟨h1, h2, hk, h4, h5 hk⟩
theorem fail_bd (k wd sl cp sa : Int) (il rl : Nat) (op : Int) : 0 ≤ failI k wd sl cp sa il rl op ∧ failI k wd sl cp sa il rl op ≤ 10 ∧ 0 ≤ endI k wd sl cp sa il rl op ∧ endI k wd sl cp sa il rl op ≤ 12 := by
 unfold failI endI
 by_cases h : trB k wd sl cp sa il rl op = true
 ·obtain ⟨_, _, _, h4, _⟩ := tr_yes h
  rw [if_pos h, if_pos h]
  split <;> omega
 ·rw [if_neg h, if_neg h]
  omega
theorem clean_bd (k wd sl cp sa : Int) (il rl : Nat) (op : Int) : 0 ≤ cleanI k wd sl cp sa il rl op ∧ cleanI k wd sl cp sa il rl op ≤ 1000 := by
 unfold cleanI
 split
 ·have := fail_bd k wd sl cp sa il rl op; omega
 ·exact bound_bd k wd sl cp sa il rl op
theorem ret_ii {a a' b b' : Int} (h1 : a = a') (h2 : b = b') : Ending.returned (.tuple #[.int .i64 a, .int .i64 b]) = .returned (.tuple #[.int .i64 a', .int .i64 b']) := by rw [h1, h2]
set_option maxRecDepth 100000 in
set_option maxHeartbeats 1000000 in
theorem attempt_any (k wd sl cp sa ow : Int) (ia ra : Option Addr) (il ic rl rc : Nat) (op : Int) (w : World) (hsa : 0 ≤ sa ∧ sa < 4294967296) :
  Calls Tryz.prog 85 #[.agg #[.int .i64 k, .int .i64 wd, .int .i64 sl, .int .i64 cp, .int .u32 sa, .slice ia il ic, .int .i64 ow, .slice ra rl rc], .int .i64 op] w fun e w' => e = .returned (.tuple #[.int .i64 (failI k wd sl cp sa il rl op), .int .i64 (endI k wd sl cp sa il rl op)]) ∧ Same w w' := by
 have hb0 := Blk.new w 34 #[.int .i64 k, .int .i64 wd, .int .i64 sl, .int .i64 cp, .int .u32 sa, .slice ia il ic, .int .i64 ow, .slice ra rl rc]
 have HS0 := Lib.hid ((Same.refl w).alloc (.cells #[.int .i64 k, .int .i64 wd, .int .i64 sl, .int .i64 cp, .int .u32 sa, .slice ia il ic, .int .i64 ow, .slice ra rl rc] 34))
 have HB0 := Lib.hid hb0
 clear hb0
 have HSH := Lib.hid (fun w' => shaped_any k wd sl cp sa ow ia ra il ic rl rc w' hsa)
 by_cases hop : op = 1
 rotate_left
 ·have ht : trB k wd sl cp sa il rl op = false := by unfold trB; rw [decide_eq_false hop]; simp
  have e1 : failI k wd sl cp sa il rl op = 0 := by unfold failI; rw [ht]; rfl
  have e2 : endI k wd sl cp sa il rl op = 0 := by unfold endI; rw [ht]; rfl
  rw [e1, e2]
  have b0 : (op != 1) = true := by rw [bne_iff_ne]; exact hop
  clear ht e1 e2 hop hsa
  go_enter Tryz.func85, Tryz.ntmps85
  go_wp2_with fail
  go_ret2
  exact ⟨rfl, HS0.out⟩
 subst hop
 cases hr : rightF k wd sl cp sa il rl
 ·have ht : trB k wd sl cp sa il rl 1 = false := by unfold trB; rw [hr]; rfl
  have e1 : failI k wd sl cp sa il rl 1 = 0 := by unfold failI; rw [ht]; rfl
  have e2 : endI k wd sl cp sa il rl 1 = 0 := by unfold endI; rw [ht]; rfl
  rw [e1, e2]
  rw [hr] at HSH
  clear ht e1 e2 hr hsa
  go_enter Tryz.func85, Tryz.ntmps85
  go_wp2_with fail
  refine (HSH.out _).mono ?_
  rintro e w1 ⟨rfl, s1⟩
  go_wp2_with fail
  go_ret2
  exact ⟨rfl, HS0.out.trans s1⟩
 obtain ⟨hw, _⟩ := right_wd hr
 have f1 : wrap64 (wd + 2) = wd + 2 := Go.IntWalk.wrap64_in _ (by omega)
 have f2 : wrap64 (wd + 4) = wd + 4 := Go.IntWalk.wrap64_in _ (by omega)
 have ht : trB k wd sl cp sa il rl 1 = decide (3 ≤ k ∧ k ≤ 5) := by unfold trB; rw [hr]; simp
 have e1 : failI k wd sl cp sa il rl 1 = if 3 ≤ k ∧ k ≤ 5 then (if k = 5 then 3 else wd + 2) else 0 := by unfold failI; rw [ht]; by_cases h : 3 ≤ k ∧ k ≤ 5 <;> simp [h]
 have e2 : endI k wd sl cp sa il rl 1 = if 3 ≤ k ∧ k ≤ 5 then (if k = 5 then wd + 4 else wd + 2) else 0 := by unfold endI; rw [ht]; by_cases h : 3 ≤ k ∧ k ≤ 5 <;> simp [h]
 rw [e1, e2]
 rw [hr] at HSH
 clear ht e1 e2 hr hsa hw
 by_cases h3 : k = 3
 ·subst h3
  rw [if_pos (by omega), if_neg (by omega), if_pos (by omega), if_neg (by omega)]
  go_enter Tryz.func85, Tryz.ntmps85
  go_wp2_with fail
  refine (HSH.out _).mono ?_
  rintro e w1 ⟨rfl, s1⟩
  have hb1 := HB0.out.same s1
  have d0 := hb1.cell 0
  have d1 : w1.cell? ⟨w.heap.size, 1, none⟩ = some (.int .i64 wd) := hb1.cell 1
  simp only [List.getElem?_toArray, List.getElem?_cons_zero] at d0
  clear hb1
  go_wp2_with fail
  go_quiet (fail)
  go_wp2_with fail
  go_ret2
  exact ⟨ret_ii (by first | rfl | exact f1 | exact f2) (by first | rfl | exact f1 | exact f2), (HS0.out.trans s1).drewN _⟩
 by_cases h4 : k = 4
 ·subst h4
  rw [if_pos (by omega), if_neg (by omega), if_pos (by omega), if_neg (by omega)]
  go_enter Tryz.func85, Tryz.ntmps85
  go_wp2_with fail
  refine (HSH.out _).mono ?_
  rintro e w1 ⟨rfl, s1⟩
  have hb1 := HB0.out.same s1
  have d0 := hb1.cell 0
  have d1 : w1.cell? ⟨w.heap.size, 1, none⟩ = some (.int .i64 wd) := hb1.cell 1
  simp only [List.getElem?_toArray, List.getElem?_cons_zero] at d0
  clear hb1
  go_wp2_with fail
  go_quiet (fail)
  go_wp2_with fail
  go_ret2
  exact ⟨ret_ii (by first | rfl | exact f1 | exact f2) (by first | rfl | exact f1 | exact f2), (HS0.out.trans s1).drewN _⟩
 by_cases h5 : k = 5
 ·subst h5
  rw [if_pos (by omega), if_pos rfl, if_pos (by omega), if_pos rfl]
  go_enter Tryz.func85, Tryz.ntmps85
  go_wp2_with fail
  refine (HSH.out _).mono ?_
  rintro e w1 ⟨rfl, s1⟩
  have hb1 := HB0.out.same s1
  have d0 := hb1.cell 0
  have d1 : w1.cell? ⟨w.heap.size, 1, none⟩ = some (.int .i64 wd) := hb1.cell 1
  simp only [List.getElem?_toArray, List.getElem?_cons_zero] at d0
  clear hb1
  go_wp2_with fail
  go_quiet (fail)
  go_wp2_with fail
  go_ret2
  exact ⟨ret_ii (by first | rfl | exact f1 | exact f2) (by first | rfl | exact f1 | exact f2), (HS0.out.trans s1).drewN _⟩
 rw [if_neg (by omega), if_neg (by omega)]
 have b3 : (k == 3) = false := by simpa using h3
 have b4 : (k == 4) = false := by simpa using h4
 have b5 : (k == 5) = false := by simpa using h5
 clear h3 h4 h5 f1 f2
 go_enter Tryz.func85, Tryz.ntmps85
 go_wp2_with fail
 refine (HSH.out _).mono ?_
 rintro e w1 ⟨rfl, s1⟩
 have hb1 := HB0.out.same s1
 have d0 : w1.cell? ⟨w.heap.size, 0, none⟩ = some (.int .i64 k) := hb1.cell 0
 clear hb1
 go_wp2_with fail
 go_ret2
 exact ⟨rfl, HS0.out.trans s1⟩
set_option maxRecDepth 100000 in
theorem fail_any (k wd sl cp sa ow : Int) (ia ra : Option Addr) (il ic rl rc : Nat) (op : Int) (w : World) (hsa : 0 ≤ sa ∧ sa < 4294967296) :
  Calls Tryz.prog 61 #[.agg #[.int .i64 k, .int .i64 wd, .int .i64 sl, .int .i64 cp, .int .u32 sa, .slice ia il ic, .int .i64 ow, .slice ra rl rc], .int .i64 op] w fun e w' => e = .returned (.int .i64 (failI k wd sl cp sa il rl op)) ∧ Same w w' := by
 have hb0 := Blk.new w 34 #[.int .i64 k, .int .i64 wd, .int .i64 sl, .int .i64 cp, .int .u32 sa, .slice ia il ic, .int .i64 ow, .slice ra rl rc]
 have HS0 := Lib.hid ((Same.refl w).alloc (.cells #[.int .i64 k, .int .i64 wd, .int .i64 sl, .int .i64 cp, .int .u32 sa, .slice ia il ic, .int .i64 ow, .slice ra rl rc] 34))
 have HB0 := Lib.hid hb0
 clear hb0
 have HAT := Lib.hid (fun w' => attempt_any k wd sl cp sa ow ia ra il ic rl rc op w' hsa)
 clear hsa
 generalize failI k wd sl cp sa il rl op = fl at *
 generalize endI k wd sl cp sa il rl op = en at *
 go_enter Tryz.func61, Tryz.ntmps61
 go_wp2_with fail
 refine (HAT.out _).mono ?_
 rintro e w1 ⟨rfl, s1⟩
 go_wp2_with fail
 go_ret
 exact ⟨rfl, HS0.out.trans s1⟩
set_option maxRecDepth 100000 in
theorem clean_any (k wd sl cp sa ow : Int) (ia ra : Option Addr) (il ic rl rc : Nat) (op : Int) (w : World) (hsa : 0 ≤ sa ∧ sa < 4294967296) :
  Calls Tryz.prog 131 #[.agg #[.int .i64 k, .int .i64 wd, .int .i64 sl, .int .i64 cp, .int .u32 sa, .slice ia il ic, .int .i64 ow, .slice ra rl rc], .int .i64 op] w fun e w' => e = .returned (.int .i64 (cleanI k wd sl cp sa il rl op)) ∧ Same w w' := by
 have hb0 := Blk.new w 34 #[.int .i64 k, .int .i64 wd, .int .i64 sl, .int .i64 cp, .int .u32 sa, .slice ia il ic, .int .i64 ow, .slice ra rl rc]
 have HS0 := Lib.hid ((Same.refl w).alloc (.cells #[.int .i64 k, .int .i64 wd, .int .i64 sl, .int .i64 cp, .int .u32 sa, .slice ia il ic, .int .i64 ow, .slice ra rl rc] 34))
 have HB0 := Lib.hid hb0
 clear hb0
 have HAT := Lib.hid (fun w' => attempt_any k wd sl cp sa ow ia ra il ic rl rc op w' hsa)
 have HBN := Lib.hid (fun w' => bound_any k wd sl cp sa ow ia ra il ic rl rc op w' hsa)
 cases ht : trB k wd sl cp sa il rl op
 ·have e1 : cleanI k wd sl cp sa il rl op = boundF k wd sl cp sa il rl op := by unfold cleanI; rw [ht]; rfl
  have e2 : endI k wd sl cp sa il rl op = 0 := by unfold endI; rw [ht]; rfl
  rw [e1]
  rw [e2] at HAT
  clear hsa ht e1 e2
  generalize failI k wd sl cp sa il rl op = fl at *
  generalize boundF k wd sl cp sa il rl op = bn at *
  go_enter Tryz.func131, Tryz.ntmps131
  go_wp2_with fail
  refine (HAT.out _).mono ?_
  rintro e w1 ⟨rfl, s1⟩
  have hb1 := HB0.out.same s1
  have d0 : w1.cell? ⟨w.heap.size, 0, none⟩ = some (.int .i64 k) := hb1.cell 0
  have d1 : w1.cell? ⟨w.heap.size, 1, none⟩ = some (.int .i64 wd) := hb1.cell 1
  have d2 : w1.cell? ⟨w.heap.size, 2, none⟩ = some (.int .i64 sl) := hb1.cell 2
  have d3 : w1.cell? ⟨w.heap.size, 3, none⟩ = some (.int .i64 cp) := hb1.cell 3
  have d4 : w1.cell? ⟨w.heap.size, 4, none⟩ = some (.int .u32 sa) := hb1.cell 4
  have d5 : w1.cell? ⟨w.heap.size, 5, none⟩ = some (.slice ia il ic) := hb1.cell 5
  have d6 : w1.cell? ⟨w.heap.size, 6, none⟩ = some (.int .i64 ow) := hb1.cell 6
  have d7 : w1.cell? ⟨w.heap.size, 7, none⟩ = some (.slice ra rl rc) := hb1.cell 7
  clear hb1
  go_wp2_with fail
  refine (HBN.out _).mono ?_
  rintro e w2 ⟨rfl, s2⟩
  go_wp2_with fail
  go_ret
  exact ⟨rfl, (HS0.out.trans s1).trans s2⟩
 ·have e1 : cleanI k wd sl cp sa il rl op = endI k wd sl cp sa il rl op := by unfold cleanI; rw [ht]; rfl
  have e2 : 0 < endI k wd sl cp sa il rl op := by
   obtain ⟨_, _, _, h4, _⟩ := tr_yes ht
   unfold endI
   rw [ht, if_pos rfl]
   split <;> omega
  rw [e1]
  have d0 : decide ((0 : Int) < endI k wd sl cp sa il rl op) = true := decide_eq_true e2
  clear hsa ht e1 e2
  generalize failI k wd sl cp sa il rl op = fl at *
  generalize endI k wd sl cp sa il rl op = en at *
  go_enter Tryz.func131, Tryz.ntmps131
  go_wp2_with fail
  refine (HAT.out _).mono ?_
  rintro e w1 ⟨rfl, s1⟩
  go_wp2_with fail
  go_ret
  exact ⟨rfl, HS0.out.trans s1⟩
def lastI (cp : Int) : Int := IntKind.i64.wrap (cp - 1)
def afterI (k wd sl cp sa : Int) (il rl : Nat) (op fails : Int) : Int := cleanI k wd sl cp sa il rl op + failI k wd sl cp sa il rl op * clamp fails 0 (lastI cp)
theorem after_bd (k wd sl cp sa : Int) (il rl : Nat) (op fails : Int) : 0 ≤ failI k wd sl cp sa il rl op * clamp fails 0 (lastI cp) ∧ failI k wd sl cp sa il rl op * clamp fails 0 (lastI cp) ≤ 1000 := by
 by_cases ht : trB k wd sl cp sa il rl op = true
 ·obtain ⟨_, _, _, h4, h5, h6⟩ := tr_yes ht
  have hf := fail_bd k wd sl cp sa il rl op
  have hl : lastI cp = cp - 1 := Go.IntWalk.i64_in _ (by omega)
  have hc : 0 ≤ clamp fails 0 (lastI cp) ∧ clamp fails 0 (lastI cp) ≤ 15 := by rw [hl]; unfold clamp; omega
  have h7 : failI k wd sl cp sa il rl op * clamp fails 0 (lastI cp) ≤ 10 * 15 := Int.mul_le_mul hf.2.1 hc.2 hc.1 (by omega)
  have h8 := Int.mul_nonneg hf.1 hc.1
  omega
 ·have e1 : failI k wd sl cp sa il rl op = 0 := by unfold failI; rw [if_neg ht]
  rw [e1, Int.zero_mul]
  omega
set_option maxRecDepth 100000 in
set_option maxHeartbeats 1000000 in
theorem after_any (k wd sl cp sa ow : Int) (ia ra : Option Addr) (il ic rl rc : Nat) (op fails : Int) (w : World) (hsa : 0 ≤ sa ∧ sa < 4294967296) :
  Calls Tryz.prog 115 #[.agg #[.int .i64 k, .int .i64 wd, .int .i64 sl, .int .i64 cp, .int .u32 sa, .slice ia il ic, .int .i64 ow, .slice ra rl rc], .int .i64 op, .int .i64 fails] w fun e w' => e = .returned (.int .i64 (afterI k wd sl cp sa il rl op fails)) ∧ Same w w' := by
 have hb0 := Blk.new w 34 #[.int .i64 k, .int .i64 wd, .int .i64 sl, .int .i64 cp, .int .u32 sa, .slice ia il ic, .int .i64 ow, .slice ra rl rc]
 have hs0 := (Same.refl w).alloc (.cells #[.int .i64 k, .int .i64 wd, .int .i64 sl, .int .i64 cp, .int .u32 sa, .slice ia il ic, .int .i64 ow, .slice ra rl rc] 34)
 have HCL := fun w' => clean_any k wd sl cp sa ow ia ra il ic rl rc op w' hsa
 have HFL := fun w' => fail_any k wd sl cp sa ow ia ra il ic rl rc op w' hsa
 have HE : Hid (afterI k wd sl cp sa il rl op fails = cleanI k wd sl cp sa il rl op + failI k wd sl cp sa il rl op * clamp fails 0 (lastI cp)) := Lib.hid rfl
 have h1 := clean_bd k wd sl cp sa il rl op
 have h2 := after_bd k wd sl cp sa il rl op fails
 have HCM := fun w' => wclamp fails 0 (lastI cp) w'
 generalize afterI k wd sl cp sa il rl op fails = af at *
 generalize cleanI k wd sl cp sa il rl op = cl at *
 generalize failI k wd sl cp sa il rl op = fl at *
 unfold lastI at HE h2 HCM
 generalize clamp fails 0 (IntKind.i64.wrap (cp - 1)) = cm at *
 have f1 : IntKind.i64.wrap (fl * cm) = fl * cm := Go.IntWalk.i64_in _ (by omega)
 have f2 : IntKind.i64.wrap (cl + fl * cm) = cl + fl * cm := Go.IntWalk.i64_in _ (by omega)
 clear h1 h2 hsa
 go_enter Tryz.func115, Tryz.ntmps115
 go_wp2_with fail
 generalize w.alloc (.cells #[.int .i64 k, .int .i64 wd, .int .i64 sl, .int .i64 cp, .int .u32 sa, .slice ia il ic, .int .i64 ow, .slice ra rl rc] 34) = w1 at *
 generalize w.heap.size = g at *
 have SS : Hid (∀ w', Same w1 w' → w'.cell? ⟨g, 0, none⟩ = some (.int .i64 k) ∧ w'.cell? ⟨g, 1, none⟩ = some (.int .i64 wd) ∧ w'.cell? ⟨g, 2, none⟩ = some (.int .i64 sl) ∧ w'.cell? ⟨g, 3, none⟩ = some (.int .i64 cp) ∧ w'.cell? ⟨g, 4, none⟩ = some (.int .u32 sa) ∧ w'.cell? ⟨g, 5, none⟩ = some (.slice ia il ic) ∧ w'.cell? ⟨g, 6, none⟩ = some (.int .i64 ow) ∧ w'.cell? ⟨g, 7, none⟩ = some (.slice ra rl rc) ∧ Same w1 w') := Lib.hid (fun w' s => ⟨s.cell (hb0.cell 0), s.cell (hb0.cell 1), s.cell (hb0.cell 2), s.cell (hb0.cell 3), s.cell (hb0.cell 4), s.cell (hb0.cell 5), s.cell (hb0.cell 6), s.cell (hb0.cell 7), s⟩)
 go_region_held3 (fun w' => w'.cell? ⟨g, 0, none⟩ = some (.int .i64 k) ∧ w'.cell? ⟨g, 1, none⟩ = some (.int .i64 wd) ∧ w'.cell? ⟨g, 2, none⟩ = some (.int .i64 sl) ∧ w'.cell? ⟨g, 3, none⟩ = some (.int .i64 cp) ∧ w'.cell? ⟨g, 4, none⟩ = some (.int .u32 sa) ∧ w'.cell? ⟨g, 5, none⟩ = some (.slice ia il ic) ∧ w'.cell? ⟨g, 6, none⟩ = some (.int .i64 ow) ∧ w'.cell? ⟨g, 7, none⟩ = some (.slice ra rl rc) ∧ Same w1 w')
  (first | (with_reducible assumption) | (with_reducible exact SS.out _ (Same.refl w1).drew) | (with_reducible exact SS.out _ ((‹_ ∧ _ ∧ _ ∧ _ ∧ _ ∧ _ ∧ _ ∧ _ ∧ Same w1 _›).2.2.2.2.2.2.2.2.trans hs9)))
  (first | (go_at_call 131; (with_reducible refine (HCL _).mono ?_); rintro e w' ⟨rfl, hs9⟩) | (go_at_call 61; (with_reducible refine (HFL _).mono ?_); rintro e w' ⟨rfl, hs9⟩) | (go_at_call 108; (with_reducible refine (HCM _).mono ?_); rintro e w' ⟨rfl, rfl⟩))
 have x9 := Lib.hid (‹_ ∧ _ ∧ _ ∧ _ ∧ _ ∧ _ ∧ _ ∧ _ ∧ Same w1 _›).2.2.2.2.2.2.2.2
 go_wp2
 go_ret
 exact ⟨ret_int HE.out.symm, hs0.trans x9.out⟩
set_option maxRecDepth 100000 in
set_option maxHeartbeats 1000000 in
theorem rtries_any (k wd sl cp sa ow : Int) (ia ra : Option Addr) (il ic rl rc : Nat) (op : Int) (w : World) (hsa : 0 ≤ sa ∧ sa < 4294967296) :
  Calls Tryz.prog 69 #[.agg #[.int .i64 k, .int .i64 wd, .int .i64 sl, .int .i64 cp, .int .u32 sa, .slice ia il ic, .int .i64 ow, .slice ra rl rc], .int .i64 op] w fun e w' => e = .returned (.bool (trB k wd sl cp sa il rl op)) ∧ Same w w' := by
 have hb0 := Blk.new w 34 #[.int .i64 k, .int .i64 wd, .int .i64 sl, .int .i64 cp, .int .u32 sa, .slice ia il ic, .int .i64 ow, .slice ra rl rc]
 have HS0 := Lib.hid ((Same.refl w).alloc (.cells #[.int .i64 k, .int .i64 wd, .int .i64 sl, .int .i64 cp, .int .u32 sa, .slice ia il ic, .int .i64 ow, .slice ra rl rc] 34))
 have HB0 := Lib.hid hb0
 clear hb0
 have HSH := Lib.hid (fun w' => rright_any k wd sl cp sa ow ia ra il ic rl rc w' hsa)
 cases hr : rightF k wd sl cp sa il rl
 ·have ht : trB k wd sl cp sa il rl op = false := by unfold trB; rw [hr]; rfl
  rw [ht]
  rw [hr] at HSH
  clear ht hr hsa
  go_enter Tryz.func69, Tryz.ntmps69
  go_wp2_with fail
  refine (HSH.out _).mono ?_
  rintro e w1 ⟨rfl, s1⟩
  go_wp2_with fail
  go_ret
  exact ⟨rfl, HS0.out.trans s1⟩
 rw [hr] at HSH
 by_cases hop : op = 1
 rotate_left
 ·have ht : trB k wd sl cp sa il rl op = false := by unfold trB; rw [decide_eq_false hop]; simp
  rw [ht]
  have b0 : (op == 1) = false := by simpa using hop
  clear ht hr hsa hop
  go_enter Tryz.func69, Tryz.ntmps69
  go_wp2_with fail
  refine (HSH.out _).mono ?_
  rintro e w1 ⟨rfl, s1⟩
  go_wp2_with fail
  go_ret
  exact ⟨rfl, HS0.out.trans s1⟩
 subst hop
 have ht : trB k wd sl cp sa il rl 1 = decide (3 ≤ k ∧ k ≤ 5) := by unfold trB; rw [hr]; simp
 rw [ht]
 clear hr hsa ht
 have main : ∀ b : Bool, (decide (3 ≤ k ∧ k ≤ 5) = b) → Calls Tryz.prog 69 #[.agg #[.int .i64 k, .int .i64 wd, .int .i64 sl, .int .i64 cp, .int .u32 sa, .slice ia il ic, .int .i64 ow, .slice ra rl rc], .int .i64 1] w fun e w' => e = .returned (.bool b) ∧ Same w w' := by
  intro b hb
  by_cases h3 : k = 3
  ·have b3 : (k == 3) = true := by simpa using h3
   have hbt : b = true := by rw [← hb]; exact decide_eq_true (by omega)
   subst hbt
   clear h3 hb
   go_enter Tryz.func69, Tryz.ntmps69
   go_wp2_with fail
   refine (HSH.out _).mono ?_
   rintro e w1 ⟨rfl, s1⟩
   have hb1 := HB0.out.same s1
   have d0 : w1.cell? ⟨w.heap.size, 0, none⟩ = some (.int .i64 k) := hb1.cell 0
   clear hb1
   go_wp2_with fail
   go_ret
   exact ⟨rfl, HS0.out.trans s1⟩
  have b3 : (k == 3) = false := by simpa using h3
  by_cases h4 : k = 4
  ·have b4 : (k == 4) = true := by simpa using h4
   have hbt : b = true := by rw [← hb]; exact decide_eq_true (by omega)
   subst hbt
   clear h3 h4 hb
   go_enter Tryz.func69, Tryz.ntmps69
   go_wp2_with fail
   refine (HSH.out _).mono ?_
   rintro e w1 ⟨rfl, s1⟩
   have hb1 := HB0.out.same s1
   have d0 : w1.cell? ⟨w.heap.size, 0, none⟩ = some (.int .i64 k) := hb1.cell 0
   clear hb1
   go_wp2_with fail
   go_ret
   exact ⟨rfl, HS0.out.trans s1⟩
  have b4 : (k == 4) = false := by simpa using h4
  by_cases h5 : k = 5
  ·have b5 : (k == 5) = true := by simpa using h5
   have hbt : b = true := by rw [← hb]; exact decide_eq_true (by omega)
   subst hbt
   clear h3 h4 h5 hb
   go_enter Tryz.func69, Tryz.ntmps69
   go_wp2_with fail
   refine (HSH.out _).mono ?_
   rintro e w1 ⟨rfl, s1⟩
   have hb1 := HB0.out.same s1
   have d0 : w1.cell? ⟨w.heap.size, 0, none⟩ = some (.int .i64 k) := hb1.cell 0
   clear hb1
   go_wp2_with fail
   go_ret
   exact ⟨rfl, HS0.out.trans s1⟩
  have b5 : (k == 5) = false := by simpa using h5
  have hbt : b = false := by rw [← hb]; exact decide_eq_false (by omega)
  subst hbt
  clear h3 h4 h5 hb
  go_enter Tryz.func69, Tryz.ntmps69
  go_wp2_with fail
  refine (HSH.out _).mono ?_
  rintro e w1 ⟨rfl, s1⟩
  have hb1 := HB0.out.same s1
  have d0 : w1.cell? ⟨w.heap.size, 0, none⟩ = some (.int .i64 k) := hb1.cell 0
  clear hb1
  go_wp2_with fail
  go_ret
  exact ⟨rfl, HS0.out.trans s1⟩
 exact main _ rfl
set_option maxRecDepth 100000 in
theorem rfail_any (k wd sl cp sa ow : Int) (ia ra : Option Addr) (il ic rl rc : Nat) (op : Int) (w : World) (hsa : 0 ≤ sa ∧ sa < 4294967296) :
  Calls Tryz.prog 45 #[.agg #[.int .i64 k, .int .i64 wd, .int .i64 sl, .int .i64 cp, .int .u32 sa, .slice ia il ic, .int .i64 ow, .slice ra rl rc], .int .i64 op] w fun e w' => e = .returned (.int .i64 (failI k wd sl cp sa il rl op)) ∧ Same w w' := by
 have hb0 := Blk.new w 34 #[.int .i64 k, .int .i64 wd, .int .i64 sl, .int .i64 cp, .int .u32 sa, .slice ia il ic, .int .i64 ow, .slice ra rl rc]
 have HS0 := Lib.hid ((Same.refl w).alloc (.cells #[.int .i64 k, .int .i64 wd, .int .i64 sl, .int .i64 cp, .int .u32 sa, .slice ia il ic, .int .i64 ow, .slice ra rl rc] 34))
 have HB0 := Lib.hid hb0
 clear hb0
 have HTR := Lib.hid (fun w' => rtries_any k wd sl cp sa ow ia ra il ic rl rc op w' hsa)
 cases ht : trB k wd sl cp sa il rl op
 ·have e1 : failI k wd sl cp sa il rl op = 0 := by unfold failI; rw [ht]; rfl
  rw [e1]
  rw [ht] at HTR
  clear hsa ht e1
  go_enter Tryz.func45, Tryz.ntmps45
  go_wp2_with fail
  refine (HTR.out _).mono ?_
  rintro e w1 ⟨rfl, s1⟩
  go_wp2_with fail
  go_ret
  exact ⟨rfl, HS0.out.trans s1⟩
 ·have h4 := (tr_yes ht).2.2.2.1
  have f1 : wrap64 (wd + 2) = wd + 2 := Go.IntWalk.wrap64_in _ (by omega)
  have f2 : wrap64 (wd + 4) = wd + 4 := Go.IntWalk.wrap64_in _ (by omega)
  by_cases h5 : k = 5
  ·have e1 : failI k wd sl cp sa il rl op = 3 := by unfold failI ; rw [ht]; simp [h5]
   have b5 : (k == 5) = true := by simpa using h5
   rw [e1]
   rw [ht] at HTR
   clear hsa ht e1 h4 h5
   go_enter Tryz.func45, Tryz.ntmps45
   go_wp2_with fail
   refine (HTR.out _).mono ?_
   rintro e w1 ⟨rfl, s1⟩
   have hb1 := HB0.out.same s1
   have d0 : w1.cell? ⟨w.heap.size, 0, none⟩ = some (.int .i64 k) := hb1.cell 0
   have d1 : w1.cell? ⟨w.heap.size, 1, none⟩ = some (.int .i64 wd) := hb1.cell 1
   clear hb1
   go_wp2_with fail
   go_ret
   exact ⟨ret_int (by first | rfl | exact f1 | exact f2), HS0.out.trans s1⟩
  ·have e1 : failI k wd sl cp sa il rl op = wd + 2 := by unfold failI ; rw [ht]; simp [h5]
   have b5 : (k == 5) = false := by simpa using h5
   rw [e1]
   rw [ht] at HTR
   clear hsa ht e1 h4 h5
   go_enter Tryz.func45, Tryz.ntmps45
   go_wp2_with fail
   refine (HTR.out _).mono ?_
   rintro e w1 ⟨rfl, s1⟩
   have hb1 := HB0.out.same s1
   have d0 : w1.cell? ⟨w.heap.size, 0, none⟩ = some (.int .i64 k) := hb1.cell 0
   have d1 : w1.cell? ⟨w.heap.size, 1, none⟩ = some (.int .i64 wd) := hb1.cell 1
   clear hb1
   go_wp2_with fail
   go_ret
   exact ⟨ret_int (by first | rfl | exact f1 | exact f2), HS0.out.trans s1⟩
set_option maxRecDepth 100000 in
theorem rclean_any (k wd sl cp sa ow : Int) (ia ra : Option Addr) (il ic rl rc : Nat) (op : Int) (w : World) (hsa : 0 ≤ sa ∧ sa < 4294967296) :
  Calls Tryz.prog 110 #[.agg #[.int .i64 k, .int .i64 wd, .int .i64 sl, .int .i64 cp, .int .u32 sa, .slice ia il ic, .int .i64 ow, .slice ra rl rc], .int .i64 op] w fun e w' => e = .returned (.int .i64 (cleanI k wd sl cp sa il rl op)) ∧ Same w w' := by
 have hb0 := Blk.new w 34 #[.int .i64 k, .int .i64 wd, .int .i64 sl, .int .i64 cp, .int .u32 sa, .slice ia il ic, .int .i64 ow, .slice ra rl rc]
 have HS0 := Lib.hid ((Same.refl w).alloc (.cells #[.int .i64 k, .int .i64 wd, .int .i64 sl, .int .i64 cp, .int .u32 sa, .slice ia il ic, .int .i64 ow, .slice ra rl rc] 34))
 have HB0 := Lib.hid hb0
 clear hb0
 have HTR := Lib.hid (fun w' => rtries_any k wd sl cp sa ow ia ra il ic rl rc op w' hsa)
 have HBN := Lib.hid (fun w' => rbound_any k wd sl cp sa ow ia ra il ic rl rc op w' hsa)
 cases ht : trB k wd sl cp sa il rl op
 ·have e1 : cleanI k wd sl cp sa il rl op = boundF k wd sl cp sa il rl op := by unfold cleanI; rw [ht]; rfl
  rw [e1]
  rw [ht] at HTR
  clear hsa ht e1
  generalize boundF k wd sl cp sa il rl op = bn at *
  go_enter Tryz.func110, Tryz.ntmps110
  go_wp2_with fail
  refine (HTR.out _).mono ?_
  rintro e w1 ⟨rfl, s1⟩
  have hb1 := HB0.out.same s1
  have d0 : w1.cell? ⟨w.heap.size, 0, none⟩ = some (.int .i64 k) := hb1.cell 0
  have d1 : w1.cell? ⟨w.heap.size, 1, none⟩ = some (.int .i64 wd) := hb1.cell 1
  have d2 : w1.cell? ⟨w.heap.size, 2, none⟩ = some (.int .i64 sl) := hb1.cell 2
  have d3 : w1.cell? ⟨w.heap.size, 3, none⟩ = some (.int .i64 cp) := hb1.cell 3
  have d4 : w1.cell? ⟨w.heap.size, 4, none⟩ = some (.int .u32 sa) := hb1.cell 4
  have d5 : w1.cell? ⟨w.heap.size, 5, none⟩ = some (.slice ia il ic) := hb1.cell 5
  have d6 : w1.cell? ⟨w.heap.size, 6, none⟩ = some (.int .i64 ow) := hb1.cell 6
  have d7 : w1.cell? ⟨w.heap.size, 7, none⟩ = some (.slice ra rl rc) := hb1.cell 7
  clear hb1
  go_wp2_with fail
  refine (HBN.out _).mono ?_
  rintro e w2 ⟨rfl, s2⟩
  go_wp2_with fail
  go_ret
  exact ⟨rfl, (HS0.out.trans s1).trans s2⟩
 ·have h4 := (tr_yes ht).2.2.2.1
  have f1 : wrap64 (wd + 2) = wd + 2 := Go.IntWalk.wrap64_in _ (by omega)
  have f2 : wrap64 (wd + 4) = wd + 4 := Go.IntWalk.wrap64_in _ (by omega)
  by_cases h5 : k = 5
  ·have e1 : cleanI k wd sl cp sa il rl op = wd + 4 := by unfold cleanI endI; rw [ht]; simp [h5]
   have b5 : (k == 5) = true := by simpa using h5
   rw [e1]
   rw [ht] at HTR
   clear hsa ht e1 h4 h5
   go_enter Tryz.func110, Tryz.ntmps110
   go_wp2_with fail
   refine (HTR.out _).mono ?_
   rintro e w1 ⟨rfl, s1⟩
   have hb1 := HB0.out.same s1
   have d0 : w1.cell? ⟨w.heap.size, 0, none⟩ = some (.int .i64 k) := hb1.cell 0
   have d1 : w1.cell? ⟨w.heap.size, 1, none⟩ = some (.int .i64 wd) := hb1.cell 1
   clear hb1
   go_wp2_with fail
   go_ret
   exact ⟨ret_int (by first | rfl | exact f1 | exact f2), HS0.out.trans s1⟩
  ·have e1 : cleanI k wd sl cp sa il rl op = wd + 2 := by unfold cleanI endI; rw [ht]; simp [h5]
   have b5 : (k == 5) = false := by simpa using h5
   rw [e1]
   rw [ht] at HTR
   clear hsa ht e1 h4 h5
   go_enter Tryz.func110, Tryz.ntmps110
   go_wp2_with fail
   refine (HTR.out _).mono ?_
   rintro e w1 ⟨rfl, s1⟩
   have hb1 := HB0.out.same s1
   have d0 : w1.cell? ⟨w.heap.size, 0, none⟩ = some (.int .i64 k) := hb1.cell 0
   have d1 : w1.cell? ⟨w.heap.size, 1, none⟩ = some (.int .i64 wd) := hb1.cell 1
   clear hb1
   go_wp2_with fail
   go_ret
   exact ⟨ret_int (by first | rfl | exact f1 | exact f2), HS0.out.trans s1⟩

theorem wrap_i64 (x : Int) : wrap64 x = IntKind.i64.wrap x := (Go.IntWalk.i64_left x).symm
set_option maxRecDepth 100000 in
set_option maxHeartbeats 1000000 in
theorem rafter_any (k wd sl cp sa ow : Int) (ia ra : Option Addr) (il ic rl rc : Nat) (op fails : Int) (hf : fails ≤ 100) (w : World) (hsa : 0 ≤ sa ∧ sa < 4294967296) :
  Calls Tryz.prog 91 #[.agg #[.int .i64 k, .int .i64 wd, .int .i64 sl, .int .i64 cp, .int .u32 sa, .slice ia il ic, .int .i64 ow, .slice ra rl rc], .int .i64 op, .int .i64 fails] w fun e w' => e = .returned (.int .i64 (afterI k wd sl cp sa il rl op fails)) ∧ Same w w' := by
 have hb0 := Blk.new w 34 #[.int .i64 k, .int .i64 wd, .int .i64 sl, .int .i64 cp, .int .u32 sa, .slice ia il ic, .int .i64 ow, .slice ra rl rc]
 have HS0 := Lib.hid ((Same.refl w).alloc (.cells #[.int .i64 k, .int .i64 wd, .int .i64 sl, .int .i64 cp, .int .u32 sa, .slice ia il ic, .int .i64 ow, .slice ra rl rc] 34))
 have HB0 := Lib.hid hb0
 clear hb0
 have HCL := Lib.hid (fun w' => rclean_any k wd sl cp sa ow ia ra il ic rl rc op w' hsa)
 have HFL := Lib.hid (fun w' => rfail_any k wd sl cp sa ow ia ra il ic rl rc op w' hsa)
 have h1 := clean_bd k wd sl cp sa il rl op
 have h2 := fail_bd k wd sl cp sa il rl op
 obtain ⟨N, hN⟩ : ∃ N : Nat, (N : Int) = clamp fails 0 (lastI cp) := by
  obtain ⟨N, hN⟩ := Int.eq_ofNat_of_zero_le (show 0 ≤ clamp fails 0 (lastI cp) by unfold clamp; omega)
  exact ⟨N, hN.symm⟩
 have HE : Hid (afterI k wd sl cp sa il rl op fails = cleanI k wd sl cp sa il rl op + failI k wd sl cp sa il rl op * (N : Int)) := Lib.hid (by unfold afterI; rw [hN])
 have f3 : wrap64 (cp - 1) = lastI cp := wrap_i64 _
 have hN2 : N ≤ 100 := by unfold clamp at hN; omega
 have hlo : ∀ j : Nat, j < N → (j : Int) < fails ∧ (j : Int) < lastI cp := fun j hj => by unfold clamp at hN; omega
 have hhi : ¬ (N : Int) < fails ∨ ¬ (N : Int) < lastI cp := by unfold clamp at hN; omega
 generalize afterI k wd sl cp sa il rl op fails = af at *
 generalize cleanI k wd sl cp sa il rl op = cl at *
 generalize failI k wd sl cp sa il rl op = fl at *
 generalize endI k wd sl cp sa il rl op = en at *
 generalize hla : lastI cp = la at *
 clear hN hf hsa hla
 have HLO := Lib.hid hlo
 have HHI := Lib.hid hhi
 have HBD := Lib.hid (show (0 ≤ cl ∧ cl ≤ 1000) ∧ 0 ≤ fl ∧ fl ≤ 10 from ⟨h1, h2.1, h2.2.1⟩)
 clear hlo hhi h1 h2
 go_enter Tryz.func91, Tryz.ntmps91
 go_wp2_with fail
 refine (HCL.out _).mono ?_
 rintro e w1 ⟨rfl, s1⟩
 have HS1 := Lib.hid (HS0.out.trans s1)
 have HB1 := Lib.hid (HB0.out.same s1)
 clear s1 HS0 HB0
 generalize w.heap.size = g at *
 go_wp2_with fail
 go_loopg [8, 7] N (fun gk iv v wx => ∃ j : Nat, j + gk = N ∧ iv = .int .i64 j ∧ v = .int .i64 (cl + fl * (j : Int)) ∧ Same w1 wx)
 case atStart => exact ⟨0, by omega, rfl, by simp, Same.refl _⟩
 case round =>
  obtain ⟨j, hj, rfl, rfl, sx⟩ := hrel
  have HS := Lib.hid sx
  have hb := HB1.out.same sx
  have d0 : wr.cell? ⟨g, 0, none⟩ = some (.int .i64 k) := hb.cell 0
  have d1 : wr.cell? ⟨g, 1, none⟩ = some (.int .i64 wd) := hb.cell 1
  have d2 : wr.cell? ⟨g, 2, none⟩ = some (.int .i64 sl) := hb.cell 2
  have d3 : wr.cell? ⟨g, 3, none⟩ = some (.int .i64 cp) := hb.cell 3
  have d4 : wr.cell? ⟨g, 4, none⟩ = some (.int .u32 sa) := hb.cell 4
  have d5 : wr.cell? ⟨g, 5, none⟩ = some (.slice ia il ic) := hb.cell 5
  have d6 : wr.cell? ⟨g, 6, none⟩ = some (.int .i64 ow) := hb.cell 6
  have d7 : wr.cell? ⟨g, 7, none⟩ = some (.slice ra rl rc) := hb.cell 7
  clear sx hb
  cases gk with
  | zero =>
   obtain rfl : N = j := by omega
   have hhi := HHI.out
   by_cases hq : (N : Int) < fails
   ·have b0 : decide ((N : Int) < fails) = true := decide_eq_true hq
    have b1 : decide ((N : Int) < la) = false := decide_eq_false (by omega)
    clear hhi hq
    go_wp2_with fail
    go_ret
    exact ⟨ret_int HE.out.symm, HS1.out.trans HS.out⟩
   ·have b0 : decide ((N : Int) < fails) = false := decide_eq_false hq
    clear hhi hq
    go_wp2_with fail
    go_ret
    exact ⟨ret_int HE.out.symm, HS1.out.trans HS.out⟩
  | succ GJ =>
   have hlo := HLO.out j (by omega)
   have b0 : decide ((j : Int) < fails) = true := decide_eq_true hlo.1
   have b1 : decide ((j : Int) < la) = true := decide_eq_true hlo.2
   have hbd := HBD.out
   have hp1 : 0 ≤ fl * (j : Int) := Int.mul_nonneg hbd.2.1 (by omega)
   have hp2 : fl * (j : Int) ≤ 10 * 100 := Int.mul_le_mul hbd.2.2 (by omega) (by omega) (by omega)
   have f4 : wrap64 (cl + fl * (j : Int) + fl) = cl + fl * (j : Int) + fl := Go.IntWalk.wrap64_in _ (by omega)
   have HV : Hid (cl + fl * (j : Int) + fl = cl + fl * ((j + 1 : Nat) : Int)) := Lib.hid (by
    have : fl * ((j + 1 : Nat) : Int) = fl * (j : Int) + fl := by rw [Int.natCast_succ, Int.mul_add, Int.mul_one]
    omega)
   clear hlo hbd hp1 hp2
   generalize fl * (j : Int) = pj at *
   go_wp2_with fail
   refine (HFL.out _).mono ?_
   rintro e w2 ⟨rfl, s2⟩
   go_wp2_with fail
   go_roundg GJ
   case rel => exact ⟨j + 1, by omega, by go_num, by rw [← HV.out, f4], HS.out.trans s2⟩
   case measure => omega
theorem after_full {k wd sl cp sa : Int} {il rl : Nat} {op fails : Int} (h : trB k wd sl cp sa il rl op = true → clamp fails 0 (lastI cp) = cp - 1) : afterI k wd sl cp sa il rl op fails = boundF k wd sl cp sa il rl op := by
 unfold afterI
 cases ht : trB k wd sl cp sa il rl op
 ·unfold cleanI failI
  rw [ht]
  simp
 ·rw [h ht]
  obtain ⟨hr, ho, hk, hw, h1, h2⟩ := tr_yes ht
  have e1 : cleanI k wd sl cp sa il rl op = if k = 5 then wd + 4 else wd + 2 := by unfold cleanI endI; rw [ht]; simp
  have e2 : failI k wd sl cp sa il rl op = if k = 5 then 3 else wd + 2 := by unfold failI; rw [ht]; simp
  have e3 : boundF k wd sl cp sa il rl op = if k = 5 then 3 * cp + wd + 1 else cp * (wd + 2) := by
   unfold boundF Sq.boundI Rg.boundI Cb.boundI
   rw [hr, ho]
   rcases hk with rfl | rfl | rfl <;> simp
  rw [e1, e2, e3]
  by_cases h5 : k = 5
  ·rw [if_pos h5, if_pos h5, if_pos h5]
   omega
  ·rw [if_neg h5, if_neg h5, if_neg h5, Int.mul_sub, Int.mul_one, Int.mul_comm cp (wd + 2)]
   omega
theorem after_cap (k wd sl cp sa : Int) (il rl : Nat) (op : Int) : afterI k wd sl cp sa il rl op cp = boundF k wd sl cp sa il rl op := after_full fun h => by
 obtain ⟨_, _, _, _, h1, h2⟩ := tr_yes h
 have hl : lastI cp = cp - 1 := Go.IntWalk.i64_in _ (by omega)
 rw [hl]; unfold clamp; omega
end Go.Proofs.YthhbhbfkbncegaaGreatDoor.Bd
end
section
set_option linter.unusedVariables false
set_option linter.unusedSimpArgs false
namespace Go.Proofs.YthhbhbfkbncegaaGreatDoor.Dm
open Go.ChangeShapes Go.WideShapes Go.ChangeAt Go.RowKit Ws
open Im (PT PO PS TsAt OsAt SysAt tcells ocells)
open Go.Proofs.YthhbhbfkbncegaaGreatDoor.Is (callB callV rightB)

def aftO (o : PO) (op fails : Int) : Int := Bd.afterI o.k o.wd o.sl o.cp o.sa o.ini.length o.rd.length op fails
def wgtI (s : PS) (fails : Int) (x : Im.Ins) : Int := if (rightB x.op x.a x.b x.c x.n && callB x.op) = true ∧ (0 ≤ x.b ∧ x.b < s.os.length) then max 1 (aftO (s.os.getD x.b.toNat default) (callV x.op) fails) else 1
theorem wgt_no {s : PS} {fails : Int} {x : Im.Ins} (h : (rightB x.op x.a x.b x.c x.n && callB x.op) = false ∨ (x.b < 0 ∨ (s.os.length : Int) ≤ x.b)) : wgtI s fails x = 1 := by
 unfold wgtI
 rw [if_neg]
 rintro ⟨h1, h2⟩
 rcases h with h | h
 ·rw [h] at h1; cases h1
 ·omega
theorem wgt_in {s : PS} {fails : Int} {x : Im.Ins} {k : Nat} {o : PO} (h : (rightB x.op x.a x.b x.c x.n && callB x.op) = true) (hk : x.b = k) (ho : s.os[k]? = some o) : wgtI s fails x = max 1 (aftO o (callV x.op) fails) := by
 have hl : k < s.os.length := (List.getElem?_eq_some_iff.1 ho).1
 unfold wgtI
 rw [if_pos ⟨h, by omega⟩, hk, Int.toNat_natCast, List.getD_eq_getElem?_getD, ho]
 rfl
set_option maxRecDepth 100000 in
set_option maxHeartbeats 4000000 in
theorem weight_any (A B : Option Addr) (n c m d : Nat) (s : PS) (x : Im.Ins) (fails : Int) (w : World) (ho : OsAt w B s.os) (hm : s.os.length = m) (hx : 0 ≤ x.n ∧ x.n < 4294967296) (hT : Is.Tabs w) :
  Calls Tryz.prog 95 #[.agg #[.slice A n c, .slice B m d], .agg #[.int .i64 x.op, .int .i64 x.a, .int .i64 x.b, .int .i64 x.c, .int .u32 x.n], .int .i64 fails] w fun e w' => e = .returned (.int .i64 (wgtI s fails x)) ∧ Same w w' := by
 obtain ⟨w0, hw0⟩ : ∃ w0, w0 = (w.alloc (.cells #[.slice A n c, .slice B m d] 25)).alloc (.cells #[.int .i64 x.op, .int .i64 x.a, .int .i64 x.b, .int .i64 x.c, .int .u32 x.n] 70) := ⟨_, rfl⟩
 have s0 : Same w w0 := hw0 ▸ ((Same.refl w).alloc _).alloc _
 have b0 : Blk w0 w.heap.size 25 #[.slice A n c, .slice B m d] := hw0 ▸ (Blk.new w _ _).same ((Same.refl _).alloc _)
 have b1 : Blk w0 (w.heap.size + 1) 70 #[.int .i64 x.op, .int .i64 x.a, .int .i64 x.b, .int .i64 x.c, .int .u32 x.n] := by
  have h := Blk.new (w.alloc (.cells #[.slice A n c, .slice B m d] 25)) 70 #[.int .i64 x.op, .int .i64 x.a, .int .i64 x.b, .int .i64 x.c, .int .u32 x.n]
  rw [hw0]
  simpa using h
 have CAL := Lib.hid (show Calls Tryz.prog 105 #[.agg #[.int .i64 x.op, .int .i64 x.a, .int .i64 x.b, .int .i64 x.c, .int .u32 x.n]] w0 fun e w' => e = (if rightB x.op x.a x.b x.c x.n && callB x.op then Is.ret3b x.b (callV x.op) true else Is.ret3b 0 0 false) ∧ Same w0 w' from Is.calls_any x.op x.a x.b x.c x.n hx w0 (hT.same s0))
 have RO := Lib.hid (fun (k : Int) W (h : Same w W) => rowo_any B m d s.os k W (ho.same h) hm)
 have S0 := Lib.hid s0
 have B0 := Lib.hid b0
 have HE := Lib.hid hw0
 obtain ⟨v0, v1, v2, v3, v4⟩ := (⟨b1.cell 0, b1.cell 1, b1.cell 2, b1.cell 3, b1.cell 4⟩ : _ ∧ _ ∧ _ ∧ _ ∧ _)
 simp only [Ws.q_] at v0 v1 v2 v3 v4
 clear hw0 s0 b0 b1 ho hT
 generalize hR : (rightB x.op x.a x.b x.c x.n && callB x.op) = R at *
 have HRR := Lib.hid hR
 clear hR
 go_enter Tryz.func95, Tryz.ntmps95
 go_upto_region 1 with fail
 rw [← HE.out]
 clear HE
 go_wp2_with fail
 refine CAL.out.mono ?_
 rintro e w1 ⟨he, s1⟩
 have HS1 := Lib.hid (S0.out.trans s1)
 have c1 := (B0.out.same s1).cell 1
 simp only [Ws.q_] at c1
 clear s1 v0 v1 v2 v3 v4 CAL S0 B0
 cases R with
 | false =>
  rw [if_neg Bool.false_ne_true] at he
  unfold Is.ret3b at he
  subst he
  have HD := Lib.hid (wgt_no (s := s) (fails := fails) (.inl HRR.out))
  have RO0 := Lib.hid (RO.out 0 w1 HS1.out)
  clear RO
  go_wp2_with fail
  refine RO0.out.mono ?_
  rintro e w3 ⟨s3, hr⟩
  have HS3 := Lib.hid (HS1.out.trans s3)
  clear s3 RO0
  rcases hr with ⟨kk, o, Xo, co, Yo, do_, _, hok, _, rfl⟩ | ⟨hout, rfl⟩
  ·clear hok
   have HS4 := Lib.hid (HS3.out.alloc (.cells #[.int .i64 o.k, .int .i64 o.wd, .int .i64 o.sl, .int .i64 o.cp, .int .u32 o.sa, .slice Xo o.ini.length co, .int .i64 o.ow, .slice Yo o.rd.length do_] 34))
   go_upto_region 3 with fail
   generalize w3.alloc (.cells #[.int .i64 o.k, .int .i64 o.wd, .int .i64 o.sl, .int .i64 o.cp, .int .u32 o.sa, .slice Xo o.ini.length co, .int .i64 o.ow, .slice Yo o.rd.length do_] 34) = w4 at *
   go_wp2_with fail
   go_ret
   exact ⟨by rw [HD.out]; rfl, HS4.out⟩
  ·clear hout
   have HS4 := Lib.hid (HS3.out.alloc (.cells #[.int .i64 0, .int .i64 0, .int .i64 0, .int .i64 0, .int .u32 0, .slice none 0 0, .int .i64 0, .slice none 0 0] 34))
   go_upto_region 3 with fail
   generalize w3.alloc (.cells #[.int .i64 0, .int .i64 0, .int .i64 0, .int .i64 0, .int .u32 0, .slice none 0 0, .int .i64 0, .slice none 0 0] 34) = w4 at *
   go_wp2_with fail
   go_ret
   exact ⟨by rw [HD.out]; rfl, HS4.out⟩
 | true =>
  rw [if_pos rfl] at he
  unfold Is.ret3b at he
  subst he
  have RO0 := Lib.hid (RO.out x.b w1 HS1.out)
  clear RO
  go_wp2_with fail
  refine RO0.out.mono ?_
  rintro e w3 ⟨s3, hr⟩
  have HS3 := Lib.hid (HS1.out.trans s3)
  clear s3 RO0
  rcases hr with ⟨kk, o, Xo, co, Yo, do_, hkb, hok, hsa, rfl⟩ | ⟨hout, rfl⟩
  ·have HD := Lib.hid (wgt_in (s := s) (fails := fails) HRR.out hkb hok)
   clear hkb hok
   have HS4 := Lib.hid (HS3.out.alloc (.cells #[.int .i64 o.k, .int .i64 o.wd, .int .i64 o.sl, .int .i64 o.cp, .int .u32 o.sa, .slice Xo o.ini.length co, .int .i64 o.ow, .slice Yo o.rd.length do_] 34))
   have HQ4 := Lib.hid (Blk.new w3 34 #[.int .i64 o.k, .int .i64 o.wd, .int .i64 o.sl, .int .i64 o.cp, .int .u32 o.sa, .slice Xo o.ini.length co, .int .i64 o.ow, .slice Yo o.rd.length do_])
   have AF := Lib.hid (fun W => Bd.after_any o.k o.wd o.sl o.cp o.sa o.ow Xo Yo o.ini.length co o.rd.length do_ (callV x.op) fails W hsa)
   go_upto_region 3 with fail
   generalize w3.alloc (.cells #[.int .i64 o.k, .int .i64 o.wd, .int .i64 o.sl, .int .i64 o.cp, .int .u32 o.sa, .slice Xo o.ini.length co, .int .i64 o.ow, .slice Yo o.rd.length do_] 34) = w4 at *
   generalize w3.heap.size = q3 at *
   obtain ⟨z0, z1, z2, z3, z4, z5, z6, z7⟩ := (⟨HQ4.out.cell 0, HQ4.out.cell 1, HQ4.out.cell 2, HQ4.out.cell 3, HQ4.out.cell 4, HQ4.out.cell 5, HQ4.out.cell 6, HQ4.out.cell 7⟩ : _ ∧ _ ∧ _ ∧ _ ∧ _ ∧ _ ∧ _ ∧ _)
   simp only [Ws.q_] at z0 z1 z2 z3 z4 z5 z6 z7
   have HAV := Lib.hid (show aftO o (callV x.op) fails = Bd.afterI o.k o.wd o.sl o.cp o.sa o.ini.length o.rd.length (callV x.op) fails from rfl)
   go_wp2_with fail
   refine (AF.out w4).mono ?_
   rintro e w5 ⟨rfl, s5⟩
   rw [← HAV.out]
   have HS5 := Lib.hid (HS4.out.trans s5)
   clear s5
   generalize aftO o (callV x.op) fails = av at *
   obtain ⟨mv, hmv⟩ : ∃ mv, mv = wgtI s fails x := ⟨_, rfl⟩
   have HMV := Lib.hid hmv
   have hm1 : (if (1 : Int) < av then av else 1) = mv := by rw [hmv, HD.out]; split <;> omega
   clear hmv
   go_wp2_with fail
   go_ret
   exact ⟨by rw [← HMV.out]; rfl, HS5.out⟩
  ·have HD := Lib.hid (wgt_no (s := s) (fails := fails) (.inr hout))
   clear hout
   have HS4 := Lib.hid (HS3.out.alloc (.cells #[.int .i64 0, .int .i64 0, .int .i64 0, .int .i64 0, .int .u32 0, .slice none 0 0, .int .i64 0, .slice none 0 0] 34))
   go_upto_region 3 with fail
   generalize w3.alloc (.cells #[.int .i64 0, .int .i64 0, .int .i64 0, .int .i64 0, .int .u32 0, .slice none 0 0, .int .i64 0, .slice none 0 0] 34) = w4 at *
   go_wp2_with fail
   go_ret
   exact ⟨by rw [HD.out]; rfl, HS4.out⟩

/-- what Weights gives -/
def WgtP (w : World) (l : List Int) (e : Ending) (w' : World) : Prop := ∃ A c, e = .returned (.slice A l.length c) ∧ Row w' A (l.map (Value.int .i64)) ∧ Same w w'
theorem wgt_mk {w w' : World} {l : List Int} {A : Option Addr} {n c : Nat} (hn : n = l.length) (hr : Row w' A (l.map (Value.int .i64))) (hs : Same w w') : WgtP w l (.returned (.slice A n c)) w' := by
 subst hn
 exact ⟨A, c, rfl, hr, hs⟩
def wgtL (s : PS) (i fails : Int) : List Int := if 0 ≤ i ∧ i < s.ts.length then (s.ts.getD i.toNat default).code.map (wgtI s fails) else []
theorem wl_out {s : PS} {i fails : Int} (h : i < 0 ∨ (s.ts.length : Int) ≤ i) : wgtL s i fails = [] := if_neg (by omega)
theorem wl_in {s : PS} {i : Nat} {fails : Int} {p : PT} (h : s.ts[i]? = some p) : wgtL s i fails = p.code.map (wgtI s fails) := by
 have hi : i < s.ts.length := (List.getElem?_eq_some_iff.1 h).1
 unfold wgtL
 rw [if_pos (by omega), Int.toNat_natCast, List.getD_eq_getElem?_getD, h]
 rfl
set_option maxRecDepth 100000 in
set_option maxHeartbeats 4000000 in
theorem weights_any (A B : Option Addr) (n c m d : Nat) (s : PS) (i fails : Int) (w : World) (hs : SysAt w A n B m s) (hf : ∀ p ∈ s.ts, p.code.length ≤ 200) (hT : Is.Tabs w) :
  Calls Tryz.prog 71 #[.agg #[.slice A n c, .slice B m d], .int .i64 i, .int .i64 fails] w (WgtP w (wgtL s i fails)) := by
 obtain ⟨i0, hi, hz0, hz1, hz2⟩ := info_parts int_inf
 obtain ⟨w0, hw0⟩ : ∃ w0, w0 = w.alloc (.cells #[.slice A n c, .slice B m d] 25) := ⟨_, rfl⟩
 have s0 : Same w w0 := hw0 ▸ (Same.refl w).alloc _
 have b0 : Blk w0 w.heap.size 25 #[.slice A n c, .slice B m d] := hw0 ▸ Blk.new w _ _
 have HE0 := Lib.hid hw0
 have HF := Lib.hid hf
 have c0 := b0.cell 0
 simp only [Ws.q_] at c0
 have S0 := Lib.hid s0
 have B0 := Lib.hid b0
 have RT := Lib.hid (rowt_any A n c s.ts i w0 (hs.ht.same s0) hs.hn)
 have WA := Lib.hid (fun (x : Im.Ins) (hx : 0 ≤ x.n ∧ x.n < 4294967296) W (h : Same w W) => weight_any A B n c m d s x fails W (hs.ho.same h) hs.hm hx (hT.same h))
 clear hw0 s0 b0 hs hf hT
 go_enter Tryz.func71, Tryz.ntmps71
 go_wp2_with fail
 rw [← HE0.out]
 clear HE0
 refine RT.out.mono ?_
 rintro e w1 ⟨s1, ht⟩
 have S1 := Lib.hid s1
 have B1 := Lib.hid (B0.out.same s1)
 clear s1 RT B0 c0
 rcases ht with ⟨ki, p, X, cX, rfl, hp, hcode, hlen, rfl⟩ | ⟨hout, rfl⟩
 ·have HCW := Lib.hid hcode
  have HLE := Lib.hid (HF.out p (List.mem_of_getElem? hp))
  have HD := Lib.hid (wl_in (fails := fails) hp)
  clear hcode hp hlen
  have HS4 := Lib.hid (S1.out.alloc (.cells #[.int .i64 p.kind, .int .i64 p.prio, .int .i64 p.per, .int .i64 p.off, .int .i64 p.dl, .int .i64 p.own, .slice X p.code.length cX] 47))
  have HQ4 := Lib.hid (Blk.new w1 47 #[.int .i64 p.kind, .int .i64 p.prio, .int .i64 p.per, .int .i64 p.off, .int .i64 p.dl, .int .i64 p.own, .slice X p.code.length cX])
  have HB4b := Lib.hid (B1.out.same ((Same.refl w1).alloc (.cells #[.int .i64 p.kind, .int .i64 p.prio, .int .i64 p.per, .int .i64 p.off, .int .i64 p.dl, .int .i64 p.own, .slice X p.code.length cX] 47)))
  go_upto_region 2 with fail
  generalize w1.alloc (.cells #[.int .i64 p.kind, .int .i64 p.prio, .int .i64 p.per, .int .i64 p.off, .int .i64 p.dl, .int .i64 p.own, .slice X p.code.length cX] 47) = w4 at *
  generalize w1.heap.size = q1 at *
  generalize hq0 : w.heap.size = q0 at *
  clear hq0
  have HLE2 := HLE.out
  have z6 := HQ4.out.cell 6
  simp only [Ws.q_] at z6
  obtain ⟨CN, hCN⟩ : ∃ CN : Im.Ins → Value, CN = fun x => Value.int .i64 (wgtI s fails x) := ⟨_, rfl⟩
  have HCN := Lib.hid (fun x => (show Value.int .i64 (wgtI s fails x) = CN x by rw [hCN]))
  obtain ⟨b4, hb4⟩ : ∃ b4, b4 = w4.heap.size := ⟨_, rfl⟩
  have HB4 := Lib.hid hb4
  clear hb4
  have HLN := Lib.hid (show (p.code.map CN) = (p.code.map (wgtI s fails)).map (Value.int .i64) by rw [hCN, List.map_map]; rfl)
  clear hCN
  go_wp2_with fail
  go_loopg [9, 22] p.code.length (fun gk lv iv wx => ∃ (j : Nat) (A' : Option Addr) (c' : Nat), j + gk = p.code.length ∧ iv = .int .i64 j ∧ lv = .slice A' j c' ∧ Ws.Own wx b4 3 A' c' ((p.code.map CN).take j) ∧ Same w4 wx)
  case atStart => exact ⟨0, none, 0, by omega, rfl, rfl, own_nil _ _ _, Same.refl _⟩
  case round =>
   obtain ⟨j, A', c', hk, rfl, rfl, ho, sx⟩ := hrel
   have HO := Lib.hid ho
   have HSX := Lib.hid sx
   have HSW := Lib.hid (HS4.out.trans sx)
   clear ho sx z6
   cases gk with
   | zero =>
    obtain rfl : j = p.code.length := by omega
    have hge : ¬ (p.code.length : Int) < (p.code.length : Int) := by omega
    have HR := Lib.hid (show Row wr A' ((p.code.map (wgtI s fails)).map (Value.int .i64)) from by rw [← HLN.out]; have := HO.out.row; rwa [show p.code.length = (p.code.map CN).length from (List.length_map ..).symm, List.take_length] at this)
    go_wp2_with fail
    go_ret
    rw [HD.out]
    exact wgt_mk (by rw [List.length_map]) HR.out (S0.out.trans HSW.out)
   | succ GK =>
    have hlt : (j : Int) < p.code.length := by omega
    have hj0 : (0 : Int) ≤ j := by omega
    have HJL := Lib.hid (show j < p.code.length by omega)
    have HJK := Lib.hid hk
    clear hk
    obtain ⟨xj, hxj⟩ : ∃ xj, p.code[j]? = some xj := ⟨p.code[j], List.getElem?_eq_getElem HJL.out⟩
    have HJ := Lib.hid hxj
    clear hxj
    obtain ⟨hxn, bX, oX, rfl, y0, y1, y2, y3, y4⟩ := (HCW.out.same HSW.out).at_ HJ.out
    have HW5 := Lib.hid (HSW.out.alloc (.cells #[.int .i64 xj.op, .int .i64 xj.a, .int .i64 xj.b, .int .i64 xj.c, .int .u32 xj.n] 70))
    have HQ5 := Lib.hid (Blk.new wr 70 #[.int .i64 xj.op, .int .i64 xj.a, .int .i64 xj.b, .int .i64 xj.c, .int .u32 xj.n])
    have HO5 := Lib.hid (HO.out.same ((Same.refl wr).alloc (.cells #[.int .i64 xj.op, .int .i64 xj.a, .int .i64 xj.b, .int .i64 xj.c, .int .u32 xj.n] 70)))
    have HX5 := Lib.hid (HSX.out.alloc (.cells #[.int .i64 xj.op, .int .i64 xj.a, .int .i64 xj.b, .int .i64 xj.c, .int .u32 xj.n] 70))
    have HB5 := Lib.hid (HB4b.out.same HX5.out)
    go_upto_region 6 with fail
    generalize wr.alloc (.cells #[.int .i64 xj.op, .int .i64 xj.a, .int .i64 xj.b, .int .i64 xj.c, .int .u32 xj.n] 70) = w5 at *
    generalize wr.heap.size = q5 at *
    obtain ⟨v0, v1, v2, v3, v4⟩ := (⟨HQ5.out.cell 0, HQ5.out.cell 1, HQ5.out.cell 2, HQ5.out.cell 3, HQ5.out.cell 4⟩ : _ ∧ _ ∧ _ ∧ _ ∧ _)
    obtain ⟨u0, u1⟩ := (⟨HB5.out.cell 0, HB5.out.cell 1⟩ : _ ∧ _)
    simp only [Ws.q_] at v0 v1 v2 v3 v4 u0 u1
    have WA5 := Lib.hid (WA.out xj hxn w5 (S0.out.trans HW5.out))
    clear y0 y1 y2 y3 y4 HSX HSW
    obtain ⟨vv, hvv⟩ : ∃ vv, vv = wgtI s fails xj := ⟨_, rfl⟩
    rw [← hvv] at WA5
    have HV := Lib.hid hvv.symm
    clear hvv
    go_wp2_with fail
    refine WA5.out.mono ?_
    rintro e w7 ⟨rfl, s7⟩
    have HO7 := Lib.hid (HO5.out.same s7)
    have HS7 := Lib.hid (HX5.out.trans s7)
    clear s7 v0 v1 v2 v3 v4 u0 u1 WA5
    go_wp2_with (at_builtin; go_loud (refine wpList_app rfl (.tmp 26) (.tmp 31) 32 rfl b4 3 i0 _ 8 Tryz.underlying32 hi hz0 hz1 hz2 rfl A' j c' ((p.code.map CN).take j) rfl ?c1 (HO7.out.same ((Same.refl _).alloc _)) _ 1 1 [.int .i64 vv] rfl rfl (row_new _ _ _) ?c2 ?c3 (by omega) ?c4 ?_))
    case c1 => rw [List.length_take, List.length_map]; have := HJL.out; omega
    case c2 => intro u hu; simp at hu; subst hu; rfl
    case c3 => rw [List.length_take, List.length_map]; simp; omega
    case c4 => have := HB4.out; have := HS7.out.size; simp; omega
    intro A2 c2' w8 ho2 hc2 _
    have HS8 := Lib.hid (Same.more (HS7.out.alloc _) hc2 (fun g hg => by have := own_low HO.out hg; have := HB4.out; omega))
    rw [show (p.code.map CN).take j ++ [.int .i64 vv] = (p.code.map CN).take (j + 1) from by rw [take_snoc (p.code.map CN) (v := CN xj) (by rw [List.getElem?_map, HJ.out]; rfl), ← HCN.out, HV.out]] at ho2
    have HO8 := Lib.hid ho2
    clear ho2 hc2
    go_wp2_with fail
    go_roundg GK
    case rel => exact ⟨j + 1, A2, c2', by have := HJK.out; omega, by go_num, rfl, HO8.out, HS8.out⟩
    case measure => omega
 ·have HD := Lib.hid (wl_out (fails := fails) hout)
  clear hout
  have HS4 := Lib.hid (S1.out.alloc (.cells #[.int .i64 0, .int .i64 0, .int .i64 0, .int .i64 0, .int .i64 0, .int .i64 0, .slice none 0 0] 47))
  have HQ4 := Lib.hid (Blk.new w1 47 #[.int .i64 0, .int .i64 0, .int .i64 0, .int .i64 0, .int .i64 0, .int .i64 0, .slice none 0 0])
  go_upto_region 2 with fail
  generalize w1.alloc (.cells #[.int .i64 0, .int .i64 0, .int .i64 0, .int .i64 0, .int .i64 0, .int .i64 0, .slice none 0 0] 47) = w4 at *
  generalize w1.heap.size = q1 at *
  have z6 := HQ4.out.cell 6
  simp only [Ws.q_] at z6
  go_wp2_with fail
  go_loopg [9, 22] 0 (fun gk lv iv wx => gk = 0 ∧ iv = .int .i64 0 ∧ lv = .slice none 0 0 ∧ Same w4 wx)
  case atStart => exact ⟨rfl, rfl, rfl, Same.refl _⟩
  case round =>
   obtain ⟨rfl, rfl, rfl, sx⟩ := hrel
   go_wp2_with fail
   go_ret
   rw [HD.out]
   exact wgt_mk rfl (Row.nil _ _) (S0.out.trans (HS4.out.trans sx))
end Go.Proofs.YthhbhbfkbncegaaGreatDoor.Dm
end
