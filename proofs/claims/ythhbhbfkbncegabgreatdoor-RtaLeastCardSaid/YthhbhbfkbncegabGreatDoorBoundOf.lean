/-

 How many steps operations have, if attempts fail (layer 35): of the program, and of the document.
-/
import Derived.Test.YthhbhbfkbncegabGreatDoorFace
import Derived.Test.YthhbhbfkbncegabGreatDoorWordBase
set_option linter.unusedVariables false
set_option linter.unusedSimpArgs false
namespace Go.Proofs.YthhbhbfkbncegabGreatDoor.Bd
open Go.ChangeShapes Go.WideShapes Go.ChangeAt Go.RowKit Ws Fc
open Go.Proofs.YthhbhbfkbncegabGreatDoor.Wd (clamp wclamp)

def trB (k wd sl cp sa : Int) (il rl : Nat) (op : Int) : Bool := rightF k wd sl cp sa il rl && decide (op = 1) && decide (3 ≤ k ∧ k ≤ 5)
def failI (k wd sl cp sa : Int) (il rl : Nat) (op : Int) : Int := if trB k wd sl cp sa il rl op = true then (if k = 5 then 3 else wd + 2) else 0
def endI (k wd sl cp sa : Int) (il rl : Nat) (op : Int) : Int := if trB k wd sl cp sa il rl op = true then (if k = 5 then wd + 4 else wd + 2) else 0
def cleanI (k wd sl cp sa : Int) (il rl : Nat) (op : Int) : Int := if trB k wd sl cp sa il rl op = true then endI k wd sl cp sa il rl op else boundF k wd sl cp sa il rl op
theorem right_wd {k wd sl cp sa : Int} {il rl : Nat} (h : rightF k wd sl cp sa il rl = true) : (1 ≤ wd ∧ wd ≤ 8) ∧ (rl : Int) ≤ 4 ∧ (k = 3 ∨ k = 4 ∨ k = 5 → 1 ≤ cp ∧ cp ≤ 16) ∧ sl ≤ 16 ∧ cp ≤ 16 ∧ 0 ≤ cp := by
 unfold rightF at h
 repeat' split at h
 ·unfold Fo.rightB at h; rw [decide_eq_true_iff] at h; omega
 ·unfold Ch.rightB at h; rw [decide_eq_true_iff] at h; omega
 ·unfold Sq.rightB at h; rw [decide_eq_true_iff] at h; omega
 ·unfold Rg.rightB at h; rw [decide_eq_true_iff] at h; omega
 ·unfold Cb.rightB at h; rw [decide_eq_true_iff] at h; omega
 ·unfold Ff.rightB Ff.rightK at h; rw [decide_eq_true_iff] at h; omega
 ·cases h
theorem bound_bd (k wd sl cp sa : Int) (il rl : Nat) (op : Int) : 0 ≤ boundF k wd sl cp sa il rl op ∧ boundF k wd sl cp sa il rl op ≤ 1000 := by
 unfold boundF
 by_cases h : rightF k wd sl cp sa il rl = true
 ·rw [if_pos h]
  obtain ⟨h1, h2, h3, h4, h5, h6⟩ := right_wd h
  have h7 : 0 ≤ cp * (wd + 2) := Int.mul_nonneg h6 (by omega)
  have h8 : cp * (wd + 2) ≤ 16 * 10 := Int.mul_le_mul h5 (by omega) (by omega) (by omega)
  unfold Fo.boundI Ch.boundI Sq.boundI Rg.boundI Cb.boundI Ff.boundI
  repeat' split
  all_goals omega
 ·rw [if_neg h]
  omega
theorem tr_yes {k wd sl cp sa : Int} {il rl : Nat} {op : Int} (h : trB k wd sl cp sa il rl op = true) : rightF k wd sl cp sa il rl = true ∧ op = 1 ∧ (k = 3 ∨ k = 4 ∨ k = 5) ∧ (1 ≤ wd ∧ wd ≤ 8) ∧ 1 ≤ cp ∧ cp ≤ 16 := by
 unfold trB at h
 rw [Bool.and_eq_true, Bool.and_eq_true, decide_eq_true_iff, decide_eq_true_iff] at h
 obtain ⟨⟨h1, h2⟩, h3⟩ := h
 have hk : k = 3 ∨ k = 4 ∨ k = 5 := by omega
 obtain ⟨h4, _, h5, _⟩ := right_wd h1
 exact ⟨h1, h2, hk, h4, h5 hk⟩
theorem fail_bd (k wd sl cp sa : Int) (il rl : Nat) (op : Int) : 0 ≤ failI k wd sl cp sa il rl op ∧ failI k wd sl cp sa il rl op ≤ 10 ∧ 0 ≤ endI k wd sl cp sa il rl op ∧ endI k wd sl cp sa il rl op ≤ 12 := by
 unfold failI endI
 by_cases h : trB k wd sl cp sa il rl op = true
 ·obtain ⟨_, _, _, h4, _⟩ := tr_yes h
  rw [if_pos h, if_pos h]
  split <;> omega
 ·rw [if_neg h, if_neg h]
  omega
theorem clean_bd (k wd sl cp sa : Int) (il rl : Nat) (op : Int) : 0 ≤ cleanI k wd sl cp sa il rl op ∧ cleanI k wd sl cp sa il rl op ≤ 1000 := by
 unfold cleanI
 split
 ·have := fail_bd k wd sl cp sa il rl op; omega
 ·exact bound_bd k wd sl cp sa il rl op
theorem ret_ii {a a' b b' : Int} (h1 : a = a') (h2 : b = b') : Ending.returned (.tuple #[.int .i64 a, .int .i64 b]) = .returned (.tuple #[.int .i64 a', .int .i64 b']) := by rw [h1, h2]
set_option maxRecDepth 100000 in
set_option maxHeartbeats 1000000 in
theorem attempt_any (k wd sl cp sa ow : Int) (ia ra : Option Addr) (il ic rl rc : Nat) (op : Int) (w : World) (hsa : 0 ≤ sa ∧ sa < 4294967296) :
 Calls Tryz.prog 71 #[.agg #[.int .i64 k, .int .i64 wd, .int .i64 sl, .int .i64 cp, .int .u32 sa, .slice ia il ic, .int .i64 ow, .slice ra rl rc], .int .i64 op] w fun e w' => e = .returned (.tuple #[.int .i64 (failI k wd sl cp sa il rl op), .int .i64 (endI k wd sl cp sa il rl op)]) ∧ Same w w' := by
 have hb0 := Blk.new w 43 #[.int .i64 k, .int .i64 wd, .int .i64 sl, .int .i64 cp, .int .u32 sa, .slice ia il ic, .int .i64 ow, .slice ra rl rc]
 have HS0 := Lib.hid ((Same.refl w).alloc (.cells #[.int .i64 k, .int .i64 wd, .int .i64 sl, .int .i64 cp, .int .u32 sa, .slice ia il ic, .int .i64 ow, .slice ra rl rc] 43))
 have HB0 := Lib.hid hb0
 clear hb0
 have HSH := Lib.hid (fun w' => shaped_any k wd sl cp sa ow ia ra il ic rl rc w' hsa)
 by_cases hop : op = 1
 rotate_left
 ·have ht : trB k wd sl cp sa il rl op = false := by unfold trB; rw [decide_eq_false hop]; simp
  have e1 : failI k wd sl cp sa il rl op = 0 := by unfold failI; rw [ht]; rfl
  have e2 : endI k wd sl cp sa il rl op = 0 := by unfold endI; rw [ht]; rfl
  rw [e1, e2]
  have b0 : (op != 1) = true := by rw [bne_iff_ne]; exact hop
  clear ht e1 e2 hop hsa
  go_enter Tryz.func71, Tryz.ntmps71
  go_wp2_with fail
  go_ret2
  exact ⟨rfl, HS0.out⟩
 subst hop
 cases hr : rightF k wd sl cp sa il rl
 ·have ht : trB k wd sl cp sa il rl 1 = false := by unfold trB; rw [hr]; rfl
  have e1 : failI k wd sl cp sa il rl 1 = 0 := by unfold failI; rw [ht]; rfl
  have e2 : endI k wd sl cp sa il rl 1 = 0 := by unfold endI; rw [ht]; rfl
  rw [e1, e2]
  rw [hr] at HSH
  clear ht e1 e2 hr hsa
  go_enter Tryz.func71, Tryz.ntmps71
  go_wp2_with fail
  refine (HSH.out _).mono ?_
  rintro e w1 ⟨rfl, s1⟩
  go_wp2_with fail
  go_ret2
  exact ⟨rfl, HS0.out.trans s1⟩
 obtain ⟨hw, _⟩ := right_wd hr
 have f1 : wrap64 (wd + 2) = wd + 2 := Go.IntWalk.wrap64_in _ (by omega)
 have f2 : wrap64 (wd + 4) = wd + 4 := Go.IntWalk.wrap64_in _ (by omega)
 have ht : trB k wd sl cp sa il rl 1 = decide (3 ≤ k ∧ k ≤ 5) := by unfold trB; rw [hr]; simp
 have e1 : failI k wd sl cp sa il rl 1 = if 3 ≤ k ∧ k ≤ 5 then (if k = 5 then 3 else wd + 2) else 0 := by unfold failI; rw [ht]; by_cases h : 3 ≤ k ∧ k ≤ 5 <;> simp [h]
 have e2 : endI k wd sl cp sa il rl 1 = if 3 ≤ k ∧ k ≤ 5 then (if k = 5 then wd + 4 else wd + 2) else 0 := by unfold endI; rw [ht]; by_cases h : 3 ≤ k ∧ k ≤ 5 <;> simp [h]
 rw [e1, e2]
 rw [hr] at HSH
 clear ht e1 e2 hr hsa hw
 by_cases h3 : k = 3
 ·subst h3
  rw [if_pos (by omega), if_neg (by omega), if_pos (by omega), if_neg (by omega)]
  go_enter Tryz.func71, Tryz.ntmps71
  go_wp2_with fail
  refine (HSH.out _).mono ?_
  rintro e w1 ⟨rfl, s1⟩
  have hb1 := HB0.out.same s1
  have d0 := hb1.cell 0
  have d1 : w1.cell? ⟨w.heap.size, 1, none⟩ = some (.int .i64 wd) := hb1.cell 1
  simp only [List.getElem?_toArray, List.getElem?_cons_zero] at d0
  clear hb1
  go_wp2_with fail
  go_quiet (fail)
  go_wp2_with fail
  go_ret2
  exact ⟨ret_ii (by first | rfl | exact f1 | exact f2) (by first | rfl | exact f1 | exact f2), (HS0.out.trans s1).drewN _⟩
 by_cases h4 : k = 4
 ·subst h4
  rw [if_pos (by omega), if_neg (by omega), if_pos (by omega), if_neg (by omega)]
  go_enter Tryz.func71, Tryz.ntmps71
  go_wp2_with fail
  refine (HSH.out _).mono ?_
  rintro e w1 ⟨rfl, s1⟩
  have hb1 := HB0.out.same s1
  have d0 := hb1.cell 0
  have d1 : w1.cell? ⟨w.heap.size, 1, none⟩ = some (.int .i64 wd) := hb1.cell 1
  simp only [List.getElem?_toArray, List.getElem?_cons_zero] at d0
  clear hb1
  go_wp2_with fail
  go_quiet (fail)
  go_wp2_with fail
  go_ret2
  exact ⟨ret_ii (by first | rfl | exact f1 | exact f2) (by first | rfl | exact f1 | exact f2), (HS0.out.trans s1).drewN _⟩
 by_cases h5 : k = 5
 ·subst h5
  rw [if_pos (by omega), if_pos rfl, if_pos (by omega), if_pos rfl]
  go_enter Tryz.func71, Tryz.ntmps71
  go_wp2_with fail
  refine (HSH.out _).mono ?_
  rintro e w1 ⟨rfl, s1⟩
  have hb1 := HB0.out.same s1
  have d0 := hb1.cell 0
  have d1 : w1.cell? ⟨w.heap.size, 1, none⟩ = some (.int .i64 wd) := hb1.cell 1
  simp only [List.getElem?_toArray, List.getElem?_cons_zero] at d0
  clear hb1
  go_wp2_with fail
  go_quiet (fail)
  go_wp2_with fail
  go_ret2
  exact ⟨ret_ii (by first | rfl | exact f1 | exact f2) (by first | rfl | exact f1 | exact f2), (HS0.out.trans s1).drewN _⟩
 rw [if_neg (by omega), if_neg (by omega)]
 have b3 : (k == 3) = false := by simpa using h3
 have b4 : (k == 4) = false := by simpa using h4
 have b5 : (k == 5) = false := by simpa using h5
 clear h3 h4 h5 f1 f2
 go_enter Tryz.func71, Tryz.ntmps71
 go_wp2_with fail
 refine (HSH.out _).mono ?_
 rintro e w1 ⟨rfl, s1⟩
 have hb1 := HB0.out.same s1
 have d0 : w1.cell? ⟨w.heap.size, 0, none⟩ = some (.int .i64 k) := hb1.cell 0
 clear hb1
 go_wp2_with fail
 go_ret2
 exact ⟨rfl, HS0.out.trans s1⟩
set_option maxRecDepth 100000 in
theorem fail_any (k wd sl cp sa ow : Int) (ia ra : Option Addr) (il ic rl rc : Nat) (op : Int) (w : World) (hsa : 0 ≤ sa ∧ sa < 4294967296) :
 Calls Tryz.prog 56 #[.agg #[.int .i64 k, .int .i64 wd, .int .i64 sl, .int .i64 cp, .int .u32 sa, .slice ia il ic, .int .i64 ow, .slice ra rl rc], .int .i64 op] w fun e w' => e = .returned (.int .i64 (failI k wd sl cp sa il rl op)) ∧ Same w w' := by
 have hb0 := Blk.new w 43 #[.int .i64 k, .int .i64 wd, .int .i64 sl, .int .i64 cp, .int .u32 sa, .slice ia il ic, .int .i64 ow, .slice ra rl rc]
 have HS0 := Lib.hid ((Same.refl w).alloc (.cells #[.int .i64 k, .int .i64 wd, .int .i64 sl, .int .i64 cp, .int .u32 sa, .slice ia il ic, .int .i64 ow, .slice ra rl rc] 43))
 have HB0 := Lib.hid hb0
 clear hb0
 have HAT := Lib.hid (fun w' => attempt_any k wd sl cp sa ow ia ra il ic rl rc op w' hsa)
 clear hsa
 generalize failI k wd sl cp sa il rl op = fl at *
 generalize endI k wd sl cp sa il rl op = en at *
 go_enter Tryz.func56, Tryz.ntmps56
 go_wp2_with fail
 refine (HAT.out _).mono ?_
 rintro e w1 ⟨rfl, s1⟩
 go_wp2_with fail
 go_ret
 exact ⟨rfl, HS0.out.trans s1⟩
set_option maxRecDepth 100000 in
theorem clean_any (k wd sl cp sa ow : Int) (ia ra : Option Addr) (il ic rl rc : Nat) (op : Int) (w : World) (hsa : 0 ≤ sa ∧ sa < 4294967296) :
 Calls Tryz.prog 151 #[.agg #[.int .i64 k, .int .i64 wd, .int .i64 sl, .int .i64 cp, .int .u32 sa, .slice ia il ic, .int .i64 ow, .slice ra rl rc], .int .i64 op] w fun e w' => e = .returned (.int .i64 (cleanI k wd sl cp sa il rl op)) ∧ Same w w' := by
 have hb0 := Blk.new w 43 #[.int .i64 k, .int .i64 wd, .int .i64 sl, .int .i64 cp, .int .u32 sa, .slice ia il ic, .int .i64 ow, .slice ra rl rc]
 have HS0 := Lib.hid ((Same.refl w).alloc (.cells #[.int .i64 k, .int .i64 wd, .int .i64 sl, .int .i64 cp, .int .u32 sa, .slice ia il ic, .int .i64 ow, .slice ra rl rc] 43))
 have HB0 := Lib.hid hb0
 clear hb0
 have HAT := Lib.hid (fun w' => attempt_any k wd sl cp sa ow ia ra il ic rl rc op w' hsa)
 have HBN := Lib.hid (fun w' => bound_any k wd sl cp sa ow ia ra il ic rl rc op w' hsa)
 cases ht : trB k wd sl cp sa il rl op
 ·have e1 : cleanI k wd sl cp sa il rl op = boundF k wd sl cp sa il rl op := by unfold cleanI; rw [ht]; rfl
  have e2 : endI k wd sl cp sa il rl op = 0 := by unfold endI; rw [ht]; rfl
  rw [e1]
  rw [e2] at HAT
  clear hsa ht e1 e2
  generalize failI k wd sl cp sa il rl op = fl at *
  generalize boundF k wd sl cp sa il rl op = bn at *
  go_enter Tryz.func151, Tryz.ntmps151
  go_wp2_with fail
  refine (HAT.out _).mono ?_
  rintro e w1 ⟨rfl, s1⟩
  have hb1 := HB0.out.same s1
  have d0 : w1.cell? ⟨w.heap.size, 0, none⟩ = some (.int .i64 k) := hb1.cell 0
  have d1 : w1.cell? ⟨w.heap.size, 1, none⟩ = some (.int .i64 wd) := hb1.cell 1
  have d2 : w1.cell? ⟨w.heap.size, 2, none⟩ = some (.int .i64 sl) := hb1.cell 2
  have d3 : w1.cell? ⟨w.heap.size, 3, none⟩ = some (.int .i64 cp) := hb1.cell 3
  have d4 : w1.cell? ⟨w.heap.size, 4, none⟩ = some (.int .u32 sa) := hb1.cell 4
  have d5 : w1.cell? ⟨w.heap.size, 5, none⟩ = some (.slice ia il ic) := hb1.cell 5
  have d6 : w1.cell? ⟨w.heap.size, 6, none⟩ = some (.int .i64 ow) := hb1.cell 6
  have d7 : w1.cell? ⟨w.heap.size, 7, none⟩ = some (.slice ra rl rc) := hb1.cell 7
  clear hb1
  go_wp2_with fail
  refine (HBN.out _).mono ?_
  rintro e w2 ⟨rfl, s2⟩
  go_wp2_with fail
  go_ret
  exact ⟨rfl, (HS0.out.trans s1).trans s2⟩
 ·have e1 : cleanI k wd sl cp sa il rl op = endI k wd sl cp sa il rl op := by unfold cleanI; rw [ht]; rfl
  have e2 : 0 < endI k wd sl cp sa il rl op := by
   obtain ⟨_, _, _, h4, _⟩ := tr_yes ht
   unfold endI
   rw [ht, if_pos rfl]
   split <;> omega
  rw [e1]
  have d0 : decide ((0 : Int) < endI k wd sl cp sa il rl op) = true := decide_eq_true e2
  clear hsa ht e1 e2
  generalize failI k wd sl cp sa il rl op = fl at *
  generalize endI k wd sl cp sa il rl op = en at *
  go_enter Tryz.func151, Tryz.ntmps151
  go_wp2_with fail
  refine (HAT.out _).mono ?_
  rintro e w1 ⟨rfl, s1⟩
  go_wp2_with fail
  go_ret
  exact ⟨rfl, HS0.out.trans s1⟩
def lastI (cp : Int) : Int := IntKind.i64.wrap (cp - 1)
def afterI (k wd sl cp sa : Int) (il rl : Nat) (op fails : Int) : Int := cleanI k wd sl cp sa il rl op + failI k wd sl cp sa il rl op * clamp fails 0 (lastI cp)
theorem after_bd (k wd sl cp sa : Int) (il rl : Nat) (op fails : Int) : 0 ≤ failI k wd sl cp sa il rl op * clamp fails 0 (lastI cp) ∧ failI k wd sl cp sa il rl op * clamp fails 0 (lastI cp) ≤ 1000 := by
 by_cases ht : trB k wd sl cp sa il rl op = true
 ·obtain ⟨_, _, _, h4, h5, h6⟩ := tr_yes ht
  have hf := fail_bd k wd sl cp sa il rl op
  have hl : lastI cp = cp - 1 := Go.IntWalk.i64_in _ (by omega)
  have hc : 0 ≤ clamp fails 0 (lastI cp) ∧ clamp fails 0 (lastI cp) ≤ 15 := by rw [hl]; unfold clamp; omega
  have h7 : failI k wd sl cp sa il rl op * clamp fails 0 (lastI cp) ≤ 10 * 15 := Int.mul_le_mul hf.2.1 hc.2 hc.1 (by omega)
  have h8 := Int.mul_nonneg hf.1 hc.1
  omega
 ·have e1 : failI k wd sl cp sa il rl op = 0 := by unfold failI; rw [if_neg ht]
  rw [e1, Int.zero_mul]
  omega
set_option maxRecDepth 100000 in
set_option maxHeartbeats 1000000 in
theorem after_any (k wd sl cp sa ow : Int) (ia ra : Option Addr) (il ic rl rc : Nat) (op fails : Int) (w : World) (hsa : 0 ≤ sa ∧ sa < 4294967296) :
 Calls Tryz.prog 107 #[.agg #[.int .i64 k, .int .i64 wd, .int .i64 sl, .int .i64 cp, .int .u32 sa, .slice ia il ic, .int .i64 ow, .slice ra rl rc], .int .i64 op, .int .i64 fails] w fun e w' => e = .returned (.int .i64 (afterI k wd sl cp sa il rl op fails)) ∧ Same w w' := by
 have hb0 := Blk.new w 43 #[.int .i64 k, .int .i64 wd, .int .i64 sl, .int .i64 cp, .int .u32 sa, .slice ia il ic, .int .i64 ow, .slice ra rl rc]
 have hs0 := (Same.refl w).alloc (.cells #[.int .i64 k, .int .i64 wd, .int .i64 sl, .int .i64 cp, .int .u32 sa, .slice ia il ic, .int .i64 ow, .slice ra rl rc] 43)
 have HCL := fun w' => clean_any k wd sl cp sa ow ia ra il ic rl rc op w' hsa
 have HFL := fun w' => fail_any k wd sl cp sa ow ia ra il ic rl rc op w' hsa
 have HE : Hid (afterI k wd sl cp sa il rl op fails = cleanI k wd sl cp sa il rl op + failI k wd sl cp sa il rl op * clamp fails 0 (lastI cp)) := Lib.hid rfl
 have h1 := clean_bd k wd sl cp sa il rl op
 have h2 := after_bd k wd sl cp sa il rl op fails
 have HCM := fun w' => wclamp fails 0 (lastI cp) w'
 generalize afterI k wd sl cp sa il rl op fails = af at *
 generalize cleanI k wd sl cp sa il rl op = cl at *
 generalize failI k wd sl cp sa il rl op = fl at *
 unfold lastI at HE h2 HCM
 generalize clamp fails 0 (IntKind.i64.wrap (cp - 1)) = cm at *
 have f1 : IntKind.i64.wrap (fl * cm) = fl * cm := Go.IntWalk.i64_in _ (by omega)
 have f2 : IntKind.i64.wrap (cl + fl * cm) = cl + fl * cm := Go.IntWalk.i64_in _ (by omega)
 clear h1 h2 hsa
 go_enter Tryz.func107, Tryz.ntmps107
 go_wp2_with fail
 generalize w.alloc (.cells #[.int .i64 k, .int .i64 wd, .int .i64 sl, .int .i64 cp, .int .u32 sa, .slice ia il ic, .int .i64 ow, .slice ra rl rc] 43) = w1 at *
 generalize w.heap.size = g at *
 have SS : Hid (∀ w', Same w1 w' → w'.cell? ⟨g, 0, none⟩ = some (.int .i64 k) ∧ w'.cell? ⟨g, 1, none⟩ = some (.int .i64 wd) ∧ w'.cell? ⟨g, 2, none⟩ = some (.int .i64 sl) ∧ w'.cell? ⟨g, 3, none⟩ = some (.int .i64 cp) ∧ w'.cell? ⟨g, 4, none⟩ = some (.int .u32 sa) ∧ w'.cell? ⟨g, 5, none⟩ = some (.slice ia il ic) ∧ w'.cell? ⟨g, 6, none⟩ = some (.int .i64 ow) ∧ w'.cell? ⟨g, 7, none⟩ = some (.slice ra rl rc) ∧ Same w1 w') := Lib.hid (fun w' s => ⟨s.cell (hb0.cell 0), s.cell (hb0.cell 1), s.cell (hb0.cell 2), s.cell (hb0.cell 3), s.cell (hb0.cell 4), s.cell (hb0.cell 5), s.cell (hb0.cell 6), s.cell (hb0.cell 7), s⟩)
 go_region_held3 (fun w' => w'.cell? ⟨g, 0, none⟩ = some (.int .i64 k) ∧ w'.cell? ⟨g, 1, none⟩ = some (.int .i64 wd) ∧ w'.cell? ⟨g, 2, none⟩ = some (.int .i64 sl) ∧ w'.cell? ⟨g, 3, none⟩ = some (.int .i64 cp) ∧ w'.cell? ⟨g, 4, none⟩ = some (.int .u32 sa) ∧ w'.cell? ⟨g, 5, none⟩ = some (.slice ia il ic) ∧ w'.cell? ⟨g, 6, none⟩ = some (.int .i64 ow) ∧ w'.cell? ⟨g, 7, none⟩ = some (.slice ra rl rc) ∧ Same w1 w')
  (first | (with_reducible assumption) | (with_reducible exact SS.out _ (Same.refl w1).drew) | (with_reducible exact SS.out _ ((‹_ ∧ _ ∧ _ ∧ _ ∧ _ ∧ _ ∧ _ ∧ _ ∧ Same w1 _›).2.2.2.2.2.2.2.2.trans hs9)))
  (first | (go_at_call 151; (with_reducible refine (HCL _).mono ?_); rintro e w' ⟨rfl, hs9⟩) | (go_at_call 56; (with_reducible refine (HFL _).mono ?_); rintro e w' ⟨rfl, hs9⟩) | (go_at_call 74; (with_reducible refine (HCM _).mono ?_); rintro e w' ⟨rfl, rfl⟩))
 have x9 := Lib.hid (‹_ ∧ _ ∧ _ ∧ _ ∧ _ ∧ _ ∧ _ ∧ _ ∧ Same w1 _›).2.2.2.2.2.2.2.2
 go_wp2
 go_ret
 exact ⟨ret_int HE.out.symm, hs0.trans x9.out⟩
end Go.Proofs.YthhbhbfkbncegabGreatDoor.Bd
