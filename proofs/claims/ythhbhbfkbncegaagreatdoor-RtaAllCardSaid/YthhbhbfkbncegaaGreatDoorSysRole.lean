/-

 Layer 32: what a task does with an object, by the program and by the document.
-/
import Derived.Test.YthhbhbfkbncegaaGreatDoorSysFew
import Derived.Test.YthhbhbfkbncegaaGreatDoorObjIdx
import Derived.Deep.Cut
import Derived.Deep.CutBlock
set_option linter.unusedVariables false
set_option linter.unusedSimpArgs false
namespace Go.Proofs.YthhbhbfkbncegaaGreatDoor.Sy
open Go.ChangeShapes Go.WideShapes Go.ChangeAt Go.RowKit Ws
open Go.Proofs.YthhbhbfkbncegaaGreatDoor.Im (PT PO PS TsAt OsAt SysAt Code tcells ocells)
open Go.Proofs.YthhbhbfkbncegaaGreatDoor.Os (idxF)

theorem opsk_6 (w : World) : Calls Tryz.prog 102 #[.int .i64 6] w fun e w' => e = .returned (.tuple #[.int .i64 3, .int .i64 4, .bool true]) ∧ w = w' := by
 go_enter Tryz.func102, Tryz.ntmps102
 go_wp2_with fail
 exact bodyPost_ret (v := .tuple #[.int .i64 3, .int .i64 4, .bool true]) (by simp [results, Tryz.results102, go_sem]) rfl ⟨rfl, rfl⟩
theorem opsk_none (k : Int) (h : k < 1 ∨ 6 < k) (w : World) : Calls Tryz.prog 102 #[.int .i64 k] w fun e w' => e = .returned (.tuple #[.int .i64 0, .int .i64 0, .bool false]) ∧ w = w' := by
 have b1 : (k == 1) = false := by rw [beq_eq_false_iff_ne]; omega
 have b2 : (k == 2) = false := by rw [beq_eq_false_iff_ne]; omega
 have b3 : (k == 3) = false := by rw [beq_eq_false_iff_ne]; omega
 have b4 : (k == 4) = false := by rw [beq_eq_false_iff_ne]; omega
 have b5 : (k == 5) = false := by rw [beq_eq_false_iff_ne]; omega
 have b6 : (k == 6) = false := by rw [beq_eq_false_iff_ne]; omega
 clear h
 go_enter Tryz.func102, Tryz.ntmps102
 go_wp2_with fail
 exact bodyPost_ret (v := .tuple #[.int .i64 0, .int .i64 0, .bool false]) (by simp [results, Tryz.results102, go_sem]) rfl ⟨rfl, rfl⟩
theorem opsk_1 (w : World) : Calls Tryz.prog 102 #[.int .i64 1] w fun e w' => e = .returned (.tuple #[.int .i64 2, .int .i64 1, .bool true]) ∧ w = w' := by
 go_enter Tryz.func102, Tryz.ntmps102
 go_wp2_with fail
 exact bodyPost_ret (v := .tuple #[.int .i64 2, .int .i64 1, .bool true]) (by simp [results, Tryz.results102, go_sem]) rfl ⟨rfl, rfl⟩
theorem opsk_2 (w : World) : Calls Tryz.prog 102 #[.int .i64 2] w fun e w' => e = .returned (.tuple #[.int .i64 2, .int .i64 1, .bool true]) ∧ w = w' := by
 go_enter Tryz.func102, Tryz.ntmps102
 go_wp2_with fail
 exact bodyPost_ret (v := .tuple #[.int .i64 2, .int .i64 1, .bool true]) (by simp [results, Tryz.results102, go_sem]) rfl ⟨rfl, rfl⟩
theorem opsk_3 (w : World) : Calls Tryz.prog 102 #[.int .i64 3] w fun e w' => e = .returned (.tuple #[.int .i64 2, .int .i64 1, .bool true]) ∧ w = w' := by
 go_enter Tryz.func102, Tryz.ntmps102
 go_wp2_with fail
 exact bodyPost_ret (v := .tuple #[.int .i64 2, .int .i64 1, .bool true]) (by simp [results, Tryz.results102, go_sem]) rfl ⟨rfl, rfl⟩
theorem opsk_4 (w : World) : Calls Tryz.prog 102 #[.int .i64 4] w fun e w' => e = .returned (.tuple #[.int .i64 2, .int .i64 1, .bool true]) ∧ w = w' := by
 go_enter Tryz.func102, Tryz.ntmps102
 go_wp2_with fail
 exact bodyPost_ret (v := .tuple #[.int .i64 2, .int .i64 1, .bool true]) (by simp [results, Tryz.results102, go_sem]) rfl ⟨rfl, rfl⟩
theorem opsk_5 (w : World) : Calls Tryz.prog 102 #[.int .i64 5] w fun e w' => e = .returned (.tuple #[.int .i64 2, .int .i64 1, .bool true]) ∧ w = w' := by
 go_enter Tryz.func102, Tryz.ntmps102
 go_wp2_with fail
 exact bodyPost_ret (v := .tuple #[.int .i64 2, .int .i64 1, .bool true]) (by simp [results, Tryz.results102, go_sem]) rfl ⟨rfl, rfl⟩
def wrF (k : Int) : Int := if k = 6 then 3 else 2
def rdF (k : Int) : Int := if k = 6 then 4 else 1
def kindF (k : Int) : Bool := decide (1 ≤ k ∧ k ≤ 6)
theorem ops_any (k : Int) (w : World) : Calls Tryz.prog 82 #[.int .i64 k] w fun e w' => e = .returned (.tuple #[.int .i64 (if kindF k = true then wrF k else 0), .int .i64 (if kindF k = true then rdF k else 0), .bool (kindF k)]) ∧ w = w' := by
 have HO : Hid (∀ w', Calls Tryz.prog 102 #[.int .i64 k] w' fun e w2 => e = .returned (.tuple #[.int .i64 (if kindF k = true then wrF k else 0), .int .i64 (if kindF k = true then rdF k else 0), .bool (kindF k)]) ∧ w' = w2) := Lib.hid (by
  intro w'
  by_cases h : 1 ≤ k ∧ k ≤ 6
  ·have hk : kindF k = true := decide_eq_true h
   rw [hk]
   rcases (show k = 1 ∨ k = 2 ∨ k = 3 ∨ k = 4 ∨ k = 5 ∨ k = 6 by omega) with rfl | rfl | rfl | rfl | rfl | rfl
   ·exact opsk_1 w'
   ·exact opsk_2 w'
   ·exact opsk_3 w'
   ·exact opsk_4 w'
   ·exact opsk_5 w'
   ·exact opsk_6 w'
  ·have hk : kindF k = false := decide_eq_false h
   rw [hk]
   exact opsk_none k (by omega) w')
 generalize (if kindF k = true then wrF k else 0) = z1 at *
 generalize (if kindF k = true then rdF k else 0) = z2 at *
 generalize kindF k = z3 at *
 go_enter Tryz.func82, Tryz.ntmps82
 go_wp2_with fail
 refine (HO.out _).mono ?_
 rintro e w' ⟨rfl, rfl⟩
 go_wp2_with fail
 exact bodyPost_ret (v := .tuple #[.int .i64 z1, .int .i64 z2, .bool z3]) (by simp [results, Tryz.results82, go_sem]) rfl ⟨rfl, rfl⟩
theorem istask_any (A B : Option Addr) (n c m d : Nat) (i : Int) (w : World) : Calls Tryz.prog 80 #[.agg #[.slice A n c, .slice B m d], .int .i64 i] w fun e w' => e = .returned (.bool (decide (0 ≤ i ∧ i < n))) ∧ Same w w' := by
 have hb0 := Blk.new w 25 #[.slice A n c, .slice B m d]
 have a0 := hb0.cell 0
 have a1 := hb0.cell 1
 simp only [Ws.q_] at a0 a1
 clear hb0
 by_cases h0 : 0 ≤ i
 ·by_cases h1 : i < n
  ·have e1 : decide (0 ≤ i ∧ i < (n : Int)) = true := decide_eq_true ⟨h0, h1⟩
   rw [e1]
   clear e1
   go_enter Tryz.func80, Tryz.ntmps80
   go_wp2_with fail
   go_ret
   exact ⟨rfl, (Same.refl _).alloc _⟩
  ·have e1 : decide (0 ≤ i ∧ i < (n : Int)) = false := decide_eq_false (fun h => h1 h.2)
   rw [e1]
   clear e1
   go_enter Tryz.func80, Tryz.ntmps80
   go_wp2_with fail
   go_ret
   exact ⟨rfl, (Same.refl _).alloc _⟩
 ·have e1 : decide (0 ≤ i ∧ i < (n : Int)) = false := decide_eq_false (fun h => h0 h.1)
  rw [e1]
  clear e1
  go_enter Tryz.func80, Tryz.ntmps80
  go_wp2_with fail
  go_ret
  exact ⟨rfl, (Same.refl _).alloc _⟩
theorem isobj_any (A B : Option Addr) (n c m d : Nat) (i : Int) (w : World) : Calls Tryz.prog 81 #[.agg #[.slice A n c, .slice B m d], .int .i64 i] w fun e w' => e = .returned (.bool (decide (0 ≤ i ∧ i < m))) ∧ Same w w' := by
 have hb0 := Blk.new w 25 #[.slice A n c, .slice B m d]
 have a0 := hb0.cell 0
 have a1 := hb0.cell 1
 simp only [Ws.q_] at a0 a1
 clear hb0
 by_cases h0 : 0 ≤ i
 ·by_cases h1 : i < m
  ·have e1 : decide (0 ≤ i ∧ i < (m : Int)) = true := decide_eq_true ⟨h0, h1⟩
   rw [e1]
   clear e1
   go_enter Tryz.func81, Tryz.ntmps81
   go_wp2_with fail
   go_ret
   exact ⟨rfl, (Same.refl _).alloc _⟩
  ·have e1 : decide (0 ≤ i ∧ i < (m : Int)) = false := decide_eq_false (fun h => h1 h.2)
   rw [e1]
   clear e1
   go_enter Tryz.func81, Tryz.ntmps81
   go_wp2_with fail
   go_ret
   exact ⟨rfl, (Same.refl _).alloc _⟩
 ·have e1 : decide (0 ≤ i ∧ i < (m : Int)) = false := decide_eq_false (fun h => h0 h.1)
  rw [e1]
  clear e1
  go_enter Tryz.func81, Tryz.ntmps81
  go_wp2_with fail
  go_ret
  exact ⟨rfl, (Same.refl _).alloc _⟩
/-- what a task does with an object: 0: nothing -/
noncomputable def roleO (o : PO) (i : Int) : Int := if kindF o.k = false then 0 else if o.ow = i then wrF o.k else if 0 ≤ idxF o.rd i then rdF o.k else 0
noncomputable def roleF (s : PS) (i k : Int) : Int := if (0 ≤ i ∧ i < s.ts.length) ∧ 0 ≤ k ∧ k < s.os.length then roleO (s.os[k.toNat]?.getD default) i else 0
theorem role_at {s : PS} {i : Int} {k : Nat} {o : PO} (hi : 0 ≤ i ∧ i < s.ts.length) (hk : s.os[k]? = some o) : roleF s i k = roleO o i := by
 unfold roleF
 have hl : k < s.os.length := by
  rcases Nat.lt_or_ge k s.os.length with h | h
  ·exact h
  ·rw [List.getElem?_eq_none h] at hk; cases hk
 rw [if_pos ⟨hi, by omega, by omega⟩, Int.toNat_natCast, hk]
 rfl
theorem role_notask {s : PS} {i k : Int} (h : ¬ (0 ≤ i ∧ i < s.ts.length)) : roleF s i k = 0 := if_neg (fun g => h g.1)
theorem role_noobj {s : PS} {i k : Int} (h : ¬ (0 ≤ k ∧ k < s.os.length)) : roleF s i k = 0 := if_neg (fun g => h g.2)
def RoleP (w : World) (r : Int) (e : Ending) (w' : World) : Prop := e = .returned (.tuple #[.int .i64 r, .bool (decide (0 < r))]) ∧ Same w w'
theorem rolep_no {w w' : World} {r : Int} (hr : r = 0) (h : Same w w') : RoleP w r (.returned (.tuple #[.int .i64 0, .bool false])) w' := by subst hr; exact ⟨rfl, h⟩
theorem rolep_yes {w w' : World} {r z : Int} (hr : r = z) (hz : 0 < z) (h : Same w w') : RoleP w r (.returned (.tuple #[.int .i64 z, .bool true])) w' := by subst hr; exact ⟨by rw [decide_eq_true hz], h⟩
theorem wr_pos (k : Int) : 0 < wrF k := by unfold wrF; split <;> omega
theorem rd_pos (k : Int) : 0 < rdF k := by unfold rdF; split <;> omega
set_option maxRecDepth 100000 in
set_option maxHeartbeats 1000000 in
theorem role_any (A B : Option Addr) (n c m d : Nat) (s : PS) (i k : Int) (w : World) (hs : SysAt w A n B m s) (hf : OFew s.os 5000) :
 Calls Tryz.prog 59 #[.agg #[.slice A n c, .slice B m d], .int .i64 i, .int .i64 k] w (RoleP w (roleF s i k)) := by
 obtain ⟨hn, hm, _, ho⟩ := hs
 have HF := Lib.hid hf
 have HN := Lib.hid hn
 have HM := Lib.hid hm
 have HO := Lib.hid ho
 have hmb : m ≤ 5000 := by have := hf.1; omega
 have HS0 := Lib.hid ((Same.refl w).alloc (.cells #[.slice A n c, .slice B m d] 25))
 have HB0 := Lib.hid (Blk.new w 25 #[.slice A n c, .slice B m d])
 have IT := Lib.hid (fun w' => istask_any A B n c m d i w')
 have IO := Lib.hid (fun w' => isobj_any A B n c m d k w')
 clear hf hn hm ho
 obtain ⟨a0, a1⟩ := (⟨HB0.out.cell 0, HB0.out.cell 1⟩ : _ ∧ _)
 simp only [Ws.q_] at a0 a1
 by_cases hi : 0 ≤ i ∧ i < (n : Int)
 ·rw [decide_eq_true hi] at IT
  have HI := Lib.hid hi
  clear hi
  by_cases hk : 0 ≤ k ∧ k < (m : Int)
  ·rw [decide_eq_true hk] at IO
   have HK := Lib.hid hk
   obtain ⟨hk1, hk2⟩ := hk
   go_enter Tryz.func59, Tryz.ntmps59
   go_wp2_with fail
   refine (IT.out _).mono ?_
   rintro e w1 ⟨rfl, s1⟩
   have HS1 := Lib.hid (HS0.out.trans s1)
   have HB1 := Lib.hid (HB0.out.same s1)
   clear s1 a0 a1
   obtain ⟨a0, a1⟩ := (⟨HB1.out.cell 0, HB1.out.cell 1⟩ : _ ∧ _)
   simp only [Ws.q_] at a0 a1
   go_wp2_with fail
   refine (IO.out _).mono ?_
   rintro e w2 ⟨rfl, s2⟩
   have HS2 := Lib.hid (HS1.out.trans s2)
   have HB2 := Lib.hid (HB1.out.same s2)
   clear s2 a0 a1 HB1 HS1
   obtain ⟨a0, a1⟩ := (⟨HB2.out.cell 0, HB2.out.cell 1⟩ : _ ∧ _)
   simp only [Ws.q_] at a0 a1
   obtain ⟨k', rfl⟩ : ∃ k' : Nat, k = k' := ⟨k.toNat, by omega⟩
   obtain ⟨x, hx⟩ : ∃ x, s.os[k']? = some x := ⟨_, List.getElem?_eq_getElem (by have := HM.out; omega)⟩
   have HR := Lib.hid (role_at (i := i) (s := s) (by rw [HN.out]; exact HI.out) hx)
   have hrd := (HF.out.2 x (List.mem_of_getElem? hx)).2
   obtain ⟨b, o, rfl, X, cX, Y, cY, d0, d1, d2, d3, d4, d5, d6, d7, _, _, _, hry, _⟩ := (HO.out.same HS2.out).at_ hx
   clear hx
   obtain ⟨k_, wd, sl, cp, sa, ow, rd, ini⟩ := x
   simp only at d0 d1 d2 d3 d4 d5 d6 d7 hry hrd
   have k0 : (0 : Int) ≤ k' := by omega
   have hs3 := (Same.refl w2).alloc (.cells #[.int .i64 k_, .int .i64 wd, .int .i64 sl, .int .i64 cp, .int .u32 sa, .slice X ini.length cX, .int .i64 ow, .slice Y rd.length cY] 34)
   have hb3 := Blk.new w2 34 #[.int .i64 k_, .int .i64 wd, .int .i64 sl, .int .i64 cp, .int .u32 sa, .slice X ini.length cX, .int .i64 ow, .slice Y rd.length cY]
   have HB3 := Lib.hid hb3
   have HS3 := Lib.hid (HS2.out.trans hs3)
   have HRY := Lib.hid (hry.same hs3)
   obtain ⟨x0, x1, x2, x3, x4, x5, x6, x7⟩ := ocs hb3
   have OPS := Lib.hid (fun w' => ops_any k_ w')
   clear hb3 hs3 hry
   by_cases hk : kindF k_ = true
   ·rw [if_pos hk, if_pos hk, hk] at OPS
    have HWZ := Lib.hid (wr_pos k_)
    have HRZ := Lib.hid (rd_pos k_)
    have HRO := Lib.hid (show roleF s i k' = if ow = i then wrF k_ else if 0 ≤ idxF rd i then rdF k_ else 0 by rw [HR.out]; unfold roleO; simp only []; rw [if_neg (by rw [hk]; decide)])
    clear hk HR
    generalize wrF k_ = z1 at *
    generalize rdF k_ = z2 at *
    by_cases hw : ow = i
    ·rw [if_pos hw] at HRO
     have hw' : (ow == i) = true := by simpa using hw
     clear hw
     go_wp2_with fail
     refine (OPS.out _).mono ?_
     rintro e w4 ⟨rfl, rfl⟩
     go_wp2_with fail
     exact bodyPost_ret (v := .tuple #[.int .i64 z1, .bool true]) (by simp [results, Tryz.results59, go_sem]) rfl (rolep_yes HRO.out HWZ.out HS3.out)
    ·rw [if_neg hw] at HRO
     have hw' : (ow == i) = false := by simpa using hw
     clear hw
     have RD := Lib.hid (Os.reader_any k_ wd sl cp sa ow X Y ini.length cX rd.length cY rd i _ rfl hrd HRY.out)
     generalize idxF rd i = y at *
     by_cases hy : 0 ≤ y
     ·rw [if_pos hy] at HRO
      rw [if_pos hy, decide_eq_true hy] at RD
      clear hy
      go_wp2_with fail
      refine (OPS.out _).mono ?_
      rintro e w4 ⟨rfl, rfl⟩
      go_wp2_with fail
      refine RD.out.mono ?_
      rintro e w5 ⟨rfl, s5⟩
      have HS5 := Lib.hid (HS3.out.trans s5)
      clear s5
      go_wp2_with fail
      exact bodyPost_ret (v := .tuple #[.int .i64 z2, .bool true]) (by simp [results, Tryz.results59, go_sem]) rfl (rolep_yes HRO.out HRZ.out HS5.out)
     ·rw [if_neg hy] at HRO
      rw [if_neg hy, decide_eq_false hy] at RD
      clear hy
      go_wp2_with fail
      refine (OPS.out _).mono ?_
      rintro e w4 ⟨rfl, rfl⟩
      go_wp2_with fail
      refine RD.out.mono ?_
      rintro e w5 ⟨rfl, s5⟩
      have HS5 := Lib.hid (HS3.out.trans s5)
      clear s5
      go_wp2_with fail
      exact bodyPost_ret (v := .tuple #[.int .i64 0, .bool false]) (by simp [results, Tryz.results59, go_sem]) rfl (rolep_no HRO.out HS5.out)
   ·have hkf : kindF k_ = false := by simpa using hk
    have HR0 := Lib.hid (show roleF s i k' = 0 by rw [HR.out]; unfold roleO; simp only []; rw [if_pos hkf])
    rw [if_neg hk, if_neg hk, hkf] at OPS
    clear hk hkf HR
    go_wp2_with fail
    refine (OPS.out _).mono ?_
    rintro e w4 ⟨rfl, rfl⟩
    go_wp2_with fail
    exact bodyPost_ret (v := .tuple #[.int .i64 0, .bool false]) (by simp [results, Tryz.results59, go_sem]) rfl (rolep_no HR0.out HS3.out)
  ·rw [decide_eq_false hk] at IO
   have HR := Lib.hid (role_noobj (s := s) (i := i) (k := k) (by rw [HM.out]; exact hk))
   clear hk
   go_enter Tryz.func59, Tryz.ntmps59
   go_wp2_with fail
   refine (IT.out _).mono ?_
   rintro e w1 ⟨rfl, s1⟩
   have HS1 := Lib.hid (HS0.out.trans s1)
   have HB1 := Lib.hid (HB0.out.same s1)
   clear s1 a0 a1
   obtain ⟨a0, a1⟩ := (⟨HB1.out.cell 0, HB1.out.cell 1⟩ : _ ∧ _)
   simp only [Ws.q_] at a0 a1
   go_wp2_with fail
   refine (IO.out _).mono ?_
   rintro e w2 ⟨rfl, s2⟩
   have HS2 := Lib.hid (HS1.out.trans s2)
   clear s2
   go_wp2_with fail
   exact bodyPost_ret (v := .tuple #[.int .i64 0, .bool false]) (by simp [results, Tryz.results59, go_sem]) rfl (rolep_no HR.out HS2.out)
 ·rw [decide_eq_false hi] at IT
  have HR := Lib.hid (role_notask (s := s) (i := i) (k := k) (by rw [HN.out]; exact hi))
  clear hi
  go_enter Tryz.func59, Tryz.ntmps59
  go_wp2_with fail
  refine (IT.out _).mono ?_
  rintro e w1 ⟨rfl, s1⟩
  have HS1 := Lib.hid (HS0.out.trans s1)
  clear s1
  go_wp2_with fail
  exact bodyPost_ret (v := .tuple #[.int .i64 0, .bool false]) (by simp [results, Tryz.results59, go_sem]) rfl (rolep_no HR.out HS1.out)
set_option maxRecDepth 100000 in
theorem writes_any (k : Int) (w : World) : Calls Tryz.prog 54 #[.int .i64 k] w fun e w' => e = .returned (.int .i64 (wrF k)) ∧ w = w' := by
 unfold wrF
 by_cases h : k = 6
 ·subst h
  go_enter Tryz.func54, Tryz.ntmps54
  go_wp2_with fail
  go_ret
  exact ⟨rfl, rfl⟩
 ·have b : (k == 6) = false := by simpa using h
  rw [if_neg h]
  clear h
  go_enter Tryz.func54, Tryz.ntmps54
  go_wp2_with fail
  go_ret
  exact ⟨rfl, rfl⟩
theorem reads_any (k : Int) (w : World) : Calls Tryz.prog 56 #[.int .i64 k] w fun e w' => e = .returned (.int .i64 (rdF k)) ∧ w = w' := by
 unfold rdF
 by_cases h : k = 6
 ·subst h
  go_enter Tryz.func56, Tryz.ntmps56
  go_wp2_with fail
  go_ret
  exact ⟨rfl, rfl⟩
 ·have b : (k == 6) = false := by simpa using h
  rw [if_neg h]
  clear h
  go_enter Tryz.func56, Tryz.ntmps56
  go_wp2_with fail
  go_ret
  exact ⟨rfl, rfl⟩
theorem ret_is {a b : Int} {w w' : World} (h : a = b) (hs : Same w w') : Ending.returned (.int .i64 a) = .returned (.int .i64 b) ∧ Same w w' := ⟨by rw [h], hs⟩
set_option maxRecDepth 100000 in
set_option maxHeartbeats 1000000 in
theorem rrole_any (A B : Option Addr) (n c m d : Nat) (s : PS) (i k : Int) (w : World) (hs : SysAt w A n B m s) (hf : OFew s.os 5000) :
 Calls Tryz.prog 33 #[.agg #[.slice A n c, .slice B m d], .int .i64 i, .int .i64 k] w fun e w' => e = .returned (.int .i64 (roleF s i k)) ∧ Same w w' := by
 obtain ⟨hn, hm, _, ho⟩ := hs
 have HF := Lib.hid hf
 have HN := Lib.hid hn
 have HM := Lib.hid hm
 have HO := Lib.hid ho
 have hmb : m ≤ 5000 := by have := hf.1; omega
 have HS0 := Lib.hid ((Same.refl w).alloc (.cells #[.slice A n c, .slice B m d] 25))
 have HB0 := Lib.hid (Blk.new w 25 #[.slice A n c, .slice B m d])
 clear hf hn hm ho
 obtain ⟨a0, a1⟩ := (⟨HB0.out.cell 0, HB0.out.cell 1⟩ : _ ∧ _)
 simp only [Ws.q_] at a0 a1
 by_cases hi : 0 ≤ i ∧ i < (n : Int)
 ·have HI := Lib.hid hi
  obtain ⟨hi1, hi2⟩ := hi
  have hi3 : ¬ i < 0 := by omega
  have hi4 : ¬ i ≥ (n : Int) := by omega
  by_cases hk : 0 ≤ k ∧ k < (m : Int)
  ·obtain ⟨hk1, hk2⟩ := hk
   have hk3 : ¬ k < 0 := by omega
   have hk4 : ¬ k ≥ (m : Int) := by omega
   obtain ⟨w2, hw2⟩ : ∃ w2, w2 = w.alloc (.cells #[.slice A n c, .slice B m d] 25) := ⟨_, rfl⟩
   rw [← hw2] at HS0 HB0 a0 a1
   have E2 := Lib.hid hw2.symm
   clear hw2
   obtain ⟨k', rfl⟩ : ∃ k' : Nat, k = k' := ⟨k.toNat, by omega⟩
   obtain ⟨x, hx⟩ : ∃ x, s.os[k']? = some x := ⟨_, List.getElem?_eq_getElem (by have := HM.out; omega)⟩
   have HR := Lib.hid (role_at (i := i) (s := s) (by rw [HN.out]; exact HI.out) hx)
   have hrd := (HF.out.2 x (List.mem_of_getElem? hx)).2
   obtain ⟨b, o, rfl, X, cX, Y, cY, d0, d1, d2, d3, d4, d5, d6, d7, _, _, _, hry, _⟩ := (HO.out.same HS0.out).at_ hx
   clear hx
   obtain ⟨k_, wd, sl, cp, sa, ow, rd, ini⟩ := x
   simp only at d0 d1 d2 d3 d4 d5 d6 d7 hry hrd
   have k0 : (0 : Int) ≤ k' := by omega
   have hs3 := (Same.refl w2).alloc (.cells #[.int .i64 k_, .int .i64 wd, .int .i64 sl, .int .i64 cp, .int .u32 sa, .slice X ini.length cX, .int .i64 ow, .slice Y rd.length cY] 34)
   have hb3 := Blk.new w2 34 #[.int .i64 k_, .int .i64 wd, .int .i64 sl, .int .i64 cp, .int .u32 sa, .slice X ini.length cX, .int .i64 ow, .slice Y rd.length cY]
   have HB3 := Lib.hid hb3
   have HS3 := Lib.hid (HS0.out.trans hs3)
   have HRY := Lib.hid (hry.same hs3)
   obtain ⟨x0, x1, x2, x3, x4, x5, x6, x7⟩ := ocs hb3
   clear hb3 hs3 hry
   by_cases hk : kindF k_ = true
   ·obtain ⟨hka, hkb⟩ := (decide_eq_true_iff).1 hk
    have HRO := Lib.hid (show roleF s i k' = if ow = i then wrF k_ else if 0 ≤ idxF rd i then rdF k_ else 0 by rw [HR.out]; unfold roleO; simp only []; rw [if_neg (by rw [hk]; decide)])
    have WR := Lib.hid (fun w' => writes_any k_ w')
    have RR := Lib.hid (fun w' => reads_any k_ w')
    clear hk HR
    have hkc : ¬ k_ < 1 := by omega
    have hkd : ¬ k_ > 6 := by omega
    generalize wrF k_ = z1 at *
    generalize rdF k_ = z2 at *
    by_cases hw : ow = i
    ·rw [if_pos hw] at HRO
     have hw' : (ow == i) = true := by simpa using hw
     clear hw
     go_enter Tryz.func33, Tryz.ntmps33
     go_upto_region 1 with fail
     rw [E2.out]
     go_wp2_with fail
     refine (WR.out _).mono ?_
     rintro e w4 ⟨rfl, rfl⟩
     go_wp2_with fail
     go_ret
     exact ret_is HRO.out.symm HS3.out
    ·rw [if_neg hw] at HRO
     have hw' : (ow == i) = false := by simpa using hw
     clear hw
     have RD := Lib.hid (Os.rreader_any k_ wd sl cp sa ow X Y ini.length cX rd.length cY rd i _ rfl hrd HRY.out)
     generalize idxF rd i = y at *
     by_cases hy : 0 ≤ y
     ·rw [if_pos hy] at HRO
      go_enter Tryz.func33, Tryz.ntmps33
      go_upto_region 1 with fail
      rw [E2.out]
      go_wp2_with fail
      refine RD.out.mono ?_
      rintro e w5 ⟨rfl, s5⟩
      have HB5 := Lib.hid (HB3.out.same s5)
      have HS5 := Lib.hid (HS3.out.trans s5)
      clear s5 x0 x1 x2 x3 x4 x5 x6 x7
      obtain ⟨x0, x1, x2, x3, x4, x5, x6, x7⟩ := ocs HB5.out
      go_wp2_with fail
      refine (RR.out _).mono ?_
      rintro e w6 ⟨rfl, rfl⟩
      go_wp2_with fail
      go_ret
      exact ret_is HRO.out.symm HS5.out
     ·rw [if_neg hy] at HRO
      go_enter Tryz.func33, Tryz.ntmps33
      go_upto_region 1 with fail
      rw [E2.out]
      go_wp2_with fail
      refine RD.out.mono ?_
      rintro e w5 ⟨rfl, s5⟩
      have HS5 := Lib.hid (HS3.out.trans s5)
      clear s5
      go_wp2_with fail
      go_ret
      exact ret_is HRO.out.symm HS5.out
   ·have hkf : kindF k_ = false := by simpa using hk
    have HR0 := Lib.hid (show roleF s i k' = 0 by rw [HR.out]; unfold roleO; simp only []; rw [if_pos hkf])
    have hkn : ¬ (1 ≤ k_ ∧ k_ ≤ 6) := fun h => hk (decide_eq_true h)
    clear hk hkf HR
    by_cases hka : k_ < 1
    ·clear hkn
     go_enter Tryz.func33, Tryz.ntmps33
     go_upto_region 1 with fail
     rw [E2.out]
     go_wp2_with fail
     go_ret
     exact ret_is HR0.out.symm HS3.out
    ·have hkb : k_ > 6 := by omega
     clear hkn
     go_enter Tryz.func33, Tryz.ntmps33
     go_upto_region 1 with fail
     rw [E2.out]
     go_wp2_with fail
     go_ret
     exact ret_is HR0.out.symm HS3.out
  ·have HR := Lib.hid (role_noobj (s := s) (i := i) (k := k) (by rw [HM.out]; exact hk))
   by_cases h0 : k < 0
   ·clear hk
    (go_enter Tryz.func33, Tryz.ntmps33; go_wp2_with fail; go_ret; exact ret_is HR.out.symm HS0.out)
   ·have h1 : k ≥ (m : Int) := by omega
    clear hk
    (go_enter Tryz.func33, Tryz.ntmps33; go_wp2_with fail; go_ret; exact ret_is HR.out.symm HS0.out)
 ·have HR := Lib.hid (role_notask (s := s) (i := i) (k := k) (by rw [HN.out]; exact hi))
  by_cases h0 : i < 0
  ·clear hi
   (go_enter Tryz.func33, Tryz.ntmps33; go_wp2_with fail; go_ret; exact ret_is HR.out.symm HS0.out)
  ·have h1 : i ≥ (n : Int) := by omega
   clear hi
   (go_enter Tryz.func33, Tryz.ntmps33; go_wp2_with fail; go_ret; exact ret_is HR.out.symm HS0.out)
end Go.Proofs.YthhbhbfkbncegaaGreatDoor.Sy
