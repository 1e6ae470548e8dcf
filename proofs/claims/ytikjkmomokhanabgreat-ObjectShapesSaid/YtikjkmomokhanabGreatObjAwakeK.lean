/-

  Chapter 20's example: an operation of any kind, by its face.
-/
import Derived.Test.YtikjkmomokhanabGreatSeqGo
import Derived.Test.YtikjkmomokhanabGreatMemFn
import Derived.Test.YtikjkmomokhanabGreatKFace
set_option linter.unusedVariables false
set_option linter.unusedSimpArgs false
namespace Go.Proofs.YtikjkmomokhanabGreat.Oj
open Go.ChangeShapes Go.WideShapes Go.ChangeAt Go.RowKit Ws Mm Pa

theorem ops_of_6 (w : World) : Calls Tryz.prog 45 #[.int .i64 6] w fun e w' => e = .returned (.tuple #[.int .i64 3, .int .i64 4, .bool true]) ∧ w = w' := by
  go_enter Tryz.func45, Tryz.ntmps45
  go_wp2_with fail
  exact bodyPost_ret (v := .tuple #[.int .i64 3, .int .i64 4, .bool true]) (by simp [results, Tryz.results45, go_sem]) rfl ⟨rfl, rfl⟩
theorem ops_of_none (k : Int) (h : k < 1 ∨ 6 < k) (w : World) : Calls Tryz.prog 45 #[.int .i64 k] w fun e w' => e = .returned (.tuple #[.int .i64 0, .int .i64 0, .bool false]) ∧ w = w' := by
  have b1 : (k == 1) = false := by rw [beq_eq_false_iff_ne]; omega
  have b2 : (k == 2) = false := by rw [beq_eq_false_iff_ne]; omega
  have b3 : (k == 3) = false := by rw [beq_eq_false_iff_ne]; omega
  have b4 : (k == 4) = false := by rw [beq_eq_false_iff_ne]; omega
  have b5 : (k == 5) = false := by rw [beq_eq_false_iff_ne]; omega
  have b6 : (k == 6) = false := by rw [beq_eq_false_iff_ne]; omega
  clear h
  go_enter Tryz.func45, Tryz.ntmps45
  go_wp2_with fail
  exact bodyPost_ret (v := .tuple #[.int .i64 0, .int .i64 0, .bool false]) (by simp [results, Tryz.results45, go_sem]) rfl ⟨rfl, rfl⟩
/-- what the writer, and a reader, of a kind does, and whether there is one -/
def opsF (k : Int) : Int × Int × Bool := if k < 1 ∨ 6 < k then (0, 0, false) else if k = 6 then (3, 4, true) else (2, 1, true)
theorem ops_val (k : Int) (w : World) : Calls Tryz.prog 45 #[.int .i64 k] w fun e w' => e = .returned (.tuple #[.int .i64 (opsF k).1, .int .i64 (opsF k).2.1, .bool (opsF k).2.2]) ∧ w = w' := by
  unfold opsF
  by_cases h : k < 1 ∨ 6 < k
  · rw [if_pos h]
    exact ops_of_none k h w
  · rw [if_neg h]
    by_cases h6 : k = 6
    · subst h6
      rw [if_pos rfl]
      exact ops_of_6 w
    · rw [if_neg h6]
      exact Ob.ops_reg k (by omega) w
theorem ops_any (k : Int) (w : World) : Calls Tryz.prog 22 #[.int .i64 k] w fun e w' => e = .returned (.tuple #[.int .i64 (opsF k).1, .int .i64 (opsF k).2.1, .bool (opsF k).2.2]) ∧ w = w' := by
  have HO := Lib.hid (fun w' => ops_val k w')
  generalize opsF k = z at *
  obtain ⟨z1, z2, z3⟩ := z
  go_enter Tryz.func22, Tryz.ntmps22
  go_wp2_with fail
  refine (HO.out _).mono ?_
  rintro e w' ⟨rfl, rfl⟩
  go_wp2_with fail
  exact bodyPost_ret (v := .tuple #[.int .i64 z1, .int .i64 z2, .bool z3]) (by simp [results, Tryz.results22, go_sem]) rfl ⟨rfl, rfl⟩
/-- the example's operation -/
def oS : Op.Im := ⟨0, 1, 1, 0, 1, 0, false⟩
def BegunI (w : World) (e : Ending) (w' : World) : Prop :=
  ∃ g p, e = .returned (.tuple #[.iface 100 (.pointer (some ⟨g, 0, none⟩)), .int .i64 0]) ∧ Same w w' ∧ w.heap.size ≤ g ∧ Sq.FB w' g 150 oS 2 (Op.start []) p
def BegunO (w : World) (e : Ending) (w' : World) : Prop :=
  ∃ h g p, e = .returned (.tuple #[.pointer (some ⟨h, 0, none⟩), .int .i64 0]) ∧ Same w w' ∧ w.heap.size ≤ h ∧ w.heap.size ≤ g ∧ Blk w' h 80 #[.iface 100 (.pointer (some ⟨g, 0, none⟩))] ∧ Sq.FB w' g 150 oS 2 (Op.start []) p
set_option maxRecDepth 100000 in
theorem begin_lit (A B : Option Addr) (w : World) : Calls Tryz.prog 46 #[.agg #[.int .i64 3, .int .i64 1, .int .i64 0, .int .i64 1, .int .u32 0, .slice A 1 1, .int .i64 0, .slice B 1 1], .int .i64 0, .int .i64 1, .int .i64 0, .slice none 0 0] w (BegunI w) := by
  have hb := Blk.new w 26 #[.int .i64 3, .int .i64 1, .int .i64 0, .int .i64 1, .int .u32 0, .slice A 1 1, .int .i64 0, .slice B 1 1]
  have HS := Lib.hid ((Same.refl w).alloc (.cells #[.int .i64 3, .int .i64 1, .int .i64 0, .int .i64 1, .int .u32 0, .slice A 1 1, .int .i64 0, .slice B 1 1] 26))
  obtain ⟨d0, d1, d2, d3, d4, d5, d6, d7⟩ := Ob.obj_cells hb
  have BG := Lib.hid (fun w' => Sq.begin_rd 1 0 1 0 0 0 A B 1 1 1 1 none 0 w' (by decide) (by omega) (by omega))
  clear hb
  go_enter Tryz.func46, Tryz.ntmps46
  go_wp2_with fail
  refine (BG.out _).mono ?_
  rintro e w1 ⟨g, p, rfl, s1, hg, fb⟩
  have HS1 := Lib.hid (HS.out.trans s1)
  have HG := Lib.hid (Nat.le_trans HS.out.size hg)
  have HF := Lib.hid fb
  clear s1 hg fb
  go_wp2_with fail
  go_ret2
  exact ⟨g, p, rfl, HS1.out, HG.out, HF.out⟩
set_option maxRecDepth 100000 in
theorem obegin_lit (A B : Option Addr) (w : World) : Calls Tryz.prog 29 #[.agg #[.int .i64 3, .int .i64 1, .int .i64 0, .int .i64 1, .int .u32 0, .slice A 1 1, .int .i64 0, .slice B 1 1], .int .i64 0, .int .i64 1, .int .i64 0, .slice none 0 0] w (BegunO w) := by
  have hb := Blk.new w 26 #[.int .i64 3, .int .i64 1, .int .i64 0, .int .i64 1, .int .u32 0, .slice A 1 1, .int .i64 0, .slice B 1 1]
  have HS := Lib.hid ((Same.refl w).alloc (.cells #[.int .i64 3, .int .i64 1, .int .i64 0, .int .i64 1, .int .u32 0, .slice A 1 1, .int .i64 0, .slice B 1 1] 26))
  obtain ⟨d0, d1, d2, d3, d4, d5, d6, d7⟩ := Ob.obj_cells hb
  have BG := Lib.hid (fun w' => begin_lit A B w')
  clear hb
  go_enter Tryz.func29, Tryz.ntmps29
  go_wp2_with fail
  refine (BG.out _).mono ?_
  rintro e w1 ⟨g, p, rfl, s1, hg, fb⟩
  have HS1 := Lib.hid (HS.out.trans s1)
  have HG := Lib.hid (Nat.le_trans HS.out.size hg)
  have HF := Lib.hid fb
  clear s1 hg fb
  go_wp2_with fail
  go_ret2
  exact ⟨w1.heap.size, g, p, rfl, HS1.out.alloc _, HS1.out.size, HG.out, Blk.new _ _ _, HF.out.same ((Same.refl _).alloc _)⟩
theorem meth_step (n : Nat) (p : Option Addr) (w : World) : Sem.run Tryz.prog (method (n + 1) 100 (.pointer p) "Step") w = .ok (178, .pointer p) w := by kernel_rfl
theorem meth_over (n : Nat) (p : Option Addr) (w : World) : Sem.run Tryz.prog (method (n + 1) 100 (.pointer p) "Over") w = .ok (177, .pointer p) w := by kernel_rfl
theorem meth_steps (n : Nat) (p : Option Addr) (w : World) : Sem.run Tryz.prog (method (n + 1) 100 (.pointer p) "Steps") w = .ok (179, .pointer p) w := by kernel_rfl
set_option maxRecDepth 100000 in
/-- a step by the face -/
theorem ostep_of {R : Bool → World → Prop} (h g : Nat) (m : Option Addr) (w : World) (hb : Blk w h 80 #[.iface 100 (.pointer (some ⟨g, 0, none⟩))]) (hc : Calls Tryz.prog 178 #[.pointer (some ⟨g, 0, none⟩), .pointer m] w fun e w' => ∃ b, e = .returned (.bool b) ∧ R b w') :
    Calls Tryz.prog 35 #[.pointer (some ⟨h, 0, none⟩), .pointer m] w fun e w' => ∃ b, e = .returned (.bool b) ∧ R b w' := by
  have d0 : w.cell? ⟨h, 0, none⟩ = some (.iface 100 (.pointer (some ⟨g, 0, none⟩))) := hb.cell 0
  have HC := Lib.hid hc
  clear hb hc
  go_enter Tryz.func35, Tryz.ntmps35
  have HM := meth_step
  go_wp2_with fail
  refine HC.out.mono ?_
  rintro e w1 ⟨b, rfl, hq⟩
  have HQ := Lib.hid hq
  clear hq HM d0
  cases b
  all_goals
    go_wp2_with fail
    go_ret
    exact ⟨_, rfl, HQ.out⟩
set_option maxRecDepth 100000 in
theorem oover_of (h g : Nat) (b : Bool) (w : World) (hb : Blk w h 80 #[.iface 100 (.pointer (some ⟨g, 0, none⟩))]) (hc : Calls Tryz.prog 177 #[.pointer (some ⟨g, 0, none⟩)] w fun e w' => e = .returned (.bool b) ∧ w = w') :
    Calls Tryz.prog 32 #[.pointer (some ⟨h, 0, none⟩)] w fun e w' => e = .returned (.bool b) ∧ w = w' := by
  have d0 : w.cell? ⟨h, 0, none⟩ = some (.iface 100 (.pointer (some ⟨g, 0, none⟩))) := hb.cell 0
  have HC := Lib.hid hc
  clear hb hc
  go_enter Tryz.func32, Tryz.ntmps32
  have HM := meth_over
  go_wp2_with fail
  refine HC.out.mono ?_
  rintro e w1 ⟨rfl, rfl⟩
  go_wp2_with fail
  go_ret
  exact ⟨rfl, rfl⟩
set_option maxRecDepth 100000 in
theorem osteps_of (h g : Nat) (n : Int) (w : World) (hb : Blk w h 80 #[.iface 100 (.pointer (some ⟨g, 0, none⟩))]) (hc : Calls Tryz.prog 179 #[.pointer (some ⟨g, 0, none⟩)] w fun e w' => e = .returned (.int .i64 n) ∧ w = w') :
    Calls Tryz.prog 33 #[.pointer (some ⟨h, 0, none⟩)] w fun e w' => e = .returned (.int .i64 n) ∧ w = w' := by
  have d0 : w.cell? ⟨h, 0, none⟩ = some (.iface 100 (.pointer (some ⟨g, 0, none⟩))) := hb.cell 0
  have HC := Lib.hid hc
  clear hb hc
  go_enter Tryz.func33, Tryz.ntmps33
  have HM := meth_steps
  go_wp2_with fail
  refine HC.out.mono ?_
  rintro e w1 ⟨rfl, rfl⟩
  go_wp2_with fail
  go_ret
  exact ⟨rfl, rfl⟩
theorem row_lit20 (w : World) (T : TypeId) (cs : List Value) : Row (w.alloc (.cells cs.toArray T)) (some ⟨w.heap.size, 0, none⟩) cs := by
  intro j u hj
  refine ⟨_, _, rfl, ?_⟩
  rw [Nat.zero_add]
  exact (Same.refl _).new (by rw [List.getElem?_toArray]; exact hj)
theorem seq_one : (Op.seq oS (Op.start []) [2, 9]).1.steps = 1 ∧ (Op.seq oS (Op.start []) [2, 9]).1.over = false := ⟨rfl, rfl⟩
theorem start_ok : Op.seqOk oS (Op.start []) := Op.seq_start _ _ (by decide) (fun h => by cases h) (fun _ => rfl)
set_option maxRecDepth 100000 in
set_option maxHeartbeats 1000000 in
theorem awake_any (w : World) : Calls Tryz.prog 8 #[] w fun e w' => e = .returned (.bool true) ∧ Same w w' := by
  have hs := ((Same.refl w).alloc (.cells #[.int .u32 5] 22)).alloc (.cells #[.int .i64 1] 3)
  have HS := Lib.hid hs
  clear hs
  have OP := Lib.hid (fun w' => ops_any 6 w')
  have BG := Lib.hid (fun A B w' => obegin_lit A B w')
  go_enter Tryz.func8, Tryz.ntmps8
  go_wp2_with fail
  refine (OP.out _).mono ?_
  rintro e w' ⟨rfl, rfl⟩
  rw [show opsF 6 = (3, 4, true) from rfl]
  go_wp2_with fail
  refine (BG.out _ _ _).mono ?_
  rintro e w1 ⟨h, g, p, rfl, s1, hh, hg, hb, fb⟩
  have HS1 := Lib.hid (HS.out.trans s1)
  have HH := Lib.hid (Nat.le_trans HS.out.size hh)
  have HG := Lib.hid (Nat.le_trans HS.out.size hg)
  have HB := Lib.hid (hb.same ((Same.refl w1).alloc (.cells #[.int .u32 2, .int .u32 9] 22)))
  have HF := Lib.hid (fb.same ((Same.refl w1).alloc (.cells #[.int .u32 2, .int .u32 9] 22)))
  have HS2 := Lib.hid (HS1.out.alloc (.cells #[.int .u32 2, .int .u32 9] 22))
  have HNE := Lib.hid (show h ≠ g from Blk.ne hb fb.blk.blk (by decide))
  have MM := Lib.hid (memory_any (some ⟨w1.heap.size, 0, none⟩) 2 2 [2, 9] (w1.alloc (.cells #[.int .u32 2, .int .u32 9] 22)) rfl (by omega) (row_lit20 _ _ _))
  clear s1 hh hg hb fb HS HS1
  go_wp2_with fail
  refine MM.out.mono ?_
  rintro e w3 ⟨gm, rfl, s3, m3⟩
  have HS3 := Lib.hid (HS2.out.trans s3)
  have HB3 := Lib.hid (HB.out.same s3)
  have HF3 := Lib.hid (HF.out.same s3)
  have HM3 := Lib.hid m3
  have HGN := Lib.hid (show ¬ (w1.alloc (.cells #[.int .u32 2, .int .u32 9] 22)).heap.size ≤ g from by have := HF.out.blk.blk.lt; omega)
  have HHN := Lib.hid (show ¬ (w1.alloc (.cells #[.int .u32 2, .int .u32 9] 22)).heap.size ≤ h from by have := HB.out.lt; omega)
  have HWZ := Lib.hid (show w.heap.size ≤ (w1.alloc (.cells #[.int .u32 2, .int .u32 9] 22)).heap.size from HS2.out.size)
  clear s3 m3 MM HS2 HB HF
  have wd : Op.Wd [2, 9] := by
    intro x hx
    simp at hx
    omega
  have ST := Sq.step_go w3 HF3.out HM3.out HGN.out wd start_ok ⟨⟨by decide, by decide⟩, ⟨by decide, by decide⟩⟩ (by decide) rfl rfl (by decide)
  have OST := ostep_of (R := fun b w' => b = true ∧ ∃ p', Sq.FB w' g 150 oS 2 (Op.seq oS (Op.start []) [2, 9]).1 p' ∧ Blk w' h 80 #[.iface 100 (.pointer (some ⟨g, 0, none⟩))] ∧ Same w w') h g (some ⟨gm, 0, none⟩) w3 HB3.out (ST.mono fun e w' ⟨he, p', f', _, c'⟩ => ⟨true, he, rfl, p', f', HB3.out.chg c' (fun hh => by rcases hh with hh | hh; exact HHN.out hh; exact HNE.out hh), HS3.out.more c' (fun i hi => by rcases hi with hi | hi; exact Nat.le_trans HWZ.out hi; rw [hi]; exact HG.out)⟩)
  have HST := Lib.hid OST
  clear wd ST OST HB3 HF3 HM3 HGN HHN HWZ HS3
  go_wp2_with fail
  refine HST.out.mono ?_
  rintro e w4 ⟨_, rfl, rfl, p4, f4, b4, s4⟩
  have HS4 := Lib.hid s4
  have SS := osteps_of h g _ w4 b4 (Sq.steps_any w4 f4)
  rw [seq_one.1] at SS
  have OO := oover_of h g _ w4 b4 (Sq.over_any w4 f4)
  rw [seq_one.2] at OO
  have HSS := Lib.hid SS
  have HOO := Lib.hid OO
  clear f4 b4 s4 SS OO HST
  go_wp2_with fail
  refine HSS.out.mono ?_
  rintro e w' ⟨rfl, rfl⟩
  go_wp2_with fail
  refine HOO.out.mono ?_
  rintro e w' ⟨rfl, rfl⟩
  go_wp2
  go_ret
  exact ⟨rfl, HS4.out⟩

end Go.Proofs.YtikjkmomokhanabGreat.Oj
