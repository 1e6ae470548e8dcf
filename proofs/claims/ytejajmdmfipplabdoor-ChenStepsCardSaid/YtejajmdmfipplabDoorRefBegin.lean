/-

  The document's own operation: how it begins, whatever is asked for.
-/
import Derived.Test.YtejajmdmfipplabDoorRefBase
import Derived.Test.YtejajmdmfipplabDoorMemMore
import Derived.Deep.CutBlock
set_option linter.unusedSimpArgs false
set_option linter.unusedVariables false
namespace Go.Proofs.YtejajmdmfipplabDoor.Rf
open Go.ChangeShapes Go.WideShapes Go.ChangeAt Go.RowKit Ws Mm Pa
open Go.Proofs.YtejajmdmfipplabDoor.Op (St Im gd get put more)
open Go.Proofs.YtejajmdmfipplabDoor.Ob (rwrites_reg rreads_reg obj_cells)

/-- why the document's operation does not begin; 0: it does -/
def bcode (r : Bool) (at_ op reader wd : Int) (rl m : Nat) : Int :=
  if r = false then 1 else if at_ < 0 then 1 else if op ≠ 2 ∧ op ≠ 1 then 9 else
  if op = 2 then (if reader ≠ 0 then 5 else if (m : Int) ≠ wd then 4 else 0)
  else (if ¬ (0 ≤ reader ∧ reader ≤ (rl : Int) - 1) then 5 else if (m : Int) ≠ 0 then 4 else 0)

section
variable {x : Ox} {r : Bool}

theorem rb_arg1 (at_ op reader : Int) (A : Option Addr) (m c : Nat) (w : World) (hk : x.k ≠ 6) (HR : ∀ w', Calls Tryd.prog 79 #[.agg #[.int .i64 x.k, .int .i64 x.wd, .int .i64 x.sl, .int .i64 x.cp, .int .u32 x.sa, .slice x.ia x.il x.ic, .int .i64 x.ow, .slice x.ra x.rl x.rc]] w' fun e w'' => e = .returned (.bool false) ∧ Same w' w'') (hm : m ≤ 5000) (hrl : True)  :
    Calls Tryd.prog 42 #[.agg #[.int .i64 x.k, .int .i64 x.wd, .int .i64 x.sl, .int .i64 x.cp, .int .u32 x.sa, .slice x.ia x.il x.ic, .int .i64 x.ow, .slice x.ra x.rl x.rc], .int .i64 at_, .int .i64 op, .int .i64 reader, .slice A m c] w fun e w' => e = .returned (.tuple #[.pointer none, .int .i64 1]) ∧ Same w w' := by
  have ho := Blk.new w 45 #[.int .i64 x.k, .int .i64 x.wd, .int .i64 x.sl, .int .i64 x.cp, .int .u32 x.sa, .slice x.ia x.il x.ic, .int .i64 x.ow, .slice x.ra x.rl x.rc]
  have hs := (Same.refl w).alloc (.cells #[.int .i64 x.k, .int .i64 x.wd, .int .i64 x.sl, .int .i64 x.cp, .int .u32 x.sa, .slice x.ia x.il x.ic, .int .i64 x.ow, .slice x.ra x.rl x.rc] 45)
  have HO := Lib.hid ho
  have HS := Lib.hid hs
  clear ho hs
  go_enter Tryd.func42, Tryd.ntmps42
  obtain ⟨d0, d1, d2, d3, d4, d5, d6, d7⟩ := obj_cells HO.out
  go_wp2_with fail
  refine (HR _).mono ?_
  rintro e w1 ⟨rfl, s1⟩
  have HO1 := Lib.hid (HO.out.same s1)
  have HS1 := Lib.hid (HS.out.trans s1)
  clear s1 d0 d1 d2 d3 d4 d5 d6 d7 HO HS HR
  obtain ⟨d0, d1, d2, d3, d4, d5, d6, d7⟩ := obj_cells HO1.out
  go_wp2
  go_ret2
  exact ⟨rfl, HS1.out⟩

theorem rb_arg2 (at_ op reader : Int) (A : Option Addr) (m c : Nat) (w : World) (hk : x.k ≠ 6) (HR : ∀ w', Calls Tryd.prog 79 #[.agg #[.int .i64 x.k, .int .i64 x.wd, .int .i64 x.sl, .int .i64 x.cp, .int .u32 x.sa, .slice x.ia x.il x.ic, .int .i64 x.ow, .slice x.ra x.rl x.rc]] w' fun e w'' => e = .returned (.bool true) ∧ Same w' w'') (hm : m ≤ 5000) (hrl : 1 ≤ x.rl ∧ x.rl ≤ 4) (h1 : at_ < 0) :
    Calls Tryd.prog 42 #[.agg #[.int .i64 x.k, .int .i64 x.wd, .int .i64 x.sl, .int .i64 x.cp, .int .u32 x.sa, .slice x.ia x.il x.ic, .int .i64 x.ow, .slice x.ra x.rl x.rc], .int .i64 at_, .int .i64 op, .int .i64 reader, .slice A m c] w fun e w' => e = .returned (.tuple #[.pointer none, .int .i64 1]) ∧ Same w w' := by
  have ho := Blk.new w 45 #[.int .i64 x.k, .int .i64 x.wd, .int .i64 x.sl, .int .i64 x.cp, .int .u32 x.sa, .slice x.ia x.il x.ic, .int .i64 x.ow, .slice x.ra x.rl x.rc]
  have hs := (Same.refl w).alloc (.cells #[.int .i64 x.k, .int .i64 x.wd, .int .i64 x.sl, .int .i64 x.cp, .int .u32 x.sa, .slice x.ia x.il x.ic, .int .i64 x.ow, .slice x.ra x.rl x.rc] 45)
  have HO := Lib.hid ho
  have HS := Lib.hid hs
  clear ho hs
  obtain ⟨hl1, hl2⟩ := hrl
  have q1 : (1 : Int) ≤ x.rl := by omega
  have q2 : (x.rl : Int) ≤ 4 := by omega
  have a1 : decide (at_ < 0) = true := by simpa using h1
  go_enter Tryd.func42, Tryd.ntmps42
  obtain ⟨d0, d1, d2, d3, d4, d5, d6, d7⟩ := obj_cells HO.out
  go_wp2_with fail
  refine (HR _).mono ?_
  rintro e w1 ⟨rfl, s1⟩
  have HO1 := Lib.hid (HO.out.same s1)
  have HS1 := Lib.hid (HS.out.trans s1)
  clear s1 d0 d1 d2 d3 d4 d5 d6 d7 HO HS HR
  obtain ⟨d0, d1, d2, d3, d4, d5, d6, d7⟩ := obj_cells HO1.out
  go_wp2
  go_ret2
  exact ⟨rfl, HS1.out⟩

theorem rb_call (at_ op reader : Int) (A : Option Addr) (m c : Nat) (w : World) (hk : x.k ≠ 6) (HR : ∀ w', Calls Tryd.prog 79 #[.agg #[.int .i64 x.k, .int .i64 x.wd, .int .i64 x.sl, .int .i64 x.cp, .int .u32 x.sa, .slice x.ia x.il x.ic, .int .i64 x.ow, .slice x.ra x.rl x.rc]] w' fun e w'' => e = .returned (.bool true) ∧ Same w' w'') (hm : m ≤ 5000) (hrl : 1 ≤ x.rl ∧ x.rl ≤ 4) (h1 : ¬ at_ < 0) (h2 : op ≠ 2) (h3 : op ≠ 1) :
    Calls Tryd.prog 42 #[.agg #[.int .i64 x.k, .int .i64 x.wd, .int .i64 x.sl, .int .i64 x.cp, .int .u32 x.sa, .slice x.ia x.il x.ic, .int .i64 x.ow, .slice x.ra x.rl x.rc], .int .i64 at_, .int .i64 op, .int .i64 reader, .slice A m c] w fun e w' => e = .returned (.tuple #[.pointer none, .int .i64 9]) ∧ Same w w' := by
  have ho := Blk.new w 45 #[.int .i64 x.k, .int .i64 x.wd, .int .i64 x.sl, .int .i64 x.cp, .int .u32 x.sa, .slice x.ia x.il x.ic, .int .i64 x.ow, .slice x.ra x.rl x.rc]
  have hs := (Same.refl w).alloc (.cells #[.int .i64 x.k, .int .i64 x.wd, .int .i64 x.sl, .int .i64 x.cp, .int .u32 x.sa, .slice x.ia x.il x.ic, .int .i64 x.ow, .slice x.ra x.rl x.rc] 45)
  have HO := Lib.hid ho
  have HS := Lib.hid hs
  clear ho hs
  obtain ⟨hl1, hl2⟩ := hrl
  have q1 : (1 : Int) ≤ x.rl := by omega
  have q2 : (x.rl : Int) ≤ 4 := by omega
  have a1 : decide (at_ < 0) = false := by simpa using h1
  have a2 : (op != 2) = true := by simpa using h2
  have a3 : (op != 1) = true := by simpa using h3
  go_enter Tryd.func42, Tryd.ntmps42
  obtain ⟨d0, d1, d2, d3, d4, d5, d6, d7⟩ := obj_cells HO.out
  go_wp2_with fail
  refine (HR _).mono ?_
  rintro e w1 ⟨rfl, s1⟩
  have HO1 := Lib.hid (HO.out.same s1)
  have HS1 := Lib.hid (HS.out.trans s1)
  clear s1 d0 d1 d2 d3 d4 d5 d6 d7 HO HS HR
  obtain ⟨d0, d1, d2, d3, d4, d5, d6, d7⟩ := obj_cells HO1.out
  go_wp2_with fail
  refine (rwrites_reg x.k hk _).mono ?_
  rintro e w' ⟨rfl, rfl⟩
  go_wp2_with fail
  refine (rreads_reg x.k hk _).mono ?_
  rintro e w' ⟨rfl, rfl⟩
  go_wp2
  go_ret2
  exact ⟨rfl, HS1.out⟩

theorem rb_range_wr1 (at_ op reader : Int) (A : Option Addr) (m c : Nat) (w : World) (hk : x.k ≠ 6) (HR : ∀ w', Calls Tryd.prog 79 #[.agg #[.int .i64 x.k, .int .i64 x.wd, .int .i64 x.sl, .int .i64 x.cp, .int .u32 x.sa, .slice x.ia x.il x.ic, .int .i64 x.ow, .slice x.ra x.rl x.rc]] w' fun e w'' => e = .returned (.bool true) ∧ Same w' w'') (hm : m ≤ 5000) (hrl : 1 ≤ x.rl ∧ x.rl ≤ 4) (h1 : ¬ at_ < 0) (h2 : op = 2) (h3 : reader < 0) :
    Calls Tryd.prog 42 #[.agg #[.int .i64 x.k, .int .i64 x.wd, .int .i64 x.sl, .int .i64 x.cp, .int .u32 x.sa, .slice x.ia x.il x.ic, .int .i64 x.ow, .slice x.ra x.rl x.rc], .int .i64 at_, .int .i64 op, .int .i64 reader, .slice A m c] w fun e w' => e = .returned (.tuple #[.pointer none, .int .i64 5]) ∧ Same w w' := by
  have ho := Blk.new w 45 #[.int .i64 x.k, .int .i64 x.wd, .int .i64 x.sl, .int .i64 x.cp, .int .u32 x.sa, .slice x.ia x.il x.ic, .int .i64 x.ow, .slice x.ra x.rl x.rc]
  have hs := (Same.refl w).alloc (.cells #[.int .i64 x.k, .int .i64 x.wd, .int .i64 x.sl, .int .i64 x.cp, .int .u32 x.sa, .slice x.ia x.il x.ic, .int .i64 x.ow, .slice x.ra x.rl x.rc] 45)
  have HO := Lib.hid ho
  have HS := Lib.hid hs
  clear ho hs
  obtain ⟨hl1, hl2⟩ := hrl
  have q1 : (1 : Int) ≤ x.rl := by omega
  have q2 : (x.rl : Int) ≤ 4 := by omega
  have a1 : decide (at_ < 0) = false := by simpa using h1
  have a2 : (op != 2) = false := by simpa using h2
  have a3 : (op == 2) = true := by simpa using h2
  subst h2
  have a5 : decide (reader < 0) = true := by simpa using h3
  go_enter Tryd.func42, Tryd.ntmps42
  obtain ⟨d0, d1, d2, d3, d4, d5, d6, d7⟩ := obj_cells HO.out
  go_wp2_with fail
  refine (HR _).mono ?_
  rintro e w1 ⟨rfl, s1⟩
  have HO1 := Lib.hid (HO.out.same s1)
  have HS1 := Lib.hid (HS.out.trans s1)
  clear s1 d0 d1 d2 d3 d4 d5 d6 d7 HO HS HR
  obtain ⟨d0, d1, d2, d3, d4, d5, d6, d7⟩ := obj_cells HO1.out
  go_wp2_with fail
  refine (rwrites_reg x.k hk _).mono ?_
  rintro e w' ⟨rfl, rfl⟩
  go_wp2_with fail
  refine (rwrites_reg x.k hk _).mono ?_
  rintro e w' ⟨rfl, rfl⟩
  go_wp2
  go_ret2
  exact ⟨rfl, HS1.out⟩

theorem rb_range_wr2 (at_ op reader : Int) (A : Option Addr) (m c : Nat) (w : World) (hk : x.k ≠ 6) (HR : ∀ w', Calls Tryd.prog 79 #[.agg #[.int .i64 x.k, .int .i64 x.wd, .int .i64 x.sl, .int .i64 x.cp, .int .u32 x.sa, .slice x.ia x.il x.ic, .int .i64 x.ow, .slice x.ra x.rl x.rc]] w' fun e w'' => e = .returned (.bool true) ∧ Same w' w'') (hm : m ≤ 5000) (hrl : 1 ≤ x.rl ∧ x.rl ≤ 4) (h1 : ¬ at_ < 0) (h2 : op = 2) (h3 : 0 < reader) :
    Calls Tryd.prog 42 #[.agg #[.int .i64 x.k, .int .i64 x.wd, .int .i64 x.sl, .int .i64 x.cp, .int .u32 x.sa, .slice x.ia x.il x.ic, .int .i64 x.ow, .slice x.ra x.rl x.rc], .int .i64 at_, .int .i64 op, .int .i64 reader, .slice A m c] w fun e w' => e = .returned (.tuple #[.pointer none, .int .i64 5]) ∧ Same w w' := by
  have ho := Blk.new w 45 #[.int .i64 x.k, .int .i64 x.wd, .int .i64 x.sl, .int .i64 x.cp, .int .u32 x.sa, .slice x.ia x.il x.ic, .int .i64 x.ow, .slice x.ra x.rl x.rc]
  have hs := (Same.refl w).alloc (.cells #[.int .i64 x.k, .int .i64 x.wd, .int .i64 x.sl, .int .i64 x.cp, .int .u32 x.sa, .slice x.ia x.il x.ic, .int .i64 x.ow, .slice x.ra x.rl x.rc] 45)
  have HO := Lib.hid ho
  have HS := Lib.hid hs
  clear ho hs
  obtain ⟨hl1, hl2⟩ := hrl
  have q1 : (1 : Int) ≤ x.rl := by omega
  have q2 : (x.rl : Int) ≤ 4 := by omega
  have a1 : decide (at_ < 0) = false := by simpa using h1
  have a2 : (op != 2) = false := by simpa using h2
  have a3 : (op == 2) = true := by simpa using h2
  subst h2
  have a5 : decide (reader < 0) = false := by simp; omega
  have a6 : decide (0 < reader) = true := by simpa using h3
  go_enter Tryd.func42, Tryd.ntmps42
  obtain ⟨d0, d1, d2, d3, d4, d5, d6, d7⟩ := obj_cells HO.out
  go_wp2_with fail
  refine (HR _).mono ?_
  rintro e w1 ⟨rfl, s1⟩
  have HO1 := Lib.hid (HO.out.same s1)
  have HS1 := Lib.hid (HS.out.trans s1)
  clear s1 d0 d1 d2 d3 d4 d5 d6 d7 HO HS HR
  obtain ⟨d0, d1, d2, d3, d4, d5, d6, d7⟩ := obj_cells HO1.out
  go_wp2_with fail
  refine (rwrites_reg x.k hk _).mono ?_
  rintro e w' ⟨rfl, rfl⟩
  go_wp2_with fail
  refine (rwrites_reg x.k hk _).mono ?_
  rintro e w' ⟨rfl, rfl⟩
  go_wp2
  go_ret2
  exact ⟨rfl, HS1.out⟩

theorem rb_form_wr (at_ op reader : Int) (A : Option Addr) (m c : Nat) (w : World) (hk : x.k ≠ 6) (HR : ∀ w', Calls Tryd.prog 79 #[.agg #[.int .i64 x.k, .int .i64 x.wd, .int .i64 x.sl, .int .i64 x.cp, .int .u32 x.sa, .slice x.ia x.il x.ic, .int .i64 x.ow, .slice x.ra x.rl x.rc]] w' fun e w'' => e = .returned (.bool true) ∧ Same w' w'') (hm : m ≤ 5000) (hrl : 1 ≤ x.rl ∧ x.rl ≤ 4) (h1 : ¬ at_ < 0) (h2 : op = 2) (h3 : reader = 0) (h4 : (m : Int) ≠ x.wd) :
    Calls Tryd.prog 42 #[.agg #[.int .i64 x.k, .int .i64 x.wd, .int .i64 x.sl, .int .i64 x.cp, .int .u32 x.sa, .slice x.ia x.il x.ic, .int .i64 x.ow, .slice x.ra x.rl x.rc], .int .i64 at_, .int .i64 op, .int .i64 reader, .slice A m c] w fun e w' => e = .returned (.tuple #[.pointer none, .int .i64 4]) ∧ Same w w' := by
  have ho := Blk.new w 45 #[.int .i64 x.k, .int .i64 x.wd, .int .i64 x.sl, .int .i64 x.cp, .int .u32 x.sa, .slice x.ia x.il x.ic, .int .i64 x.ow, .slice x.ra x.rl x.rc]
  have hs := (Same.refl w).alloc (.cells #[.int .i64 x.k, .int .i64 x.wd, .int .i64 x.sl, .int .i64 x.cp, .int .u32 x.sa, .slice x.ia x.il x.ic, .int .i64 x.ow, .slice x.ra x.rl x.rc] 45)
  have HO := Lib.hid ho
  have HS := Lib.hid hs
  clear ho hs
  obtain ⟨hl1, hl2⟩ := hrl
  have q1 : (1 : Int) ≤ x.rl := by omega
  have q2 : (x.rl : Int) ≤ 4 := by omega
  have a1 : decide (at_ < 0) = false := by simpa using h1
  have a2 : (op != 2) = false := by simpa using h2
  have a3 : (op == 2) = true := by simpa using h2
  subst h2
  have a5 : decide (reader < 0) = false := by simp; omega
  have a6 : decide (0 < reader) = false := by simp; omega
  have a7 : decide ((x.rl : Int) ≤ reader) = false := by simp; omega
  have a8 : ((m : Int) != x.wd) = true := by simpa using h4
  go_enter Tryd.func42, Tryd.ntmps42
  obtain ⟨d0, d1, d2, d3, d4, d5, d6, d7⟩ := obj_cells HO.out
  go_wp2_with fail
  refine (HR _).mono ?_
  rintro e w1 ⟨rfl, s1⟩
  have HO1 := Lib.hid (HO.out.same s1)
  have HS1 := Lib.hid (HS.out.trans s1)
  clear s1 d0 d1 d2 d3 d4 d5 d6 d7 HO HS HR
  obtain ⟨d0, d1, d2, d3, d4, d5, d6, d7⟩ := obj_cells HO1.out
  go_wp2_with fail
  refine (rwrites_reg x.k hk _).mono ?_
  rintro e w' ⟨rfl, rfl⟩
  go_wp2_with fail
  refine (rwrites_reg x.k hk _).mono ?_
  rintro e w' ⟨rfl, rfl⟩
  go_wp2
  go_ret2
  exact ⟨rfl, HS1.out⟩

theorem rb_range_rd1 (at_ op reader : Int) (A : Option Addr) (m c : Nat) (w : World) (hk : x.k ≠ 6) (HR : ∀ w', Calls Tryd.prog 79 #[.agg #[.int .i64 x.k, .int .i64 x.wd, .int .i64 x.sl, .int .i64 x.cp, .int .u32 x.sa, .slice x.ia x.il x.ic, .int .i64 x.ow, .slice x.ra x.rl x.rc]] w' fun e w'' => e = .returned (.bool true) ∧ Same w' w'') (hm : m ≤ 5000) (hrl : 1 ≤ x.rl ∧ x.rl ≤ 4) (h1 : ¬ at_ < 0) (h2 : op = 1) (h3 : reader < 0) :
    Calls Tryd.prog 42 #[.agg #[.int .i64 x.k, .int .i64 x.wd, .int .i64 x.sl, .int .i64 x.cp, .int .u32 x.sa, .slice x.ia x.il x.ic, .int .i64 x.ow, .slice x.ra x.rl x.rc], .int .i64 at_, .int .i64 op, .int .i64 reader, .slice A m c] w fun e w' => e = .returned (.tuple #[.pointer none, .int .i64 5]) ∧ Same w w' := by
  have ho := Blk.new w 45 #[.int .i64 x.k, .int .i64 x.wd, .int .i64 x.sl, .int .i64 x.cp, .int .u32 x.sa, .slice x.ia x.il x.ic, .int .i64 x.ow, .slice x.ra x.rl x.rc]
  have hs := (Same.refl w).alloc (.cells #[.int .i64 x.k, .int .i64 x.wd, .int .i64 x.sl, .int .i64 x.cp, .int .u32 x.sa, .slice x.ia x.il x.ic, .int .i64 x.ow, .slice x.ra x.rl x.rc] 45)
  have HO := Lib.hid ho
  have HS := Lib.hid hs
  clear ho hs
  obtain ⟨hl1, hl2⟩ := hrl
  have q1 : (1 : Int) ≤ x.rl := by omega
  have q2 : (x.rl : Int) ≤ 4 := by omega
  have a1 : decide (at_ < 0) = false := by simpa using h1
  have a2 : (op != 2) = true := by simp [h2]
  have a3 : (op != 1) = false := by simpa using h2
  have a4 : (op == 2) = false := by simp [h2]
  subst h2
  have a5 : decide (reader < 0) = true := by simpa using h3
  go_enter Tryd.func42, Tryd.ntmps42
  obtain ⟨d0, d1, d2, d3, d4, d5, d6, d7⟩ := obj_cells HO.out
  go_wp2_with fail
  refine (HR _).mono ?_
  rintro e w1 ⟨rfl, s1⟩
  have HO1 := Lib.hid (HO.out.same s1)
  have HS1 := Lib.hid (HS.out.trans s1)
  clear s1 d0 d1 d2 d3 d4 d5 d6 d7 HO HS HR
  obtain ⟨d0, d1, d2, d3, d4, d5, d6, d7⟩ := obj_cells HO1.out
  go_wp2_with fail
  refine (rwrites_reg x.k hk _).mono ?_
  rintro e w' ⟨rfl, rfl⟩
  go_wp2_with fail
  refine (rreads_reg x.k hk _).mono ?_
  rintro e w' ⟨rfl, rfl⟩
  go_wp2_with fail
  refine (rwrites_reg x.k hk _).mono ?_
  rintro e w' ⟨rfl, rfl⟩
  go_wp2
  go_ret2
  exact ⟨rfl, HS1.out⟩

theorem rb_range_rd2 (at_ op reader : Int) (A : Option Addr) (m c : Nat) (w : World) (hk : x.k ≠ 6) (HR : ∀ w', Calls Tryd.prog 79 #[.agg #[.int .i64 x.k, .int .i64 x.wd, .int .i64 x.sl, .int .i64 x.cp, .int .u32 x.sa, .slice x.ia x.il x.ic, .int .i64 x.ow, .slice x.ra x.rl x.rc]] w' fun e w'' => e = .returned (.bool true) ∧ Same w' w'') (hm : m ≤ 5000) (hrl : 1 ≤ x.rl ∧ x.rl ≤ 4) (h1 : ¬ at_ < 0) (h2 : op = 1) (h3 : ¬ reader < 0) (h4 : (x.rl : Int) ≤ reader) :
    Calls Tryd.prog 42 #[.agg #[.int .i64 x.k, .int .i64 x.wd, .int .i64 x.sl, .int .i64 x.cp, .int .u32 x.sa, .slice x.ia x.il x.ic, .int .i64 x.ow, .slice x.ra x.rl x.rc], .int .i64 at_, .int .i64 op, .int .i64 reader, .slice A m c] w fun e w' => e = .returned (.tuple #[.pointer none, .int .i64 5]) ∧ Same w w' := by
  have ho := Blk.new w 45 #[.int .i64 x.k, .int .i64 x.wd, .int .i64 x.sl, .int .i64 x.cp, .int .u32 x.sa, .slice x.ia x.il x.ic, .int .i64 x.ow, .slice x.ra x.rl x.rc]
  have hs := (Same.refl w).alloc (.cells #[.int .i64 x.k, .int .i64 x.wd, .int .i64 x.sl, .int .i64 x.cp, .int .u32 x.sa, .slice x.ia x.il x.ic, .int .i64 x.ow, .slice x.ra x.rl x.rc] 45)
  have HO := Lib.hid ho
  have HS := Lib.hid hs
  clear ho hs
  obtain ⟨hl1, hl2⟩ := hrl
  have q1 : (1 : Int) ≤ x.rl := by omega
  have q2 : (x.rl : Int) ≤ 4 := by omega
  have a1 : decide (at_ < 0) = false := by simpa using h1
  have a2 : (op != 2) = true := by simp [h2]
  have a3 : (op != 1) = false := by simpa using h2
  have a4 : (op == 2) = false := by simp [h2]
  subst h2
  have a5 : decide (reader < 0) = false := by simpa using h3
  have a6 : decide ((x.rl : Int) ≤ reader) = true := by simpa using h4
  go_enter Tryd.func42, Tryd.ntmps42
  obtain ⟨d0, d1, d2, d3, d4, d5, d6, d7⟩ := obj_cells HO.out
  go_wp2_with fail
  refine (HR _).mono ?_
  rintro e w1 ⟨rfl, s1⟩
  have HO1 := Lib.hid (HO.out.same s1)
  have HS1 := Lib.hid (HS.out.trans s1)
  clear s1 d0 d1 d2 d3 d4 d5 d6 d7 HO HS HR
  obtain ⟨d0, d1, d2, d3, d4, d5, d6, d7⟩ := obj_cells HO1.out
  go_wp2_with fail
  refine (rwrites_reg x.k hk _).mono ?_
  rintro e w' ⟨rfl, rfl⟩
  go_wp2_with fail
  refine (rreads_reg x.k hk _).mono ?_
  rintro e w' ⟨rfl, rfl⟩
  go_wp2_with fail
  refine (rwrites_reg x.k hk _).mono ?_
  rintro e w' ⟨rfl, rfl⟩
  go_wp2
  go_ret2
  exact ⟨rfl, HS1.out⟩

theorem rb_form_rd (at_ op reader : Int) (A : Option Addr) (m c : Nat) (w : World) (hk : x.k ≠ 6) (HR : ∀ w', Calls Tryd.prog 79 #[.agg #[.int .i64 x.k, .int .i64 x.wd, .int .i64 x.sl, .int .i64 x.cp, .int .u32 x.sa, .slice x.ia x.il x.ic, .int .i64 x.ow, .slice x.ra x.rl x.rc]] w' fun e w'' => e = .returned (.bool true) ∧ Same w' w'') (hm : m ≤ 5000) (hrl : 1 ≤ x.rl ∧ x.rl ≤ 4) (h1 : ¬ at_ < 0) (h2 : op = 1) (h3 : ¬ reader < 0) (h4 : ¬ (x.rl : Int) ≤ reader) (h5 : (m : Int) ≠ 0) :
    Calls Tryd.prog 42 #[.agg #[.int .i64 x.k, .int .i64 x.wd, .int .i64 x.sl, .int .i64 x.cp, .int .u32 x.sa, .slice x.ia x.il x.ic, .int .i64 x.ow, .slice x.ra x.rl x.rc], .int .i64 at_, .int .i64 op, .int .i64 reader, .slice A m c] w fun e w' => e = .returned (.tuple #[.pointer none, .int .i64 4]) ∧ Same w w' := by
  have ho := Blk.new w 45 #[.int .i64 x.k, .int .i64 x.wd, .int .i64 x.sl, .int .i64 x.cp, .int .u32 x.sa, .slice x.ia x.il x.ic, .int .i64 x.ow, .slice x.ra x.rl x.rc]
  have hs := (Same.refl w).alloc (.cells #[.int .i64 x.k, .int .i64 x.wd, .int .i64 x.sl, .int .i64 x.cp, .int .u32 x.sa, .slice x.ia x.il x.ic, .int .i64 x.ow, .slice x.ra x.rl x.rc] 45)
  have HO := Lib.hid ho
  have HS := Lib.hid hs
  clear ho hs
  obtain ⟨hl1, hl2⟩ := hrl
  have q1 : (1 : Int) ≤ x.rl := by omega
  have q2 : (x.rl : Int) ≤ 4 := by omega
  have a1 : decide (at_ < 0) = false := by simpa using h1
  have a2 : (op != 2) = true := by simp [h2]
  have a3 : (op != 1) = false := by simpa using h2
  have a4 : (op == 2) = false := by simp [h2]
  subst h2
  have a5 : decide (reader < 0) = false := by simpa using h3
  have a6 : decide ((x.rl : Int) ≤ reader) = false := by simpa using h4
  have a7 : decide (0 < (m : Int)) = true := by simp; omega
  go_enter Tryd.func42, Tryd.ntmps42
  obtain ⟨d0, d1, d2, d3, d4, d5, d6, d7⟩ := obj_cells HO.out
  go_wp2_with fail
  refine (HR _).mono ?_
  rintro e w1 ⟨rfl, s1⟩
  have HO1 := Lib.hid (HO.out.same s1)
  have HS1 := Lib.hid (HS.out.trans s1)
  clear s1 d0 d1 d2 d3 d4 d5 d6 d7 HO HS HR
  obtain ⟨d0, d1, d2, d3, d4, d5, d6, d7⟩ := obj_cells HO1.out
  go_wp2_with fail
  refine (rwrites_reg x.k hk _).mono ?_
  rintro e w' ⟨rfl, rfl⟩
  go_wp2_with fail
  refine (rreads_reg x.k hk _).mono ?_
  rintro e w' ⟨rfl, rfl⟩
  go_wp2_with fail
  refine (rwrites_reg x.k hk _).mono ?_
  rintro e w' ⟨rfl, rfl⟩
  go_wp2
  go_ret2
  exact ⟨rfl, HS1.out⟩

/-- an operation of the document's has begun -/
def RBegun (x : Ox) (at_ op reader : Int) (rec : List Int) (w : World) (e : Ending) (w' : World) : Prop :=
  ∃ g A c, e = .returned (.tuple #[.pointer (some ⟨g, 0, none⟩), .int .i64 0]) ∧ Same w w' ∧ w.heap.size ≤ g ∧ Blk w' g 68 (rfCells x at_ op reader (Op.start rec) A c).toArray ∧ Own w' w.heap.size 22 A c (rec.map (Value.int .u32))

set_option maxHeartbeats 1000000 in
set_option maxRecDepth 100000 in
theorem rb_ok_wr (at_ op reader : Int) (A : Option Addr) (m c : Nat) (rec : List Int) (w : World) (hk : x.k ≠ 6) (HR : ∀ w', Calls Tryd.prog 79 #[.agg #[.int .i64 x.k, .int .i64 x.wd, .int .i64 x.sl, .int .i64 x.cp, .int .u32 x.sa, .slice x.ia x.il x.ic, .int .i64 x.ow, .slice x.ra x.rl x.rc]] w' fun e w'' => e = .returned (.bool true) ∧ Same w' w'') (hm : m ≤ 5000) (hrl : 1 ≤ x.rl ∧ x.rl ≤ 4) (hrec : rec.length = m) (hrow : Row w A (rec.map (Value.int .u32))) (h1 : ¬ at_ < 0) (h2 : op = 2) (h3 : reader = 0) (h4 : (m : Int) = x.wd) :
    Calls Tryd.prog 42 #[.agg #[.int .i64 x.k, .int .i64 x.wd, .int .i64 x.sl, .int .i64 x.cp, .int .u32 x.sa, .slice x.ia x.il x.ic, .int .i64 x.ow, .slice x.ra x.rl x.rc], .int .i64 at_, .int .i64 op, .int .i64 reader, .slice A m c] w (RBegun x at_ op reader rec w) := by
  have ho := Blk.new w 45 #[.int .i64 x.k, .int .i64 x.wd, .int .i64 x.sl, .int .i64 x.cp, .int .u32 x.sa, .slice x.ia x.il x.ic, .int .i64 x.ow, .slice x.ra x.rl x.rc]
  have hs := (Same.refl w).alloc (.cells #[.int .i64 x.k, .int .i64 x.wd, .int .i64 x.sl, .int .i64 x.cp, .int .u32 x.sa, .slice x.ia x.il x.ic, .int .i64 x.ow, .slice x.ra x.rl x.rc] 45)
  have HO := Lib.hid ho
  have HS := Lib.hid hs
  have HREC := Lib.hid hrec
  have HROW := Lib.hid hrow
  clear ho hs hrow
  obtain ⟨hl1, hl2⟩ := hrl
  have q1 : (1 : Int) ≤ x.rl := by omega
  have q2 : (x.rl : Int) ≤ 4 := by omega
  have a1 : decide (at_ < 0) = false := by simpa using h1
  have a2 : (op != 2) = false := by simpa using h2
  have a3 : (op == 2) = true := by simpa using h2
  subst h2
  have a5 : decide (reader < 0) = false := by simp; omega
  have a6 : decide (0 < reader) = false := by simp; omega
  have a7 : decide ((x.rl : Int) ≤ reader) = false := by simp; omega
  have a8 : ((m : Int) != x.wd) = false := by simpa using h4
  go_enter Tryd.func42, Tryd.ntmps42
  obtain ⟨d0, d1, d2, d3, d4, d5, d6, d7⟩ := obj_cells HO.out
  go_wp2_with fail
  refine (HR _).mono ?_
  rintro e w1 ⟨rfl, s1⟩
  have HO1 := Lib.hid (HO.out.same s1)
  have HS1 := Lib.hid (HS.out.trans s1)
  clear s1 d0 d1 d2 d3 d4 d5 d6 d7 HO HS HR
  obtain ⟨d0, d1, d2, d3, d4, d5, d6, d7⟩ := obj_cells HO1.out
  go_wp2_with fail
  refine (rwrites_reg x.k hk _).mono ?_
  rintro e w' ⟨rfl, rfl⟩
  go_wp2_with fail
  refine (rwrites_reg x.k hk _).mono ?_
  rintro e w' ⟨rfl, rfl⟩
  go_upto_region 10 with fail
  have HLT := Lib.hid HO1.out.lt
  obtain ⟨i0, hi0, hz0, hz1, hz2⟩ := info_parts u32_info
  have sa := ((Same.refl w1).alloc (.cells #[] 22)).drew
  have HSA := Lib.hid sa
  have HOA := Lib.hid (HO1.out.same sa)
  have HOW : Hid (Own (w1.alloc (.cells #[] 22)).drew w1.heap.size 22 (some ⟨w1.heap.size, 0, none⟩) 0 []) := Lib.hid (own_none w1 _)
  have HRA : Hid (Row (w1.alloc (.cells #[] 22)).drew A (rec.map (Value.int .u32))) := Lib.hid ((HROW.out.same HS1.out).same sa)
  have HM5 := Lib.hid hm
  obtain ⟨e0, e1, e2, e3, e4, e5, e6, e7⟩ := obj_cells (HO1.out.same ((Same.refl w1).alloc (.cells #[] 22)))
  clear sa
  go_region_law ((refine step_app (by rfl) (.tmp 74) (.tmp 75) 28 (by rfl) w1.heap.size 22 i0 _ 4 Tryd.underlying28 hi0 hz0 hz1 hz2 rfl (some ⟨w1.heap.size, 0, none⟩) 0 0 [] (by rfl) rfl HOW.out A m c (rec.map (Value.int .u32)) (by rfl) (by rw [List.length_map]; exact HREC.out) HRA.out (words_one rec) (by rw [List.length_map]; have := HREC.out; have := HM5.out; simp only [List.length_nil]; omega) (by omega) (by simp) ?_; intro A' c' w5 o5 h5 hA5; have O5 := Lib.hid o5; have H5 := Lib.hid h5; obtain ⟨k0, k1, k2, k3, k4, k5, k6, k7⟩ := obj_cells (HOA.out.chg h5 (fun e => by injection e with e; injection e with e; have := HLT.out; omega)); clear o5 h5 hA5))
  all_goals
    go_wp2
    go_ret2
    have S5 : Same w w5 := (HS1.out.trans HSA.out).more H5.out (fun i hi => by injection hi with hi; injection hi with hi; have := HS1.out.size; omega)
    refine ⟨_, A', c', rfl, S5.alloc _, S5.size, ?_, ?_⟩
    · have e : m = rec.length := HREC.out.symm
      subst e
      subst h3
      exact Blk.new _ _ _
    have o := O5.out
    simp only [List.nil_append] at o
    exact (o.same ((Same.refl w5).alloc _)).base HS1.out.size

set_option maxHeartbeats 1000000 in
set_option maxRecDepth 100000 in
theorem rb_ok_rd (at_ op reader : Int) (A : Option Addr) (m c : Nat) (rec : List Int) (w : World) (hk : x.k ≠ 6) (HR : ∀ w', Calls Tryd.prog 79 #[.agg #[.int .i64 x.k, .int .i64 x.wd, .int .i64 x.sl, .int .i64 x.cp, .int .u32 x.sa, .slice x.ia x.il x.ic, .int .i64 x.ow, .slice x.ra x.rl x.rc]] w' fun e w'' => e = .returned (.bool true) ∧ Same w' w'') (hm : m ≤ 5000) (hrl : 1 ≤ x.rl ∧ x.rl ≤ 4) (hrec : rec.length = m) (hrow : Row w A (rec.map (Value.int .u32))) (h1 : ¬ at_ < 0) (h2 : op = 1) (h3 : ¬ reader < 0) (h4 : ¬ (x.rl : Int) ≤ reader) (h5 : m = 0) :
    Calls Tryd.prog 42 #[.agg #[.int .i64 x.k, .int .i64 x.wd, .int .i64 x.sl, .int .i64 x.cp, .int .u32 x.sa, .slice x.ia x.il x.ic, .int .i64 x.ow, .slice x.ra x.rl x.rc], .int .i64 at_, .int .i64 op, .int .i64 reader, .slice A m c] w (RBegun x at_ op reader rec w) := by
  have ho := Blk.new w 45 #[.int .i64 x.k, .int .i64 x.wd, .int .i64 x.sl, .int .i64 x.cp, .int .u32 x.sa, .slice x.ia x.il x.ic, .int .i64 x.ow, .slice x.ra x.rl x.rc]
  have hs := (Same.refl w).alloc (.cells #[.int .i64 x.k, .int .i64 x.wd, .int .i64 x.sl, .int .i64 x.cp, .int .u32 x.sa, .slice x.ia x.il x.ic, .int .i64 x.ow, .slice x.ra x.rl x.rc] 45)
  have HO := Lib.hid ho
  have HS := Lib.hid hs
  have HREC := Lib.hid hrec
  have HROW := Lib.hid hrow
  clear ho hs hrow
  obtain ⟨hl1, hl2⟩ := hrl
  have q1 : (1 : Int) ≤ x.rl := by omega
  have q2 : (x.rl : Int) ≤ 4 := by omega
  have a1 : decide (at_ < 0) = false := by simpa using h1
  have a2 : (op != 2) = true := by simp [h2]
  have a3 : (op != 1) = false := by simpa using h2
  have a4 : (op == 2) = false := by simp [h2]
  subst h2
  have a5 : decide (reader < 0) = false := by simpa using h3
  have a6 : decide ((x.rl : Int) ≤ reader) = false := by simpa using h4
  have a7 : decide (0 < (m : Int)) = false := by simp; omega
  go_enter Tryd.func42, Tryd.ntmps42
  obtain ⟨d0, d1, d2, d3, d4, d5, d6, d7⟩ := obj_cells HO.out
  go_wp2_with fail
  refine (HR _).mono ?_
  rintro e w1 ⟨rfl, s1⟩
  have HO1 := Lib.hid (HO.out.same s1)
  have HS1 := Lib.hid (HS.out.trans s1)
  clear s1 d0 d1 d2 d3 d4 d5 d6 d7 HO HS HR
  obtain ⟨d0, d1, d2, d3, d4, d5, d6, d7⟩ := obj_cells HO1.out
  go_wp2_with fail
  refine (rwrites_reg x.k hk _).mono ?_
  rintro e w' ⟨rfl, rfl⟩
  go_wp2_with fail
  refine (rreads_reg x.k hk _).mono ?_
  rintro e w' ⟨rfl, rfl⟩
  go_wp2_with fail
  refine (rwrites_reg x.k hk _).mono ?_
  rintro e w' ⟨rfl, rfl⟩
  go_upto_region 10 with fail
  have HLT := Lib.hid HO1.out.lt
  obtain ⟨i0, hi0, hz0, hz1, hz2⟩ := info_parts u32_info
  have sa := ((Same.refl w1).alloc (.cells #[] 22)).drew
  have HSA := Lib.hid sa
  have HOA := Lib.hid (HO1.out.same sa)
  have HOW : Hid (Own (w1.alloc (.cells #[] 22)).drew w1.heap.size 22 (some ⟨w1.heap.size, 0, none⟩) 0 []) := Lib.hid (own_none w1 _)
  have HRA : Hid (Row (w1.alloc (.cells #[] 22)).drew A (rec.map (Value.int .u32))) := Lib.hid ((HROW.out.same HS1.out).same sa)
  have HM5 := Lib.hid hm
  obtain ⟨e0, e1, e2, e3, e4, e5, e6, e7⟩ := obj_cells (HO1.out.same ((Same.refl w1).alloc (.cells #[] 22)))
  clear sa
  go_region_law ((refine step_app (by rfl) (.tmp 74) (.tmp 75) 28 (by rfl) w1.heap.size 22 i0 _ 4 Tryd.underlying28 hi0 hz0 hz1 hz2 rfl (some ⟨w1.heap.size, 0, none⟩) 0 0 [] (by rfl) rfl HOW.out A 0 c (rec.map (Value.int .u32)) (by rfl) (by rw [List.length_map, HREC.out]; exact h5) HRA.out (words_one rec) (by rw [List.length_map]; have := HREC.out; have := HM5.out; simp only [List.length_nil]; omega) (by omega) (by simp) ?_; intro A' c' w5 o5 h5 hA5; have O5 := Lib.hid o5; have H5 := Lib.hid h5; obtain ⟨k0, k1, k2, k3, k4, k5, k6, k7⟩ := obj_cells (HOA.out.chg h5 (fun e => by injection e with e; injection e with e; have := HLT.out; omega)); clear o5 h5 hA5))
  all_goals
    go_wp2
    go_ret2
    have S5 : Same w w5 := (HS1.out.trans HSA.out).more H5.out (fun i hi => by injection hi with hi; injection hi with hi; have := HS1.out.size; omega)
    refine ⟨_, A', c', rfl, S5.alloc _, S5.size, ?_, ?_⟩
    · have e : m = rec.length := HREC.out.symm
      have e2 : rec.length = 0 := by rw [← e]; exact h5
      simp only [rfCells, rfTail, Op.start, e2]
      exact Blk.new _ _ _
    have o := O5.out
    simp only [List.nil_append] at o
    exact (o.same ((Same.refl w5).alloc _)).base HS1.out.size

theorem rbegin_no (at_ op reader : Int) (A : Option Addr) (m c : Nat) (w : World) (hk : x.k ≠ 6) (HR : ∀ w', Calls Tryd.prog 79 #[.agg #[.int .i64 x.k, .int .i64 x.wd, .int .i64 x.sl, .int .i64 x.cp, .int .u32 x.sa, .slice x.ia x.il x.ic, .int .i64 x.ow, .slice x.ra x.rl x.rc]] w' fun e w'' => e = .returned (.bool r) ∧ Same w' w'') (hm : m ≤ 5000) (hrl : r = true → 1 ≤ x.rl ∧ x.rl ≤ 4) (code : Int) (hcode : bcode r at_ op reader x.wd x.rl m = code) (hne : code ≠ 0) :
    Calls Tryd.prog 42 #[.agg #[.int .i64 x.k, .int .i64 x.wd, .int .i64 x.sl, .int .i64 x.cp, .int .u32 x.sa, .slice x.ia x.il x.ic, .int .i64 x.ow, .slice x.ra x.rl x.rc], .int .i64 at_, .int .i64 op, .int .i64 reader, .slice A m c] w fun e w' => e = .returned (.tuple #[.pointer none, .int .i64 code]) ∧ Same w w' := by
  unfold bcode at hcode
  cases r
  · rw [if_pos rfl] at hcode
    subst hcode
    exact rb_arg1 at_ op reader A m c w hk HR hm trivial
  have hrl := hrl rfl
  rw [if_neg (by simp)] at hcode
  by_cases h1 : at_ < 0
  · rw [if_pos h1] at hcode
    subst hcode
    exact rb_arg2 at_ op reader A m c w hk HR hm hrl h1
  rw [if_neg h1] at hcode
  by_cases h2 : op ≠ 2 ∧ op ≠ 1
  · rw [if_pos h2] at hcode
    subst hcode
    exact rb_call at_ op reader A m c w hk HR hm hrl h1 h2.1 h2.2
  rw [if_neg h2] at hcode
  by_cases h3 : op = 2
  · rw [if_pos h3] at hcode
    by_cases h4 : reader ≠ 0
    · rw [if_pos h4] at hcode
      subst hcode
      by_cases h5 : reader < 0
      · exact rb_range_wr1 at_ op reader A m c w hk HR hm hrl h1 h3 h5
      · exact rb_range_wr2 at_ op reader A m c w hk HR hm hrl h1 h3 (by omega)
    rw [if_neg h4] at hcode
    by_cases h5 : (m : Int) ≠ x.wd
    · rw [if_pos h5] at hcode
      subst hcode
      exact rb_form_wr at_ op reader A m c w hk HR hm hrl h1 h3 (by omega) h5
    · rw [if_neg h5] at hcode
      exact absurd hcode.symm hne
  · rw [if_neg h3] at hcode
    have h3 : op = 1 := by omega
    by_cases h4 : ¬ (0 ≤ reader ∧ reader ≤ (x.rl : Int) - 1)
    · rw [if_pos h4] at hcode
      subst hcode
      by_cases h5 : reader < 0
      · exact rb_range_rd1 at_ op reader A m c w hk HR hm hrl h1 h3 h5
      · exact rb_range_rd2 at_ op reader A m c w hk HR hm hrl h1 h3 h5 (by omega)
    rw [if_neg h4] at hcode
    by_cases h5 : (m : Int) ≠ 0
    · rw [if_pos h5] at hcode
      subst hcode
      exact rb_form_rd at_ op reader A m c w hk HR hm hrl h1 h3 (by omega) (by omega) h5
    · rw [if_neg h5] at hcode
      exact absurd hcode.symm hne

theorem rbegin_yes (at_ op reader : Int) (A : Option Addr) (m c : Nat) (rec : List Int) (w : World) (hk : x.k ≠ 6) (HR : ∀ w', Calls Tryd.prog 79 #[.agg #[.int .i64 x.k, .int .i64 x.wd, .int .i64 x.sl, .int .i64 x.cp, .int .u32 x.sa, .slice x.ia x.il x.ic, .int .i64 x.ow, .slice x.ra x.rl x.rc]] w' fun e w'' => e = .returned (.bool r) ∧ Same w' w'') (hm : m ≤ 5000) (hrl : r = true → 1 ≤ x.rl ∧ x.rl ≤ 4) (hrec : rec.length = m) (hrow : Row w A (rec.map (Value.int .u32))) (hcode : bcode r at_ op reader x.wd x.rl m = 0) :
    Calls Tryd.prog 42 #[.agg #[.int .i64 x.k, .int .i64 x.wd, .int .i64 x.sl, .int .i64 x.cp, .int .u32 x.sa, .slice x.ia x.il x.ic, .int .i64 x.ow, .slice x.ra x.rl x.rc], .int .i64 at_, .int .i64 op, .int .i64 reader, .slice A m c] w (RBegun x at_ op reader rec w) := by
  unfold bcode at hcode
  cases r
  · rw [if_pos rfl] at hcode
    cases hcode
  have hrl := hrl rfl
  rw [if_neg (by simp)] at hcode
  by_cases h1 : at_ < 0
  · rw [if_pos h1] at hcode
    cases hcode
  rw [if_neg h1] at hcode
  by_cases h2 : op ≠ 2 ∧ op ≠ 1
  · rw [if_pos h2] at hcode
    cases hcode
  rw [if_neg h2] at hcode
  by_cases h3 : op = 2
  · rw [if_pos h3] at hcode
    by_cases h4 : reader ≠ 0
    · rw [if_pos h4] at hcode
      cases hcode
    rw [if_neg h4] at hcode
    by_cases h5 : (m : Int) ≠ x.wd
    · rw [if_pos h5] at hcode
      cases hcode
    exact rb_ok_wr at_ op reader A m c rec w hk HR hm hrl hrec hrow h1 h3 (by omega) (by omega)
  · rw [if_neg h3] at hcode
    have h3 : op = 1 := by omega
    by_cases h4 : ¬ (0 ≤ reader ∧ reader ≤ (x.rl : Int) - 1)
    · rw [if_pos h4] at hcode
      cases hcode
    rw [if_neg h4] at hcode
    by_cases h5 : (m : Int) ≠ 0
    · rw [if_pos h5] at hcode
      cases hcode
    exact rb_ok_rd at_ op reader A m c rec w hk HR hm hrl hrec hrow h1 h3 (by omega) (by omega) (by omega)
end
end Go.Proofs.YtejajmdmfipplabDoor.Rf
