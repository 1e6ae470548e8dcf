/-

 Package row (layer 35): At of tasks and of objects, at any place.
-/
import Derived.Test.YthhbhbfkbncegaaGreatDoorDmdBase
import Derived.Test.YthhbhbfkbncegaaGreatDoorImgIn
import Derived.Deep.CutBlock
set_option linter.unusedVariables false
set_option linter.unusedSimpArgs false
namespace Go.Proofs.YthhbhbfkbncegaaGreatDoor.Dm
open Go.ChangeShapes Go.WideShapes Go.ChangeAt Go.RowKit Ws
open Im (PT PO PS TsAt OsAt SysAt tcells ocells)

theorem chgRow {S : Nat → Prop} {a b : World} (h : Chg S a b) {g : Nat} (hg : S g ∨ a.heap.size ≤ g) (cs : Array Value) : Chg S a (b.setRow g cs) := by
 refine ⟨h.os, h.tape, h.output, by simpa [World.setRow] using h.size, fun i hi hn => ?_⟩
 rw [← h.block i hi hn]
 unfold World.setRow
 simp only [Array.getElem?_modify]
 rw [if_neg]
 rintro rfl
 rcases hg with hg | hg
 ·exact hn hg
 ·omega
theorem rowb {w : World} {g : Nat} {T : TypeId} {old cs : Array Value} (h : Blk w g T old) : Blk (w.setRow g cs) g T cs := setRow_heap w g old cs T (0, 0) h

set_option maxRecDepth 100000 in
set_option maxHeartbeats 2000000 in
theorem rowt_out (A : Option Addr) (n c : Nat) (i : Int) (w : World) (h : i < 0 ∨ (n : Int) ≤ i) :
 Calls Tryz.prog 48 #[.slice A n c, .int .i64 i] w fun e w' => e = .returned (.tuple #[.agg #[.int .i64 0, .int .i64 0, .int .i64 0, .int .i64 0, .int .i64 0, .int .i64 0, .slice none 0 0], .bool false]) ∧ Same w w' := by
 rcases (show i < 0 ∨ (¬ i < 0 ∧ (n : Int) ≤ i) by omega) with h0 | ⟨h1, h2⟩
 ·have d0 : decide (i < 0) = true := decide_eq_true h0
  clear h
  have B0 := Lib.hid (Blk.new w 47 #[.int .i64 0, .int .i64 0, .int .i64 0, .int .i64 0, .int .i64 0, .int .i64 0, .slice none 0 0])
  have s0 := (Same.refl w).alloc (.cells #[.int .i64 0, .int .i64 0, .int .i64 0, .int .i64 0, .int .i64 0, .int .i64 0, .slice none 0 0] 47)
  have S0 := Lib.hid s0
  go_enter Tryz.func48, Tryz.ntmps48
  go_upto_region 2 with fail
  generalize hw0 : w.alloc (.cells #[.int .i64 0, .int .i64 0, .int .i64 0, .int .i64 0, .int .i64 0, .int .i64 0, .slice none 0 0] 47) = w0 at *
  obtain ⟨q, hqq⟩ : ∃ q, q = w.heap.size := ⟨_, rfl⟩
  have HQ := Lib.hid hqq
  rw [← hqq] at B0
  rw [← hqq]
  clear hqq s0 hw0
  have B1 := Lib.hid (B0.out.same ((Same.refl w0).alloc (.cells #[.int .i64 0, .int .i64 0, .int .i64 0, .int .i64 0, .int .i64 0, .int .i64 0, .slice none 0 0] 47)))
  have B2 := Lib.hid (Blk.new w0 47 #[.int .i64 0, .int .i64 0, .int .i64 0, .int .i64 0, .int .i64 0, .int .i64 0, .slice none 0 0])
  have S1 := Lib.hid (S0.out.alloc (.cells #[.int .i64 0, .int .i64 0, .int .i64 0, .int .i64 0, .int .i64 0, .int .i64 0, .slice none 0 0] 47))
  go_upto_region 3 with fail
  generalize w0.alloc (.cells #[.int .i64 0, .int .i64 0, .int .i64 0, .int .i64 0, .int .i64 0, .int .i64 0, .slice none 0 0] 47) = w1 at *
  generalize w0.heap.size = q2 at *
  clear B0 S0
  have HIF := Lib.hid (show (Tryz.prog.info? 47).map (·.size) = some (#[.int .i64 0, .int .i64 0, .int .i64 0, .int .i64 0, .int .i64 0, .int .i64 0, .slice none 0 0] : Array Value).size by kernel_rfl)
  go_wp2_with (first | (refine wpList_load_row rfl 47 (.tmp 6) rfl q2 rfl 47 #[.int .i64 0, .int .i64 0, .int .i64 0, .int .i64 0, .int .i64 0, .int .i64 0, .slice none 0 0] (0, 0) _ B2.out Tryz.underlying47 rfl HIF.out ?_) | (refine wpList_store_row rfl 47 (.tmp 4) (.tmp 15) rfl q #[.int .i64 0, .int .i64 0, .int .i64 0, .int .i64 0, .int .i64 0, .int .i64 0, .slice none 0 0] rfl rfl 47 #[.int .i64 0, .int .i64 0, .int .i64 0, .int .i64 0, .int .i64 0, .int .i64 0, .slice none 0 0] B1.out HIF.out rfl (by simp [Value.oneCell']) ?_))
  refine bodyPost_ret (v := .tuple #[.agg #[.int .i64 0, .int .i64 0, .int .i64 0, .int .i64 0, .int .i64 0, .int .i64 0, .slice none 0 0], .bool false]) (res_cell_tmp Tryz.results48 _ _ q 47 #[.int .i64 0, .int .i64 0, .int .i64 0, .int .i64 0, .int .i64 0, .int .i64 0, .slice none 0 0] (0, 0) _ rfl (rowb B1.out) Tryz.underlying47 rfl HIF.out) rfl ?_
  exact ⟨rfl, chgRow S1.out (.inr (by have := HQ.out; omega)) _⟩
 ·have d0 : decide (i < 0) = false := decide_eq_false h1
  have d1 : decide ((n : Int) ≤ i) = true := decide_eq_true h2
  clear h
  have B0 := Lib.hid (Blk.new w 47 #[.int .i64 0, .int .i64 0, .int .i64 0, .int .i64 0, .int .i64 0, .int .i64 0, .slice none 0 0])
  have s0 := (Same.refl w).alloc (.cells #[.int .i64 0, .int .i64 0, .int .i64 0, .int .i64 0, .int .i64 0, .int .i64 0, .slice none 0 0] 47)
  have S0 := Lib.hid s0
  go_enter Tryz.func48, Tryz.ntmps48
  go_upto_region 2 with fail
  generalize hw0 : w.alloc (.cells #[.int .i64 0, .int .i64 0, .int .i64 0, .int .i64 0, .int .i64 0, .int .i64 0, .slice none 0 0] 47) = w0 at *
  obtain ⟨q, hqq⟩ : ∃ q, q = w.heap.size := ⟨_, rfl⟩
  have HQ := Lib.hid hqq
  rw [← hqq] at B0
  rw [← hqq]
  clear hqq s0 hw0
  have B1 := Lib.hid (B0.out.same ((Same.refl w0).alloc (.cells #[.int .i64 0, .int .i64 0, .int .i64 0, .int .i64 0, .int .i64 0, .int .i64 0, .slice none 0 0] 47)))
  have B2 := Lib.hid (Blk.new w0 47 #[.int .i64 0, .int .i64 0, .int .i64 0, .int .i64 0, .int .i64 0, .int .i64 0, .slice none 0 0])
  have S1 := Lib.hid (S0.out.alloc (.cells #[.int .i64 0, .int .i64 0, .int .i64 0, .int .i64 0, .int .i64 0, .int .i64 0, .slice none 0 0] 47))
  go_upto_region 3 with fail
  generalize w0.alloc (.cells #[.int .i64 0, .int .i64 0, .int .i64 0, .int .i64 0, .int .i64 0, .int .i64 0, .slice none 0 0] 47) = w1 at *
  generalize w0.heap.size = q2 at *
  clear B0 S0
  have HIF := Lib.hid (show (Tryz.prog.info? 47).map (·.size) = some (#[.int .i64 0, .int .i64 0, .int .i64 0, .int .i64 0, .int .i64 0, .int .i64 0, .slice none 0 0] : Array Value).size by kernel_rfl)
  go_wp2_with (first | (refine wpList_load_row rfl 47 (.tmp 6) rfl q2 rfl 47 #[.int .i64 0, .int .i64 0, .int .i64 0, .int .i64 0, .int .i64 0, .int .i64 0, .slice none 0 0] (0, 0) _ B2.out Tryz.underlying47 rfl HIF.out ?_) | (refine wpList_store_row rfl 47 (.tmp 4) (.tmp 15) rfl q #[.int .i64 0, .int .i64 0, .int .i64 0, .int .i64 0, .int .i64 0, .int .i64 0, .slice none 0 0] rfl rfl 47 #[.int .i64 0, .int .i64 0, .int .i64 0, .int .i64 0, .int .i64 0, .int .i64 0, .slice none 0 0] B1.out HIF.out rfl (by simp [Value.oneCell']) ?_))
  refine bodyPost_ret (v := .tuple #[.agg #[.int .i64 0, .int .i64 0, .int .i64 0, .int .i64 0, .int .i64 0, .int .i64 0, .slice none 0 0], .bool false]) (res_cell_tmp Tryz.results48 _ _ q 47 #[.int .i64 0, .int .i64 0, .int .i64 0, .int .i64 0, .int .i64 0, .int .i64 0, .slice none 0 0] (0, 0) _ rfl (rowb B1.out) Tryz.underlying47 rfl HIF.out) rfl ?_
  exact ⟨rfl, chgRow S1.out (.inr (by have := HQ.out; omega)) _⟩
set_option maxRecDepth 100000 in
set_option maxHeartbeats 2000000 in
theorem rowo_out (A : Option Addr) (n c : Nat) (i : Int) (w : World) (h : i < 0 ∨ (n : Int) ≤ i) :
 Calls Tryz.prog 104 #[.slice A n c, .int .i64 i] w fun e w' => e = .returned (.tuple #[.agg #[.int .i64 0, .int .i64 0, .int .i64 0, .int .i64 0, .int .u32 0, .slice none 0 0, .int .i64 0, .slice none 0 0], .bool false]) ∧ Same w w' := by
 rcases (show i < 0 ∨ (¬ i < 0 ∧ (n : Int) ≤ i) by omega) with h0 | ⟨h1, h2⟩
 ·have d0 : decide (i < 0) = true := decide_eq_true h0
  clear h
  have B0 := Lib.hid (Blk.new w 34 #[.int .i64 0, .int .i64 0, .int .i64 0, .int .i64 0, .int .u32 0, .slice none 0 0, .int .i64 0, .slice none 0 0])
  have s0 := (Same.refl w).alloc (.cells #[.int .i64 0, .int .i64 0, .int .i64 0, .int .i64 0, .int .u32 0, .slice none 0 0, .int .i64 0, .slice none 0 0] 34)
  have S0 := Lib.hid s0
  go_enter Tryz.func104, Tryz.ntmps104
  go_upto_region 2 with fail
  generalize hw0 : w.alloc (.cells #[.int .i64 0, .int .i64 0, .int .i64 0, .int .i64 0, .int .u32 0, .slice none 0 0, .int .i64 0, .slice none 0 0] 34) = w0 at *
  obtain ⟨q, hqq⟩ : ∃ q, q = w.heap.size := ⟨_, rfl⟩
  have HQ := Lib.hid hqq
  rw [← hqq] at B0
  rw [← hqq]
  clear hqq s0 hw0
  have B1 := Lib.hid (B0.out.same ((Same.refl w0).alloc (.cells #[.int .i64 0, .int .i64 0, .int .i64 0, .int .i64 0, .int .u32 0, .slice none 0 0, .int .i64 0, .slice none 0 0] 34)))
  have B2 := Lib.hid (Blk.new w0 34 #[.int .i64 0, .int .i64 0, .int .i64 0, .int .i64 0, .int .u32 0, .slice none 0 0, .int .i64 0, .slice none 0 0])
  have S1 := Lib.hid (S0.out.alloc (.cells #[.int .i64 0, .int .i64 0, .int .i64 0, .int .i64 0, .int .u32 0, .slice none 0 0, .int .i64 0, .slice none 0 0] 34))
  go_upto_region 3 with fail
  generalize w0.alloc (.cells #[.int .i64 0, .int .i64 0, .int .i64 0, .int .i64 0, .int .u32 0, .slice none 0 0, .int .i64 0, .slice none 0 0] 34) = w1 at *
  generalize w0.heap.size = q2 at *
  clear B0 S0
  have HIF := Lib.hid (show (Tryz.prog.info? 34).map (·.size) = some (#[.int .i64 0, .int .i64 0, .int .i64 0, .int .i64 0, .int .u32 0, .slice none 0 0, .int .i64 0, .slice none 0 0] : Array Value).size by kernel_rfl)
  go_wp2_with (first | (refine wpList_load_row rfl 34 (.tmp 6) rfl q2 rfl 34 #[.int .i64 0, .int .i64 0, .int .i64 0, .int .i64 0, .int .u32 0, .slice none 0 0, .int .i64 0, .slice none 0 0] (0, 0) _ B2.out Tryz.underlying34 rfl HIF.out ?_) | (refine wpList_store_row rfl 34 (.tmp 4) (.tmp 15) rfl q #[.int .i64 0, .int .i64 0, .int .i64 0, .int .i64 0, .int .u32 0, .slice none 0 0, .int .i64 0, .slice none 0 0] rfl rfl 34 #[.int .i64 0, .int .i64 0, .int .i64 0, .int .i64 0, .int .u32 0, .slice none 0 0, .int .i64 0, .slice none 0 0] B1.out HIF.out rfl (by simp [Value.oneCell']) ?_))
  refine bodyPost_ret (v := .tuple #[.agg #[.int .i64 0, .int .i64 0, .int .i64 0, .int .i64 0, .int .u32 0, .slice none 0 0, .int .i64 0, .slice none 0 0], .bool false]) (res_cell_tmp Tryz.results104 _ _ q 34 #[.int .i64 0, .int .i64 0, .int .i64 0, .int .i64 0, .int .u32 0, .slice none 0 0, .int .i64 0, .slice none 0 0] (0, 0) _ rfl (rowb B1.out) Tryz.underlying34 rfl HIF.out) rfl ?_
  exact ⟨rfl, chgRow S1.out (.inr (by have := HQ.out; omega)) _⟩
 ·have d0 : decide (i < 0) = false := decide_eq_false h1
  have d1 : decide ((n : Int) ≤ i) = true := decide_eq_true h2
  clear h
  have B0 := Lib.hid (Blk.new w 34 #[.int .i64 0, .int .i64 0, .int .i64 0, .int .i64 0, .int .u32 0, .slice none 0 0, .int .i64 0, .slice none 0 0])
  have s0 := (Same.refl w).alloc (.cells #[.int .i64 0, .int .i64 0, .int .i64 0, .int .i64 0, .int .u32 0, .slice none 0 0, .int .i64 0, .slice none 0 0] 34)
  have S0 := Lib.hid s0
  go_enter Tryz.func104, Tryz.ntmps104
  go_upto_region 2 with fail
  generalize hw0 : w.alloc (.cells #[.int .i64 0, .int .i64 0, .int .i64 0, .int .i64 0, .int .u32 0, .slice none 0 0, .int .i64 0, .slice none 0 0] 34) = w0 at *
  obtain ⟨q, hqq⟩ : ∃ q, q = w.heap.size := ⟨_, rfl⟩
  have HQ := Lib.hid hqq
  rw [← hqq] at B0
  rw [← hqq]
  clear hqq s0 hw0
  have B1 := Lib.hid (B0.out.same ((Same.refl w0).alloc (.cells #[.int .i64 0, .int .i64 0, .int .i64 0, .int .i64 0, .int .u32 0, .slice none 0 0, .int .i64 0, .slice none 0 0] 34)))
  have B2 := Lib.hid (Blk.new w0 34 #[.int .i64 0, .int .i64 0, .int .i64 0, .int .i64 0, .int .u32 0, .slice none 0 0, .int .i64 0, .slice none 0 0])
  have S1 := Lib.hid (S0.out.alloc (.cells #[.int .i64 0, .int .i64 0, .int .i64 0, .int .i64 0, .int .u32 0, .slice none 0 0, .int .i64 0, .slice none 0 0] 34))
  go_upto_region 3 with fail
  generalize w0.alloc (.cells #[.int .i64 0, .int .i64 0, .int .i64 0, .int .i64 0, .int .u32 0, .slice none 0 0, .int .i64 0, .slice none 0 0] 34) = w1 at *
  generalize w0.heap.size = q2 at *
  clear B0 S0
  have HIF := Lib.hid (show (Tryz.prog.info? 34).map (·.size) = some (#[.int .i64 0, .int .i64 0, .int .i64 0, .int .i64 0, .int .u32 0, .slice none 0 0, .int .i64 0, .slice none 0 0] : Array Value).size by kernel_rfl)
  go_wp2_with (first | (refine wpList_load_row rfl 34 (.tmp 6) rfl q2 rfl 34 #[.int .i64 0, .int .i64 0, .int .i64 0, .int .i64 0, .int .u32 0, .slice none 0 0, .int .i64 0, .slice none 0 0] (0, 0) _ B2.out Tryz.underlying34 rfl HIF.out ?_) | (refine wpList_store_row rfl 34 (.tmp 4) (.tmp 15) rfl q #[.int .i64 0, .int .i64 0, .int .i64 0, .int .i64 0, .int .u32 0, .slice none 0 0, .int .i64 0, .slice none 0 0] rfl rfl 34 #[.int .i64 0, .int .i64 0, .int .i64 0, .int .i64 0, .int .u32 0, .slice none 0 0, .int .i64 0, .slice none 0 0] B1.out HIF.out rfl (by simp [Value.oneCell']) ?_))
  refine bodyPost_ret (v := .tuple #[.agg #[.int .i64 0, .int .i64 0, .int .i64 0, .int .i64 0, .int .u32 0, .slice none 0 0, .int .i64 0, .slice none 0 0], .bool false]) (res_cell_tmp Tryz.results104 _ _ q 34 #[.int .i64 0, .int .i64 0, .int .i64 0, .int .i64 0, .int .u32 0, .slice none 0 0, .int .i64 0, .slice none 0 0] (0, 0) _ rfl (rowb B1.out) Tryz.underlying34 rfl HIF.out) rfl ?_
  exact ⟨rfl, chgRow S1.out (.inr (by have := HQ.out; omega)) _⟩
/-- what row.At tells of a list of tasks -/
def RowT (w : World) (ts : List PT) (i : Int) (e : Ending) (w' : World) : Prop :=
 Same w w' ∧ ((∃ (k : Nat) (p : PT) (X : Option Addr) (cX : Nat), i = k ∧ ts[k]? = some p ∧ Im.Code w X p.code ∧ p.code.length ≤ maxLen ∧ e = .returned (.tuple #[.agg #[.int .i64 p.kind, .int .i64 p.prio, .int .i64 p.per, .int .i64 p.off, .int .i64 p.dl, .int .i64 p.own, .slice X p.code.length cX], .bool true])) ∨
  ((i < 0 ∨ (ts.length : Int) ≤ i) ∧ e = .returned (.tuple #[.agg #[.int .i64 0, .int .i64 0, .int .i64 0, .int .i64 0, .int .i64 0, .int .i64 0, .slice none 0 0], .bool false])))
theorem rowt_any (A : Option Addr) (n c : Nat) (ts : List PT) (i : Int) (w : World) (h : TsAt w A ts) (hn : ts.length = n) : Calls Tryz.prog 48 #[.slice A n c, .int .i64 i] w (RowT w ts i) := by
 by_cases hi : i < 0 ∨ (n : Int) ≤ i
 ·refine (rowt_out A n c i w hi).mono ?_
  rintro e w' ⟨rfl, s⟩
  exact ⟨s, .inr ⟨by rw [hn]; exact hi, rfl⟩⟩
 ·obtain ⟨k, rfl⟩ : ∃ k : Nat, i = k := ⟨i.toNat, by omega⟩
  have hk : k < ts.length := by omega
  have hp : ts[k]? = some ts[k] := List.getElem?_eq_getElem hk
  obtain ⟨b, o, rfl, X, cX, h0, h1, h2, h3, h4, h5, h6, h7, h8⟩ := h.at_ hp
  refine (rowt_in b o n c k _ _ _ _ _ _ X _ cX w (by omega) h0 h1 h2 h3 h4 h5 h6).mono ?_
  rintro e w' ⟨rfl, s⟩
  exact ⟨s, .inl ⟨k, ts[k], X, cX, rfl, hp, h7, h8, rfl⟩⟩
/-- .. of objects -/
def RowO (w : World) (os : List PO) (i : Int) (e : Ending) (w' : World) : Prop :=
 Same w w' ∧ ((∃ (k : Nat) (p : PO) (X : Option Addr) (cX : Nat) (Y : Option Addr) (cY : Nat), i = k ∧ os[k]? = some p ∧ (0 ≤ p.sa ∧ p.sa < 4294967296) ∧ e = .returned (.tuple #[.agg #[.int .i64 p.k, .int .i64 p.wd, .int .i64 p.sl, .int .i64 p.cp, .int .u32 p.sa, .slice X p.ini.length cX, .int .i64 p.ow, .slice Y p.rd.length cY], .bool true])) ∨
  ((i < 0 ∨ (os.length : Int) ≤ i) ∧ e = .returned (.tuple #[.agg #[.int .i64 0, .int .i64 0, .int .i64 0, .int .i64 0, .int .u32 0, .slice none 0 0, .int .i64 0, .slice none 0 0], .bool false])))
theorem rowo_any (A : Option Addr) (n c : Nat) (os : List PO) (i : Int) (w : World) (h : OsAt w A os) (hn : os.length = n) : Calls Tryz.prog 104 #[.slice A n c, .int .i64 i] w (RowO w os i) := by
 by_cases hi : i < 0 ∨ (n : Int) ≤ i
 ·refine (rowo_out A n c i w hi).mono ?_
  rintro e w' ⟨rfl, s⟩
  exact ⟨s, .inr ⟨by rw [hn]; exact hi, rfl⟩⟩
 ·obtain ⟨k, rfl⟩ : ∃ k : Nat, i = k := ⟨i.toNat, by omega⟩
  have hk : k < os.length := by omega
  have hp : os[k]? = some os[k] := List.getElem?_eq_getElem hk
  obtain ⟨b, o, rfl, X, cX, Y, cY, h0, h1, h2, h3, h4, h5, h6, h7, h8, h9⟩ := h.at_ hp
  refine (rowo_in b o n c k _ _ _ _ _ X _ cX _ Y _ cY w (by omega) h0 h1 h2 h3 h4 h5 h6 h7).mono ?_
  rintro e w' ⟨rfl, s⟩
  exact ⟨s, .inl ⟨k, os[k], X, cX, Y, cY, rfl, hp, h8, rfl⟩⟩
end Go.Proofs.YthhbhbfkbncegaaGreatDoor.Dm
