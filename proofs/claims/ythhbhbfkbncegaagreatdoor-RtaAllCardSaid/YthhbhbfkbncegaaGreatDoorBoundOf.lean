/-

 How many steps operations have, if attempts fail (layer 35): of the program, and of the document.
-/
import Derived.Test.YthhbhbfkbncegaaGreatDoorRows
import Derived.Test.YthhbhbfkbncegaaGreatDoorWordsK
import Derived.Test.YthhbhbfkbncegaaGreatDoorOpKeep
import Derived.Test.YthhbhbfkbncegaaGreatDoorRegionOff
import Derived.WalkKit
import Derived.WalkLawsBesides
import Derived.ProofKit
import Derived.OpenShut
import Derived.Lib.Hide
import Derived.Deep.QuietTactic
import Derived.BigQuiet
import Derived.Deep.LoopGhost
import Derived.Deep.RegionHeld3
import Derived.Deep.CutRange
import Derived.Deep.CutBlock
import Derived.StillTailTactics
import Derived.Laws.Rows
import Derived.Laws.ResultCell
import Derived.Test.YthhbhbfkbncegaaGreatDoorWordBase
section
section
set_option linter.unusedSimpArgs false
set_option linter.unusedVariables false

namespace Go.Proofs.YthhbhbfkbncegaaGreatDoor.Mm
theorem ret_int {k : IntKind} {a b : Int} (h : a = b) : Ending.returned (.int k a) = .returned (.int k b) := by rw [h]
theorem ret_bool {a b : Bool} (h : a = b) : Ending.returned (.bool a) = .returned (.bool b) := by rw [h]
end Go.Proofs.YthhbhbfkbncegaaGreatDoor.Mm
namespace Go.Proofs.YthhbhbfkbncegaaGreatDoor.Pa
end Go.Proofs.YthhbhbfkbncegaaGreatDoor.Pa
end
section
set_option linter.unusedSimpArgs false
set_option linter.unusedVariables false
namespace Go.Proofs.YthhbhbfkbncegaaGreatDoor.Ob
open Go.ChangeShapes Go.WideShapes Go.ChangeAt Go.RowKit Ws Mm Pa

theorem and_one (x : Int) (h : 0 ≤ x ∧ x < 4294967296) : bits .and .u32 x 1 = x % 2 := by
 obtain ⟨n, rfl⟩ := Int.eq_ofNat_of_zero_le h.1
 have := u32_and_nat n 1 (by omega) (by omega)
 rw [show ((1 : Nat) : Int) = 1 from rfl] at this
 rw [this, Nat.and_one_is_mod]
 omega
theorem u32_in (x : Int) (h : 0 ≤ x ∧ x < 4294967296) : IntKind.u32.wrap x = x := by
 rw [IntKind.wrap_u32']
 omega
theorem i64_in (x : Int) (h : -9223372036854775808 ≤ x ∧ x ≤ 9223372036854775807) : IntKind.i64.wrap x = x := Go.IntWalk.i64_in _ (by omega)
theorem within_any (n a b : Int) (w : World) : Calls Tryz.prog 176 #[.int .i64 n, .int .i64 a, .int .i64 b] w fun e w' => e = .returned (.bool (decide (a ≤ n ∧ n ≤ b))) ∧ w = w' := by
 go_enter Tryz.func176, Tryz.ntmps176
 go_wp2
 all_goals
  go_ret
  refine ⟨ret_bool ?_, rfl⟩
  first
   | (rw [Bool.eq_iff_iff, decide_eq_true_eq, decide_eq_true_eq]; omega)
   | (simp <;> omega)
   | (rw [decide_eq_false (by omega)])

def regB (k wd : Int) (il rl : Nat) (kind : Int) : Bool := decide (k = kind ∧ (1 ≤ wd ∧ wd ≤ 8) ∧ (il : Int) = wd ∧ (1 ≤ (rl : Int) ∧ (rl : Int) ≤ 4))

theorem within_yes (n a b : Int) (h : a ≤ n ∧ n ≤ b) (w : World) : Calls Tryz.prog 176 #[.int .i64 n, .int .i64 a, .int .i64 b] w fun e w' => e = .returned (.bool true) ∧ w = w' :=
 (within_any n a b w).mono fun e w' ⟨he, hw⟩ => ⟨by rw [he, decide_eq_true h], hw⟩
theorem within_no (n a b : Int) (h : ¬ (a ≤ n ∧ n ≤ b)) (w : World) : Calls Tryz.prog 176 #[.int .i64 n, .int .i64 a, .int .i64 b] w fun e w' => e = .returned (.bool false) ∧ w = w' :=
 (within_any n a b w).mono fun e w' ⟨he, hw⟩ => ⟨by rw [he, decide_eq_false h], hw⟩

set_option maxHeartbeats 400000 in
theorem register_any (kind k wd sl cp sa ow : Int) (ia ra : Option Addr) (il ic rl rc : Nat) (w : World) :
 Calls Tryz.prog 173 #[.agg #[.int .i64 k, .int .i64 wd, .int .i64 sl, .int .i64 cp, .int .u32 sa, .slice ia il ic, .int .i64 ow, .slice ra rl rc], .int .i64 kind] w fun e w' => e = .returned (.bool (regB k wd il rl kind)) ∧ Same w w' := by
 by_cases h1 : 1 ≤ wd ∧ wd ≤ 8
 all_goals
  by_cases h2 : 1 ≤ (rl : Int) ∧ (rl : Int) ≤ 4
  all_goals
   go_enter Tryz.func173, Tryz.ntmps173
   go_wp2_with (go_at_call 176; first | ((with_reducible refine (within_yes _ _ _ (by assumption) _).mono ?_); rintro e w' ⟨rfl, rfl⟩) | ((with_reducible refine (within_no _ _ _ (by assumption) _).mono ?_); rintro e w' ⟨rfl, rfl⟩))
   all_goals
    go_ret
    refine ⟨ret_bool ?_, (Same.refl _).alloc _⟩
    unfold regB
    first
     | (rw [Bool.eq_iff_iff, decide_eq_true_eq, decide_eq_true_eq]; omega)
     | (rw [Bool.eq_iff_iff]; simp only [beq_iff_eq, bne_iff_ne, ne_eq, beq_eq_false_iff_ne, bne_eq_false_iff_eq, decide_eq_true_eq, Bool.false_eq_true, true_iff, false_iff, and_true, true_and, and_false, false_and] at *; omega)


theorem obj_cells {w : World} {q : Nat} {T : TypeId} {k wd sl cp sa ow : Int} {ia ra : Option Addr} {il ic rl rc : Nat} (h : Blk w q T #[.int .i64 k, .int .i64 wd, .int .i64 sl, .int .i64 cp, .int .u32 sa, .slice ia il ic, .int .i64 ow, .slice ra rl rc]) :
 w.cell? ⟨q, 0, none⟩ = some (.int .i64 k) ∧ w.cell? ⟨q, 1, none⟩ = some (.int .i64 wd) ∧ w.cell? ⟨q, 2, none⟩ = some (.int .i64 sl) ∧ w.cell? ⟨q, 3, none⟩ = some (.int .i64 cp) ∧ w.cell? ⟨q, 4, none⟩ = some (.int .u32 sa) ∧
  w.cell? ⟨q, 5, none⟩ = some (.slice ia il ic) ∧ w.cell? ⟨q, 6, none⟩ = some (.int .i64 ow) ∧ w.cell? ⟨q, 7, none⟩ = some (.slice ra rl rc) :=
 ⟨h.cell 0, h.cell 1, h.cell 2, h.cell 3, h.cell 4, h.cell 5, h.cell 6, h.cell 7⟩

/-! ### the document's own: what hangs on the kind alone -/
theorem rwrites_reg (k : Int) (h : k ≠ 6) (w : World) : Calls Tryz.prog 54 #[.int .i64 k] w fun e w' => e = .returned (.int .i64 2) ∧ w = w' := by
 go_enter Tryz.func54, Tryz.ntmps54
 go_wp2
 go_ret
 exact ⟨rfl, rfl⟩
theorem rreads_reg (k : Int) (h : k ≠ 6) (w : World) : Calls Tryz.prog 56 #[.int .i64 k] w fun e w' => e = .returned (.int .i64 1) ∧ w = w' := by
 go_enter Tryz.func56, Tryz.ntmps56
 go_wp2
 go_ret
 exact ⟨rfl, rfl⟩
end Go.Proofs.YthhbhbfkbncegaaGreatDoor.Ob
end
end
section
section
section
set_option linter.unusedSimpArgs false
set_option linter.unusedVariables false
namespace Go.Proofs.YthhbhbfkbncegaaGreatDoor.Ff
open Go.ChangeShapes Go.WideShapes Go.ChangeAt Go.RowKit Ws Mm Pa
open Go.Proofs.YthhbhbfkbncegaaGreatDoor.Ob

theorem modulus_any (n : Nat) (hn : 1 ≤ n ∧ n ≤ 16) (w : World) :
 Calls Tryz.prog 181 #[.int .i64 n] w fun e w' => e = .returned (.int .u32 (2 * (n : Int))) ∧ w = w' := by
 have f1 := u32_in (n : Int) (by omega)
 have f2 := u32_in (2 * (n : Int)) (by omega)
 clear hn
 go_enter Tryz.func181, Tryz.ntmps181
 go_wp2
 go_ret
 exact ⟨rfl, rfl⟩

/-- whether an object of this kind may be -/
def rightK (k wd sl cp sa : Int) (il rl : Nat) : Bool := decide (k = 6 ∧ (1 ≤ wd ∧ wd ≤ 8) ∧ (1 ≤ sl ∧ sl ≤ 16) ∧ cp = 0 ∧ sa < 2 * sl ∧ (il : Int) = 0 ∧ (rl : Int) = 1)
def rightB (wd sl cp sa : Int) (il rl : Nat) : Bool := rightK 6 wd sl cp sa il rl
theorem HQ {wd sl cp sa : Int} {il rl : Nat} (h : rightB wd sl cp sa il rl = true) : (1 ≤ wd ∧ wd ≤ 8) ∧ (1 ≤ sl ∧ sl ≤ 16) ∧ cp = 0 ∧ sa < 2 * sl ∧ (il : Int) = 0 ∧ (rl : Int) = 1 := by
 unfold rightB rightK at h
 exact (of_decide_eq_true h).2
theorem kF {k wd sl cp sa : Int} {il rl : Nat} (h : ¬ (k = 6 ∧ (1 ≤ wd ∧ wd ≤ 8) ∧ (1 ≤ sl ∧ sl ≤ 16) ∧ cp = 0 ∧ sa < 2 * sl ∧ (il : Int) = 0 ∧ (rl : Int) = 1)) : false = rightK k wd sl cp sa il rl := (decide_eq_false h).symm
theorem four_cells {w w' : World} {q : Nat} {T : TypeId} {k wd sl cp sa ow : Int} {ia ra : Option Addr} {il ic rl rc : Nat} (h : Blk w q T #[.int .i64 k, .int .i64 wd, .int .i64 sl, .int .i64 cp, .int .u32 sa, .slice ia il ic, .int .i64 ow, .slice ra rl rc]) (s : Same w w') :
 w'.cell? ⟨q, 0, none⟩ = some (.int .i64 k) ∧ w'.cell? ⟨q, 1, none⟩ = some (.int .i64 wd) ∧ w'.cell? ⟨q, 2, none⟩ = some (.int .i64 sl) ∧ w'.cell? ⟨q, 3, none⟩ = some (.int .i64 cp) ∧ w'.cell? ⟨q, 4, none⟩ = some (.int .u32 sa) ∧ w'.cell? ⟨q, 5, none⟩ = some (.slice ia il ic) ∧ w'.cell? ⟨q, 6, none⟩ = some (.int .i64 ow) ∧ w'.cell? ⟨q, 7, none⟩ = some (.slice ra rl rc) ∧ Same w w' := by
 obtain ⟨d0, d1, d2, d3, d4, d5, d6, d7⟩ := obj_cells (h.same s)
 exact ⟨d0, d1, d2, d3, d4, d5, d6, d7, s⟩

set_option maxHeartbeats 1000000 in
set_option maxRecDepth 100000 in
theorem right_0 (k wd sl cp sa ow : Int) (ia ra : Option Addr) (il ic rl rc : Nat) (w : World) (hsa : 0 ≤ sa ∧ sa < 4294967296 := by assumption) (hk : ¬ k = 6) : Calls Tryz.prog 158 #[.agg #[.int .i64 k, .int .i64 wd, .int .i64 sl, .int .i64 cp, .int .u32 sa, .slice ia il ic, .int .i64 ow, .slice ra rl rc]] w fun e w' => e = .returned (.bool (false)) ∧ Same w w' := by
 have b_hk : (k == 6) = false := by simpa using hk
 have e_hk : decide (k = 6) = false := decide_eq_false hk
 clear hk
 have s0 := (Same.refl w).alloc (.cells #[.int .i64 k, .int .i64 wd, .int .i64 sl, .int .i64 cp, .int .u32 sa, .slice ia il ic, .int .i64 ow, .slice ra rl rc] 34)
 have hb := Blk.new w 34 #[.int .i64 k, .int .i64 wd, .int .i64 sl, .int .i64 cp, .int .u32 sa, .slice ia il ic, .int .i64 ow, .slice ra rl rc]
 have HB := Lib.hid hb
 have S := Lib.hid s0
 clear hb s0
 go_enter Tryz.func158, Tryz.ntmps158
 go_wp2_with fail
 generalize w.alloc (.cells #[.int .i64 k, .int .i64 wd, .int .i64 sl, .int .i64 cp, .int .u32 sa, .slice ia il ic, .int .i64 ow, .slice ra rl rc] 34) = wa at *
 generalize w.heap.size = q at *
 refine wp_region_held_drew (S := fun w' => w'.cell? ⟨q, 0, none⟩ = some (.int .i64 k) ∧ w'.cell? ⟨q, 1, none⟩ = some (.int .i64 wd) ∧ w'.cell? ⟨q, 2, none⟩ = some (.int .i64 sl) ∧ w'.cell? ⟨q, 3, none⟩ = some (.int .i64 cp) ∧ w'.cell? ⟨q, 4, none⟩ = some (.int .u32 sa) ∧ w'.cell? ⟨q, 5, none⟩ = some (.slice ia il ic) ∧ w'.cell? ⟨q, 6, none⟩ = some (.int .i64 ow) ∧ w'.cell? ⟨q, 7, none⟩ = some (.slice ra rl rc) ∧ Same wa w') (by kernel_rfl) ?_ (fun hHeld => ?_)
 ·exact four_cells HB.out (Same.refl _).drew
 iterate 39 ((first | refine Ro.tF 39 ?_ | (refine Ro.tN 39 ?_ ?_ ?_; rotate_left; · (intro wS hSw; (try dsimp only at hSw); go_simp; try with_reducible rfl))); try simp only [Ro.p])
 refine wpAnyH_done (by kernel_rfl) ?_ _
 have x9 := hHeld.2.2.2.2.2.2.2.2
 clear hHeld
 go_wp2
 go_ret
 exact ⟨ret_bool (by first | rfl | (rw [Bool.eq_iff_iff]; simp)), S.out.trans x9⟩
set_option maxHeartbeats 1000000 in
set_option maxRecDepth 100000 in
theorem right_1 (k wd sl cp sa ow : Int) (ia ra : Option Addr) (il ic rl rc : Nat) (w : World) (hsa : 0 ≤ sa ∧ sa < 4294967296 := by assumption) (hk : k = 6) (hw : ¬ (1 ≤ wd ∧ wd ≤ 8)) : Calls Tryz.prog 158 #[.agg #[.int .i64 k, .int .i64 wd, .int .i64 sl, .int .i64 cp, .int .u32 sa, .slice ia il ic, .int .i64 ow, .slice ra rl rc]] w fun e w' => e = .returned (.bool (false)) ∧ Same w w' := by
 have b_hk : (k == 6) = true := by simpa using hk
 have e_hk : decide (k = 6) = true := decide_eq_true hk
 have WW := fun w' => Ob.within_no wd 1 8 hw w'
 clear hw
 clear hk
 have s0 := (Same.refl w).alloc (.cells #[.int .i64 k, .int .i64 wd, .int .i64 sl, .int .i64 cp, .int .u32 sa, .slice ia il ic, .int .i64 ow, .slice ra rl rc] 34)
 have hb := Blk.new w 34 #[.int .i64 k, .int .i64 wd, .int .i64 sl, .int .i64 cp, .int .u32 sa, .slice ia il ic, .int .i64 ow, .slice ra rl rc]
 have HB := Lib.hid hb
 have S := Lib.hid s0
 clear hb s0
 go_enter Tryz.func158, Tryz.ntmps158
 go_wp2_with fail
 generalize w.alloc (.cells #[.int .i64 k, .int .i64 wd, .int .i64 sl, .int .i64 cp, .int .u32 sa, .slice ia il ic, .int .i64 ow, .slice ra rl rc] 34) = wa at *
 generalize w.heap.size = q at *
 refine wp_region_held_drew (S := fun w' => w'.cell? ⟨q, 0, none⟩ = some (.int .i64 k) ∧ w'.cell? ⟨q, 1, none⟩ = some (.int .i64 wd) ∧ w'.cell? ⟨q, 2, none⟩ = some (.int .i64 sl) ∧ w'.cell? ⟨q, 3, none⟩ = some (.int .i64 cp) ∧ w'.cell? ⟨q, 4, none⟩ = some (.int .u32 sa) ∧ w'.cell? ⟨q, 5, none⟩ = some (.slice ia il ic) ∧ w'.cell? ⟨q, 6, none⟩ = some (.int .i64 ow) ∧ w'.cell? ⟨q, 7, none⟩ = some (.slice ra rl rc) ∧ Same wa w') (by kernel_rfl) ?_ (fun hHeld => ?_)
 ·exact four_cells HB.out (Same.refl _).drew
 iterate 6 ((first | refine Ro.tF 39 ?_ | (refine Ro.tN 39 ?_ ?_ ?_; rotate_left; · (intro wS hSw; (try dsimp only at hSw); go_simp; try with_reducible rfl))); try simp only [Ro.p])
 first
  | (refine Ro.tf 6 ?_)
  | (refine Ro.one_on (i := 6) rfl (by kernel_rfl) (by rfl) (fun K hK => ?_); go_simp; go_at_call 176; (with_reducible refine (WW _).mono ?_); rintro e w' ⟨rfl, rfl⟩; (first | refine hK.out _ _ ?_ (fun hNew => ?_) | (go_wp2_with fail; refine hK.out _ _ ?_ (fun hNew => ?_))); (· (exact hHeld)); clear hK K hHeld; have hHeld := hNew; clear hNew)
 try simp only [Ro.p]
 iterate 32 ((first | refine Ro.tF 39 ?_ | (refine Ro.tN 39 ?_ ?_ ?_; rotate_left; · (intro wS hSw; (try dsimp only at hSw); go_simp; try with_reducible rfl))); try simp only [Ro.p])
 refine wpAnyH_done (by kernel_rfl) ?_ _
 have x9 := hHeld.2.2.2.2.2.2.2.2
 clear hHeld
 go_wp2
 go_ret
 exact ⟨ret_bool (by first | rfl | (rw [Bool.eq_iff_iff]; simp)), S.out.trans x9⟩
set_option maxHeartbeats 1000000 in
set_option maxRecDepth 100000 in
theorem right_2 (k wd sl cp sa ow : Int) (ia ra : Option Addr) (il ic rl rc : Nat) (w : World) (hsa : 0 ≤ sa ∧ sa < 4294967296 := by assumption) (hk : k = 6) (hw : 1 ≤ wd ∧ wd ≤ 8) (hs : ¬ (1 ≤ sl ∧ sl ≤ 16)) : Calls Tryz.prog 158 #[.agg #[.int .i64 k, .int .i64 wd, .int .i64 sl, .int .i64 cp, .int .u32 sa, .slice ia il ic, .int .i64 ow, .slice ra rl rc]] w fun e w' => e = .returned (.bool (false)) ∧ Same w w' := by
 have b_hk : (k == 6) = true := by simpa using hk
 have e_hk : decide (k = 6) = true := decide_eq_true hk
 have WW := fun w' => Ob.within_yes wd 1 8 hw w'
 have WS := fun w' => Ob.within_no sl 1 16 hs w'
 clear hw
 clear hs
 clear hk
 have s0 := (Same.refl w).alloc (.cells #[.int .i64 k, .int .i64 wd, .int .i64 sl, .int .i64 cp, .int .u32 sa, .slice ia il ic, .int .i64 ow, .slice ra rl rc] 34)
 have hb := Blk.new w 34 #[.int .i64 k, .int .i64 wd, .int .i64 sl, .int .i64 cp, .int .u32 sa, .slice ia il ic, .int .i64 ow, .slice ra rl rc]
 have HB := Lib.hid hb
 have S := Lib.hid s0
 clear hb s0
 go_enter Tryz.func158, Tryz.ntmps158
 go_wp2_with fail
 generalize w.alloc (.cells #[.int .i64 k, .int .i64 wd, .int .i64 sl, .int .i64 cp, .int .u32 sa, .slice ia il ic, .int .i64 ow, .slice ra rl rc] 34) = wa at *
 generalize w.heap.size = q at *
 refine wp_region_held_drew (S := fun w' => w'.cell? ⟨q, 0, none⟩ = some (.int .i64 k) ∧ w'.cell? ⟨q, 1, none⟩ = some (.int .i64 wd) ∧ w'.cell? ⟨q, 2, none⟩ = some (.int .i64 sl) ∧ w'.cell? ⟨q, 3, none⟩ = some (.int .i64 cp) ∧ w'.cell? ⟨q, 4, none⟩ = some (.int .u32 sa) ∧ w'.cell? ⟨q, 5, none⟩ = some (.slice ia il ic) ∧ w'.cell? ⟨q, 6, none⟩ = some (.int .i64 ow) ∧ w'.cell? ⟨q, 7, none⟩ = some (.slice ra rl rc) ∧ Same wa w') (by kernel_rfl) ?_ (fun hHeld => ?_)
 ·exact four_cells HB.out (Same.refl _).drew
 iterate 6 ((first | refine Ro.tF 39 ?_ | (refine Ro.tN 39 ?_ ?_ ?_; rotate_left; · (intro wS hSw; (try dsimp only at hSw); go_simp; try with_reducible rfl))); try simp only [Ro.p])
 first
  | (refine Ro.tf 6 ?_)
  | (refine Ro.one_on (i := 6) rfl (by kernel_rfl) (by rfl) (fun K hK => ?_); go_simp; go_at_call 176; (with_reducible refine (WW _).mono ?_); rintro e w' ⟨rfl, rfl⟩; (first | refine hK.out _ _ ?_ (fun hNew => ?_) | (go_wp2_with fail; refine hK.out _ _ ?_ (fun hNew => ?_))); (· (exact hHeld)); clear hK K hHeld; have hHeld := hNew; clear hNew)
 try simp only [Ro.p]
 iterate 4 ((first | refine Ro.tF 39 ?_ | (refine Ro.tN 39 ?_ ?_ ?_; rotate_left; · (intro wS hSw; (try dsimp only at hSw); go_simp; try with_reducible rfl))); try simp only [Ro.p])
 first
  | (refine Ro.tf 11 ?_)
  | (refine Ro.one_on (i := 11) rfl (by kernel_rfl) (by rfl) (fun K hK => ?_); go_simp; go_at_call 176; (with_reducible refine (WS _).mono ?_); rintro e w' ⟨rfl, rfl⟩; (first | refine hK.out _ _ ?_ (fun hNew => ?_) | (go_wp2_with fail; refine hK.out _ _ ?_ (fun hNew => ?_))); (· (exact hHeld)); clear hK K hHeld; have hHeld := hNew; clear hNew)
 try simp only [Ro.p]
 iterate 27 ((first | refine Ro.tF 39 ?_ | (refine Ro.tN 39 ?_ ?_ ?_; rotate_left; · (intro wS hSw; (try dsimp only at hSw); go_simp; try with_reducible rfl))); try simp only [Ro.p])
 refine wpAnyH_done (by kernel_rfl) ?_ _
 have x9 := hHeld.2.2.2.2.2.2.2.2
 clear hHeld
 go_wp2
 go_ret
 exact ⟨ret_bool (by first | rfl | (rw [Bool.eq_iff_iff]; simp)), S.out.trans x9⟩
set_option maxHeartbeats 1000000 in
set_option maxRecDepth 100000 in
theorem right_3 (k wd sl cp sa ow : Int) (ia ra : Option Addr) (il ic rl rc : Nat) (w : World) (hsa : 0 ≤ sa ∧ sa < 4294967296 := by assumption) (hk : k = 6) (hw : 1 ≤ wd ∧ wd ≤ 8) (hs : 1 ≤ sl ∧ sl ≤ 16) (hc : ¬ cp = 0) : Calls Tryz.prog 158 #[.agg #[.int .i64 k, .int .i64 wd, .int .i64 sl, .int .i64 cp, .int .u32 sa, .slice ia il ic, .int .i64 ow, .slice ra rl rc]] w fun e w' => e = .returned (.bool (false)) ∧ Same w w' := by
 have b_hk : (k == 6) = true := by simpa using hk
 have e_hk : decide (k = 6) = true := decide_eq_true hk
 have b_hc : (cp == 0) = false := by simpa using hc
 have e_hc : decide (cp = 0) = false := decide_eq_false hc
 have WW := fun w' => Ob.within_yes wd 1 8 hw w'
 have WS := fun w' => Ob.within_yes sl 1 16 hs w'
 clear hw
 clear hs
 clear hk hc
 have s0 := (Same.refl w).alloc (.cells #[.int .i64 k, .int .i64 wd, .int .i64 sl, .int .i64 cp, .int .u32 sa, .slice ia il ic, .int .i64 ow, .slice ra rl rc] 34)
 have hb := Blk.new w 34 #[.int .i64 k, .int .i64 wd, .int .i64 sl, .int .i64 cp, .int .u32 sa, .slice ia il ic, .int .i64 ow, .slice ra rl rc]
 have HB := Lib.hid hb
 have S := Lib.hid s0
 clear hb s0
 go_enter Tryz.func158, Tryz.ntmps158
 go_wp2_with fail
 generalize w.alloc (.cells #[.int .i64 k, .int .i64 wd, .int .i64 sl, .int .i64 cp, .int .u32 sa, .slice ia il ic, .int .i64 ow, .slice ra rl rc] 34) = wa at *
 generalize w.heap.size = q at *
 refine wp_region_held_drew (S := fun w' => w'.cell? ⟨q, 0, none⟩ = some (.int .i64 k) ∧ w'.cell? ⟨q, 1, none⟩ = some (.int .i64 wd) ∧ w'.cell? ⟨q, 2, none⟩ = some (.int .i64 sl) ∧ w'.cell? ⟨q, 3, none⟩ = some (.int .i64 cp) ∧ w'.cell? ⟨q, 4, none⟩ = some (.int .u32 sa) ∧ w'.cell? ⟨q, 5, none⟩ = some (.slice ia il ic) ∧ w'.cell? ⟨q, 6, none⟩ = some (.int .i64 ow) ∧ w'.cell? ⟨q, 7, none⟩ = some (.slice ra rl rc) ∧ Same wa w') (by kernel_rfl) ?_ (fun hHeld => ?_)
 ·exact four_cells HB.out (Same.refl _).drew
 iterate 6 ((first | refine Ro.tF 39 ?_ | (refine Ro.tN 39 ?_ ?_ ?_; rotate_left; · (intro wS hSw; (try dsimp only at hSw); go_simp; try with_reducible rfl))); try simp only [Ro.p])
 first
  | (refine Ro.tf 6 ?_)
  | (refine Ro.one_on (i := 6) rfl (by kernel_rfl) (by rfl) (fun K hK => ?_); go_simp; go_at_call 176; (with_reducible refine (WW _).mono ?_); rintro e w' ⟨rfl, rfl⟩; (first | refine hK.out _ _ ?_ (fun hNew => ?_) | (go_wp2_with fail; refine hK.out _ _ ?_ (fun hNew => ?_))); (· (exact hHeld)); clear hK K hHeld; have hHeld := hNew; clear hNew)
 try simp only [Ro.p]
 iterate 4 ((first | refine Ro.tF 39 ?_ | (refine Ro.tN 39 ?_ ?_ ?_; rotate_left; · (intro wS hSw; (try dsimp only at hSw); go_simp; try with_reducible rfl))); try simp only [Ro.p])
 first
  | (refine Ro.tf 11 ?_)
  | (refine Ro.one_on (i := 11) rfl (by kernel_rfl) (by rfl) (fun K hK => ?_); go_simp; go_at_call 176; (with_reducible refine (WS _).mono ?_); rintro e w' ⟨rfl, rfl⟩; (first | refine hK.out _ _ ?_ (fun hNew => ?_) | (go_wp2_with fail; refine hK.out _ _ ?_ (fun hNew => ?_))); (· (exact hHeld)); clear hK K hHeld; have hHeld := hNew; clear hNew)
 try simp only [Ro.p]
 iterate 27 ((first | refine Ro.tF 39 ?_ | (refine Ro.tN 39 ?_ ?_ ?_; rotate_left; · (intro wS hSw; (try dsimp only at hSw); go_simp; try with_reducible rfl))); try simp only [Ro.p])
 refine wpAnyH_done (by kernel_rfl) ?_ _
 have x9 := hHeld.2.2.2.2.2.2.2.2
 clear hHeld
 go_wp2
 go_ret
 exact ⟨ret_bool (by first | rfl | (rw [Bool.eq_iff_iff]; simp)), S.out.trans x9⟩
set_option maxHeartbeats 1000000 in
set_option maxRecDepth 100000 in
theorem right_4 (k wd sl cp sa ow : Int) (ia ra : Option Addr) (il ic rl rc : Nat) (w : World) (hsa : 0 ≤ sa ∧ sa < 4294967296 := by assumption) (hk : k = 6) (hw : 1 ≤ wd ∧ wd ≤ 8) (hs : 1 ≤ sl ∧ sl ≤ 16) (hc : cp = 0) (ha : ¬ sa < 2 * sl) : Calls Tryz.prog 158 #[.agg #[.int .i64 k, .int .i64 wd, .int .i64 sl, .int .i64 cp, .int .u32 sa, .slice ia il ic, .int .i64 ow, .slice ra rl rc]] w fun e w' => e = .returned (.bool (false)) ∧ Same w w' := by
 have b_hk : (k == 6) = true := by simpa using hk
 have e_hk : decide (k = 6) = true := decide_eq_true hk
 have b_hc : (cp == 0) = true := by simpa using hc
 have e_hc : decide (cp = 0) = true := decide_eq_true hc
 have MD := fun w' => modulus_any sl.toNat (by omega) w'
 rw [show ((sl.toNat : Nat) : Int) = sl by omega] at MD
 have e_ha : decide (sa < 2 * sl) = false := decide_eq_false ha
 have WW := fun w' => Ob.within_yes wd 1 8 hw w'
 have WS := fun w' => Ob.within_yes sl 1 16 hs w'
 clear hw
 clear hs
 clear hk hc ha
 have s0 := (Same.refl w).alloc (.cells #[.int .i64 k, .int .i64 wd, .int .i64 sl, .int .i64 cp, .int .u32 sa, .slice ia il ic, .int .i64 ow, .slice ra rl rc] 34)
 have hb := Blk.new w 34 #[.int .i64 k, .int .i64 wd, .int .i64 sl, .int .i64 cp, .int .u32 sa, .slice ia il ic, .int .i64 ow, .slice ra rl rc]
 have HB := Lib.hid hb
 have S := Lib.hid s0
 clear hb s0
 go_enter Tryz.func158, Tryz.ntmps158
 go_wp2_with fail
 generalize w.alloc (.cells #[.int .i64 k, .int .i64 wd, .int .i64 sl, .int .i64 cp, .int .u32 sa, .slice ia il ic, .int .i64 ow, .slice ra rl rc] 34) = wa at *
 generalize w.heap.size = q at *
 refine wp_region_held_drew (S := fun w' => w'.cell? ⟨q, 0, none⟩ = some (.int .i64 k) ∧ w'.cell? ⟨q, 1, none⟩ = some (.int .i64 wd) ∧ w'.cell? ⟨q, 2, none⟩ = some (.int .i64 sl) ∧ w'.cell? ⟨q, 3, none⟩ = some (.int .i64 cp) ∧ w'.cell? ⟨q, 4, none⟩ = some (.int .u32 sa) ∧ w'.cell? ⟨q, 5, none⟩ = some (.slice ia il ic) ∧ w'.cell? ⟨q, 6, none⟩ = some (.int .i64 ow) ∧ w'.cell? ⟨q, 7, none⟩ = some (.slice ra rl rc) ∧ Same wa w') (by kernel_rfl) ?_ (fun hHeld => ?_)
 ·exact four_cells HB.out (Same.refl _).drew
 iterate 6 ((first | refine Ro.tF 39 ?_ | (refine Ro.tN 39 ?_ ?_ ?_; rotate_left; · (intro wS hSw; (try dsimp only at hSw); go_simp; try with_reducible rfl))); try simp only [Ro.p])
 first
  | (refine Ro.tf 6 ?_)
  | (refine Ro.one_on (i := 6) rfl (by kernel_rfl) (by rfl) (fun K hK => ?_); go_simp; go_at_call 176; (with_reducible refine (WW _).mono ?_); rintro e w' ⟨rfl, rfl⟩; (first | refine hK.out _ _ ?_ (fun hNew => ?_) | (go_wp2_with fail; refine hK.out _ _ ?_ (fun hNew => ?_))); (· (exact hHeld)); clear hK K hHeld; have hHeld := hNew; clear hNew)
 try simp only [Ro.p]
 iterate 4 ((first | refine Ro.tF 39 ?_ | (refine Ro.tN 39 ?_ ?_ ?_; rotate_left; · (intro wS hSw; (try dsimp only at hSw); go_simp; try with_reducible rfl))); try simp only [Ro.p])
 first
  | (refine Ro.tf 11 ?_)
  | (refine Ro.one_on (i := 11) rfl (by kernel_rfl) (by rfl) (fun K hK => ?_); go_simp; go_at_call 176; (with_reducible refine (WS _).mono ?_); rintro e w' ⟨rfl, rfl⟩; (first | refine hK.out _ _ ?_ (fun hNew => ?_) | (go_wp2_with fail; refine hK.out _ _ ?_ (fun hNew => ?_))); (· (exact hHeld)); clear hK K hHeld; have hHeld := hNew; clear hNew)
 try simp only [Ro.p]
 iterate 11 ((first | refine Ro.tF 39 ?_ | (refine Ro.tN 39 ?_ ?_ ?_; rotate_left; · (intro wS hSw; (try dsimp only at hSw); go_simp; try with_reducible rfl))); try simp only [Ro.p])
 first
  | (refine Ro.tf 23 ?_)
  | (refine Ro.one_on (i := 23) rfl (by kernel_rfl) (by rfl) (fun K hK => ?_); go_simp; go_at_call 181; (with_reducible refine (MD _).mono ?_); rintro e w' ⟨rfl, rfl⟩; (first | refine hK.out _ _ ?_ (fun hNew => ?_) | (go_wp2_with fail; refine hK.out _ _ ?_ (fun hNew => ?_))); (· (exact hHeld)); clear hK K hHeld; have hHeld := hNew; clear hNew)
 try simp only [Ro.p]
 iterate 15 ((first | refine Ro.tF 39 ?_ | (refine Ro.tN 39 ?_ ?_ ?_; rotate_left; · (intro wS hSw; (try dsimp only at hSw); go_simp; try with_reducible rfl))); try simp only [Ro.p])
 refine wpAnyH_done (by kernel_rfl) ?_ _
 have x9 := hHeld.2.2.2.2.2.2.2.2
 clear hHeld
 go_wp2
 go_ret
 exact ⟨ret_bool (by first | rfl | (rw [Bool.eq_iff_iff]; simp)), S.out.trans x9⟩
set_option maxHeartbeats 1000000 in
set_option maxRecDepth 100000 in
theorem right_5 (k wd sl cp sa ow : Int) (ia ra : Option Addr) (il ic rl rc : Nat) (w : World) (hsa : 0 ≤ sa ∧ sa < 4294967296 := by assumption) (hk : k = 6) (hw : 1 ≤ wd ∧ wd ≤ 8) (hs : 1 ≤ sl ∧ sl ≤ 16) (hc : cp = 0) (ha : sa < 2 * sl) (hi : ¬ (il : Int) = 0) : Calls Tryz.prog 158 #[.agg #[.int .i64 k, .int .i64 wd, .int .i64 sl, .int .i64 cp, .int .u32 sa, .slice ia il ic, .int .i64 ow, .slice ra rl rc]] w fun e w' => e = .returned (.bool (false)) ∧ Same w w' := by
 have b_hk : (k == 6) = true := by simpa using hk
 have e_hk : decide (k = 6) = true := decide_eq_true hk
 have b_hc : (cp == 0) = true := by simpa using hc
 have e_hc : decide (cp = 0) = true := decide_eq_true hc
 have b_hi : ((il : Int) == 0) = false := by simpa using hi
 have e_hi : decide ((il : Int) = 0) = false := decide_eq_false hi
 have MD := fun w' => modulus_any sl.toNat (by omega) w'
 rw [show ((sl.toNat : Nat) : Int) = sl by omega] at MD
 have e_ha : decide (sa < 2 * sl) = true := decide_eq_true ha
 have WW := fun w' => Ob.within_yes wd 1 8 hw w'
 have WS := fun w' => Ob.within_yes sl 1 16 hs w'
 clear hw
 clear hs
 clear hk hc hi ha
 have s0 := (Same.refl w).alloc (.cells #[.int .i64 k, .int .i64 wd, .int .i64 sl, .int .i64 cp, .int .u32 sa, .slice ia il ic, .int .i64 ow, .slice ra rl rc] 34)
 have hb := Blk.new w 34 #[.int .i64 k, .int .i64 wd, .int .i64 sl, .int .i64 cp, .int .u32 sa, .slice ia il ic, .int .i64 ow, .slice ra rl rc]
 have HB := Lib.hid hb
 have S := Lib.hid s0
 clear hb s0
 go_enter Tryz.func158, Tryz.ntmps158
 go_wp2_with fail
 generalize w.alloc (.cells #[.int .i64 k, .int .i64 wd, .int .i64 sl, .int .i64 cp, .int .u32 sa, .slice ia il ic, .int .i64 ow, .slice ra rl rc] 34) = wa at *
 generalize w.heap.size = q at *
 refine wp_region_held_drew (S := fun w' => w'.cell? ⟨q, 0, none⟩ = some (.int .i64 k) ∧ w'.cell? ⟨q, 1, none⟩ = some (.int .i64 wd) ∧ w'.cell? ⟨q, 2, none⟩ = some (.int .i64 sl) ∧ w'.cell? ⟨q, 3, none⟩ = some (.int .i64 cp) ∧ w'.cell? ⟨q, 4, none⟩ = some (.int .u32 sa) ∧ w'.cell? ⟨q, 5, none⟩ = some (.slice ia il ic) ∧ w'.cell? ⟨q, 6, none⟩ = some (.int .i64 ow) ∧ w'.cell? ⟨q, 7, none⟩ = some (.slice ra rl rc) ∧ Same wa w') (by kernel_rfl) ?_ (fun hHeld => ?_)
 ·exact four_cells HB.out (Same.refl _).drew
 iterate 6 ((first | refine Ro.tF 39 ?_ | (refine Ro.tN 39 ?_ ?_ ?_; rotate_left; · (intro wS hSw; (try dsimp only at hSw); go_simp; try with_reducible rfl))); try simp only [Ro.p])
 first
  | (refine Ro.tf 6 ?_)
  | (refine Ro.one_on (i := 6) rfl (by kernel_rfl) (by rfl) (fun K hK => ?_); go_simp; go_at_call 176; (with_reducible refine (WW _).mono ?_); rintro e w' ⟨rfl, rfl⟩; (first | refine hK.out _ _ ?_ (fun hNew => ?_) | (go_wp2_with fail; refine hK.out _ _ ?_ (fun hNew => ?_))); (· (exact hHeld)); clear hK K hHeld; have hHeld := hNew; clear hNew)
 try simp only [Ro.p]
 iterate 4 ((first | refine Ro.tF 39 ?_ | (refine Ro.tN 39 ?_ ?_ ?_; rotate_left; · (intro wS hSw; (try dsimp only at hSw); go_simp; try with_reducible rfl))); try simp only [Ro.p])
 first
  | (refine Ro.tf 11 ?_)
  | (refine Ro.one_on (i := 11) rfl (by kernel_rfl) (by rfl) (fun K hK => ?_); go_simp; go_at_call 176; (with_reducible refine (WS _).mono ?_); rintro e w' ⟨rfl, rfl⟩; (first | refine hK.out _ _ ?_ (fun hNew => ?_) | (go_wp2_with fail; refine hK.out _ _ ?_ (fun hNew => ?_))); (· (exact hHeld)); clear hK K hHeld; have hHeld := hNew; clear hNew)
 try simp only [Ro.p]
 iterate 11 ((first | refine Ro.tF 39 ?_ | (refine Ro.tN 39 ?_ ?_ ?_; rotate_left; · (intro wS hSw; (try dsimp only at hSw); go_simp; try with_reducible rfl))); try simp only [Ro.p])
 first
  | (refine Ro.tf 23 ?_)
  | (refine Ro.one_on (i := 23) rfl (by kernel_rfl) (by rfl) (fun K hK => ?_); go_simp; go_at_call 181; (with_reducible refine (MD _).mono ?_); rintro e w' ⟨rfl, rfl⟩; (first | refine hK.out _ _ ?_ (fun hNew => ?_) | (go_wp2_with fail; refine hK.out _ _ ?_ (fun hNew => ?_))); (· (exact hHeld)); clear hK K hHeld; have hHeld := hNew; clear hNew)
 try simp only [Ro.p]
 iterate 15 ((first | refine Ro.tF 39 ?_ | (refine Ro.tN 39 ?_ ?_ ?_; rotate_left; · (intro wS hSw; (try dsimp only at hSw); go_simp; try with_reducible rfl))); try simp only [Ro.p])
 refine wpAnyH_done (by kernel_rfl) ?_ _
 have x9 := hHeld.2.2.2.2.2.2.2.2
 clear hHeld
 go_wp2
 go_ret
 exact ⟨ret_bool (by first | rfl | (rw [Bool.eq_iff_iff]; simp)), S.out.trans x9⟩
set_option maxHeartbeats 1000000 in
set_option maxRecDepth 100000 in
theorem right_6 (k wd sl cp sa ow : Int) (ia ra : Option Addr) (il ic rl rc : Nat) (w : World) (hsa : 0 ≤ sa ∧ sa < 4294967296 := by assumption) (hk : k = 6) (hw : 1 ≤ wd ∧ wd ≤ 8) (hs : 1 ≤ sl ∧ sl ≤ 16) (hc : cp = 0) (ha : sa < 2 * sl) (hi : (il : Int) = 0) : Calls Tryz.prog 158 #[.agg #[.int .i64 k, .int .i64 wd, .int .i64 sl, .int .i64 cp, .int .u32 sa, .slice ia il ic, .int .i64 ow, .slice ra rl rc]] w fun e w' => e = .returned (.bool (decide ((rl : Int) = 1))) ∧ Same w w' := by
 have b_hk : (k == 6) = true := by simpa using hk
 have e_hk : decide (k = 6) = true := decide_eq_true hk
 have b_hc : (cp == 0) = true := by simpa using hc
 have e_hc : decide (cp = 0) = true := decide_eq_true hc
 have b_hi : ((il : Int) == 0) = true := by simpa using hi
 have e_hi : decide ((il : Int) = 0) = true := decide_eq_true hi
 have MD := fun w' => modulus_any sl.toNat (by omega) w'
 rw [show ((sl.toNat : Nat) : Int) = sl by omega] at MD
 have e_ha : decide (sa < 2 * sl) = true := decide_eq_true ha
 have WW := fun w' => Ob.within_yes wd 1 8 hw w'
 have WS := fun w' => Ob.within_yes sl 1 16 hs w'
 clear hw
 clear hs
 clear hk hc hi ha
 have s0 := (Same.refl w).alloc (.cells #[.int .i64 k, .int .i64 wd, .int .i64 sl, .int .i64 cp, .int .u32 sa, .slice ia il ic, .int .i64 ow, .slice ra rl rc] 34)
 have hb := Blk.new w 34 #[.int .i64 k, .int .i64 wd, .int .i64 sl, .int .i64 cp, .int .u32 sa, .slice ia il ic, .int .i64 ow, .slice ra rl rc]
 have HB := Lib.hid hb
 have S := Lib.hid s0
 clear hb s0
 go_enter Tryz.func158, Tryz.ntmps158
 go_wp2_with fail
 generalize w.alloc (.cells #[.int .i64 k, .int .i64 wd, .int .i64 sl, .int .i64 cp, .int .u32 sa, .slice ia il ic, .int .i64 ow, .slice ra rl rc] 34) = wa at *
 generalize w.heap.size = q at *
 refine wp_region_held_drew (S := fun w' => w'.cell? ⟨q, 0, none⟩ = some (.int .i64 k) ∧ w'.cell? ⟨q, 1, none⟩ = some (.int .i64 wd) ∧ w'.cell? ⟨q, 2, none⟩ = some (.int .i64 sl) ∧ w'.cell? ⟨q, 3, none⟩ = some (.int .i64 cp) ∧ w'.cell? ⟨q, 4, none⟩ = some (.int .u32 sa) ∧ w'.cell? ⟨q, 5, none⟩ = some (.slice ia il ic) ∧ w'.cell? ⟨q, 6, none⟩ = some (.int .i64 ow) ∧ w'.cell? ⟨q, 7, none⟩ = some (.slice ra rl rc) ∧ Same wa w') (by kernel_rfl) ?_ (fun hHeld => ?_)
 ·exact four_cells HB.out (Same.refl _).drew
 iterate 6 ((first | refine Ro.tF 39 ?_ | (refine Ro.tN 39 ?_ ?_ ?_; rotate_left; · (intro wS hSw; (try dsimp only at hSw); go_simp; try with_reducible rfl))); try simp only [Ro.p])
 first
  | (refine Ro.tf 6 ?_)
  | (refine Ro.one_on (i := 6) rfl (by kernel_rfl) (by rfl) (fun K hK => ?_); go_simp; go_at_call 176; (with_reducible refine (WW _).mono ?_); rintro e w' ⟨rfl, rfl⟩; (first | refine hK.out _ _ ?_ (fun hNew => ?_) | (go_wp2_with fail; refine hK.out _ _ ?_ (fun hNew => ?_))); (· (exact hHeld)); clear hK K hHeld; have hHeld := hNew; clear hNew)
 try simp only [Ro.p]
 iterate 4 ((first | refine Ro.tF 39 ?_ | (refine Ro.tN 39 ?_ ?_ ?_; rotate_left; · (intro wS hSw; (try dsimp only at hSw); go_simp; try with_reducible rfl))); try simp only [Ro.p])
 first
  | (refine Ro.tf 11 ?_)
  | (refine Ro.one_on (i := 11) rfl (by kernel_rfl) (by rfl) (fun K hK => ?_); go_simp; go_at_call 176; (with_reducible refine (WS _).mono ?_); rintro e w' ⟨rfl, rfl⟩; (first | refine hK.out _ _ ?_ (fun hNew => ?_) | (go_wp2_with fail; refine hK.out _ _ ?_ (fun hNew => ?_))); (· (exact hHeld)); clear hK K hHeld; have hHeld := hNew; clear hNew)
 try simp only [Ro.p]
 iterate 11 ((first | refine Ro.tF 39 ?_ | (refine Ro.tN 39 ?_ ?_ ?_; rotate_left; · (intro wS hSw; (try dsimp only at hSw); go_simp; try with_reducible rfl))); try simp only [Ro.p])
 first
  | (refine Ro.tf 23 ?_)
  | (refine Ro.one_on (i := 23) rfl (by kernel_rfl) (by rfl) (fun K hK => ?_); go_simp; go_at_call 181; (with_reducible refine (MD _).mono ?_); rintro e w' ⟨rfl, rfl⟩; (first | refine hK.out _ _ ?_ (fun hNew => ?_) | (go_wp2_with fail; refine hK.out _ _ ?_ (fun hNew => ?_))); (· (exact hHeld)); clear hK K hHeld; have hHeld := hNew; clear hNew)
 try simp only [Ro.p]
 iterate 15 ((first | refine Ro.tF 39 ?_ | (refine Ro.tN 39 ?_ ?_ ?_; rotate_left; · (intro wS hSw; (try dsimp only at hSw); go_simp; try with_reducible rfl))); try simp only [Ro.p])
 refine wpAnyH_done (by kernel_rfl) ?_ _
 have x9 := hHeld.2.2.2.2.2.2.2.2
 clear hHeld
 go_wp2
 go_ret
 exact ⟨ret_bool (by first | rfl | (rw [Bool.eq_iff_iff]; simp)), S.out.trans x9⟩
theorem right_all (k wd sl cp sa ow : Int) (ia ra : Option Addr) (il ic rl rc : Nat) (w : World) (hsa : 0 ≤ sa ∧ sa < 4294967296 := by assumption) :
 Calls Tryz.prog 158 #[.agg #[.int .i64 k, .int .i64 wd, .int .i64 sl, .int .i64 cp, .int .u32 sa, .slice ia il ic, .int .i64 ow, .slice ra rl rc]] w fun e w' => e = .returned (.bool (rightK k wd sl cp sa il rl)) ∧ Same w w' := by
 by_cases hk : k = 6
 ·by_cases hw : 1 ≤ wd ∧ wd ≤ 8
  ·by_cases hs : 1 ≤ sl ∧ sl ≤ 16
   ·by_cases hc : cp = 0
    ·by_cases ha : sa < 2 * sl
     ·by_cases hi : (il : Int) = 0
      ·rw [show rightK k wd sl cp sa il rl = decide ((rl : Int) = 1) by unfold rightK; rw [decide_eq_decide]; exact ⟨fun h => h.2.2.2.2.2.2, fun h => ⟨hk, hw, hs, hc, ha, hi, h⟩⟩]
       exact right_6 k wd sl cp sa ow ia ra il ic rl rc w hsa hk hw hs hc ha hi
      ·rw [← kF fun h => hi h.2.2.2.2.2.1]; exact right_5 k wd sl cp sa ow ia ra il ic rl rc w hsa hk hw hs hc ha hi
     ·rw [← kF fun h => ha h.2.2.2.2.1]; exact right_4 k wd sl cp sa ow ia ra il ic rl rc w hsa hk hw hs hc ha
    ·rw [← kF fun h => hc h.2.2.2.1]; exact right_3 k wd sl cp sa ow ia ra il ic rl rc w hsa hk hw hs hc
   ·rw [← kF fun h => hs h.2.2.1]; exact right_2 k wd sl cp sa ow ia ra il ic rl rc w hsa hk hw hs
  ·rw [← kF fun h => hw h.2.1]; exact right_1 k wd sl cp sa ow ia ra il ic rl rc w hsa hk hw
 ·rw [← kF fun h => hk h.1]; exact right_0 k wd sl cp sa ow ia ra il ic rl rc w hsa hk
theorem rwrites_fifo (w : World) : Calls Tryz.prog 54 #[.int .i64 6] w fun e w' => e = .returned (.int .i64 3) ∧ w = w' := by
 go_enter Tryz.func54, Tryz.ntmps54
 go_wp2
 go_ret
 exact ⟨rfl, rfl⟩
theorem rreads_fifo (w : World) : Calls Tryz.prog 56 #[.int .i64 6] w fun e w' => e = .returned (.int .i64 4) ∧ w = w' := by
 go_enter Tryz.func56, Tryz.ntmps56
 go_wp2
 go_ret
 exact ⟨rfl, rfl⟩
theorem right_any (wd sl cp sa ow : Int) (ia ra : Option Addr) (il ic rl rc : Nat) (w : World) (hsa : 0 ≤ sa ∧ sa < 4294967296 := by assumption) :
 Calls Tryz.prog 158 #[.agg #[.int .i64 6, .int .i64 wd, .int .i64 sl, .int .i64 cp, .int .u32 sa, .slice ia il ic, .int .i64 ow, .slice ra rl rc]] w fun e w' => e = .returned (.bool (rightB wd sl cp sa il rl)) ∧ Same w w' := right_all 6 wd sl cp sa ow ia ra il ic rl rc w hsa

set_option maxHeartbeats 2000000 in
set_option maxRecDepth 100000 in
theorem rright_any (wd sl cp sa ow : Int) (ia ra : Option Addr) (il ic rl rc : Nat) (w : World) (hsa : 0 ≤ sa ∧ sa < 4294967296 := by assumption) :
 Calls Tryz.prog 92 #[.agg #[.int .i64 6, .int .i64 wd, .int .i64 sl, .int .i64 cp, .int .u32 sa, .slice ia il ic, .int .i64 ow, .slice ra rl rc]] w fun e w' => e = .returned (.bool (rightB wd sl cp sa il rl)) ∧ Same w w' := by
 by_cases hs : 1 ≤ sl ∧ sl ≤ 16
 ·have fr : IntKind.i64.wrap (2 * sl) = 2 * sl := Go.IntWalk.i64_in _ (by omega)
  have fg : wrap64 (2 * sl) = 2 * sl := by unfold wrap64; omega
  have fa : IntKind.i64.wrap sa = sa := Go.IntWalk.i64_in _ (by omega)
  obtain ⟨hs1, hs2⟩ := hs
  go_enter Tryz.func92, Tryz.ntmps92
  go_wp2
  all_goals
   go_ret
   refine ⟨ret_bool ?_, (Same.refl _).alloc _⟩
   unfold rightB rightK
   first
    | (rw [Bool.eq_iff_iff, decide_eq_true_eq, decide_eq_true_eq]; omega)
    | (rw [Bool.eq_iff_iff]; simp only [Bool.not_eq_true', Bool.not_eq_eq_eq_not, Bool.not_true, Bool.not_false, beq_iff_eq, bne_iff_ne, ne_eq, beq_eq_false_iff_ne, bne_eq_false_iff_eq, decide_eq_true_eq, Bool.false_eq_true, true_iff, false_iff, and_true, true_and, and_false, false_and] at *; omega)
 ·have hs' : sl < 1 ∨ 16 < sl := by omega
  clear hs
  rcases hs' with hs' | hs'
  all_goals
   go_enter Tryz.func92, Tryz.ntmps92
   go_wp2
   all_goals
    go_ret
    refine ⟨ret_bool ?_, (Same.refl _).alloc _⟩
    unfold rightB rightK
    first
     | (rw [Bool.eq_iff_iff, decide_eq_true_eq, decide_eq_true_eq]; omega)
     | (rw [Bool.eq_iff_iff]; simp only [Bool.not_eq_true', Bool.not_eq_eq_eq_not, Bool.not_true, Bool.not_false, beq_iff_eq, bne_iff_ne, ne_eq, beq_eq_false_iff_ne, bne_eq_false_iff_eq, decide_eq_true_eq, Bool.false_eq_true, true_iff, false_iff, and_true, true_and, and_false, false_and] at *; omega)

end Go.Proofs.YthhbhbfkbncegaaGreatDoor.Ff
end
section
set_option linter.unusedSimpArgs false
set_option linter.unusedVariables false
namespace Go.Proofs.YthhbhbfkbncegaaGreatDoor.Ff
open Go.ChangeShapes Go.WideShapes Go.ChangeAt Go.RowKit Ws Mm Pa
open Go.Proofs.YthhbhbfkbncegaaGreatDoor.Ob

def boundI (wd op : Int) : Int := if op = 3 then wd + 3 else if op = 4 then wd + 3 else 0
theorem bound_yes (wd sl cp sa ow : Int) (ia ra : Option Addr) (il ic rl rc : Nat) (op : Int) (w : World) (hr : rightB wd sl cp sa il rl = true) (hsa : 0 ≤ sa ∧ sa < 4294967296 := by assumption) :
 Calls Tryz.prog 161 #[.agg #[.int .i64 6, .int .i64 wd, .int .i64 sl, .int .i64 cp, .int .u32 sa, .slice ia il ic, .int .i64 ow, .slice ra rl rc], .int .i64 op] w fun e w' => e = .returned (.int .i64 (boundI wd op)) ∧ Same w w' := by
 have hb := Blk.new w 34 #[.int .i64 6, .int .i64 wd, .int .i64 sl, .int .i64 cp, .int .u32 sa, .slice ia il ic, .int .i64 ow, .slice ra rl rc]
 have s0 := (Same.refl w).alloc (.cells #[.int .i64 6, .int .i64 wd, .int .i64 sl, .int .i64 cp, .int .u32 sa, .slice ia il ic, .int .i64 ow, .slice ra rl rc] 34)
 have HB := Lib.hid hb
 have HR := fun w' => right_any wd sl cp sa ow ia ra il ic rl rc w'
 rw [hr] at HR
 have hq := HQ hr
 have m4 : IntKind.i64.wrap (wd + 3) = wd + 3 := Go.IntWalk.i64_in _ (by omega)
 have m3 : wrap64 (wd + 3) = wd + 3 := by unfold wrap64; omega
 obtain ⟨h1, h2⟩ := hq.1
 have HQ2 := Lib.hid hq
 clear hb hq hr
 go_enter Tryz.func161, Tryz.ntmps161
 go_wp2_with fail
 refine (HR _).mono ?_
 rintro e w1 ⟨rfl, s1⟩
 have hb1 := HB.out.same s1
 have S1 := Lib.hid (s0.trans s1)
 have HB1 := Lib.hid hb1
 obtain ⟨d0, d1, d2, d3, d4, d5, d6, d7⟩ := obj_cells hb1
 clear hb1 s0 s1 HB HR
 generalize w.heap.size = q at *
 go_wp2
 all_goals
  go_ret
  refine ⟨ret_int ?_, S1.out⟩
  by_cases h2 : op = 3
  ·rw [boundI, if_pos h2]
   all_goals first | rfl | (exfalso; simp_all)
  ·rw [boundI, if_neg h2]
   by_cases h1 : op = 4
   ·rw [if_pos h1]
    all_goals first | rfl | (exfalso; simp_all)
   ·rw [if_neg h1]
    all_goals first | rfl | (exfalso; simp_all)
theorem bound_no (wd sl cp sa ow : Int) (ia ra : Option Addr) (il ic rl rc : Nat) (op : Int) (w : World) (hr : rightB wd sl cp sa il rl = false) (hsa : 0 ≤ sa ∧ sa < 4294967296 := by assumption) :
 Calls Tryz.prog 161 #[.agg #[.int .i64 6, .int .i64 wd, .int .i64 sl, .int .i64 cp, .int .u32 sa, .slice ia il ic, .int .i64 ow, .slice ra rl rc], .int .i64 op] w fun e w' => e = .returned (.int .i64 0) ∧ Same w w' := by
 have HR := fun w' => right_any wd sl cp sa ow ia ra il ic rl rc w'
 rw [hr] at HR
 clear hr
 go_enter Tryz.func161, Tryz.ntmps161
 go_wp2_with fail
 refine (HR _).mono ?_
 rintro e w1 ⟨rfl, s1⟩
 go_wp2_with fail
 go_ret
 exact ⟨rfl, Same.trans ((Same.refl _).alloc _) s1⟩
set_option maxHeartbeats 400000 in
theorem rbound_yes (wd sl cp sa ow : Int) (ia ra : Option Addr) (il ic rl rc : Nat) (op : Int) (w : World) (hr : rightB wd sl cp sa il rl = true) (hsa : 0 ≤ sa ∧ sa < 4294967296 := by assumption) :
 Calls Tryz.prog 90 #[.agg #[.int .i64 6, .int .i64 wd, .int .i64 sl, .int .i64 cp, .int .u32 sa, .slice ia il ic, .int .i64 ow, .slice ra rl rc], .int .i64 op] w fun e w' => e = .returned (.int .i64 (boundI wd op)) ∧ Same w w' := by
 have hb := Blk.new w 34 #[.int .i64 6, .int .i64 wd, .int .i64 sl, .int .i64 cp, .int .u32 sa, .slice ia il ic, .int .i64 ow, .slice ra rl rc]
 have s0 := (Same.refl w).alloc (.cells #[.int .i64 6, .int .i64 wd, .int .i64 sl, .int .i64 cp, .int .u32 sa, .slice ia il ic, .int .i64 ow, .slice ra rl rc] 34)
 have HB := Lib.hid hb
 have HR := fun w' => rright_any wd sl cp sa ow ia ra il ic rl rc w'
 rw [hr] at HR
 have hq := HQ hr
 have m4 : IntKind.i64.wrap (wd + 3) = wd + 3 := Go.IntWalk.i64_in _ (by omega)
 have m3 : wrap64 (wd + 3) = wd + 3 := by unfold wrap64; omega
 obtain ⟨h1, h2⟩ := hq.1
 have HQ2 := Lib.hid hq
 clear hb hq hr
 go_enter Tryz.func90, Tryz.ntmps90
 go_wp2_with fail
 refine (HR _).mono ?_
 rintro e w1 ⟨rfl, s1⟩
 have hb1 := HB.out.same s1
 have S1 := Lib.hid (s0.trans s1)
 have HB1 := Lib.hid hb1
 obtain ⟨d0, d1, d2, d3, d4, d5, d6, d7⟩ := obj_cells hb1
 clear hb1 s0 s1 HB HR
 generalize w.heap.size = q at *
 go_wp2_with (first | (go_at_call 54; ((with_reducible refine (rwrites_fifo _).mono ?_); rintro e w' ⟨rfl, rfl⟩)) | (go_at_call 56; ((with_reducible refine (rreads_fifo _).mono ?_); rintro e w' ⟨rfl, rfl⟩)))
 all_goals
  go_ret
  refine ⟨ret_int ?_, S1.out⟩
  by_cases h2 : op = 3
  ·rw [boundI, if_pos h2]
   all_goals first | rfl | (exfalso; simp_all)
  ·rw [boundI, if_neg h2]
   by_cases h1 : op = 4
   ·rw [if_pos h1]
    all_goals first | rfl | (exfalso; simp_all)
   ·rw [if_neg h1]
    all_goals first | rfl | (exfalso; simp_all)
theorem rbound_no (wd sl cp sa ow : Int) (ia ra : Option Addr) (il ic rl rc : Nat) (op : Int) (w : World) (hr : rightB wd sl cp sa il rl = false) (hsa : 0 ≤ sa ∧ sa < 4294967296 := by assumption) :
 Calls Tryz.prog 90 #[.agg #[.int .i64 6, .int .i64 wd, .int .i64 sl, .int .i64 cp, .int .u32 sa, .slice ia il ic, .int .i64 ow, .slice ra rl rc], .int .i64 op] w fun e w' => e = .returned (.int .i64 0) ∧ Same w w' := by
 have HR := fun w' => rright_any wd sl cp sa ow ia ra il ic rl rc w'
 rw [hr] at HR
 clear hr
 go_enter Tryz.func90, Tryz.ntmps90
 go_wp2_with fail
 refine (HR _).mono ?_
 rintro e w1 ⟨rfl, s1⟩
 go_wp2_with fail
 go_ret
 exact ⟨rfl, Same.trans ((Same.refl _).alloc _) s1⟩

end Go.Proofs.YthhbhbfkbncegaaGreatDoor.Ff
end
end
section
section
section
section
set_option linter.unusedSimpArgs false
set_option linter.unusedVariables false
namespace Go.Proofs.YthhbhbfkbncegaaGreatDoor.Rg
open Go.ChangeShapes Go.WideShapes Go.ChangeAt Go.RowKit Ws Mm Pa
open Go.Proofs.YthhbhbfkbncegaaGreatDoor.Ob

theorem modulus_any (n : Nat) (hn : 2 ≤ n ∧ n ≤ 16) (w : World) :
 Calls Tryz.prog 178 #[.int .i64 n] w fun e w' => e = .returned (.int .u32 ((n : Int) * 1048576)) ∧ w = w' := by
 have f1 := u32_in (n : Int) (by omega)
 have f2 := u32_in ((n : Int) * 1048576) (by omega)
 clear hn
 go_enter Tryz.func178, Tryz.ntmps178
 go_wp2
 go_ret
 exact ⟨rfl, rfl⟩

/-- whether an object of this kind may be -/
def rightB (wd sl cp sa : Int) (il rl : Nat) : Bool := decide ((1 ≤ wd ∧ wd ≤ 8) ∧ (il : Int) = wd ∧ (1 ≤ (rl : Int) ∧ (rl : Int) ≤ 4) ∧ (2 ≤ sl ∧ sl ≤ 16) ∧ (1 ≤ cp ∧ cp ≤ 16) ∧ sa < sl * 1048576)

theorem four_cells {w w' : World} {q : Nat} {T : TypeId} {k wd sl cp sa ow : Int} {ia ra : Option Addr} {il ic rl rc : Nat} (h : Blk w q T #[.int .i64 k, .int .i64 wd, .int .i64 sl, .int .i64 cp, .int .u32 sa, .slice ia il ic, .int .i64 ow, .slice ra rl rc]) (s : Same w w') :
 w'.cell? ⟨q, 0, none⟩ = some (.int .i64 k) ∧ w'.cell? ⟨q, 1, none⟩ = some (.int .i64 wd) ∧ w'.cell? ⟨q, 2, none⟩ = some (.int .i64 sl) ∧ w'.cell? ⟨q, 3, none⟩ = some (.int .i64 cp) ∧ w'.cell? ⟨q, 4, none⟩ = some (.int .u32 sa) ∧ w'.cell? ⟨q, 5, none⟩ = some (.slice ia il ic) ∧ w'.cell? ⟨q, 6, none⟩ = some (.int .i64 ow) ∧ w'.cell? ⟨q, 7, none⟩ = some (.slice ra rl rc) ∧ Same w w' := by
 obtain ⟨d0, d1, d2, d3, d4, d5, d6, d7⟩ := obj_cells (h.same s)
 exact ⟨d0, d1, d2, d3, d4, d5, d6, d7, s⟩
set_option maxHeartbeats 1000000 in
theorem right_all (k wd sl cp sa ow : Int) (ia ra : Option Addr) (il ic rl rc : Nat) (w : World) (hsa : 0 ≤ sa ∧ sa < 4294967296 := by assumption) :
 Calls Tryz.prog 150 #[.agg #[.int .i64 k, .int .i64 wd, .int .i64 sl, .int .i64 cp, .int .u32 sa, .slice ia il ic, .int .i64 ow, .slice ra rl rc]] w fun e w' => e = .returned (.bool (decide (regB k wd il rl 4 = true ∧ (2 ≤ sl ∧ sl ≤ 16) ∧ (1 ≤ cp ∧ cp ≤ 16) ∧ sa < sl * 1048576))) ∧ Same w w' := by
 have s0 := (Same.refl w).alloc (.cells #[.int .i64 k, .int .i64 wd, .int .i64 sl, .int .i64 cp, .int .u32 sa, .slice ia il ic, .int .i64 ow, .slice ra rl rc] 34)
 have hb := Blk.new w 34 #[.int .i64 k, .int .i64 wd, .int .i64 sl, .int .i64 cp, .int .u32 sa, .slice ia il ic, .int .i64 ow, .slice ra rl rc]
 have HB := Lib.hid hb
 clear hb
 have HR := fun w' => register_any 4 k wd sl cp sa ow ia ra il ic rl rc w'
 have WS := fun w' => within_any sl 2 16 w'
 have WC := fun w' => within_any cp 1 16 w'
 generalize hr : regB k wd il rl 4 = r at *
 clear hr
 generalize hG : decide (r = true ∧ (2 ≤ sl ∧ sl ≤ 16) ∧ (1 ≤ cp ∧ cp ≤ 16) ∧ sa < sl * 1048576) = G at *
 have HG := Lib.hid hG
 clear hG
 cases r with
 | false =>
  have E : Hid (false = G) := Lib.hid (by rw [← HG.out]; simp)
  clear HG
  go_enter Tryz.func150, Tryz.ntmps150
  go_wp2_with fail
  generalize w.alloc (.cells #[.int .i64 k, .int .i64 wd, .int .i64 sl, .int .i64 cp, .int .u32 sa, .slice ia il ic, .int .i64 ow, .slice ra rl rc] 34) = wa at *
  generalize w.heap.size = q at *
  refine wp_region_held_drew (S := fun w' => w'.cell? ⟨q, 0, none⟩ = some (.int .i64 k) ∧ w'.cell? ⟨q, 1, none⟩ = some (.int .i64 wd) ∧ w'.cell? ⟨q, 2, none⟩ = some (.int .i64 sl) ∧ w'.cell? ⟨q, 3, none⟩ = some (.int .i64 cp) ∧ w'.cell? ⟨q, 4, none⟩ = some (.int .u32 sa) ∧ w'.cell? ⟨q, 5, none⟩ = some (.slice ia il ic) ∧ w'.cell? ⟨q, 6, none⟩ = some (.int .i64 ow) ∧ w'.cell? ⟨q, 7, none⟩ = some (.slice ra rl rc) ∧ Same wa w') (by kernel_rfl) ?_ (fun hHeld => ?_)
  ·exact four_cells HB.out (Same.refl _).drew
  first
   | (refine Ro.tf 0 ?_)
   | (refine Ro.tn 0 ?_ ?_ ?_; rotate_left; · (intro wS hSw; (try dsimp only at hSw); go_simp; try with_reducible rfl))
  try simp only [Ro.p]
  first
   | (refine Ro.tf 1 ?_)
   | (refine Ro.one_on (i := 1) rfl (by kernel_rfl) (by rfl) (fun K hK => ?_); go_simp; go_at_call 173; (with_reducible refine (HR _).mono ?_); rintro e w' ⟨rfl, hs9⟩; (first | refine hK.out _ _ ?_ (fun hNew => ?_) | (go_wp2_with fail; refine hK.out _ _ ?_ (fun hNew => ?_))); (· (exact four_cells HB.out (hHeld.2.2.2.2.2.2.2.2.trans hs9))); clear hK K hHeld; have hHeld := hNew; clear hNew)
  try simp only [Ro.p]
  iterate 3 ((first | refine Ro.tF 21 ?_ | (refine Ro.tN 21 ?_ ?_ ?_; rotate_left; · (intro wS hSw; (try dsimp only at hSw); go_simp; try with_reducible rfl))); try simp only [Ro.p])
  first
   | (refine Ro.tf 5 ?_)
   | (refine Ro.one_on (i := 5) rfl (by kernel_rfl) (by rfl) (fun K hK => ?_); go_simp; go_at_call 176; (with_reducible refine (WS _).mono ?_); rintro e w' ⟨rfl, rfl⟩; (first | refine hK.out _ _ ?_ (fun hNew => ?_) | (go_wp2_with fail; refine hK.out _ _ ?_ (fun hNew => ?_))); (· (exact hHeld)); clear hK K hHeld; have hHeld := hNew; clear hNew)
  try simp only [Ro.p]
  iterate 4 ((first | refine Ro.tF 21 ?_ | (refine Ro.tN 21 ?_ ?_ ?_; rotate_left; · (intro wS hSw; (try dsimp only at hSw); go_simp; try with_reducible rfl))); try simp only [Ro.p])
  first
   | (refine Ro.tf 10 ?_)
   | (refine Ro.one_on (i := 10) rfl (by kernel_rfl) (by rfl) (fun K hK => ?_); go_simp; go_at_call 176; (with_reducible refine (WC _).mono ?_); rintro e w' ⟨rfl, rfl⟩; (first | refine hK.out _ _ ?_ (fun hNew => ?_) | (go_wp2_with fail; refine hK.out _ _ ?_ (fun hNew => ?_))); (· (exact hHeld)); clear hK K hHeld; have hHeld := hNew; clear hNew)
  try simp only [Ro.p]
  iterate 6 ((first | refine Ro.tF 21 ?_ | (refine Ro.tN 21 ?_ ?_ ?_; rotate_left; · (intro wS hSw; (try dsimp only at hSw); go_simp; try with_reducible rfl))); try simp only [Ro.p])
  first
   | (refine Ro.tf 17 ?_)
   | (refine Ro.one_on (i := 17) rfl (by kernel_rfl) (by rfl) (fun K hK => ?_); go_simp; go_at_call 178; (with_reducible refine (MD _).mono ?_); rintro e w' ⟨rfl, rfl⟩; (first | refine hK.out _ _ ?_ (fun hNew => ?_) | (go_wp2_with fail; refine hK.out _ _ ?_ (fun hNew => ?_))); (· (exact hHeld)); clear hK K hHeld; have hHeld := hNew; clear hNew)
  try simp only [Ro.p]
  iterate 3 ((first | refine Ro.tF 21 ?_ | (refine Ro.tN 21 ?_ ?_ ?_; rotate_left; · (intro wS hSw; (try dsimp only at hSw); go_simp; try with_reducible rfl))); try simp only [Ro.p])
  refine wpAnyH_done (by kernel_rfl) ?_ _
  have x9 := hHeld.2.2.2.2.2.2.2.2
  clear hHeld
  go_wp2
  go_ret
  exact ⟨ret_bool E.out, s0.trans x9⟩
 | true =>
  by_cases hs : 2 ≤ sl ∧ sl ≤ 16
  ·have MD := fun w' => modulus_any sl.toNat (by omega) w'
   rw [show ((sl.toNat : Nat) : Int) = sl by omega] at MD
   rw [decide_eq_true hs] at WS
   by_cases hc : 1 ≤ cp ∧ cp ≤ 16
   ·rw [decide_eq_true hc] at WC
    have E : Hid (decide (sa < sl * 1048576) = G) := Lib.hid (by rw [← HG.out, decide_eq_decide]; simp [hs, hc])
    clear HG hs hc
    go_enter Tryz.func150, Tryz.ntmps150
    go_wp2_with fail
    generalize w.alloc (.cells #[.int .i64 k, .int .i64 wd, .int .i64 sl, .int .i64 cp, .int .u32 sa, .slice ia il ic, .int .i64 ow, .slice ra rl rc] 34) = wa at *
    generalize w.heap.size = q at *
    refine wp_region_held_drew (S := fun w' => w'.cell? ⟨q, 0, none⟩ = some (.int .i64 k) ∧ w'.cell? ⟨q, 1, none⟩ = some (.int .i64 wd) ∧ w'.cell? ⟨q, 2, none⟩ = some (.int .i64 sl) ∧ w'.cell? ⟨q, 3, none⟩ = some (.int .i64 cp) ∧ w'.cell? ⟨q, 4, none⟩ = some (.int .u32 sa) ∧ w'.cell? ⟨q, 5, none⟩ = some (.slice ia il ic) ∧ w'.cell? ⟨q, 6, none⟩ = some (.int .i64 ow) ∧ w'.cell? ⟨q, 7, none⟩ = some (.slice ra rl rc) ∧ Same wa w') (by kernel_rfl) ?_ (fun hHeld => ?_)
    ·exact four_cells HB.out (Same.refl _).drew
    first
     | (refine Ro.tf 0 ?_)
     | (refine Ro.tn 0 ?_ ?_ ?_; rotate_left; · (intro wS hSw; (try dsimp only at hSw); go_simp; try with_reducible rfl))
    try simp only [Ro.p]
    first
     | (refine Ro.tf 1 ?_)
     | (refine Ro.one_on (i := 1) rfl (by kernel_rfl) (by rfl) (fun K hK => ?_); go_simp; go_at_call 173; (with_reducible refine (HR _).mono ?_); rintro e w' ⟨rfl, hs9⟩; (first | refine hK.out _ _ ?_ (fun hNew => ?_) | (go_wp2_with fail; refine hK.out _ _ ?_ (fun hNew => ?_))); (· (exact four_cells HB.out (hHeld.2.2.2.2.2.2.2.2.trans hs9))); clear hK K hHeld; have hHeld := hNew; clear hNew)
    try simp only [Ro.p]
    iterate 3 ((first | refine Ro.tF 21 ?_ | (refine Ro.tN 21 ?_ ?_ ?_; rotate_left; · (intro wS hSw; (try dsimp only at hSw); go_simp; try with_reducible rfl))); try simp only [Ro.p])
    first
     | (refine Ro.tf 5 ?_)
     | (refine Ro.one_on (i := 5) rfl (by kernel_rfl) (by rfl) (fun K hK => ?_); go_simp; go_at_call 176; (with_reducible refine (WS _).mono ?_); rintro e w' ⟨rfl, rfl⟩; (first | refine hK.out _ _ ?_ (fun hNew => ?_) | (go_wp2_with fail; refine hK.out _ _ ?_ (fun hNew => ?_))); (· (exact hHeld)); clear hK K hHeld; have hHeld := hNew; clear hNew)
    try simp only [Ro.p]
    iterate 4 ((first | refine Ro.tF 21 ?_ | (refine Ro.tN 21 ?_ ?_ ?_; rotate_left; · (intro wS hSw; (try dsimp only at hSw); go_simp; try with_reducible rfl))); try simp only [Ro.p])
    first
     | (refine Ro.tf 10 ?_)
     | (refine Ro.one_on (i := 10) rfl (by kernel_rfl) (by rfl) (fun K hK => ?_); go_simp; go_at_call 176; (with_reducible refine (WC _).mono ?_); rintro e w' ⟨rfl, rfl⟩; (first | refine hK.out _ _ ?_ (fun hNew => ?_) | (go_wp2_with fail; refine hK.out _ _ ?_ (fun hNew => ?_))); (· (exact hHeld)); clear hK K hHeld; have hHeld := hNew; clear hNew)
    try simp only [Ro.p]
    iterate 6 ((first | refine Ro.tF 21 ?_ | (refine Ro.tN 21 ?_ ?_ ?_; rotate_left; · (intro wS hSw; (try dsimp only at hSw); go_simp; try with_reducible rfl))); try simp only [Ro.p])
    first
     | (refine Ro.tf 17 ?_)
     | (refine Ro.one_on (i := 17) rfl (by kernel_rfl) (by rfl) (fun K hK => ?_); go_simp; go_at_call 178; (with_reducible refine (MD _).mono ?_); rintro e w' ⟨rfl, rfl⟩; (first | refine hK.out _ _ ?_ (fun hNew => ?_) | (go_wp2_with fail; refine hK.out _ _ ?_ (fun hNew => ?_))); (· (exact hHeld)); clear hK K hHeld; have hHeld := hNew; clear hNew)
    try simp only [Ro.p]
    iterate 3 ((first | refine Ro.tF 21 ?_ | (refine Ro.tN 21 ?_ ?_ ?_; rotate_left; · (intro wS hSw; (try dsimp only at hSw); go_simp; try with_reducible rfl))); try simp only [Ro.p])
    refine wpAnyH_done (by kernel_rfl) ?_ _
    have x9 := hHeld.2.2.2.2.2.2.2.2
    clear hHeld
    go_wp2
    go_ret
    exact ⟨ret_bool E.out, s0.trans x9⟩
   ·rw [decide_eq_false hc] at WC
    have E : Hid (false = G) := Lib.hid (by rw [← HG.out]; simp [hc])
    clear HG hs hc
    go_enter Tryz.func150, Tryz.ntmps150
    go_wp2_with fail
    generalize w.alloc (.cells #[.int .i64 k, .int .i64 wd, .int .i64 sl, .int .i64 cp, .int .u32 sa, .slice ia il ic, .int .i64 ow, .slice ra rl rc] 34) = wa at *
    generalize w.heap.size = q at *
    refine wp_region_held_drew (S := fun w' => w'.cell? ⟨q, 0, none⟩ = some (.int .i64 k) ∧ w'.cell? ⟨q, 1, none⟩ = some (.int .i64 wd) ∧ w'.cell? ⟨q, 2, none⟩ = some (.int .i64 sl) ∧ w'.cell? ⟨q, 3, none⟩ = some (.int .i64 cp) ∧ w'.cell? ⟨q, 4, none⟩ = some (.int .u32 sa) ∧ w'.cell? ⟨q, 5, none⟩ = some (.slice ia il ic) ∧ w'.cell? ⟨q, 6, none⟩ = some (.int .i64 ow) ∧ w'.cell? ⟨q, 7, none⟩ = some (.slice ra rl rc) ∧ Same wa w') (by kernel_rfl) ?_ (fun hHeld => ?_)
    ·exact four_cells HB.out (Same.refl _).drew
    first
     | (refine Ro.tf 0 ?_)
     | (refine Ro.tn 0 ?_ ?_ ?_; rotate_left; · (intro wS hSw; (try dsimp only at hSw); go_simp; try with_reducible rfl))
    try simp only [Ro.p]
    first
     | (refine Ro.tf 1 ?_)
     | (refine Ro.one_on (i := 1) rfl (by kernel_rfl) (by rfl) (fun K hK => ?_); go_simp; go_at_call 173; (with_reducible refine (HR _).mono ?_); rintro e w' ⟨rfl, hs9⟩; (first | refine hK.out _ _ ?_ (fun hNew => ?_) | (go_wp2_with fail; refine hK.out _ _ ?_ (fun hNew => ?_))); (· (exact four_cells HB.out (hHeld.2.2.2.2.2.2.2.2.trans hs9))); clear hK K hHeld; have hHeld := hNew; clear hNew)
    try simp only [Ro.p]
    iterate 3 ((first | refine Ro.tF 21 ?_ | (refine Ro.tN 21 ?_ ?_ ?_; rotate_left; · (intro wS hSw; (try dsimp only at hSw); go_simp; try with_reducible rfl))); try simp only [Ro.p])
    first
     | (refine Ro.tf 5 ?_)
     | (refine Ro.one_on (i := 5) rfl (by kernel_rfl) (by rfl) (fun K hK => ?_); go_simp; go_at_call 176; (with_reducible refine (WS _).mono ?_); rintro e w' ⟨rfl, rfl⟩; (first | refine hK.out _ _ ?_ (fun hNew => ?_) | (go_wp2_with fail; refine hK.out _ _ ?_ (fun hNew => ?_))); (· (exact hHeld)); clear hK K hHeld; have hHeld := hNew; clear hNew)
    try simp only [Ro.p]
    iterate 4 ((first | refine Ro.tF 21 ?_ | (refine Ro.tN 21 ?_ ?_ ?_; rotate_left; · (intro wS hSw; (try dsimp only at hSw); go_simp; try with_reducible rfl))); try simp only [Ro.p])
    first
     | (refine Ro.tf 10 ?_)
     | (refine Ro.one_on (i := 10) rfl (by kernel_rfl) (by rfl) (fun K hK => ?_); go_simp; go_at_call 176; (with_reducible refine (WC _).mono ?_); rintro e w' ⟨rfl, rfl⟩; (first | refine hK.out _ _ ?_ (fun hNew => ?_) | (go_wp2_with fail; refine hK.out _ _ ?_ (fun hNew => ?_))); (· (exact hHeld)); clear hK K hHeld; have hHeld := hNew; clear hNew)
    try simp only [Ro.p]
    iterate 6 ((first | refine Ro.tF 21 ?_ | (refine Ro.tN 21 ?_ ?_ ?_; rotate_left; · (intro wS hSw; (try dsimp only at hSw); go_simp; try with_reducible rfl))); try simp only [Ro.p])
    first
     | (refine Ro.tf 17 ?_)
     | (refine Ro.one_on (i := 17) rfl (by kernel_rfl) (by rfl) (fun K hK => ?_); go_simp; go_at_call 178; (with_reducible refine (MD _).mono ?_); rintro e w' ⟨rfl, rfl⟩; (first | refine hK.out _ _ ?_ (fun hNew => ?_) | (go_wp2_with fail; refine hK.out _ _ ?_ (fun hNew => ?_))); (· (exact hHeld)); clear hK K hHeld; have hHeld := hNew; clear hNew)
    try simp only [Ro.p]
    iterate 3 ((first | refine Ro.tF 21 ?_ | (refine Ro.tN 21 ?_ ?_ ?_; rotate_left; · (intro wS hSw; (try dsimp only at hSw); go_simp; try with_reducible rfl))); try simp only [Ro.p])
    refine wpAnyH_done (by kernel_rfl) ?_ _
    have x9 := hHeld.2.2.2.2.2.2.2.2
    clear hHeld
    go_wp2
    go_ret
    exact ⟨ret_bool E.out, s0.trans x9⟩
  ·rw [decide_eq_false hs] at WS
   have E : Hid (false = G) := Lib.hid (by rw [← HG.out]; simp [hs])
   clear HG hs
   go_enter Tryz.func150, Tryz.ntmps150
   go_wp2_with fail
   generalize w.alloc (.cells #[.int .i64 k, .int .i64 wd, .int .i64 sl, .int .i64 cp, .int .u32 sa, .slice ia il ic, .int .i64 ow, .slice ra rl rc] 34) = wa at *
   generalize w.heap.size = q at *
   refine wp_region_held_drew (S := fun w' => w'.cell? ⟨q, 0, none⟩ = some (.int .i64 k) ∧ w'.cell? ⟨q, 1, none⟩ = some (.int .i64 wd) ∧ w'.cell? ⟨q, 2, none⟩ = some (.int .i64 sl) ∧ w'.cell? ⟨q, 3, none⟩ = some (.int .i64 cp) ∧ w'.cell? ⟨q, 4, none⟩ = some (.int .u32 sa) ∧ w'.cell? ⟨q, 5, none⟩ = some (.slice ia il ic) ∧ w'.cell? ⟨q, 6, none⟩ = some (.int .i64 ow) ∧ w'.cell? ⟨q, 7, none⟩ = some (.slice ra rl rc) ∧ Same wa w') (by kernel_rfl) ?_ (fun hHeld => ?_)
   ·exact four_cells HB.out (Same.refl _).drew
   first
    | (refine Ro.tf 0 ?_)
    | (refine Ro.tn 0 ?_ ?_ ?_; rotate_left; · (intro wS hSw; (try dsimp only at hSw); go_simp; try with_reducible rfl))
   try simp only [Ro.p]
   first
    | (refine Ro.tf 1 ?_)
    | (refine Ro.one_on (i := 1) rfl (by kernel_rfl) (by rfl) (fun K hK => ?_); go_simp; go_at_call 173; (with_reducible refine (HR _).mono ?_); rintro e w' ⟨rfl, hs9⟩; (first | refine hK.out _ _ ?_ (fun hNew => ?_) | (go_wp2_with fail; refine hK.out _ _ ?_ (fun hNew => ?_))); (· (exact four_cells HB.out (hHeld.2.2.2.2.2.2.2.2.trans hs9))); clear hK K hHeld; have hHeld := hNew; clear hNew)
   try simp only [Ro.p]
   iterate 3 ((first | refine Ro.tF 21 ?_ | (refine Ro.tN 21 ?_ ?_ ?_; rotate_left; · (intro wS hSw; (try dsimp only at hSw); go_simp; try with_reducible rfl))); try simp only [Ro.p])
   first
    | (refine Ro.tf 5 ?_)
    | (refine Ro.one_on (i := 5) rfl (by kernel_rfl) (by rfl) (fun K hK => ?_); go_simp; go_at_call 176; (with_reducible refine (WS _).mono ?_); rintro e w' ⟨rfl, rfl⟩; (first | refine hK.out _ _ ?_ (fun hNew => ?_) | (go_wp2_with fail; refine hK.out _ _ ?_ (fun hNew => ?_))); (· (exact hHeld)); clear hK K hHeld; have hHeld := hNew; clear hNew)
   try simp only [Ro.p]
   iterate 4 ((first | refine Ro.tF 21 ?_ | (refine Ro.tN 21 ?_ ?_ ?_; rotate_left; · (intro wS hSw; (try dsimp only at hSw); go_simp; try with_reducible rfl))); try simp only [Ro.p])
   first
    | (refine Ro.tf 10 ?_)
    | (refine Ro.one_on (i := 10) rfl (by kernel_rfl) (by rfl) (fun K hK => ?_); go_simp; go_at_call 176; (with_reducible refine (WC _).mono ?_); rintro e w' ⟨rfl, rfl⟩; (first | refine hK.out _ _ ?_ (fun hNew => ?_) | (go_wp2_with fail; refine hK.out _ _ ?_ (fun hNew => ?_))); (· (exact hHeld)); clear hK K hHeld; have hHeld := hNew; clear hNew)
   try simp only [Ro.p]
   iterate 6 ((first | refine Ro.tF 21 ?_ | (refine Ro.tN 21 ?_ ?_ ?_; rotate_left; · (intro wS hSw; (try dsimp only at hSw); go_simp; try with_reducible rfl))); try simp only [Ro.p])
   first
    | (refine Ro.tf 17 ?_)
    | (refine Ro.one_on (i := 17) rfl (by kernel_rfl) (by rfl) (fun K hK => ?_); go_simp; go_at_call 178; (with_reducible refine (MD _).mono ?_); rintro e w' ⟨rfl, rfl⟩; (first | refine hK.out _ _ ?_ (fun hNew => ?_) | (go_wp2_with fail; refine hK.out _ _ ?_ (fun hNew => ?_))); (· (exact hHeld)); clear hK K hHeld; have hHeld := hNew; clear hNew)
   try simp only [Ro.p]
   iterate 3 ((first | refine Ro.tF 21 ?_ | (refine Ro.tN 21 ?_ ?_ ?_; rotate_left; · (intro wS hSw; (try dsimp only at hSw); go_simp; try with_reducible rfl))); try simp only [Ro.p])
   refine wpAnyH_done (by kernel_rfl) ?_ _
   have x9 := hHeld.2.2.2.2.2.2.2.2
   clear hHeld
   go_wp2
   go_ret
   exact ⟨ret_bool E.out, s0.trans x9⟩

theorem right_any (wd sl cp sa ow : Int) (ia ra : Option Addr) (il ic rl rc : Nat) (w : World) (hsa : 0 ≤ sa ∧ sa < 4294967296 := by assumption) :
 Calls Tryz.prog 150 #[.agg #[.int .i64 4, .int .i64 wd, .int .i64 sl, .int .i64 cp, .int .u32 sa, .slice ia il ic, .int .i64 ow, .slice ra rl rc]] w fun e w' => e = .returned (.bool (rightB wd sl cp sa il rl)) ∧ Same w w' := by
 have h := right_all 4 wd sl cp sa ow ia ra il ic rl rc w hsa
 have e : decide (regB 4 wd il rl 4 = true ∧ (2 ≤ sl ∧ sl ≤ 16) ∧ (1 ≤ cp ∧ cp ≤ 16) ∧ sa < sl * 1048576) = rightB wd sl cp sa il rl := by
  unfold rightB regB
  rw [decide_eq_decide, decide_eq_true_eq]
  omega
 rw [e] at h
 exact h

set_option maxHeartbeats 2000000 in
set_option maxRecDepth 100000 in
theorem rright_any (wd sl cp sa ow : Int) (ia ra : Option Addr) (il ic rl rc : Nat) (w : World) (hsa : 0 ≤ sa ∧ sa < 4294967296 := by assumption) :
 Calls Tryz.prog 92 #[.agg #[.int .i64 4, .int .i64 wd, .int .i64 sl, .int .i64 cp, .int .u32 sa, .slice ia il ic, .int .i64 ow, .slice ra rl rc]] w fun e w' => e = .returned (.bool (rightB wd sl cp sa il rl)) ∧ Same w w' := by
 go_enter Tryz.func92, Tryz.ntmps92
 go_wp2
 all_goals
  go_ret
  refine ⟨ret_bool ?_, (Same.refl _).alloc _⟩
  unfold rightB
  first
   | (rw [Bool.eq_iff_iff, decide_eq_true_eq, decide_eq_true_eq]; omega)
   | (rw [Bool.eq_iff_iff]; simp only [Bool.not_eq_true', Bool.not_eq_eq_eq_not, Bool.not_true, Bool.not_false, beq_iff_eq, bne_iff_ne, ne_eq, beq_eq_false_iff_ne, bne_eq_false_iff_eq, decide_eq_true_eq, Bool.false_eq_true, true_iff, false_iff, and_true, true_and, and_false, false_and] at *; omega)

end Go.Proofs.YthhbhbfkbncegaaGreatDoor.Rg
end
section
set_option linter.unusedSimpArgs false
set_option linter.unusedVariables false
namespace Go.Proofs.YthhbhbfkbncegaaGreatDoor.Rg
open Go.ChangeShapes Go.WideShapes Go.ChangeAt Go.RowKit Ws Mm Pa
open Go.Proofs.YthhbhbfkbncegaaGreatDoor.Ob

theorem HQ {wd sl cp sa : Int} {il rl : Nat} (h : rightB wd sl cp sa il rl = true) : (1 ≤ wd ∧ wd ≤ 8) ∧ (il : Int) = wd ∧ (1 ≤ (rl : Int) ∧ (rl : Int) ≤ 4) ∧ (2 ≤ sl ∧ sl ≤ 16) ∧ (1 ≤ cp ∧ cp ≤ 16) ∧ sa < sl * 1048576 := by
 unfold rightB at h
 exact of_decide_eq_true h
theorem size_yes (wd sl cp sa ow : Int) (ia ra : Option Addr) (il ic rl rc : Nat) (w : World) (hr : rightB wd sl cp sa il rl = true) (hsa : 0 ≤ sa ∧ sa < 4294967296 := by assumption) :
 Calls Tryz.prog 151 #[.agg #[.int .i64 4, .int .i64 wd, .int .i64 sl, .int .i64 cp, .int .u32 sa, .slice ia il ic, .int .i64 ow, .slice ra rl rc]] w fun e w' => e = .returned (.int .i64 (1 + sl * wd)) ∧ Same w w' := by
 have hb := Blk.new w 34 #[.int .i64 4, .int .i64 wd, .int .i64 sl, .int .i64 cp, .int .u32 sa, .slice ia il ic, .int .i64 ow, .slice ra rl rc]
 have s0 := (Same.refl w).alloc (.cells #[.int .i64 4, .int .i64 wd, .int .i64 sl, .int .i64 cp, .int .u32 sa, .slice ia il ic, .int .i64 ow, .slice ra rl rc] 34)
 have HB := Lib.hid hb
 have HR := fun w' => right_any wd sl cp sa ow ia ra il ic rl rc w'
 rw [hr] at HR
 have hq := HQ hr
 obtain ⟨h1, h2⟩ := hq.1
 obtain ⟨e1, e2⟩ := hq.2.2.2.1
 have k1 : 0 ≤ sl * wd := Int.mul_nonneg (by omega) (by omega)
 have k2 : sl * wd ≤ 128 := by
  have := Int.mul_le_mul e2 (show wd ≤ 8 by omega) (by omega) (by omega)
  omega
 have k3 : wrap64 (sl * wd) = sl * wd := by unfold wrap64; omega
 have k4 : IntKind.i64.wrap (sl * wd) = sl * wd := Go.IntWalk.i64_in _ (by omega)
 have k5 : wrap64 (1 + sl * wd) = 1 + sl * wd := by unfold wrap64; omega
 have k6 : IntKind.i64.wrap (1 + sl * wd) = 1 + sl * wd := Go.IntWalk.i64_in _ (by omega)
 have HQ2 := Lib.hid hq
 clear hb hq hr
 go_enter Tryz.func151, Tryz.ntmps151
 go_wp2_with fail
 refine (HR _).mono ?_
 rintro e w1 ⟨rfl, s1⟩
 have hb1 := HB.out.same s1
 have S1 := Lib.hid (s0.trans s1)
 have HB1 := Lib.hid hb1
 obtain ⟨d0, d1, d2, d3, d4, d5, d6, d7⟩ := obj_cells hb1
 clear hb1 s0 s1 HB HR
 generalize w.heap.size = q at *
 go_wp2
 go_ret
 exact ⟨rfl, S1.out⟩
def boundI (wd cp op : Int) : Int := if op = 2 then wd + 2 else if op = 1 then cp * (wd + 2) else 0
theorem bound_yes (wd sl cp sa ow : Int) (ia ra : Option Addr) (il ic rl rc : Nat) (op : Int) (w : World) (hr : rightB wd sl cp sa il rl = true) (hsa : 0 ≤ sa ∧ sa < 4294967296 := by assumption) :
 Calls Tryz.prog 153 #[.agg #[.int .i64 4, .int .i64 wd, .int .i64 sl, .int .i64 cp, .int .u32 sa, .slice ia il ic, .int .i64 ow, .slice ra rl rc], .int .i64 op] w fun e w' => e = .returned (.int .i64 (boundI wd cp op)) ∧ Same w w' := by
 have hb := Blk.new w 34 #[.int .i64 4, .int .i64 wd, .int .i64 sl, .int .i64 cp, .int .u32 sa, .slice ia il ic, .int .i64 ow, .slice ra rl rc]
 have s0 := (Same.refl w).alloc (.cells #[.int .i64 4, .int .i64 wd, .int .i64 sl, .int .i64 cp, .int .u32 sa, .slice ia il ic, .int .i64 ow, .slice ra rl rc] 34)
 have HB := Lib.hid hb
 have HR := fun w' => right_any wd sl cp sa ow ia ra il ic rl rc w'
 rw [hr] at HR
 have hq := HQ hr
 obtain ⟨c1, c2⟩ := hq.2.2.2.2.1
 have m1 : 0 ≤ cp * (wd + 2) := Int.mul_nonneg (by omega) (by omega)
 have m2 : cp * (wd + 2) ≤ 160 := by
  have := Int.mul_le_mul c2 (show wd + 2 ≤ 10 by omega) (by omega) (by omega)
  omega
 have m3 : wrap64 (cp * (wd + 2)) = cp * (wd + 2) := by unfold wrap64; omega
 have m4 : IntKind.i64.wrap (cp * (wd + 2)) = cp * (wd + 2) := Go.IntWalk.i64_in _ (by omega)
 obtain ⟨h1, h2⟩ := hq.1
 have HQ2 := Lib.hid hq
 clear hb hq hr
 go_enter Tryz.func153, Tryz.ntmps153
 go_wp2_with fail
 refine (HR _).mono ?_
 rintro e w1 ⟨rfl, s1⟩
 have hb1 := HB.out.same s1
 have S1 := Lib.hid (s0.trans s1)
 have HB1 := Lib.hid hb1
 obtain ⟨d0, d1, d2, d3, d4, d5, d6, d7⟩ := obj_cells hb1
 clear hb1 s0 s1 HB HR
 generalize w.heap.size = q at *
 go_wp2
 all_goals
  go_ret
  exact ⟨ret_int (by unfold boundI; try simp only [beq_iff_eq, beq_eq_false_iff_ne, ne_eq] at *; repeat (split <;> try omega)), S1.out⟩
theorem bound_no (wd sl cp sa ow : Int) (ia ra : Option Addr) (il ic rl rc : Nat) (op : Int) (w : World) (hr : rightB wd sl cp sa il rl = false) (hsa : 0 ≤ sa ∧ sa < 4294967296 := by assumption) :
 Calls Tryz.prog 153 #[.agg #[.int .i64 4, .int .i64 wd, .int .i64 sl, .int .i64 cp, .int .u32 sa, .slice ia il ic, .int .i64 ow, .slice ra rl rc], .int .i64 op] w fun e w' => e = .returned (.int .i64 0) ∧ Same w w' := by
 have HR := fun w' => right_any wd sl cp sa ow ia ra il ic rl rc w'
 rw [hr] at HR
 clear hr
 go_enter Tryz.func153, Tryz.ntmps153
 go_wp2_with fail
 refine (HR _).mono ?_
 rintro e w1 ⟨rfl, s1⟩
 go_wp2_with fail
 go_ret
 exact ⟨rfl, Same.trans ((Same.refl _).alloc _) s1⟩
set_option maxHeartbeats 400000 in
theorem rbound_yes (wd sl cp sa ow : Int) (ia ra : Option Addr) (il ic rl rc : Nat) (op : Int) (w : World) (hr : rightB wd sl cp sa il rl = true) (hsa : 0 ≤ sa ∧ sa < 4294967296 := by assumption) :
 Calls Tryz.prog 90 #[.agg #[.int .i64 4, .int .i64 wd, .int .i64 sl, .int .i64 cp, .int .u32 sa, .slice ia il ic, .int .i64 ow, .slice ra rl rc], .int .i64 op] w fun e w' => e = .returned (.int .i64 (boundI wd cp op)) ∧ Same w w' := by
 have hb := Blk.new w 34 #[.int .i64 4, .int .i64 wd, .int .i64 sl, .int .i64 cp, .int .u32 sa, .slice ia il ic, .int .i64 ow, .slice ra rl rc]
 have s0 := (Same.refl w).alloc (.cells #[.int .i64 4, .int .i64 wd, .int .i64 sl, .int .i64 cp, .int .u32 sa, .slice ia il ic, .int .i64 ow, .slice ra rl rc] 34)
 have HB := Lib.hid hb
 have HR := fun w' => rright_any wd sl cp sa ow ia ra il ic rl rc w'
 rw [hr] at HR
 have hq := HQ hr
 obtain ⟨c1, c2⟩ := hq.2.2.2.2.1
 have m1 : 0 ≤ cp * (wd + 2) := Int.mul_nonneg (by omega) (by omega)
 have m2 : cp * (wd + 2) ≤ 160 := by
  have := Int.mul_le_mul c2 (show wd + 2 ≤ 10 by omega) (by omega) (by omega)
  omega
 have m3 : wrap64 (cp * (wd + 2)) = cp * (wd + 2) := by unfold wrap64; omega
 have m4 : IntKind.i64.wrap (cp * (wd + 2)) = cp * (wd + 2) := Go.IntWalk.i64_in _ (by omega)
 obtain ⟨h1, h2⟩ := hq.1
 have HQ2 := Lib.hid hq
 clear hb hq hr
 go_enter Tryz.func90, Tryz.ntmps90
 go_wp2_with fail
 refine (HR _).mono ?_
 rintro e w1 ⟨rfl, s1⟩
 have hb1 := HB.out.same s1
 have S1 := Lib.hid (s0.trans s1)
 have HB1 := Lib.hid hb1
 obtain ⟨d0, d1, d2, d3, d4, d5, d6, d7⟩ := obj_cells hb1
 clear hb1 s0 s1 HB HR
 generalize w.heap.size = q at *
 go_wp2_with (first | (go_at_call 54; ((with_reducible refine (rwrites_reg 4 (by decide) _).mono ?_); rintro e w' ⟨rfl, rfl⟩)) | (go_at_call 56; ((with_reducible refine (rreads_reg 4 (by decide) _).mono ?_); rintro e w' ⟨rfl, rfl⟩)))
 all_goals
  go_ret
  refine ⟨ret_int ?_, S1.out⟩
  by_cases h2 : op = 2
  ·rw [boundI, if_pos h2]
   all_goals first | rfl | (exfalso; simp_all)
  ·rw [boundI, if_neg h2]
   by_cases h1 : op = 1
   ·rw [if_pos h1]
    all_goals first | rfl | (exfalso; simp_all)
   ·rw [if_neg h1]
    all_goals first | rfl | (exfalso; simp_all)
theorem rbound_no (wd sl cp sa ow : Int) (ia ra : Option Addr) (il ic rl rc : Nat) (op : Int) (w : World) (hr : rightB wd sl cp sa il rl = false) (hsa : 0 ≤ sa ∧ sa < 4294967296 := by assumption) :
 Calls Tryz.prog 90 #[.agg #[.int .i64 4, .int .i64 wd, .int .i64 sl, .int .i64 cp, .int .u32 sa, .slice ia il ic, .int .i64 ow, .slice ra rl rc], .int .i64 op] w fun e w' => e = .returned (.int .i64 0) ∧ Same w w' := by
 have HR := fun w' => rright_any wd sl cp sa ow ia ra il ic rl rc w'
 rw [hr] at HR
 clear hr
 go_enter Tryz.func90, Tryz.ntmps90
 go_wp2_with fail
 refine (HR _).mono ?_
 rintro e w1 ⟨rfl, s1⟩
 go_wp2_with fail
 go_ret
 exact ⟨rfl, Same.trans ((Same.refl _).alloc _) s1⟩

end Go.Proofs.YthhbhbfkbncegaaGreatDoor.Rg
end
end
section
section
section
set_option linter.unusedSimpArgs false
set_option linter.unusedVariables false
namespace Go.Proofs.YthhbhbfkbncegaaGreatDoor.Cb
open Go.ChangeShapes Go.WideShapes Go.ChangeAt Go.RowKit Ws Mm Pa
open Go.Proofs.YthhbhbfkbncegaaGreatDoor.Ob

/-- whether an object of this kind may be -/
def rightB (wd sl cp sa : Int) (il rl : Nat) : Bool := decide ((1 ≤ wd ∧ wd ≤ 8) ∧ (il : Int) = wd ∧ (1 ≤ (rl : Int) ∧ (rl : Int) ≤ 4) ∧ ((rl : Int) + 2 ≤ sl ∧ sl ≤ 16) ∧ (1 ≤ cp ∧ cp ≤ 16) ∧ sa = 0)

theorem beq_dec (a b : Int) : (a == b) = decide (a = b) := by rw [Bool.eq_iff_iff]; simp
theorem right_not (k wd sl cp sa ow : Int) (ia ra : Option Addr) (il ic rl rc : Nat) (hk : k ≠ 5) (w : World) (hsa : 0 ≤ sa ∧ sa < 4294967296 := by assumption) :
 Calls Tryz.prog 154 #[.agg #[.int .i64 k, .int .i64 wd, .int .i64 sl, .int .i64 cp, .int .u32 sa, .slice ia il ic, .int .i64 ow, .slice ra rl rc]] w fun e w' => e = .returned (.bool false) ∧ Same w w' := by
 have hb : regB k wd il rl 5 = false := by unfold regB; rw [decide_eq_false (by omega)]
 have HR := fun w' => register_any 5 k wd sl cp sa ow ia ra il ic rl rc w'
 simp only [hb] at HR
 clear hb
 go_enter Tryz.func154, Tryz.ntmps154
 go_wp2_with fail
 refine (HR _).mono ?_
 rintro e w1 ⟨rfl, s1⟩
 go_wp2_with fail
 go_ret
 exact ⟨rfl, Same.trans ((Same.refl _).alloc _) s1⟩

set_option maxHeartbeats 400000 in
theorem right_any (wd sl cp sa ow : Int) (ia ra : Option Addr) (il ic rl rc : Nat) (w : World) (hsa : 0 ≤ sa ∧ sa < 4294967296 := by assumption) :
 Calls Tryz.prog 154 #[.agg #[.int .i64 5, .int .i64 wd, .int .i64 sl, .int .i64 cp, .int .u32 sa, .slice ia il ic, .int .i64 ow, .slice ra rl rc]] w fun e w' => e = .returned (.bool (rightB wd sl cp sa il rl)) ∧ Same w w' := by
 have s0 := (Same.refl w).alloc (.cells #[.int .i64 5, .int .i64 wd, .int .i64 sl, .int .i64 cp, .int .u32 sa, .slice ia il ic, .int .i64 ow, .slice ra rl rc] 34)
 have hb := Blk.new w 34 #[.int .i64 5, .int .i64 wd, .int .i64 sl, .int .i64 cp, .int .u32 sa, .slice ia il ic, .int .i64 ow, .slice ra rl rc]
 have HB := Lib.hid hb
 clear hb
 have HR := fun w' => register_any 5 5 wd sl cp sa ow ia ra il ic rl rc w'
 have WS := fun w' => within_any sl ((rl : Int) + 2) 16 w'
 have WC := fun w' => within_any cp 1 16 w'
 obtain ⟨G, hG⟩ : ∃ G, G = rightB wd sl cp sa il rl := ⟨_, rfl⟩
 rw [← hG]
 unfold rightB at hG
 cases hr : regB 5 wd il rl 5
 ·rw [hr] at HR
  have hr' : ¬ ((1 ≤ wd ∧ wd ≤ 8) ∧ (il : Int) = wd ∧ (1 ≤ (rl : Int) ∧ (rl : Int) ≤ 4)) := by
   intro h
   have h2 : regB 5 wd il rl 5 = true := decide_eq_true ⟨rfl, h⟩
   rw [hr] at h2
   cases h2
  have E : Hid (false = G) := Lib.hid (by rw [hG]; symm; apply decide_eq_false; intro h; exact hr' ⟨h.1, h.2.1, h.2.2.1⟩)
  clear hG hr hr'
  go_enter Tryz.func154, Tryz.ntmps154
  go_wp2_with fail
  refine (HR _).mono ?_
  rintro e w1 ⟨rfl, s1⟩
  obtain ⟨_, _, d2, d3, d4, _, _, d7⟩ := obj_cells (HB.out.same s1)
  have S := Lib.hid (s0.trans s1)
  clear HB s0 s1 HR
  generalize w.heap.size = q at *
  go_wp2_with fail
  go_ret
  exact ⟨ret_bool E.out, S.out⟩
 ·rw [hr] at HR
  have hr' : (1 ≤ wd ∧ wd ≤ 8) ∧ (il : Int) = wd ∧ (1 ≤ (rl : Int) ∧ (rl : Int) ≤ 4) := by
   unfold regB at hr
   exact (of_decide_eq_true hr).2
  have fr := i64_in ((rl : Int) + 2) (by omega)
  by_cases hs : (rl : Int) + 2 ≤ sl ∧ sl ≤ 16
  ·rw [decide_eq_true hs] at WS
   by_cases hc : 1 ≤ cp ∧ cp ≤ 16
   ·rw [decide_eq_true hc] at WC
    have E : Hid (decide (sa = 0) = G) := Lib.hid (by rw [hG, decide_eq_decide]; exact ⟨fun h => ⟨hr'.1, hr'.2.1, hr'.2.2, hs, hc, h⟩, fun h => h.2.2.2.2.2⟩)
    clear hG hr hr' hs hc
    go_enter Tryz.func154, Tryz.ntmps154
    go_wp2_with fail
    refine (HR _).mono ?_
    rintro e w1 ⟨rfl, s1⟩
    obtain ⟨_, _, d2, d3, d4, _, _, d7⟩ := obj_cells (HB.out.same s1)
    have S := Lib.hid (s0.trans s1)
    clear HB s0 s1 HR
    generalize w.heap.size = q at *
    go_wp2_with fail
    refine (WS _).mono ?_
    rintro e w2 ⟨rfl, rfl⟩
    go_wp2_with fail
    refine (WC _).mono ?_
    rintro e w2 ⟨rfl, rfl⟩
    go_wp2_with fail
    go_ret
    exact ⟨ret_bool (by rw [← E.out]; exact beq_dec _ _), S.out⟩
   ·rw [decide_eq_false hc] at WC
    have E : Hid (false = G) := Lib.hid (by rw [hG]; symm; apply decide_eq_false; intro h; exact hc h.2.2.2.2.1)
    clear hG hr hr' hs hc
    go_enter Tryz.func154, Tryz.ntmps154
    go_wp2_with fail
    refine (HR _).mono ?_
    rintro e w1 ⟨rfl, s1⟩
    obtain ⟨_, _, d2, d3, d4, _, _, d7⟩ := obj_cells (HB.out.same s1)
    have S := Lib.hid (s0.trans s1)
    clear HB s0 s1 HR
    generalize w.heap.size = q at *
    go_wp2_with fail
    refine (WS _).mono ?_
    rintro e w2 ⟨rfl, rfl⟩
    go_wp2_with fail
    refine (WC _).mono ?_
    rintro e w2 ⟨rfl, rfl⟩
    go_wp2_with fail
    go_ret
    exact ⟨ret_bool E.out, S.out⟩
  ·rw [decide_eq_false hs] at WS
   have E : Hid (false = G) := Lib.hid (by rw [hG]; symm; apply decide_eq_false; intro h; exact hs h.2.2.2.1)
   clear hG hr hr' hs
   go_enter Tryz.func154, Tryz.ntmps154
   go_wp2_with fail
   refine (HR _).mono ?_
   rintro e w1 ⟨rfl, s1⟩
   obtain ⟨_, _, d2, d3, d4, _, _, d7⟩ := obj_cells (HB.out.same s1)
   have S := Lib.hid (s0.trans s1)
   clear HB s0 s1 HR
   generalize w.heap.size = q at *
   go_wp2_with fail
   refine (WS _).mono ?_
   rintro e w2 ⟨rfl, rfl⟩
   go_wp2_with fail
   go_ret
   exact ⟨ret_bool E.out, S.out⟩

set_option maxHeartbeats 2000000 in
set_option maxRecDepth 100000 in
theorem rright_any (wd sl cp sa ow : Int) (ia ra : Option Addr) (il ic rl rc : Nat) (w : World) (hsa : 0 ≤ sa ∧ sa < 4294967296 := by assumption) :
 Calls Tryz.prog 92 #[.agg #[.int .i64 5, .int .i64 wd, .int .i64 sl, .int .i64 cp, .int .u32 sa, .slice ia il ic, .int .i64 ow, .slice ra rl rc]] w fun e w' => e = .returned (.bool (rightB wd sl cp sa il rl)) ∧ Same w w' := by
 by_cases hrl : rl ≤ 4
 ·have fr := i64_in ((rl : Int) + 2) (by omega)
  have fg : wrap64 ((rl : Int) + 2) = (rl : Int) + 2 := by unfold wrap64; omega
  go_enter Tryz.func92, Tryz.ntmps92
  go_wp2
  all_goals
   go_ret
   refine ⟨ret_bool ?_, (Same.refl _).alloc _⟩
   unfold rightB
   first
    | (rw [Bool.eq_iff_iff, decide_eq_true_eq, decide_eq_true_eq]; omega)
    | (rw [Bool.eq_iff_iff]; simp only [Bool.not_eq_true', Bool.not_eq_eq_eq_not, Bool.not_true, Bool.not_false, beq_iff_eq, bne_iff_ne, ne_eq, beq_eq_false_iff_ne, bne_eq_false_iff_eq, decide_eq_true_eq, Bool.false_eq_true, true_iff, false_iff, and_true, true_and, and_false, false_and] at *; omega)
 ·have hb : (4 : Int) < rl := by omega
  go_enter Tryz.func92, Tryz.ntmps92
  go_wp2
  all_goals
   go_ret
   refine ⟨ret_bool ?_, (Same.refl _).alloc _⟩
   unfold rightB
   first
    | (rw [Bool.eq_iff_iff, decide_eq_true_eq, decide_eq_true_eq]; omega)
    | (rw [Bool.eq_iff_iff]; simp only [Bool.not_eq_true', Bool.not_eq_eq_eq_not, Bool.not_true, Bool.not_false, beq_iff_eq, bne_iff_ne, ne_eq, beq_eq_false_iff_ne, bne_eq_false_iff_eq, decide_eq_true_eq, Bool.false_eq_true, true_iff, false_iff, and_true, true_and, and_false, false_and] at *; omega)

end Go.Proofs.YthhbhbfkbncegaaGreatDoor.Cb
end
section
set_option linter.unusedSimpArgs false
set_option linter.unusedVariables false
namespace Go.Proofs.YthhbhbfkbncegaaGreatDoor.Cb
open Go.ChangeShapes Go.WideShapes Go.ChangeAt Go.RowKit Ws Mm Pa
open Go.Proofs.YthhbhbfkbncegaaGreatDoor.Ob

theorem HQ {wd sl cp sa : Int} {il rl : Nat} (h : rightB wd sl cp sa il rl = true) : (1 ≤ wd ∧ wd ≤ 8) ∧ (il : Int) = wd ∧ (1 ≤ (rl : Int) ∧ (rl : Int) ≤ 4) ∧ ((rl : Int) + 2 ≤ sl ∧ sl ≤ 16) ∧ (1 ≤ cp ∧ cp ≤ 16) ∧ sa = 0 := by
 unfold rightB at h
 exact of_decide_eq_true h
def boundI (wd cp : Int) (rl : Nat) (op : Int) : Int := if op = 2 then wd + rl + 2 else if op = 1 then 3 * cp + wd + 1 else 0
theorem bound_yes (wd sl cp sa ow : Int) (ia ra : Option Addr) (il ic rl rc : Nat) (op : Int) (w : World) (hr : rightB wd sl cp sa il rl = true) (hsa : 0 ≤ sa ∧ sa < 4294967296 := by assumption) :
 Calls Tryz.prog 157 #[.agg #[.int .i64 5, .int .i64 wd, .int .i64 sl, .int .i64 cp, .int .u32 sa, .slice ia il ic, .int .i64 ow, .slice ra rl rc], .int .i64 op] w fun e w' => e = .returned (.int .i64 (boundI wd cp rl op)) ∧ Same w w' := by
 have hb := Blk.new w 34 #[.int .i64 5, .int .i64 wd, .int .i64 sl, .int .i64 cp, .int .u32 sa, .slice ia il ic, .int .i64 ow, .slice ra rl rc]
 have s0 := (Same.refl w).alloc (.cells #[.int .i64 5, .int .i64 wd, .int .i64 sl, .int .i64 cp, .int .u32 sa, .slice ia il ic, .int .i64 ow, .slice ra rl rc] 34)
 have HB := Lib.hid hb
 have HR := fun w' => right_any wd sl cp sa ow ia ra il ic rl rc w'
 rw [hr] at HR
 have hq := HQ hr
 obtain ⟨c1, c2⟩ := hq.2.2.2.2.1
 obtain ⟨n1, n2⟩ := hq.2.2.1
 have m1 := i64_in (wd + rl) (by omega)
 have m2 := i64_in (wd + rl + 2) (by omega)
 have m3 := i64_in (3 * cp) (by omega)
 have m4 := i64_in (3 * cp + wd) (by omega)
 have m5 := i64_in (3 * cp + wd + 1) (by omega)
 obtain ⟨h1, h2⟩ := hq.1
 have HQ2 := Lib.hid hq
 clear hb hq hr
 go_enter Tryz.func157, Tryz.ntmps157
 go_wp2_with fail
 refine (HR _).mono ?_
 rintro e w1 ⟨rfl, s1⟩
 have hb1 := HB.out.same s1
 have S1 := Lib.hid (s0.trans s1)
 have HB1 := Lib.hid hb1
 obtain ⟨d0, d1, d2, d3, d4, d5, d6, d7⟩ := obj_cells hb1
 clear hb1 s0 s1 HB HR
 generalize w.heap.size = q at *
 go_wp2
 all_goals
  go_ret
  exact ⟨ret_int (by unfold boundI; try simp only [beq_iff_eq, beq_eq_false_iff_ne, ne_eq] at *; repeat (split <;> try omega)), S1.out⟩
theorem bound_no (wd sl cp sa ow : Int) (ia ra : Option Addr) (il ic rl rc : Nat) (op : Int) (w : World) (hr : rightB wd sl cp sa il rl = false) (hsa : 0 ≤ sa ∧ sa < 4294967296 := by assumption) :
 Calls Tryz.prog 157 #[.agg #[.int .i64 5, .int .i64 wd, .int .i64 sl, .int .i64 cp, .int .u32 sa, .slice ia il ic, .int .i64 ow, .slice ra rl rc], .int .i64 op] w fun e w' => e = .returned (.int .i64 0) ∧ Same w w' := by
 have HR := fun w' => right_any wd sl cp sa ow ia ra il ic rl rc w'
 rw [hr] at HR
 clear hr
 go_enter Tryz.func157, Tryz.ntmps157
 go_wp2_with fail
 refine (HR _).mono ?_
 rintro e w1 ⟨rfl, s1⟩
 go_wp2_with fail
 go_ret
 exact ⟨rfl, Same.trans ((Same.refl _).alloc _) s1⟩
set_option maxHeartbeats 400000 in
theorem rbound_yes (wd sl cp sa ow : Int) (ia ra : Option Addr) (il ic rl rc : Nat) (op : Int) (w : World) (hr : rightB wd sl cp sa il rl = true) (hsa : 0 ≤ sa ∧ sa < 4294967296 := by assumption) :
 Calls Tryz.prog 90 #[.agg #[.int .i64 5, .int .i64 wd, .int .i64 sl, .int .i64 cp, .int .u32 sa, .slice ia il ic, .int .i64 ow, .slice ra rl rc], .int .i64 op] w fun e w' => e = .returned (.int .i64 (boundI wd cp rl op)) ∧ Same w w' := by
 have hb := Blk.new w 34 #[.int .i64 5, .int .i64 wd, .int .i64 sl, .int .i64 cp, .int .u32 sa, .slice ia il ic, .int .i64 ow, .slice ra rl rc]
 have s0 := (Same.refl w).alloc (.cells #[.int .i64 5, .int .i64 wd, .int .i64 sl, .int .i64 cp, .int .u32 sa, .slice ia il ic, .int .i64 ow, .slice ra rl rc] 34)
 have HB := Lib.hid hb
 have HR := fun w' => rright_any wd sl cp sa ow ia ra il ic rl rc w'
 rw [hr] at HR
 have hq := HQ hr
 obtain ⟨c1, c2⟩ := hq.2.2.2.2.1
 obtain ⟨n1, n2⟩ := hq.2.2.1
 have m1 := i64_in (wd + rl) (by omega)
 have m2 := i64_in (wd + rl + 2) (by omega)
 have m3 := i64_in (3 * cp) (by omega)
 have m4 := i64_in (3 * cp + wd) (by omega)
 have m5 := i64_in (3 * cp + wd + 1) (by omega)
 obtain ⟨h1, h2⟩ := hq.1
 have HQ2 := Lib.hid hq
 clear hb hq hr
 go_enter Tryz.func90, Tryz.ntmps90
 go_wp2_with fail
 refine (HR _).mono ?_
 rintro e w1 ⟨rfl, s1⟩
 have hb1 := HB.out.same s1
 have S1 := Lib.hid (s0.trans s1)
 have HB1 := Lib.hid hb1
 obtain ⟨d0, d1, d2, d3, d4, d5, d6, d7⟩ := obj_cells hb1
 clear hb1 s0 s1 HB HR
 generalize w.heap.size = q at *
 go_wp2_with (first | (go_at_call 54; ((with_reducible refine (rwrites_reg 5 (by decide) _).mono ?_); rintro e w' ⟨rfl, rfl⟩)) | (go_at_call 56; ((with_reducible refine (rreads_reg 5 (by decide) _).mono ?_); rintro e w' ⟨rfl, rfl⟩)))
 all_goals
  go_ret
  refine ⟨ret_int ?_, S1.out⟩
  by_cases h2 : op = 2
  ·rw [boundI, if_pos h2]
   all_goals first | rfl | (exfalso; simp_all)
  ·rw [boundI, if_neg h2]
   by_cases h1 : op = 1
   ·rw [if_pos h1]
    all_goals first | rfl | (exfalso; simp_all)
   ·rw [if_neg h1]
    all_goals first | rfl | (exfalso; simp_all)
theorem rbound_no (wd sl cp sa ow : Int) (ia ra : Option Addr) (il ic rl rc : Nat) (op : Int) (w : World) (hr : rightB wd sl cp sa il rl = false) (hsa : 0 ≤ sa ∧ sa < 4294967296 := by assumption) :
 Calls Tryz.prog 90 #[.agg #[.int .i64 5, .int .i64 wd, .int .i64 sl, .int .i64 cp, .int .u32 sa, .slice ia il ic, .int .i64 ow, .slice ra rl rc], .int .i64 op] w fun e w' => e = .returned (.int .i64 0) ∧ Same w w' := by
 have HR := fun w' => rright_any wd sl cp sa ow ia ra il ic rl rc w'
 rw [hr] at HR
 clear hr
 go_enter Tryz.func90, Tryz.ntmps90
 go_wp2_with fail
 refine (HR _).mono ?_
 rintro e w1 ⟨rfl, s1⟩
 go_wp2_with fail
 go_ret
 exact ⟨rfl, Same.trans ((Same.refl _).alloc _) s1⟩

end Go.Proofs.YthhbhbfkbncegaaGreatDoor.Cb
end
end
section
section
section
set_option linter.unusedSimpArgs false
set_option linter.unusedVariables false
namespace Go.Proofs.YthhbhbfkbncegaaGreatDoor.Sq
open Go.ChangeShapes Go.WideShapes Go.ChangeAt Go.RowKit Ws Mm Pa
open Go.Proofs.YthhbhbfkbncegaaGreatDoor.Ob

/-- whether an object of this kind may be -/
def rightB (wd sl cp sa : Int) (il rl : Nat) : Bool := decide ((1 ≤ wd ∧ wd ≤ 8) ∧ (il : Int) = wd ∧ (1 ≤ (rl : Int) ∧ (rl : Int) ≤ 4) ∧ sl = 0 ∧ (1 ≤ cp ∧ cp ≤ 16) ∧ sa % 2 = 0)

theorem right_not (k wd sl cp sa ow : Int) (ia ra : Option Addr) (il ic rl rc : Nat) (hk : k ≠ 3) (w : World) (hsa : 0 ≤ sa ∧ sa < 4294967296 := by assumption) :
 Calls Tryz.prog 146 #[.agg #[.int .i64 k, .int .i64 wd, .int .i64 sl, .int .i64 cp, .int .u32 sa, .slice ia il ic, .int .i64 ow, .slice ra rl rc]] w fun e w' => e = .returned (.bool false) ∧ Same w w' := by
 have hb : regB k wd il rl 3 = false := by unfold regB; rw [decide_eq_false (by omega)]
 have HR := fun w' => register_any 3 k wd sl cp sa ow ia ra il ic rl rc w'
 simp only [hb] at HR
 clear hb
 go_enter Tryz.func146, Tryz.ntmps146
 go_wp2_with fail
 refine (HR _).mono ?_
 rintro e w1 ⟨rfl, s1⟩
 go_wp2_with fail
 go_ret
 exact ⟨rfl, Same.trans ((Same.refl _).alloc _) s1⟩

set_option maxHeartbeats 400000 in
theorem right_any (wd sl cp sa ow : Int) (ia ra : Option Addr) (il ic rl rc : Nat) (w : World) (hsa : 0 ≤ sa ∧ sa < 4294967296 := by assumption) :
 Calls Tryz.prog 146 #[.agg #[.int .i64 3, .int .i64 wd, .int .i64 sl, .int .i64 cp, .int .u32 sa, .slice ia il ic, .int .i64 ow, .slice ra rl rc]] w fun e w' => e = .returned (.bool (rightB wd sl cp sa il rl)) ∧ Same w w' := by
 have f1 := and_one sa hsa
 have s0 := (Same.refl w).alloc (.cells #[.int .i64 3, .int .i64 wd, .int .i64 sl, .int .i64 cp, .int .u32 sa, .slice ia il ic, .int .i64 ow, .slice ra rl rc] 34)
 have hb := Blk.new w 34 #[.int .i64 3, .int .i64 wd, .int .i64 sl, .int .i64 cp, .int .u32 sa, .slice ia il ic, .int .i64 ow, .slice ra rl rc]
 have HB := Lib.hid hb
 clear hb
 cases hr : regB 3 wd il rl 3
 all_goals
  have HR := fun w' => register_any 3 3 wd sl cp sa ow ia ra il ic rl rc w'
  simp only [hr] at HR
  have hr2 := Lib.hid hr
  clear hr
  go_enter Tryz.func146, Tryz.ntmps146
  go_wp2_with fail
  refine (HR _).mono ?_
  rintro e w1 ⟨rfl, s1⟩
  obtain ⟨_, _, d2, d3, d4, _, _, d7⟩ := obj_cells (HB.out.same s1)
  have S := s0.trans s1
  clear HB s0 s1 HR
  generalize w.heap.size = q at *
  go_wp2
  all_goals
   go_ret
   have hr := hr2.out
   unfold regB at hr
   simp only [decide_eq_true_eq, decide_eq_false_iff_not] at hr
   refine ⟨ret_bool ?_, S⟩
   unfold rightB
   first
    | (rw [Bool.eq_iff_iff, decide_eq_true_eq, decide_eq_true_eq]; omega)
    | (rw [Bool.eq_iff_iff]; simp only [Bool.not_eq_true', Bool.not_eq_eq_eq_not, Bool.not_true, Bool.not_false, beq_iff_eq, bne_iff_ne, ne_eq, beq_eq_false_iff_ne, bne_eq_false_iff_eq, decide_eq_true_eq, Bool.false_eq_true, true_iff, false_iff, and_true, true_and, and_false, false_and] at *; omega)

set_option maxHeartbeats 2000000 in
set_option maxRecDepth 100000 in
theorem rright_any (wd sl cp sa ow : Int) (ia ra : Option Addr) (il ic rl rc : Nat) (w : World) (hsa : 0 ≤ sa ∧ sa < 4294967296 := by assumption) :
 Calls Tryz.prog 92 #[.agg #[.int .i64 3, .int .i64 wd, .int .i64 sl, .int .i64 cp, .int .u32 sa, .slice ia il ic, .int .i64 ow, .slice ra rl rc]] w fun e w' => e = .returned (.bool (rightB wd sl cp sa il rl)) ∧ Same w w' := by
 have f1 : ∀ x : Int, x % 2 = x % 2 := fun _ => rfl
 clear f1
 go_enter Tryz.func92, Tryz.ntmps92
 go_wp2
 all_goals
  go_ret
  refine ⟨ret_bool ?_, (Same.refl _).alloc _⟩
  unfold rightB
  first
   | (rw [Bool.eq_iff_iff, decide_eq_true_eq, decide_eq_true_eq]; omega)
   | (rw [Bool.eq_iff_iff]; simp only [Bool.not_eq_true', Bool.not_eq_eq_eq_not, Bool.not_true, Bool.not_false, beq_iff_eq, bne_iff_ne, ne_eq, beq_eq_false_iff_ne, bne_eq_false_iff_eq, decide_eq_true_eq, Bool.false_eq_true, true_iff, false_iff, and_true, true_and, and_false, false_and] at *; omega)

end Go.Proofs.YthhbhbfkbncegaaGreatDoor.Sq
end
section
set_option linter.unusedSimpArgs false
set_option linter.unusedVariables false
namespace Go.Proofs.YthhbhbfkbncegaaGreatDoor.Sq
open Go.ChangeShapes Go.WideShapes Go.ChangeAt Go.RowKit Ws Mm Pa
open Go.Proofs.YthhbhbfkbncegaaGreatDoor.Ob

theorem HQ {wd sl cp sa : Int} {il rl : Nat} (h : rightB wd sl cp sa il rl = true) : (1 ≤ wd ∧ wd ≤ 8) ∧ (il : Int) = wd ∧ (1 ≤ (rl : Int) ∧ (rl : Int) ≤ 4) ∧ sl = 0 ∧ (1 ≤ cp ∧ cp ≤ 16) ∧ sa % 2 = 0 := by
 unfold rightB at h
 exact of_decide_eq_true h
def boundI (wd cp op : Int) : Int := if op = 2 then wd + 3 else if op = 1 then cp * (wd + 2) else 0
theorem bound_yes (wd sl cp sa ow : Int) (ia ra : Option Addr) (il ic rl rc : Nat) (op : Int) (w : World) (hr : rightB wd sl cp sa il rl = true) (hsa : 0 ≤ sa ∧ sa < 4294967296 := by assumption) :
 Calls Tryz.prog 149 #[.agg #[.int .i64 3, .int .i64 wd, .int .i64 sl, .int .i64 cp, .int .u32 sa, .slice ia il ic, .int .i64 ow, .slice ra rl rc], .int .i64 op] w fun e w' => e = .returned (.int .i64 (boundI wd cp op)) ∧ Same w w' := by
 have hb := Blk.new w 34 #[.int .i64 3, .int .i64 wd, .int .i64 sl, .int .i64 cp, .int .u32 sa, .slice ia il ic, .int .i64 ow, .slice ra rl rc]
 have s0 := (Same.refl w).alloc (.cells #[.int .i64 3, .int .i64 wd, .int .i64 sl, .int .i64 cp, .int .u32 sa, .slice ia il ic, .int .i64 ow, .slice ra rl rc] 34)
 have HB := Lib.hid hb
 have HR := fun w' => right_any wd sl cp sa ow ia ra il ic rl rc w'
 rw [hr] at HR
 have hq := HQ hr
 obtain ⟨c1, c2⟩ := hq.2.2.2.2.1
 have m1 : 0 ≤ cp * (wd + 2) := Int.mul_nonneg (by omega) (by omega)
 have m2 : cp * (wd + 2) ≤ 160 := by
  have := Int.mul_le_mul c2 (show wd + 2 ≤ 10 by omega) (by omega) (by omega)
  omega
 have m3 : wrap64 (cp * (wd + 2)) = cp * (wd + 2) := by unfold wrap64; omega
 have m4 : IntKind.i64.wrap (cp * (wd + 2)) = cp * (wd + 2) := Go.IntWalk.i64_in _ (by omega)
 obtain ⟨h1, h2⟩ := hq.1
 have HQ2 := Lib.hid hq
 clear hb hq hr
 go_enter Tryz.func149, Tryz.ntmps149
 go_wp2_with fail
 refine (HR _).mono ?_
 rintro e w1 ⟨rfl, s1⟩
 have hb1 := HB.out.same s1
 have S1 := Lib.hid (s0.trans s1)
 have HB1 := Lib.hid hb1
 obtain ⟨d0, d1, d2, d3, d4, d5, d6, d7⟩ := obj_cells hb1
 clear hb1 s0 s1 HB HR
 generalize w.heap.size = q at *
 go_wp2
 all_goals
  go_ret
  exact ⟨ret_int (by unfold boundI; try simp only [beq_iff_eq, beq_eq_false_iff_ne, ne_eq] at *; repeat (split <;> try omega)), S1.out⟩
theorem bound_no (wd sl cp sa ow : Int) (ia ra : Option Addr) (il ic rl rc : Nat) (op : Int) (w : World) (hr : rightB wd sl cp sa il rl = false) (hsa : 0 ≤ sa ∧ sa < 4294967296 := by assumption) :
 Calls Tryz.prog 149 #[.agg #[.int .i64 3, .int .i64 wd, .int .i64 sl, .int .i64 cp, .int .u32 sa, .slice ia il ic, .int .i64 ow, .slice ra rl rc], .int .i64 op] w fun e w' => e = .returned (.int .i64 0) ∧ Same w w' := by
 have HR := fun w' => right_any wd sl cp sa ow ia ra il ic rl rc w'
 rw [hr] at HR
 clear hr
 go_enter Tryz.func149, Tryz.ntmps149
 go_wp2_with fail
 refine (HR _).mono ?_
 rintro e w1 ⟨rfl, s1⟩
 go_wp2_with fail
 go_ret
 exact ⟨rfl, Same.trans ((Same.refl _).alloc _) s1⟩
set_option maxHeartbeats 400000 in
theorem rbound_yes (wd sl cp sa ow : Int) (ia ra : Option Addr) (il ic rl rc : Nat) (op : Int) (w : World) (hr : rightB wd sl cp sa il rl = true) (hsa : 0 ≤ sa ∧ sa < 4294967296 := by assumption) :
 Calls Tryz.prog 90 #[.agg #[.int .i64 3, .int .i64 wd, .int .i64 sl, .int .i64 cp, .int .u32 sa, .slice ia il ic, .int .i64 ow, .slice ra rl rc], .int .i64 op] w fun e w' => e = .returned (.int .i64 (boundI wd cp op)) ∧ Same w w' := by
 have hb := Blk.new w 34 #[.int .i64 3, .int .i64 wd, .int .i64 sl, .int .i64 cp, .int .u32 sa, .slice ia il ic, .int .i64 ow, .slice ra rl rc]
 have s0 := (Same.refl w).alloc (.cells #[.int .i64 3, .int .i64 wd, .int .i64 sl, .int .i64 cp, .int .u32 sa, .slice ia il ic, .int .i64 ow, .slice ra rl rc] 34)
 have HB := Lib.hid hb
 have HR := fun w' => rright_any wd sl cp sa ow ia ra il ic rl rc w'
 rw [hr] at HR
 have hq := HQ hr
 obtain ⟨c1, c2⟩ := hq.2.2.2.2.1
 have m1 : 0 ≤ cp * (wd + 2) := Int.mul_nonneg (by omega) (by omega)
 have m2 : cp * (wd + 2) ≤ 160 := by
  have := Int.mul_le_mul c2 (show wd + 2 ≤ 10 by omega) (by omega) (by omega)
  omega
 have m3 : wrap64 (cp * (wd + 2)) = cp * (wd + 2) := by unfold wrap64; omega
 have m4 : IntKind.i64.wrap (cp * (wd + 2)) = cp * (wd + 2) := Go.IntWalk.i64_in _ (by omega)
 obtain ⟨h1, h2⟩ := hq.1
 have HQ2 := Lib.hid hq
 clear hb hq hr
 go_enter Tryz.func90, Tryz.ntmps90
 go_wp2_with fail
 refine (HR _).mono ?_
 rintro e w1 ⟨rfl, s1⟩
 have hb1 := HB.out.same s1
 have S1 := Lib.hid (s0.trans s1)
 have HB1 := Lib.hid hb1
 obtain ⟨d0, d1, d2, d3, d4, d5, d6, d7⟩ := obj_cells hb1
 clear hb1 s0 s1 HB HR
 generalize w.heap.size = q at *
 go_wp2_with (first | (go_at_call 54; ((with_reducible refine (rwrites_reg 3 (by decide) _).mono ?_); rintro e w' ⟨rfl, rfl⟩)) | (go_at_call 56; ((with_reducible refine (rreads_reg 3 (by decide) _).mono ?_); rintro e w' ⟨rfl, rfl⟩)))
 all_goals
  go_ret
  refine ⟨ret_int ?_, S1.out⟩
  by_cases h2 : op = 2
  ·rw [boundI, if_pos h2]
   all_goals first | rfl | (exfalso; simp_all)
  ·rw [boundI, if_neg h2]
   by_cases h1 : op = 1
   ·rw [if_pos h1]
    all_goals first | rfl | (exfalso; simp_all)
   ·rw [if_neg h1]
    all_goals first | rfl | (exfalso; simp_all)
theorem rbound_no (wd sl cp sa ow : Int) (ia ra : Option Addr) (il ic rl rc : Nat) (op : Int) (w : World) (hr : rightB wd sl cp sa il rl = false) (hsa : 0 ≤ sa ∧ sa < 4294967296 := by assumption) :
 Calls Tryz.prog 90 #[.agg #[.int .i64 3, .int .i64 wd, .int .i64 sl, .int .i64 cp, .int .u32 sa, .slice ia il ic, .int .i64 ow, .slice ra rl rc], .int .i64 op] w fun e w' => e = .returned (.int .i64 0) ∧ Same w w' := by
 have HR := fun w' => rright_any wd sl cp sa ow ia ra il ic rl rc w'
 rw [hr] at HR
 clear hr
 go_enter Tryz.func90, Tryz.ntmps90
 go_wp2_with fail
 refine (HR _).mono ?_
 rintro e w1 ⟨rfl, s1⟩
 go_wp2_with fail
 go_ret
 exact ⟨rfl, Same.trans ((Same.refl _).alloc _) s1⟩

end Go.Proofs.YthhbhbfkbncegaaGreatDoor.Sq
end
end
section
section
section
set_option linter.unusedSimpArgs false
set_option linter.unusedVariables false
namespace Go.Proofs.YthhbhbfkbncegaaGreatDoor.Ch
open Go.ChangeShapes Go.WideShapes Go.ChangeAt Go.RowKit Ws Mm Pa
open Go.Proofs.YthhbhbfkbncegaaGreatDoor.Ob

/-- whether an object of this kind may be -/
def rightB (wd sl cp sa : Int) (il rl : Nat) : Bool := decide ((1 ≤ wd ∧ wd ≤ 8) ∧ (il : Int) = wd ∧ (1 ≤ (rl : Int) ∧ (rl : Int) ≤ 4) ∧ sl = 0 ∧ cp = 0 ∧ sa = 0)

theorem right_not (k wd sl cp sa ow : Int) (ia ra : Option Addr) (il ic rl rc : Nat) (hk : k ≠ 2) (w : World) (hsa : 0 ≤ sa ∧ sa < 4294967296 := by assumption) :
 Calls Tryz.prog 142 #[.agg #[.int .i64 k, .int .i64 wd, .int .i64 sl, .int .i64 cp, .int .u32 sa, .slice ia il ic, .int .i64 ow, .slice ra rl rc]] w fun e w' => e = .returned (.bool false) ∧ Same w w' := by
 have hb : regB k wd il rl 2 = false := by unfold regB; rw [decide_eq_false (by omega)]
 have HR := fun w' => register_any 2 k wd sl cp sa ow ia ra il ic rl rc w'
 simp only [hb] at HR
 clear hb
 go_enter Tryz.func142, Tryz.ntmps142
 go_wp2_with fail
 refine (HR _).mono ?_
 rintro e w1 ⟨rfl, s1⟩
 go_wp2_with fail
 go_ret
 exact ⟨rfl, Same.trans ((Same.refl _).alloc _) s1⟩

set_option maxHeartbeats 400000 in
theorem right_any (wd sl cp sa ow : Int) (ia ra : Option Addr) (il ic rl rc : Nat) (w : World) (hsa : 0 ≤ sa ∧ sa < 4294967296 := by assumption) :
 Calls Tryz.prog 142 #[.agg #[.int .i64 2, .int .i64 wd, .int .i64 sl, .int .i64 cp, .int .u32 sa, .slice ia il ic, .int .i64 ow, .slice ra rl rc]] w fun e w' => e = .returned (.bool (rightB wd sl cp sa il rl)) ∧ Same w w' := by
 have s0 := (Same.refl w).alloc (.cells #[.int .i64 2, .int .i64 wd, .int .i64 sl, .int .i64 cp, .int .u32 sa, .slice ia il ic, .int .i64 ow, .slice ra rl rc] 34)
 have hb := Blk.new w 34 #[.int .i64 2, .int .i64 wd, .int .i64 sl, .int .i64 cp, .int .u32 sa, .slice ia il ic, .int .i64 ow, .slice ra rl rc]
 have HB := Lib.hid hb
 clear hb
 cases hr : regB 2 wd il rl 2
 all_goals
  have HR := fun w' => register_any 2 2 wd sl cp sa ow ia ra il ic rl rc w'
  simp only [hr] at HR
  have hr2 := Lib.hid hr
  clear hr
  go_enter Tryz.func142, Tryz.ntmps142
  go_wp2_with fail
  refine (HR _).mono ?_
  rintro e w1 ⟨rfl, s1⟩
  obtain ⟨_, _, d2, d3, d4, _, _, d7⟩ := obj_cells (HB.out.same s1)
  have S := s0.trans s1
  clear HB s0 s1 HR
  generalize w.heap.size = q at *
  go_wp2
  all_goals
   go_ret
   have hr := hr2.out
   unfold regB at hr
   simp only [decide_eq_true_eq, decide_eq_false_iff_not] at hr
   refine ⟨ret_bool ?_, S⟩
   unfold rightB
   first
    | (rw [Bool.eq_iff_iff, decide_eq_true_eq, decide_eq_true_eq]; omega)
    | (rw [Bool.eq_iff_iff]; simp only [beq_iff_eq, bne_iff_ne, ne_eq, beq_eq_false_iff_ne, bne_eq_false_iff_eq, decide_eq_true_eq, Bool.false_eq_true, true_iff, false_iff, and_true, true_and, and_false, false_and] at *; omega)

set_option maxHeartbeats 2000000 in
set_option maxRecDepth 100000 in
theorem rright_any (wd sl cp sa ow : Int) (ia ra : Option Addr) (il ic rl rc : Nat) (w : World) (hsa : 0 ≤ sa ∧ sa < 4294967296 := by assumption) :
 Calls Tryz.prog 92 #[.agg #[.int .i64 2, .int .i64 wd, .int .i64 sl, .int .i64 cp, .int .u32 sa, .slice ia il ic, .int .i64 ow, .slice ra rl rc]] w fun e w' => e = .returned (.bool (rightB wd sl cp sa il rl)) ∧ Same w w' := by
 go_enter Tryz.func92, Tryz.ntmps92
 go_wp2
 all_goals
  go_ret
  refine ⟨ret_bool ?_, (Same.refl _).alloc _⟩
  unfold rightB
  first
   | (rw [Bool.eq_iff_iff, decide_eq_true_eq, decide_eq_true_eq]; omega)
   | (rw [Bool.eq_iff_iff]; simp only [beq_iff_eq, bne_iff_ne, ne_eq, beq_eq_false_iff_ne, bne_eq_false_iff_eq, decide_eq_true_eq, Bool.false_eq_true, true_iff, false_iff, and_true, true_and, and_false, false_and] at *; omega)

end Go.Proofs.YthhbhbfkbncegaaGreatDoor.Ch
end
section
set_option linter.unusedSimpArgs false
set_option linter.unusedVariables false
namespace Go.Proofs.YthhbhbfkbncegaaGreatDoor.Ch
open Go.ChangeShapes Go.WideShapes Go.ChangeAt Go.RowKit Ws Mm Pa
open Go.Proofs.YthhbhbfkbncegaaGreatDoor.Ob

theorem HQ {wd sl cp sa : Int} {il rl : Nat} (h : rightB wd sl cp sa il rl = true) : (1 ≤ wd ∧ wd ≤ 8) ∧ (il : Int) = wd ∧ (1 ≤ (rl : Int) ∧ (rl : Int) ≤ 4) ∧ sl = 0 ∧ cp = 0 ∧ sa = 0 := by
 unfold rightB at h
 exact of_decide_eq_true h
def boundI (wd cp : Int) (rl : Nat) (op : Int) : Int := if op = 2 then wd + 2 * rl + 2 else if op = 1 then wd + 4 else 0
theorem bound_yes (wd sl cp sa ow : Int) (ia ra : Option Addr) (il ic rl rc : Nat) (op : Int) (w : World) (hr : rightB wd sl cp sa il rl = true) (hsa : 0 ≤ sa ∧ sa < 4294967296 := by assumption) :
 Calls Tryz.prog 145 #[.agg #[.int .i64 2, .int .i64 wd, .int .i64 sl, .int .i64 cp, .int .u32 sa, .slice ia il ic, .int .i64 ow, .slice ra rl rc], .int .i64 op] w fun e w' => e = .returned (.int .i64 (boundI wd cp rl op)) ∧ Same w w' := by
 have hb := Blk.new w 34 #[.int .i64 2, .int .i64 wd, .int .i64 sl, .int .i64 cp, .int .u32 sa, .slice ia il ic, .int .i64 ow, .slice ra rl rc]
 have s0 := (Same.refl w).alloc (.cells #[.int .i64 2, .int .i64 wd, .int .i64 sl, .int .i64 cp, .int .u32 sa, .slice ia il ic, .int .i64 ow, .slice ra rl rc] 34)
 have HB := Lib.hid hb
 have HR := fun w' => right_any wd sl cp sa ow ia ra il ic rl rc w'
 rw [hr] at HR
 have hq := HQ hr
 obtain ⟨c1, c2⟩ := hq.2.2.2.2.1
 obtain ⟨n1, n2⟩ := hq.2.2.1
 have m1 := i64_in (2 * (rl : Int)) (by omega)
 have m2 := i64_in (wd + 2 * (rl : Int)) (by omega)
 have m3 := i64_in (wd + 2 * (rl : Int) + 2) (by omega)
 have m4 := i64_in (wd + 4) (by omega)
 obtain ⟨h1, h2⟩ := hq.1
 have HQ2 := Lib.hid hq
 clear hb hq hr
 go_enter Tryz.func145, Tryz.ntmps145
 go_wp2_with fail
 refine (HR _).mono ?_
 rintro e w1 ⟨rfl, s1⟩
 have hb1 := HB.out.same s1
 have S1 := Lib.hid (s0.trans s1)
 have HB1 := Lib.hid hb1
 obtain ⟨d0, d1, d2, d3, d4, d5, d6, d7⟩ := obj_cells hb1
 clear hb1 s0 s1 HB HR
 generalize w.heap.size = q at *
 go_wp2
 all_goals
  go_ret
  exact ⟨ret_int (by unfold boundI; try simp only [beq_iff_eq, beq_eq_false_iff_ne, ne_eq] at *; repeat (split <;> try omega)), S1.out⟩
theorem bound_no (wd sl cp sa ow : Int) (ia ra : Option Addr) (il ic rl rc : Nat) (op : Int) (w : World) (hr : rightB wd sl cp sa il rl = false) (hsa : 0 ≤ sa ∧ sa < 4294967296 := by assumption) :
 Calls Tryz.prog 145 #[.agg #[.int .i64 2, .int .i64 wd, .int .i64 sl, .int .i64 cp, .int .u32 sa, .slice ia il ic, .int .i64 ow, .slice ra rl rc], .int .i64 op] w fun e w' => e = .returned (.int .i64 0) ∧ Same w w' := by
 have HR := fun w' => right_any wd sl cp sa ow ia ra il ic rl rc w'
 rw [hr] at HR
 clear hr
 go_enter Tryz.func145, Tryz.ntmps145
 go_wp2_with fail
 refine (HR _).mono ?_
 rintro e w1 ⟨rfl, s1⟩
 go_wp2_with fail
 go_ret
 exact ⟨rfl, Same.trans ((Same.refl _).alloc _) s1⟩
set_option maxHeartbeats 400000 in
theorem rbound_yes (wd sl cp sa ow : Int) (ia ra : Option Addr) (il ic rl rc : Nat) (op : Int) (w : World) (hr : rightB wd sl cp sa il rl = true) (hsa : 0 ≤ sa ∧ sa < 4294967296 := by assumption) :
 Calls Tryz.prog 90 #[.agg #[.int .i64 2, .int .i64 wd, .int .i64 sl, .int .i64 cp, .int .u32 sa, .slice ia il ic, .int .i64 ow, .slice ra rl rc], .int .i64 op] w fun e w' => e = .returned (.int .i64 (boundI wd cp rl op)) ∧ Same w w' := by
 have hb := Blk.new w 34 #[.int .i64 2, .int .i64 wd, .int .i64 sl, .int .i64 cp, .int .u32 sa, .slice ia il ic, .int .i64 ow, .slice ra rl rc]
 have s0 := (Same.refl w).alloc (.cells #[.int .i64 2, .int .i64 wd, .int .i64 sl, .int .i64 cp, .int .u32 sa, .slice ia il ic, .int .i64 ow, .slice ra rl rc] 34)
 have HB := Lib.hid hb
 have HR := fun w' => rright_any wd sl cp sa ow ia ra il ic rl rc w'
 rw [hr] at HR
 have hq := HQ hr
 obtain ⟨c1, c2⟩ := hq.2.2.2.2.1
 obtain ⟨n1, n2⟩ := hq.2.2.1
 have m1 := i64_in (2 * (rl : Int)) (by omega)
 have m2 := i64_in (wd + 2 * (rl : Int)) (by omega)
 have m3 := i64_in (wd + 2 * (rl : Int) + 2) (by omega)
 have m4 := i64_in (wd + 4) (by omega)
 obtain ⟨h1, h2⟩ := hq.1
 have HQ2 := Lib.hid hq
 clear hb hq hr
 go_enter Tryz.func90, Tryz.ntmps90
 go_wp2_with fail
 refine (HR _).mono ?_
 rintro e w1 ⟨rfl, s1⟩
 have hb1 := HB.out.same s1
 have S1 := Lib.hid (s0.trans s1)
 have HB1 := Lib.hid hb1
 obtain ⟨d0, d1, d2, d3, d4, d5, d6, d7⟩ := obj_cells hb1
 clear hb1 s0 s1 HB HR
 generalize w.heap.size = q at *
 go_wp2_with (first | (go_at_call 54; ((with_reducible refine (rwrites_reg 2 (by decide) _).mono ?_); rintro e w' ⟨rfl, rfl⟩)) | (go_at_call 56; ((with_reducible refine (rreads_reg 2 (by decide) _).mono ?_); rintro e w' ⟨rfl, rfl⟩)))
 all_goals
  go_ret
  refine ⟨ret_int ?_, S1.out⟩
  by_cases h2 : op = 2
  ·rw [boundI, if_pos h2]
   all_goals first | rfl | (exfalso; simp_all)
  ·rw [boundI, if_neg h2]
   by_cases h1 : op = 1
   ·rw [if_pos h1]
    all_goals first | rfl | (exfalso; simp_all)
   ·rw [if_neg h1]
    all_goals first | rfl | (exfalso; simp_all)
theorem rbound_no (wd sl cp sa ow : Int) (ia ra : Option Addr) (il ic rl rc : Nat) (op : Int) (w : World) (hr : rightB wd sl cp sa il rl = false) (hsa : 0 ≤ sa ∧ sa < 4294967296 := by assumption) :
 Calls Tryz.prog 90 #[.agg #[.int .i64 2, .int .i64 wd, .int .i64 sl, .int .i64 cp, .int .u32 sa, .slice ia il ic, .int .i64 ow, .slice ra rl rc], .int .i64 op] w fun e w' => e = .returned (.int .i64 0) ∧ Same w w' := by
 have HR := fun w' => rright_any wd sl cp sa ow ia ra il ic rl rc w'
 rw [hr] at HR
 clear hr
 go_enter Tryz.func90, Tryz.ntmps90
 go_wp2_with fail
 refine (HR _).mono ?_
 rintro e w1 ⟨rfl, s1⟩
 go_wp2_with fail
 go_ret
 exact ⟨rfl, Same.trans ((Same.refl _).alloc _) s1⟩

end Go.Proofs.YthhbhbfkbncegaaGreatDoor.Ch
end
end
section
section
section
set_option linter.unusedSimpArgs false
set_option linter.unusedVariables false
namespace Go.Proofs.YthhbhbfkbncegaaGreatDoor.Fo
open Go.ChangeShapes Go.WideShapes Go.ChangeAt Go.RowKit Ws Mm Pa
open Go.Proofs.YthhbhbfkbncegaaGreatDoor.Ob

/-- whether an object of this kind may be -/
def rightB (wd sl cp sa : Int) (il rl : Nat) : Bool := decide ((1 ≤ wd ∧ wd ≤ 8) ∧ (il : Int) = wd ∧ (rl : Int) = 1 ∧ sl = 0 ∧ cp = 0 ∧ sa = 0)

theorem right_not (k wd sl cp sa ow : Int) (ia ra : Option Addr) (il ic rl rc : Nat) (hk : k ≠ 1) (w : World) :
 Calls Tryz.prog 138 #[.agg #[.int .i64 k, .int .i64 wd, .int .i64 sl, .int .i64 cp, .int .u32 sa, .slice ia il ic, .int .i64 ow, .slice ra rl rc]] w fun e w' => e = .returned (.bool false) ∧ Same w w' := by
 have hb : regB k wd il rl 1 = false := by unfold regB; rw [decide_eq_false (by omega)]
 have HR := fun w' => register_any 1 k wd sl cp sa ow ia ra il ic rl rc w'
 simp only [hb] at HR
 clear hb
 go_enter Tryz.func138, Tryz.ntmps138
 go_wp2_with fail
 refine (HR _).mono ?_
 rintro e w1 ⟨rfl, s1⟩
 go_wp2_with fail
 go_ret
 exact ⟨rfl, Same.trans ((Same.refl _).alloc _) s1⟩

set_option maxHeartbeats 400000 in
theorem right_any (wd sl cp sa ow : Int) (ia ra : Option Addr) (il ic rl rc : Nat) (w : World) :
 Calls Tryz.prog 138 #[.agg #[.int .i64 1, .int .i64 wd, .int .i64 sl, .int .i64 cp, .int .u32 sa, .slice ia il ic, .int .i64 ow, .slice ra rl rc]] w fun e w' => e = .returned (.bool (rightB wd sl cp sa il rl)) ∧ Same w w' := by
 have s0 := (Same.refl w).alloc (.cells #[.int .i64 1, .int .i64 wd, .int .i64 sl, .int .i64 cp, .int .u32 sa, .slice ia il ic, .int .i64 ow, .slice ra rl rc] 34)
 have hb := Blk.new w 34 #[.int .i64 1, .int .i64 wd, .int .i64 sl, .int .i64 cp, .int .u32 sa, .slice ia il ic, .int .i64 ow, .slice ra rl rc]
 have HB := Lib.hid hb
 clear hb
 cases hr : regB 1 wd il rl 1
 all_goals
  have HR := fun w' => register_any 1 1 wd sl cp sa ow ia ra il ic rl rc w'
  simp only [hr] at HR
  have hr2 := Lib.hid hr
  clear hr
  go_enter Tryz.func138, Tryz.ntmps138
  go_wp2_with fail
  refine (HR _).mono ?_
  rintro e w1 ⟨rfl, s1⟩
  obtain ⟨_, _, d2, d3, d4, _, _, d7⟩ := obj_cells (HB.out.same s1)
  have S := s0.trans s1
  clear HB s0 s1 HR
  generalize w.heap.size = q at *
  go_wp2
  all_goals
   go_ret
   have hr := hr2.out
   unfold regB at hr
   simp only [decide_eq_true_eq, decide_eq_false_iff_not] at hr
   refine ⟨ret_bool ?_, S⟩
   unfold rightB
   first
    | (rw [Bool.eq_iff_iff, decide_eq_true_eq, decide_eq_true_eq]; omega)
    | (rw [Bool.eq_iff_iff]; simp only [beq_iff_eq, bne_iff_ne, ne_eq, beq_eq_false_iff_ne, bne_eq_false_iff_eq, decide_eq_true_eq, Bool.false_eq_true, true_iff, false_iff, and_true, true_and, and_false, false_and] at *; omega)

set_option maxHeartbeats 2000000 in
set_option maxRecDepth 100000 in
theorem rright_any (wd sl cp sa ow : Int) (ia ra : Option Addr) (il ic rl rc : Nat) (w : World) :
 Calls Tryz.prog 92 #[.agg #[.int .i64 1, .int .i64 wd, .int .i64 sl, .int .i64 cp, .int .u32 sa, .slice ia il ic, .int .i64 ow, .slice ra rl rc]] w fun e w' => e = .returned (.bool (rightB wd sl cp sa il rl)) ∧ Same w w' := by
 go_enter Tryz.func92, Tryz.ntmps92
 go_wp2
 all_goals
  go_ret
  refine ⟨ret_bool ?_, (Same.refl _).alloc _⟩
  unfold rightB
  first
   | (rw [Bool.eq_iff_iff, decide_eq_true_eq, decide_eq_true_eq]; omega)
   | (rw [Bool.eq_iff_iff]; simp only [beq_iff_eq, bne_iff_ne, ne_eq, beq_eq_false_iff_ne, bne_eq_false_iff_eq, decide_eq_true_eq, Bool.false_eq_true, true_iff, false_iff, and_true, true_and, and_false, false_and] at *; omega)

end Go.Proofs.YthhbhbfkbncegaaGreatDoor.Fo
end
section
set_option linter.unusedSimpArgs false
set_option linter.unusedVariables false
namespace Go.Proofs.YthhbhbfkbncegaaGreatDoor.Fo
open Go.ChangeShapes Go.WideShapes Go.ChangeAt Go.RowKit Ws Mm Pa
open Go.Proofs.YthhbhbfkbncegaaGreatDoor.Ob

theorem HQ {wd sl cp sa : Int} {il rl : Nat} (h : rightB wd sl cp sa il rl = true) : (1 ≤ wd ∧ wd ≤ 8) ∧ (il : Int) = wd ∧ (rl : Int) = 1 ∧ sl = 0 ∧ cp = 0 ∧ sa = 0 := by
 unfold rightB at h
 exact of_decide_eq_true h
def boundI (wd op : Int) : Int := if op = 2 then wd + 4 else if op = 1 then wd + 3 else 0
theorem bound_yes (wd sl cp sa ow : Int) (ia ra : Option Addr) (il ic rl rc : Nat) (op : Int) (w : World) (hr : rightB wd sl cp sa il rl = true) :
 Calls Tryz.prog 141 #[.agg #[.int .i64 1, .int .i64 wd, .int .i64 sl, .int .i64 cp, .int .u32 sa, .slice ia il ic, .int .i64 ow, .slice ra rl rc], .int .i64 op] w fun e w' => e = .returned (.int .i64 (boundI wd op)) ∧ Same w w' := by
 have hb := Blk.new w 34 #[.int .i64 1, .int .i64 wd, .int .i64 sl, .int .i64 cp, .int .u32 sa, .slice ia il ic, .int .i64 ow, .slice ra rl rc]
 have s0 := (Same.refl w).alloc (.cells #[.int .i64 1, .int .i64 wd, .int .i64 sl, .int .i64 cp, .int .u32 sa, .slice ia il ic, .int .i64 ow, .slice ra rl rc] 34)
 have HB := Lib.hid hb
 have HR := fun w' => right_any wd sl cp sa ow ia ra il ic rl rc w'
 rw [hr] at HR
 have hq := HQ hr
 obtain ⟨h1, h2⟩ := hq.1
 have HQ2 := Lib.hid hq
 clear hb hq hr
 go_enter Tryz.func141, Tryz.ntmps141
 go_wp2_with fail
 refine (HR _).mono ?_
 rintro e w1 ⟨rfl, s1⟩
 have hb1 := HB.out.same s1
 have S1 := Lib.hid (s0.trans s1)
 have HB1 := Lib.hid hb1
 obtain ⟨d0, d1, d2, d3, d4, d5, d6, d7⟩ := obj_cells hb1
 clear hb1 s0 s1 HB HR
 generalize w.heap.size = q at *
 go_wp2
 all_goals
  go_ret
  exact ⟨ret_int (by unfold boundI; try simp only [beq_iff_eq, beq_eq_false_iff_ne, ne_eq] at *; repeat (split <;> try omega)), S1.out⟩
theorem bound_no (wd sl cp sa ow : Int) (ia ra : Option Addr) (il ic rl rc : Nat) (op : Int) (w : World) (hr : rightB wd sl cp sa il rl = false) :
 Calls Tryz.prog 141 #[.agg #[.int .i64 1, .int .i64 wd, .int .i64 sl, .int .i64 cp, .int .u32 sa, .slice ia il ic, .int .i64 ow, .slice ra rl rc], .int .i64 op] w fun e w' => e = .returned (.int .i64 0) ∧ Same w w' := by
 have HR := fun w' => right_any wd sl cp sa ow ia ra il ic rl rc w'
 rw [hr] at HR
 clear hr
 go_enter Tryz.func141, Tryz.ntmps141
 go_wp2_with fail
 refine (HR _).mono ?_
 rintro e w1 ⟨rfl, s1⟩
 go_wp2_with fail
 go_ret
 exact ⟨rfl, Same.trans ((Same.refl _).alloc _) s1⟩
set_option maxHeartbeats 400000 in
theorem rbound_yes (wd sl cp sa ow : Int) (ia ra : Option Addr) (il ic rl rc : Nat) (op : Int) (w : World) (hr : rightB wd sl cp sa il rl = true) :
 Calls Tryz.prog 90 #[.agg #[.int .i64 1, .int .i64 wd, .int .i64 sl, .int .i64 cp, .int .u32 sa, .slice ia il ic, .int .i64 ow, .slice ra rl rc], .int .i64 op] w fun e w' => e = .returned (.int .i64 (boundI wd op)) ∧ Same w w' := by
 have hb := Blk.new w 34 #[.int .i64 1, .int .i64 wd, .int .i64 sl, .int .i64 cp, .int .u32 sa, .slice ia il ic, .int .i64 ow, .slice ra rl rc]
 have s0 := (Same.refl w).alloc (.cells #[.int .i64 1, .int .i64 wd, .int .i64 sl, .int .i64 cp, .int .u32 sa, .slice ia il ic, .int .i64 ow, .slice ra rl rc] 34)
 have HB := Lib.hid hb
 have HR := fun w' => rright_any wd sl cp sa ow ia ra il ic rl rc w'
 rw [hr] at HR
 have hq := HQ hr
 obtain ⟨h1, h2⟩ := hq.1
 have HQ2 := Lib.hid hq
 clear hb hq hr
 go_enter Tryz.func90, Tryz.ntmps90
 go_wp2_with fail
 refine (HR _).mono ?_
 rintro e w1 ⟨rfl, s1⟩
 have hb1 := HB.out.same s1
 have S1 := Lib.hid (s0.trans s1)
 have HB1 := Lib.hid hb1
 obtain ⟨d0, d1, d2, d3, d4, d5, d6, d7⟩ := obj_cells hb1
 clear hb1 s0 s1 HB HR
 generalize w.heap.size = q at *
 go_wp2_with (first | (go_at_call 54; ((with_reducible refine (rwrites_reg 1 (by decide) _).mono ?_); rintro e w' ⟨rfl, rfl⟩)) | (go_at_call 56; ((with_reducible refine (rreads_reg 1 (by decide) _).mono ?_); rintro e w' ⟨rfl, rfl⟩)))
 all_goals
  go_ret
  refine ⟨ret_int ?_, S1.out⟩
  by_cases h2 : op = 2
  ·rw [boundI, if_pos h2]
   all_goals first | rfl | (exfalso; simp_all)
  ·rw [boundI, if_neg h2]
   by_cases h1 : op = 1
   ·rw [if_pos h1]
    all_goals first | rfl | (exfalso; simp_all)
   ·rw [if_neg h1]
    all_goals first | rfl | (exfalso; simp_all)
theorem rbound_no (wd sl cp sa ow : Int) (ia ra : Option Addr) (il ic rl rc : Nat) (op : Int) (w : World) (hr : rightB wd sl cp sa il rl = false) :
 Calls Tryz.prog 90 #[.agg #[.int .i64 1, .int .i64 wd, .int .i64 sl, .int .i64 cp, .int .u32 sa, .slice ia il ic, .int .i64 ow, .slice ra rl rc], .int .i64 op] w fun e w' => e = .returned (.int .i64 0) ∧ Same w w' := by
 have HR := fun w' => rright_any wd sl cp sa ow ia ra il ic rl rc w'
 rw [hr] at HR
 clear hr
 go_enter Tryz.func90, Tryz.ntmps90
 go_wp2_with fail
 refine (HR _).mono ?_
 rintro e w1 ⟨rfl, s1⟩
 go_wp2_with fail
 go_ret
 exact ⟨rfl, Same.trans ((Same.refl _).alloc _) s1⟩

end Go.Proofs.YthhbhbfkbncegaaGreatDoor.Fo
end
end
section
set_option linter.unusedVariables false
set_option linter.unusedSimpArgs false
namespace Go.Proofs.YthhbhbfkbncegaaGreatDoor.Fc
open Go.ChangeShapes Go.WideShapes Go.ChangeAt Go.RowKit Ws

theorem ret_int {k : IntKind} {a b : Int} (h : a = b) : Ending.returned (.int k a) = .returned (.int k b) := by rw [h]
theorem results_cell2 {P : Program} {fn : Func} {p t : Tmp} {ty : TypeId} (h : fn.results = #[.cell p ty, .tmp t]) (tmps : Array Value) (w : World) (g : Nat) (T : TypeId) (cs : Array Value) (fr : Nat × Nat) (d : TypeDesc)
 (hp : tmps.getD p undef = .pointer (some ⟨g, 0, none⟩)) (hg : w.heap[g]? = some (.cells cs T fr))
 (hu : P.underlying ty = some d) (hd : (match d with | .struct _ | .array _ _ => true | _ => false) = true) (hi : (P.info? ty).map (·.size) = some cs.size) :
 (results fn tmps).run P w = .ok (.tuple #[.agg cs, tmps.getD t undef]) w := by
 have hp' : tmps[p]?.getD undef = .pointer (some ⟨g, 0, none⟩) := by simpa using hp
 simp [results, h, hp', asAddr, run_loadVar_row w g T ty cs fr d hg hu hd hi]
theorem face_size : (Tryz.prog.info? 130).map (·.size) = some 5 := by kernel_rfl
def rightF (k wd sl cp sa : Int) (il rl : Nat) : Bool := if k = 1 then Fo.rightB wd sl cp sa il rl else if k = 2 then Ch.rightB wd sl cp sa il rl else if k = 3 then Sq.rightB wd sl cp sa il rl else if k = 4 then Rg.rightB wd sl cp sa il rl else if k = 5 then Cb.rightB wd sl cp sa il rl else if k = 6 then Ff.rightB wd sl cp sa il rl else false
def boundF (k wd sl cp sa : Int) (il rl : Nat) (op : Int) : Int := if rightF k wd sl cp sa il rl = true then (if k = 1 then Fo.boundI wd op else if k = 2 then Ch.boundI wd cp rl op else if k = 3 then Sq.boundI wd cp op else if k = 4 then Rg.boundI wd cp op else if k = 5 then Cb.boundI wd cp rl op else if k = 6 then Ff.boundI wd op else 0) else 0
theorem right_1 (wd sl cp sa : Int) (il rl : Nat) : rightF 1 wd sl cp sa il rl = Fo.rightB wd sl cp sa il rl := by unfold rightF; simp
theorem bound_1 (wd sl cp sa : Int) (il rl : Nat) (op : Int) : boundF 1 wd sl cp sa il rl op = if Fo.rightB wd sl cp sa il rl = true then Fo.boundI wd op else 0 := by unfold boundF; rw [right_1]; simp
theorem right_2 (wd sl cp sa : Int) (il rl : Nat) : rightF 2 wd sl cp sa il rl = Ch.rightB wd sl cp sa il rl := by unfold rightF; simp
theorem bound_2 (wd sl cp sa : Int) (il rl : Nat) (op : Int) : boundF 2 wd sl cp sa il rl op = if Ch.rightB wd sl cp sa il rl = true then Ch.boundI wd cp rl op else 0 := by unfold boundF; rw [right_2]; simp
theorem right_3 (wd sl cp sa : Int) (il rl : Nat) : rightF 3 wd sl cp sa il rl = Sq.rightB wd sl cp sa il rl := by unfold rightF; simp
theorem bound_3 (wd sl cp sa : Int) (il rl : Nat) (op : Int) : boundF 3 wd sl cp sa il rl op = if Sq.rightB wd sl cp sa il rl = true then Sq.boundI wd cp op else 0 := by unfold boundF; rw [right_3]; simp
theorem right_4 (wd sl cp sa : Int) (il rl : Nat) : rightF 4 wd sl cp sa il rl = Rg.rightB wd sl cp sa il rl := by unfold rightF; simp
theorem bound_4 (wd sl cp sa : Int) (il rl : Nat) (op : Int) : boundF 4 wd sl cp sa il rl op = if Rg.rightB wd sl cp sa il rl = true then Rg.boundI wd cp op else 0 := by unfold boundF; rw [right_4]; simp
theorem right_5 (wd sl cp sa : Int) (il rl : Nat) : rightF 5 wd sl cp sa il rl = Cb.rightB wd sl cp sa il rl := by unfold rightF; simp
theorem bound_5 (wd sl cp sa : Int) (il rl : Nat) (op : Int) : boundF 5 wd sl cp sa il rl op = if Cb.rightB wd sl cp sa il rl = true then Cb.boundI wd cp rl op else 0 := by unfold boundF; rw [right_5]; simp
theorem right_6 (wd sl cp sa : Int) (il rl : Nat) : rightF 6 wd sl cp sa il rl = Ff.rightB wd sl cp sa il rl := by unfold rightF; simp
theorem bound_6 (wd sl cp sa : Int) (il rl : Nat) (op : Int) : boundF 6 wd sl cp sa il rl op = if Ff.rightB wd sl cp sa il rl = true then Ff.boundI wd op else 0 := by unfold boundF; rw [right_6]; simp
theorem right_none {k : Int} (wd sl cp sa : Int) (il rl : Nat) (h : k < 1 ∨ 6 < k) : rightF k wd sl cp sa il rl = false := by
 unfold rightF
 rw [if_neg (by omega), if_neg (by omega), if_neg (by omega), if_neg (by omega), if_neg (by omega), if_neg (by omega)]
theorem bound_none {k : Int} (wd sl cp sa : Int) (il rl : Nat) (op : Int) (h : k < 1 ∨ 6 < k) : boundF k wd sl cp sa il rl op = 0 := by
 unfold boundF
 rw [right_none wd sl cp sa il rl h, if_neg Bool.false_ne_true]
theorem chg_setRow {S : Nat → Prop} {a b : World} (h : Chg S a b) {g : Nat} (hg : S g ∨ a.heap.size ≤ g) (cs : Array Value) : Chg S a (b.setRow g cs) := by
 refine ⟨h.os, h.tape, h.output, by simpa [World.setRow] using h.size, fun i hi hn => ?_⟩
 rw [← h.block i hi hn]
 unfold World.setRow
 simp only [Array.getElem?_modify]
 rw [if_neg]
 rintro rfl
 rcases hg with hg | hg
 ·exact hn hg
 ·omega
theorem row_blk {w : World} {g : Nat} {T : TypeId} {old cs : Array Value} (h : Blk w g T old) : Blk (w.setRow g cs) g T cs := setRow_heap w g old cs T (0, 0) h
theorem one_all {cs : List Value} (h : cs.all (fun v => v.oneCell') = true) : cs.toArray.all (·.oneCell') = true := by
 rw [List.all_toArray]
 exact h
theorem one_0 : (#[.string ⟨#[]⟩, .nilFunc, .nilFunc, .nilFunc, .nilFunc] : Array Value).all (·.oneCell') = true := one_all (by rfl)
theorem one_1 : (#[.string ⟨#[102, 111, 117, 114]⟩, .func (.func 138) #[] #[], .func (.func 139) #[] #[], .func (.func 140) #[] #[], .func (.func 141) #[] #[]] : Array Value).all (·.oneCell') = true := one_all (by rfl)
theorem one_2 : (#[.string ⟨#[99, 104, 101, 110]⟩, .func (.func 142) #[] #[], .func (.func 143) #[] #[], .func (.func 144) #[] #[], .func (.func 145) #[] #[]] : Array Value).all (·.oneCell') = true := one_all (by rfl)
theorem one_3 : (#[.string ⟨#[115, 101, 113]⟩, .func (.func 146) #[] #[], .func (.func 147) #[] #[], .func (.func 148) #[] #[], .func (.func 149) #[] #[]] : Array Value).all (·.oneCell') = true := one_all (by rfl)
theorem one_4 : (#[.string ⟨#[114, 105, 110, 103]⟩, .func (.func 150) #[] #[], .func (.func 151) #[] #[], .func (.func 152) #[] #[], .func (.func 153) #[] #[]] : Array Value).all (·.oneCell') = true := one_all (by rfl)
theorem one_5 : (#[.string ⟨#[99, 97, 98]⟩, .func (.func 154) #[] #[], .func (.func 155) #[] #[], .func (.func 156) #[] #[], .func (.func 157) #[] #[]] : Array Value).all (·.oneCell') = true := one_all (by rfl)
theorem one_6 : (#[.string ⟨#[102, 105, 102, 111]⟩, .func (.func 158) #[] #[], .func (.func 159) #[] #[], .func (.func 160) #[] #[], .func (.func 161) #[] #[]] : Array Value).all (·.oneCell') = true := one_all (by rfl)
set_option maxRecDepth 100000 in
theorem face_1 (w : World) : Calls Tryz.prog 119 #[.int .i64 1] w fun e w' => e = .returned (.tuple #[.agg #[.string ⟨#[102, 111, 117, 114]⟩, .func (.func 138) #[] #[], .func (.func 139) #[] #[], .func (.func 140) #[] #[], .func (.func 141) #[] #[]], .bool true]) ∧ Same w w' := by
 have HZ := Lib.hid (Blk.new w 130 #[.string ⟨#[]⟩, .nilFunc, .nilFunc, .nilFunc, .nilFunc])
 go_enter Tryz.func119, Tryz.ntmps119
 go_wp2_with (refine wpList_store_row rfl 130 (.tmp 2) (.tmp 7) rfl w.heap.size #[.string ⟨#[102, 111, 117, 114]⟩, .func (.func 138) #[] #[], .func (.func 139) #[] #[], .func (.func 140) #[] #[], .func (.func 141) #[] #[]] rfl rfl 130 #[.string ⟨#[]⟩, .nilFunc, .nilFunc, .nilFunc, .nilFunc] HZ.out face_size rfl one_1 ?_)
 refine bodyPost_ret (v := .tuple #[.agg #[.string ⟨#[102, 111, 117, 114]⟩, .func (.func 138) #[] #[], .func (.func 139) #[] #[], .func (.func 140) #[] #[], .func (.func 141) #[] #[]], .bool true]) (results_cell2 Tryz.results119 _ _ w.heap.size 130 #[.string ⟨#[102, 111, 117, 114]⟩, .func (.func 138) #[] #[], .func (.func 139) #[] #[], .func (.func 140) #[] #[], .func (.func 141) #[] #[]] (0, 0) _ rfl (row_blk HZ.out) Tryz.underlying130 rfl face_size) rfl ⟨rfl, ?_⟩
 exact chg_setRow ((Same.refl w).alloc _) (.inr (Nat.le_refl _)) _
set_option maxRecDepth 100000 in
theorem face_2 (w : World) : Calls Tryz.prog 119 #[.int .i64 2] w fun e w' => e = .returned (.tuple #[.agg #[.string ⟨#[99, 104, 101, 110]⟩, .func (.func 142) #[] #[], .func (.func 143) #[] #[], .func (.func 144) #[] #[], .func (.func 145) #[] #[]], .bool true]) ∧ Same w w' := by
 have HZ := Lib.hid (Blk.new w 130 #[.string ⟨#[]⟩, .nilFunc, .nilFunc, .nilFunc, .nilFunc])
 go_enter Tryz.func119, Tryz.ntmps119
 go_wp2_with (refine wpList_store_row rfl 130 (.tmp 2) (.tmp 10) rfl w.heap.size #[.string ⟨#[99, 104, 101, 110]⟩, .func (.func 142) #[] #[], .func (.func 143) #[] #[], .func (.func 144) #[] #[], .func (.func 145) #[] #[]] rfl rfl 130 #[.string ⟨#[]⟩, .nilFunc, .nilFunc, .nilFunc, .nilFunc] HZ.out face_size rfl one_2 ?_)
 refine bodyPost_ret (v := .tuple #[.agg #[.string ⟨#[99, 104, 101, 110]⟩, .func (.func 142) #[] #[], .func (.func 143) #[] #[], .func (.func 144) #[] #[], .func (.func 145) #[] #[]], .bool true]) (results_cell2 Tryz.results119 _ _ w.heap.size 130 #[.string ⟨#[99, 104, 101, 110]⟩, .func (.func 142) #[] #[], .func (.func 143) #[] #[], .func (.func 144) #[] #[], .func (.func 145) #[] #[]] (0, 0) _ rfl (row_blk HZ.out) Tryz.underlying130 rfl face_size) rfl ⟨rfl, ?_⟩
 exact chg_setRow ((Same.refl w).alloc _) (.inr (Nat.le_refl _)) _
set_option maxRecDepth 100000 in
theorem face_3 (w : World) : Calls Tryz.prog 119 #[.int .i64 3] w fun e w' => e = .returned (.tuple #[.agg #[.string ⟨#[115, 101, 113]⟩, .func (.func 146) #[] #[], .func (.func 147) #[] #[], .func (.func 148) #[] #[], .func (.func 149) #[] #[]], .bool true]) ∧ Same w w' := by
 have HZ := Lib.hid (Blk.new w 130 #[.string ⟨#[]⟩, .nilFunc, .nilFunc, .nilFunc, .nilFunc])
 go_enter Tryz.func119, Tryz.ntmps119
 go_wp2_with (refine wpList_store_row rfl 130 (.tmp 2) (.tmp 13) rfl w.heap.size #[.string ⟨#[115, 101, 113]⟩, .func (.func 146) #[] #[], .func (.func 147) #[] #[], .func (.func 148) #[] #[], .func (.func 149) #[] #[]] rfl rfl 130 #[.string ⟨#[]⟩, .nilFunc, .nilFunc, .nilFunc, .nilFunc] HZ.out face_size rfl one_3 ?_)
 refine bodyPost_ret (v := .tuple #[.agg #[.string ⟨#[115, 101, 113]⟩, .func (.func 146) #[] #[], .func (.func 147) #[] #[], .func (.func 148) #[] #[], .func (.func 149) #[] #[]], .bool true]) (results_cell2 Tryz.results119 _ _ w.heap.size 130 #[.string ⟨#[115, 101, 113]⟩, .func (.func 146) #[] #[], .func (.func 147) #[] #[], .func (.func 148) #[] #[], .func (.func 149) #[] #[]] (0, 0) _ rfl (row_blk HZ.out) Tryz.underlying130 rfl face_size) rfl ⟨rfl, ?_⟩
 exact chg_setRow ((Same.refl w).alloc _) (.inr (Nat.le_refl _)) _
set_option maxRecDepth 100000 in
theorem face_4 (w : World) : Calls Tryz.prog 119 #[.int .i64 4] w fun e w' => e = .returned (.tuple #[.agg #[.string ⟨#[114, 105, 110, 103]⟩, .func (.func 150) #[] #[], .func (.func 151) #[] #[], .func (.func 152) #[] #[], .func (.func 153) #[] #[]], .bool true]) ∧ Same w w' := by
 have HZ := Lib.hid (Blk.new w 130 #[.string ⟨#[]⟩, .nilFunc, .nilFunc, .nilFunc, .nilFunc])
 go_enter Tryz.func119, Tryz.ntmps119
 go_wp2_with (refine wpList_store_row rfl 130 (.tmp 2) (.tmp 16) rfl w.heap.size #[.string ⟨#[114, 105, 110, 103]⟩, .func (.func 150) #[] #[], .func (.func 151) #[] #[], .func (.func 152) #[] #[], .func (.func 153) #[] #[]] rfl rfl 130 #[.string ⟨#[]⟩, .nilFunc, .nilFunc, .nilFunc, .nilFunc] HZ.out face_size rfl one_4 ?_)
 refine bodyPost_ret (v := .tuple #[.agg #[.string ⟨#[114, 105, 110, 103]⟩, .func (.func 150) #[] #[], .func (.func 151) #[] #[], .func (.func 152) #[] #[], .func (.func 153) #[] #[]], .bool true]) (results_cell2 Tryz.results119 _ _ w.heap.size 130 #[.string ⟨#[114, 105, 110, 103]⟩, .func (.func 150) #[] #[], .func (.func 151) #[] #[], .func (.func 152) #[] #[], .func (.func 153) #[] #[]] (0, 0) _ rfl (row_blk HZ.out) Tryz.underlying130 rfl face_size) rfl ⟨rfl, ?_⟩
 exact chg_setRow ((Same.refl w).alloc _) (.inr (Nat.le_refl _)) _
set_option maxRecDepth 100000 in
theorem face_5 (w : World) : Calls Tryz.prog 119 #[.int .i64 5] w fun e w' => e = .returned (.tuple #[.agg #[.string ⟨#[99, 97, 98]⟩, .func (.func 154) #[] #[], .func (.func 155) #[] #[], .func (.func 156) #[] #[], .func (.func 157) #[] #[]], .bool true]) ∧ Same w w' := by
 have HZ := Lib.hid (Blk.new w 130 #[.string ⟨#[]⟩, .nilFunc, .nilFunc, .nilFunc, .nilFunc])
 go_enter Tryz.func119, Tryz.ntmps119
 go_wp2_with (refine wpList_store_row rfl 130 (.tmp 2) (.tmp 19) rfl w.heap.size #[.string ⟨#[99, 97, 98]⟩, .func (.func 154) #[] #[], .func (.func 155) #[] #[], .func (.func 156) #[] #[], .func (.func 157) #[] #[]] rfl rfl 130 #[.string ⟨#[]⟩, .nilFunc, .nilFunc, .nilFunc, .nilFunc] HZ.out face_size rfl one_5 ?_)
 refine bodyPost_ret (v := .tuple #[.agg #[.string ⟨#[99, 97, 98]⟩, .func (.func 154) #[] #[], .func (.func 155) #[] #[], .func (.func 156) #[] #[], .func (.func 157) #[] #[]], .bool true]) (results_cell2 Tryz.results119 _ _ w.heap.size 130 #[.string ⟨#[99, 97, 98]⟩, .func (.func 154) #[] #[], .func (.func 155) #[] #[], .func (.func 156) #[] #[], .func (.func 157) #[] #[]] (0, 0) _ rfl (row_blk HZ.out) Tryz.underlying130 rfl face_size) rfl ⟨rfl, ?_⟩
 exact chg_setRow ((Same.refl w).alloc _) (.inr (Nat.le_refl _)) _
set_option maxRecDepth 100000 in
theorem face_6 (w : World) : Calls Tryz.prog 119 #[.int .i64 6] w fun e w' => e = .returned (.tuple #[.agg #[.string ⟨#[102, 105, 102, 111]⟩, .func (.func 158) #[] #[], .func (.func 159) #[] #[], .func (.func 160) #[] #[], .func (.func 161) #[] #[]], .bool true]) ∧ Same w w' := by
 have HZ := Lib.hid (Blk.new w 130 #[.string ⟨#[]⟩, .nilFunc, .nilFunc, .nilFunc, .nilFunc])
 go_enter Tryz.func119, Tryz.ntmps119
 go_wp2_with (refine wpList_store_row rfl 130 (.tmp 2) (.tmp 22) rfl w.heap.size #[.string ⟨#[102, 105, 102, 111]⟩, .func (.func 158) #[] #[], .func (.func 159) #[] #[], .func (.func 160) #[] #[], .func (.func 161) #[] #[]] rfl rfl 130 #[.string ⟨#[]⟩, .nilFunc, .nilFunc, .nilFunc, .nilFunc] HZ.out face_size rfl one_6 ?_)
 refine bodyPost_ret (v := .tuple #[.agg #[.string ⟨#[102, 105, 102, 111]⟩, .func (.func 158) #[] #[], .func (.func 159) #[] #[], .func (.func 160) #[] #[], .func (.func 161) #[] #[]], .bool true]) (results_cell2 Tryz.results119 _ _ w.heap.size 130 #[.string ⟨#[102, 105, 102, 111]⟩, .func (.func 158) #[] #[], .func (.func 159) #[] #[], .func (.func 160) #[] #[], .func (.func 161) #[] #[]] (0, 0) _ rfl (row_blk HZ.out) Tryz.underlying130 rfl face_size) rfl ⟨rfl, ?_⟩
 exact chg_setRow ((Same.refl w).alloc _) (.inr (Nat.le_refl _)) _
set_option maxRecDepth 100000 in
theorem face_none (k : Int) (h : k < 1 ∨ 6 < k) (w : World) : Calls Tryz.prog 119 #[.int .i64 k] w fun e w' => e = .returned (.tuple #[.agg #[.string ⟨#[]⟩, .nilFunc, .nilFunc, .nilFunc, .nilFunc], .bool false]) ∧ Same w w' := by
 have HZ := Lib.hid (Blk.new w 130 #[.string ⟨#[]⟩, .nilFunc, .nilFunc, .nilFunc, .nilFunc])
 have b1 : (k == 1) = false := by rw [beq_eq_false_iff_ne]; omega
 have b2 : (k == 2) = false := by rw [beq_eq_false_iff_ne]; omega
 have b3 : (k == 3) = false := by rw [beq_eq_false_iff_ne]; omega
 have b4 : (k == 4) = false := by rw [beq_eq_false_iff_ne]; omega
 have b5 : (k == 5) = false := by rw [beq_eq_false_iff_ne]; omega
 have b6 : (k == 6) = false := by rw [beq_eq_false_iff_ne]; omega
 clear h
 go_enter Tryz.func119, Tryz.ntmps119
 go_wp2_with (refine wpList_store_row rfl 130 (.tmp 2) (.tmp 23) rfl w.heap.size #[.string ⟨#[]⟩, .nilFunc, .nilFunc, .nilFunc, .nilFunc] rfl rfl 130 #[.string ⟨#[]⟩, .nilFunc, .nilFunc, .nilFunc, .nilFunc] HZ.out face_size rfl one_0 ?_)
 refine bodyPost_ret (v := .tuple #[.agg #[.string ⟨#[]⟩, .nilFunc, .nilFunc, .nilFunc, .nilFunc], .bool false]) (results_cell2 Tryz.results119 _ _ w.heap.size 130 #[.string ⟨#[]⟩, .nilFunc, .nilFunc, .nilFunc, .nilFunc] (0, 0) _ rfl (row_blk HZ.out) Tryz.underlying130 rfl face_size) rfl ⟨rfl, ?_⟩
 exact chg_setRow ((Same.refl w).alloc _) (.inr (Nat.le_refl _)) _
set_option maxRecDepth 100000 in
theorem shaped_1 (wd sl cp sa ow : Int) (ia ra : Option Addr) (il ic rl rc : Nat) (w : World) :
 Calls Tryz.prog 107 #[.agg #[.int .i64 1, .int .i64 wd, .int .i64 sl, .int .i64 cp, .int .u32 sa, .slice ia il ic, .int .i64 ow, .slice ra rl rc]] w fun e w' => e = .returned (.bool (Fo.rightB wd sl cp sa il rl)) ∧ Same w w' := by
 have HC := Lib.hid (fun w' => Fo.right_any wd sl cp sa ow ia ra il ic rl rc w')
 have hb0 := Blk.new w 34 #[.int .i64 1, .int .i64 wd, .int .i64 sl, .int .i64 cp, .int .u32 sa, .slice ia il ic, .int .i64 ow, .slice ra rl rc]
 have HS0 := Lib.hid ((Same.refl w).alloc (.cells #[.int .i64 1, .int .i64 wd, .int .i64 sl, .int .i64 cp, .int .u32 sa, .slice ia il ic, .int .i64 ow, .slice ra rl rc] 34))
 have HB0 := Lib.hid hb0
 clear hb0
 generalize Fo.rightB wd sl cp sa il rl = rb at *
 go_enter Tryz.func107, Tryz.ntmps107
 go_wp2_with fail
 refine (face_1 _).mono ?_
 rintro e w2 ⟨rfl, s2⟩
 have HZ := Lib.hid (Blk.new w2 130 #[.string ⟨#[]⟩, .nilFunc, .nilFunc, .nilFunc, .nilFunc])
 have HS2 := Lib.hid (HS0.out.trans s2)
 have hb2 := HB0.out.same s2
 have hlt := hb2.lt
 have hb3 := (hb2.same ((Same.refl w2).alloc (.cells #[.string ⟨#[]⟩, .nilFunc, .nilFunc, .nilFunc, .nilFunc] 130)))
 have HB := Lib.hid (Blk.chg hb3 (chg_setRow (Chg.refl (fun i => i = w2.heap.size) _) (.inl rfl) #[.string ⟨#[102, 111, 117, 114]⟩, .func (.func 138) #[] #[], .func (.func 139) #[] #[], .func (.func 140) #[] #[], .func (.func 141) #[] #[]]) (by omega))
 have HF := Lib.hid (row_blk (cs := #[.string ⟨#[102, 111, 117, 114]⟩, .func (.func 138) #[] #[], .func (.func 139) #[] #[], .func (.func 140) #[] #[], .func (.func 141) #[] #[]]) HZ.out)
 have HS3 := Lib.hid (show Same w ((w2.alloc (.cells #[.string ⟨#[]⟩, .nilFunc, .nilFunc, .nilFunc, .nilFunc] 130)).setRow w2.heap.size #[.string ⟨#[102, 111, 117, 114]⟩, .func (.func 138) #[] #[], .func (.func 139) #[] #[], .func (.func 140) #[] #[], .func (.func 141) #[] #[]]) from chg_setRow (HS2.out.alloc _) (.inr HS2.out.size) _)
 clear s2 hb2 hb3 hlt HB0 HS0
 have d0 : ((w2.alloc (.cells #[.string ⟨#[]⟩, .nilFunc, .nilFunc, .nilFunc, .nilFunc] 130)).setRow w2.heap.size #[.string ⟨#[102, 111, 117, 114]⟩, .func (.func 138) #[] #[], .func (.func 139) #[] #[], .func (.func 140) #[] #[], .func (.func 141) #[] #[]]).cell? ⟨w.heap.size, 0, none⟩ = some (.int .i64 1) := HB.out.cell 0
 have d1 : ((w2.alloc (.cells #[.string ⟨#[]⟩, .nilFunc, .nilFunc, .nilFunc, .nilFunc] 130)).setRow w2.heap.size #[.string ⟨#[102, 111, 117, 114]⟩, .func (.func 138) #[] #[], .func (.func 139) #[] #[], .func (.func 140) #[] #[], .func (.func 141) #[] #[]]).cell? ⟨w.heap.size, 1, none⟩ = some (.int .i64 wd) := HB.out.cell 1
 have d2 : ((w2.alloc (.cells #[.string ⟨#[]⟩, .nilFunc, .nilFunc, .nilFunc, .nilFunc] 130)).setRow w2.heap.size #[.string ⟨#[102, 111, 117, 114]⟩, .func (.func 138) #[] #[], .func (.func 139) #[] #[], .func (.func 140) #[] #[], .func (.func 141) #[] #[]]).cell? ⟨w.heap.size, 2, none⟩ = some (.int .i64 sl) := HB.out.cell 2
 have d3 : ((w2.alloc (.cells #[.string ⟨#[]⟩, .nilFunc, .nilFunc, .nilFunc, .nilFunc] 130)).setRow w2.heap.size #[.string ⟨#[102, 111, 117, 114]⟩, .func (.func 138) #[] #[], .func (.func 139) #[] #[], .func (.func 140) #[] #[], .func (.func 141) #[] #[]]).cell? ⟨w.heap.size, 3, none⟩ = some (.int .i64 cp) := HB.out.cell 3
 have d4 : ((w2.alloc (.cells #[.string ⟨#[]⟩, .nilFunc, .nilFunc, .nilFunc, .nilFunc] 130)).setRow w2.heap.size #[.string ⟨#[102, 111, 117, 114]⟩, .func (.func 138) #[] #[], .func (.func 139) #[] #[], .func (.func 140) #[] #[], .func (.func 141) #[] #[]]).cell? ⟨w.heap.size, 4, none⟩ = some (.int .u32 sa) := HB.out.cell 4
 have d5 : ((w2.alloc (.cells #[.string ⟨#[]⟩, .nilFunc, .nilFunc, .nilFunc, .nilFunc] 130)).setRow w2.heap.size #[.string ⟨#[102, 111, 117, 114]⟩, .func (.func 138) #[] #[], .func (.func 139) #[] #[], .func (.func 140) #[] #[], .func (.func 141) #[] #[]]).cell? ⟨w.heap.size, 5, none⟩ = some (.slice ia il ic) := HB.out.cell 5
 have d6 : ((w2.alloc (.cells #[.string ⟨#[]⟩, .nilFunc, .nilFunc, .nilFunc, .nilFunc] 130)).setRow w2.heap.size #[.string ⟨#[102, 111, 117, 114]⟩, .func (.func 138) #[] #[], .func (.func 139) #[] #[], .func (.func 140) #[] #[], .func (.func 141) #[] #[]]).cell? ⟨w.heap.size, 6, none⟩ = some (.int .i64 ow) := HB.out.cell 6
 have d7 : ((w2.alloc (.cells #[.string ⟨#[]⟩, .nilFunc, .nilFunc, .nilFunc, .nilFunc] 130)).setRow w2.heap.size #[.string ⟨#[102, 111, 117, 114]⟩, .func (.func 138) #[] #[], .func (.func 139) #[] #[], .func (.func 140) #[] #[], .func (.func 141) #[] #[]]).cell? ⟨w.heap.size, 7, none⟩ = some (.slice ra rl rc) := HB.out.cell 7
 have df : ((w2.alloc (.cells #[.string ⟨#[]⟩, .nilFunc, .nilFunc, .nilFunc, .nilFunc] 130)).setRow w2.heap.size #[.string ⟨#[102, 111, 117, 114]⟩, .func (.func 138) #[] #[], .func (.func 139) #[] #[], .func (.func 140) #[] #[], .func (.func 141) #[] #[]]).cell? ⟨w2.heap.size, 1, none⟩ = some (.func (.func 138) #[] #[]) := HF.out.cell 1
 go_wp2_with (refine wpList_store_row rfl 130 (.tmp 3) (.tmp 9) rfl w2.heap.size #[.string ⟨#[102, 111, 117, 114]⟩, .func (.func 138) #[] #[], .func (.func 139) #[] #[], .func (.func 140) #[] #[], .func (.func 141) #[] #[]] rfl rfl 130 #[.string ⟨#[]⟩, .nilFunc, .nilFunc, .nilFunc, .nilFunc] HZ.out face_size rfl one_1 ?_)
 refine (HC.out _).mono ?_
 rintro e w4 ⟨rfl, s4⟩
 go_wp2_with fail
 go_ret
 exact ⟨rfl, HS3.out.trans s4⟩
theorem bnd_1 (wd sl cp sa ow : Int) (ia ra : Option Addr) (il ic rl rc : Nat) (op : Int) (w : World) :
 Calls Tryz.prog 141 #[.agg #[.int .i64 1, .int .i64 wd, .int .i64 sl, .int .i64 cp, .int .u32 sa, .slice ia il ic, .int .i64 ow, .slice ra rl rc], .int .i64 op] w fun e w' => e = .returned (.int .i64 (boundF 1 wd sl cp sa il rl op)) ∧ Same w w' := by
 rw [bound_1]
 cases h : Fo.rightB wd sl cp sa il rl
 ·rw [if_neg Bool.false_ne_true]
  exact Fo.bound_no wd sl cp sa ow ia ra il ic rl rc op w h
 ·rw [if_pos rfl]
  exact Fo.bound_yes wd sl cp sa ow ia ra il ic rl rc op w h
theorem rbnd_1 (wd sl cp sa ow : Int) (ia ra : Option Addr) (il ic rl rc : Nat) (op : Int) (w : World) :
 Calls Tryz.prog 90 #[.agg #[.int .i64 1, .int .i64 wd, .int .i64 sl, .int .i64 cp, .int .u32 sa, .slice ia il ic, .int .i64 ow, .slice ra rl rc], .int .i64 op] w fun e w' => e = .returned (.int .i64 (boundF 1 wd sl cp sa il rl op)) ∧ Same w w' := by
 rw [bound_1]
 cases h : Fo.rightB wd sl cp sa il rl
 ·rw [if_neg Bool.false_ne_true]
  exact Fo.rbound_no wd sl cp sa ow ia ra il ic rl rc op w h
 ·rw [if_pos rfl]
  exact Fo.rbound_yes wd sl cp sa ow ia ra il ic rl rc op w h
set_option maxRecDepth 100000 in
theorem bound_of_1 (wd sl cp sa ow : Int) (ia ra : Option Addr) (il ic rl rc : Nat) (op : Int) (w : World) :
 Calls Tryz.prog 168 #[.agg #[.int .i64 1, .int .i64 wd, .int .i64 sl, .int .i64 cp, .int .u32 sa, .slice ia il ic, .int .i64 ow, .slice ra rl rc], .int .i64 op] w fun e w' => e = .returned (.int .i64 (boundF 1 wd sl cp sa il rl op)) ∧ Same w w' := by
 have HC := Lib.hid (fun w' => bnd_1 wd sl cp sa ow ia ra il ic rl rc op w')
 have hb0 := Blk.new w 34 #[.int .i64 1, .int .i64 wd, .int .i64 sl, .int .i64 cp, .int .u32 sa, .slice ia il ic, .int .i64 ow, .slice ra rl rc]
 have HS0 := Lib.hid ((Same.refl w).alloc (.cells #[.int .i64 1, .int .i64 wd, .int .i64 sl, .int .i64 cp, .int .u32 sa, .slice ia il ic, .int .i64 ow, .slice ra rl rc] 34))
 have HB0 := Lib.hid hb0
 clear hb0
 generalize boundF 1 wd sl cp sa il rl op = rb at *
 go_enter Tryz.func168, Tryz.ntmps168
 go_wp2_with fail
 refine (face_1 _).mono ?_
 rintro e w2 ⟨rfl, s2⟩
 have HZ := Lib.hid (Blk.new w2 130 #[.string ⟨#[]⟩, .nilFunc, .nilFunc, .nilFunc, .nilFunc])
 have HS2 := Lib.hid (HS0.out.trans s2)
 have hb2 := HB0.out.same s2
 have hlt := hb2.lt
 have hb3 := (hb2.same ((Same.refl w2).alloc (.cells #[.string ⟨#[]⟩, .nilFunc, .nilFunc, .nilFunc, .nilFunc] 130)))
 have HB := Lib.hid (Blk.chg hb3 (chg_setRow (Chg.refl (fun i => i = w2.heap.size) _) (.inl rfl) #[.string ⟨#[102, 111, 117, 114]⟩, .func (.func 138) #[] #[], .func (.func 139) #[] #[], .func (.func 140) #[] #[], .func (.func 141) #[] #[]]) (by omega))
 have HF := Lib.hid (row_blk (cs := #[.string ⟨#[102, 111, 117, 114]⟩, .func (.func 138) #[] #[], .func (.func 139) #[] #[], .func (.func 140) #[] #[], .func (.func 141) #[] #[]]) HZ.out)
 have HS3 := Lib.hid (show Same w ((w2.alloc (.cells #[.string ⟨#[]⟩, .nilFunc, .nilFunc, .nilFunc, .nilFunc] 130)).setRow w2.heap.size #[.string ⟨#[102, 111, 117, 114]⟩, .func (.func 138) #[] #[], .func (.func 139) #[] #[], .func (.func 140) #[] #[], .func (.func 141) #[] #[]]) from chg_setRow (HS2.out.alloc _) (.inr HS2.out.size) _)
 clear s2 hb2 hb3 hlt HB0 HS0
 have d0 : ((w2.alloc (.cells #[.string ⟨#[]⟩, .nilFunc, .nilFunc, .nilFunc, .nilFunc] 130)).setRow w2.heap.size #[.string ⟨#[102, 111, 117, 114]⟩, .func (.func 138) #[] #[], .func (.func 139) #[] #[], .func (.func 140) #[] #[], .func (.func 141) #[] #[]]).cell? ⟨w.heap.size, 0, none⟩ = some (.int .i64 1) := HB.out.cell 0
 have d1 : ((w2.alloc (.cells #[.string ⟨#[]⟩, .nilFunc, .nilFunc, .nilFunc, .nilFunc] 130)).setRow w2.heap.size #[.string ⟨#[102, 111, 117, 114]⟩, .func (.func 138) #[] #[], .func (.func 139) #[] #[], .func (.func 140) #[] #[], .func (.func 141) #[] #[]]).cell? ⟨w.heap.size, 1, none⟩ = some (.int .i64 wd) := HB.out.cell 1
 have d2 : ((w2.alloc (.cells #[.string ⟨#[]⟩, .nilFunc, .nilFunc, .nilFunc, .nilFunc] 130)).setRow w2.heap.size #[.string ⟨#[102, 111, 117, 114]⟩, .func (.func 138) #[] #[], .func (.func 139) #[] #[], .func (.func 140) #[] #[], .func (.func 141) #[] #[]]).cell? ⟨w.heap.size, 2, none⟩ = some (.int .i64 sl) := HB.out.cell 2
 have d3 : ((w2.alloc (.cells #[.string ⟨#[]⟩, .nilFunc, .nilFunc, .nilFunc, .nilFunc] 130)).setRow w2.heap.size #[.string ⟨#[102, 111, 117, 114]⟩, .func (.func 138) #[] #[], .func (.func 139) #[] #[], .func (.func 140) #[] #[], .func (.func 141) #[] #[]]).cell? ⟨w.heap.size, 3, none⟩ = some (.int .i64 cp) := HB.out.cell 3
 have d4 : ((w2.alloc (.cells #[.string ⟨#[]⟩, .nilFunc, .nilFunc, .nilFunc, .nilFunc] 130)).setRow w2.heap.size #[.string ⟨#[102, 111, 117, 114]⟩, .func (.func 138) #[] #[], .func (.func 139) #[] #[], .func (.func 140) #[] #[], .func (.func 141) #[] #[]]).cell? ⟨w.heap.size, 4, none⟩ = some (.int .u32 sa) := HB.out.cell 4
 have d5 : ((w2.alloc (.cells #[.string ⟨#[]⟩, .nilFunc, .nilFunc, .nilFunc, .nilFunc] 130)).setRow w2.heap.size #[.string ⟨#[102, 111, 117, 114]⟩, .func (.func 138) #[] #[], .func (.func 139) #[] #[], .func (.func 140) #[] #[], .func (.func 141) #[] #[]]).cell? ⟨w.heap.size, 5, none⟩ = some (.slice ia il ic) := HB.out.cell 5
 have d6 : ((w2.alloc (.cells #[.string ⟨#[]⟩, .nilFunc, .nilFunc, .nilFunc, .nilFunc] 130)).setRow w2.heap.size #[.string ⟨#[102, 111, 117, 114]⟩, .func (.func 138) #[] #[], .func (.func 139) #[] #[], .func (.func 140) #[] #[], .func (.func 141) #[] #[]]).cell? ⟨w.heap.size, 6, none⟩ = some (.int .i64 ow) := HB.out.cell 6
 have d7 : ((w2.alloc (.cells #[.string ⟨#[]⟩, .nilFunc, .nilFunc, .nilFunc, .nilFunc] 130)).setRow w2.heap.size #[.string ⟨#[102, 111, 117, 114]⟩, .func (.func 138) #[] #[], .func (.func 139) #[] #[], .func (.func 140) #[] #[], .func (.func 141) #[] #[]]).cell? ⟨w.heap.size, 7, none⟩ = some (.slice ra rl rc) := HB.out.cell 7
 have df : ((w2.alloc (.cells #[.string ⟨#[]⟩, .nilFunc, .nilFunc, .nilFunc, .nilFunc] 130)).setRow w2.heap.size #[.string ⟨#[102, 111, 117, 114]⟩, .func (.func 138) #[] #[], .func (.func 139) #[] #[], .func (.func 140) #[] #[], .func (.func 141) #[] #[]]).cell? ⟨w2.heap.size, 4, none⟩ = some (.func (.func 141) #[] #[]) := HF.out.cell 4
 go_wp2_with (refine wpList_store_row rfl 130 (.tmp 5) (.tmp 11) rfl w2.heap.size #[.string ⟨#[102, 111, 117, 114]⟩, .func (.func 138) #[] #[], .func (.func 139) #[] #[], .func (.func 140) #[] #[], .func (.func 141) #[] #[]] rfl rfl 130 #[.string ⟨#[]⟩, .nilFunc, .nilFunc, .nilFunc, .nilFunc] HZ.out face_size rfl one_1 ?_)
 refine (HC.out _).mono ?_
 rintro e w4 ⟨rfl, s4⟩
 go_wp2_with fail
 go_ret
 exact ⟨rfl, HS3.out.trans s4⟩
set_option maxRecDepth 100000 in
theorem shaped_2 (wd sl cp sa ow : Int) (ia ra : Option Addr) (il ic rl rc : Nat) (w : World) (hsa : 0 ≤ sa ∧ sa < 4294967296 := by assumption) :
 Calls Tryz.prog 107 #[.agg #[.int .i64 2, .int .i64 wd, .int .i64 sl, .int .i64 cp, .int .u32 sa, .slice ia il ic, .int .i64 ow, .slice ra rl rc]] w fun e w' => e = .returned (.bool (Ch.rightB wd sl cp sa il rl)) ∧ Same w w' := by
 have HC := Lib.hid (fun w' => Ch.right_any wd sl cp sa ow ia ra il ic rl rc w')
 have hb0 := Blk.new w 34 #[.int .i64 2, .int .i64 wd, .int .i64 sl, .int .i64 cp, .int .u32 sa, .slice ia il ic, .int .i64 ow, .slice ra rl rc]
 have HS0 := Lib.hid ((Same.refl w).alloc (.cells #[.int .i64 2, .int .i64 wd, .int .i64 sl, .int .i64 cp, .int .u32 sa, .slice ia il ic, .int .i64 ow, .slice ra rl rc] 34))
 have HB0 := Lib.hid hb0
 clear hb0
 generalize Ch.rightB wd sl cp sa il rl = rb at *
 go_enter Tryz.func107, Tryz.ntmps107
 go_wp2_with fail
 refine (face_2 _).mono ?_
 rintro e w2 ⟨rfl, s2⟩
 have HZ := Lib.hid (Blk.new w2 130 #[.string ⟨#[]⟩, .nilFunc, .nilFunc, .nilFunc, .nilFunc])
 have HS2 := Lib.hid (HS0.out.trans s2)
 have hb2 := HB0.out.same s2
 have hlt := hb2.lt
 have hb3 := (hb2.same ((Same.refl w2).alloc (.cells #[.string ⟨#[]⟩, .nilFunc, .nilFunc, .nilFunc, .nilFunc] 130)))
 have HB := Lib.hid (Blk.chg hb3 (chg_setRow (Chg.refl (fun i => i = w2.heap.size) _) (.inl rfl) #[.string ⟨#[99, 104, 101, 110]⟩, .func (.func 142) #[] #[], .func (.func 143) #[] #[], .func (.func 144) #[] #[], .func (.func 145) #[] #[]]) (by omega))
 have HF := Lib.hid (row_blk (cs := #[.string ⟨#[99, 104, 101, 110]⟩, .func (.func 142) #[] #[], .func (.func 143) #[] #[], .func (.func 144) #[] #[], .func (.func 145) #[] #[]]) HZ.out)
 have HS3 := Lib.hid (show Same w ((w2.alloc (.cells #[.string ⟨#[]⟩, .nilFunc, .nilFunc, .nilFunc, .nilFunc] 130)).setRow w2.heap.size #[.string ⟨#[99, 104, 101, 110]⟩, .func (.func 142) #[] #[], .func (.func 143) #[] #[], .func (.func 144) #[] #[], .func (.func 145) #[] #[]]) from chg_setRow (HS2.out.alloc _) (.inr HS2.out.size) _)
 clear s2 hb2 hb3 hlt HB0 HS0
 have d0 : ((w2.alloc (.cells #[.string ⟨#[]⟩, .nilFunc, .nilFunc, .nilFunc, .nilFunc] 130)).setRow w2.heap.size #[.string ⟨#[99, 104, 101, 110]⟩, .func (.func 142) #[] #[], .func (.func 143) #[] #[], .func (.func 144) #[] #[], .func (.func 145) #[] #[]]).cell? ⟨w.heap.size, 0, none⟩ = some (.int .i64 2) := HB.out.cell 0
 have d1 : ((w2.alloc (.cells #[.string ⟨#[]⟩, .nilFunc, .nilFunc, .nilFunc, .nilFunc] 130)).setRow w2.heap.size #[.string ⟨#[99, 104, 101, 110]⟩, .func (.func 142) #[] #[], .func (.func 143) #[] #[], .func (.func 144) #[] #[], .func (.func 145) #[] #[]]).cell? ⟨w.heap.size, 1, none⟩ = some (.int .i64 wd) := HB.out.cell 1
 have d2 : ((w2.alloc (.cells #[.string ⟨#[]⟩, .nilFunc, .nilFunc, .nilFunc, .nilFunc] 130)).setRow w2.heap.size #[.string ⟨#[99, 104, 101, 110]⟩, .func (.func 142) #[] #[], .func (.func 143) #[] #[], .func (.func 144) #[] #[], .func (.func 145) #[] #[]]).cell? ⟨w.heap.size, 2, none⟩ = some (.int .i64 sl) := HB.out.cell 2
 have d3 : ((w2.alloc (.cells #[.string ⟨#[]⟩, .nilFunc, .nilFunc, .nilFunc, .nilFunc] 130)).setRow w2.heap.size #[.string ⟨#[99, 104, 101, 110]⟩, .func (.func 142) #[] #[], .func (.func 143) #[] #[], .func (.func 144) #[] #[], .func (.func 145) #[] #[]]).cell? ⟨w.heap.size, 3, none⟩ = some (.int .i64 cp) := HB.out.cell 3
 have d4 : ((w2.alloc (.cells #[.string ⟨#[]⟩, .nilFunc, .nilFunc, .nilFunc, .nilFunc] 130)).setRow w2.heap.size #[.string ⟨#[99, 104, 101, 110]⟩, .func (.func 142) #[] #[], .func (.func 143) #[] #[], .func (.func 144) #[] #[], .func (.func 145) #[] #[]]).cell? ⟨w.heap.size, 4, none⟩ = some (.int .u32 sa) := HB.out.cell 4
 have d5 : ((w2.alloc (.cells #[.string ⟨#[]⟩, .nilFunc, .nilFunc, .nilFunc, .nilFunc] 130)).setRow w2.heap.size #[.string ⟨#[99, 104, 101, 110]⟩, .func (.func 142) #[] #[], .func (.func 143) #[] #[], .func (.func 144) #[] #[], .func (.func 145) #[] #[]]).cell? ⟨w.heap.size, 5, none⟩ = some (.slice ia il ic) := HB.out.cell 5
 have d6 : ((w2.alloc (.cells #[.string ⟨#[]⟩, .nilFunc, .nilFunc, .nilFunc, .nilFunc] 130)).setRow w2.heap.size #[.string ⟨#[99, 104, 101, 110]⟩, .func (.func 142) #[] #[], .func (.func 143) #[] #[], .func (.func 144) #[] #[], .func (.func 145) #[] #[]]).cell? ⟨w.heap.size, 6, none⟩ = some (.int .i64 ow) := HB.out.cell 6
 have d7 : ((w2.alloc (.cells #[.string ⟨#[]⟩, .nilFunc, .nilFunc, .nilFunc, .nilFunc] 130)).setRow w2.heap.size #[.string ⟨#[99, 104, 101, 110]⟩, .func (.func 142) #[] #[], .func (.func 143) #[] #[], .func (.func 144) #[] #[], .func (.func 145) #[] #[]]).cell? ⟨w.heap.size, 7, none⟩ = some (.slice ra rl rc) := HB.out.cell 7
 have df : ((w2.alloc (.cells #[.string ⟨#[]⟩, .nilFunc, .nilFunc, .nilFunc, .nilFunc] 130)).setRow w2.heap.size #[.string ⟨#[99, 104, 101, 110]⟩, .func (.func 142) #[] #[], .func (.func 143) #[] #[], .func (.func 144) #[] #[], .func (.func 145) #[] #[]]).cell? ⟨w2.heap.size, 1, none⟩ = some (.func (.func 142) #[] #[]) := HF.out.cell 1
 go_wp2_with (refine wpList_store_row rfl 130 (.tmp 3) (.tmp 9) rfl w2.heap.size #[.string ⟨#[99, 104, 101, 110]⟩, .func (.func 142) #[] #[], .func (.func 143) #[] #[], .func (.func 144) #[] #[], .func (.func 145) #[] #[]] rfl rfl 130 #[.string ⟨#[]⟩, .nilFunc, .nilFunc, .nilFunc, .nilFunc] HZ.out face_size rfl one_2 ?_)
 refine (HC.out _).mono ?_
 rintro e w4 ⟨rfl, s4⟩
 go_wp2_with fail
 go_ret
 exact ⟨rfl, HS3.out.trans s4⟩
theorem bnd_2 (wd sl cp sa ow : Int) (ia ra : Option Addr) (il ic rl rc : Nat) (op : Int) (w : World) (hsa : 0 ≤ sa ∧ sa < 4294967296 := by assumption) :
 Calls Tryz.prog 145 #[.agg #[.int .i64 2, .int .i64 wd, .int .i64 sl, .int .i64 cp, .int .u32 sa, .slice ia il ic, .int .i64 ow, .slice ra rl rc], .int .i64 op] w fun e w' => e = .returned (.int .i64 (boundF 2 wd sl cp sa il rl op)) ∧ Same w w' := by
 rw [bound_2]
 cases h : Ch.rightB wd sl cp sa il rl
 ·rw [if_neg Bool.false_ne_true]
  exact Ch.bound_no wd sl cp sa ow ia ra il ic rl rc op w h
 ·rw [if_pos rfl]
  exact Ch.bound_yes wd sl cp sa ow ia ra il ic rl rc op w h
theorem rbnd_2 (wd sl cp sa ow : Int) (ia ra : Option Addr) (il ic rl rc : Nat) (op : Int) (w : World) (hsa : 0 ≤ sa ∧ sa < 4294967296 := by assumption) :
 Calls Tryz.prog 90 #[.agg #[.int .i64 2, .int .i64 wd, .int .i64 sl, .int .i64 cp, .int .u32 sa, .slice ia il ic, .int .i64 ow, .slice ra rl rc], .int .i64 op] w fun e w' => e = .returned (.int .i64 (boundF 2 wd sl cp sa il rl op)) ∧ Same w w' := by
 rw [bound_2]
 cases h : Ch.rightB wd sl cp sa il rl
 ·rw [if_neg Bool.false_ne_true]
  exact Ch.rbound_no wd sl cp sa ow ia ra il ic rl rc op w h
 ·rw [if_pos rfl]
  exact Ch.rbound_yes wd sl cp sa ow ia ra il ic rl rc op w h
set_option maxRecDepth 100000 in
theorem bound_of_2 (wd sl cp sa ow : Int) (ia ra : Option Addr) (il ic rl rc : Nat) (op : Int) (w : World) (hsa : 0 ≤ sa ∧ sa < 4294967296 := by assumption) :
 Calls Tryz.prog 168 #[.agg #[.int .i64 2, .int .i64 wd, .int .i64 sl, .int .i64 cp, .int .u32 sa, .slice ia il ic, .int .i64 ow, .slice ra rl rc], .int .i64 op] w fun e w' => e = .returned (.int .i64 (boundF 2 wd sl cp sa il rl op)) ∧ Same w w' := by
 have HC := Lib.hid (fun w' => bnd_2 wd sl cp sa ow ia ra il ic rl rc op w')
 have hb0 := Blk.new w 34 #[.int .i64 2, .int .i64 wd, .int .i64 sl, .int .i64 cp, .int .u32 sa, .slice ia il ic, .int .i64 ow, .slice ra rl rc]
 have HS0 := Lib.hid ((Same.refl w).alloc (.cells #[.int .i64 2, .int .i64 wd, .int .i64 sl, .int .i64 cp, .int .u32 sa, .slice ia il ic, .int .i64 ow, .slice ra rl rc] 34))
 have HB0 := Lib.hid hb0
 clear hb0
 generalize boundF 2 wd sl cp sa il rl op = rb at *
 go_enter Tryz.func168, Tryz.ntmps168
 go_wp2_with fail
 refine (face_2 _).mono ?_
 rintro e w2 ⟨rfl, s2⟩
 have HZ := Lib.hid (Blk.new w2 130 #[.string ⟨#[]⟩, .nilFunc, .nilFunc, .nilFunc, .nilFunc])
 have HS2 := Lib.hid (HS0.out.trans s2)
 have hb2 := HB0.out.same s2
 have hlt := hb2.lt
 have hb3 := (hb2.same ((Same.refl w2).alloc (.cells #[.string ⟨#[]⟩, .nilFunc, .nilFunc, .nilFunc, .nilFunc] 130)))
 have HB := Lib.hid (Blk.chg hb3 (chg_setRow (Chg.refl (fun i => i = w2.heap.size) _) (.inl rfl) #[.string ⟨#[99, 104, 101, 110]⟩, .func (.func 142) #[] #[], .func (.func 143) #[] #[], .func (.func 144) #[] #[], .func (.func 145) #[] #[]]) (by omega))
 have HF := Lib.hid (row_blk (cs := #[.string ⟨#[99, 104, 101, 110]⟩, .func (.func 142) #[] #[], .func (.func 143) #[] #[], .func (.func 144) #[] #[], .func (.func 145) #[] #[]]) HZ.out)
 have HS3 := Lib.hid (show Same w ((w2.alloc (.cells #[.string ⟨#[]⟩, .nilFunc, .nilFunc, .nilFunc, .nilFunc] 130)).setRow w2.heap.size #[.string ⟨#[99, 104, 101, 110]⟩, .func (.func 142) #[] #[], .func (.func 143) #[] #[], .func (.func 144) #[] #[], .func (.func 145) #[] #[]]) from chg_setRow (HS2.out.alloc _) (.inr HS2.out.size) _)
 clear s2 hb2 hb3 hlt HB0 HS0
 have d0 : ((w2.alloc (.cells #[.string ⟨#[]⟩, .nilFunc, .nilFunc, .nilFunc, .nilFunc] 130)).setRow w2.heap.size #[.string ⟨#[99, 104, 101, 110]⟩, .func (.func 142) #[] #[], .func (.func 143) #[] #[], .func (.func 144) #[] #[], .func (.func 145) #[] #[]]).cell? ⟨w.heap.size, 0, none⟩ = some (.int .i64 2) := HB.out.cell 0
 have d1 : ((w2.alloc (.cells #[.string ⟨#[]⟩, .nilFunc, .nilFunc, .nilFunc, .nilFunc] 130)).setRow w2.heap.size #[.string ⟨#[99, 104, 101, 110]⟩, .func (.func 142) #[] #[], .func (.func 143) #[] #[], .func (.func 144) #[] #[], .func (.func 145) #[] #[]]).cell? ⟨w.heap.size, 1, none⟩ = some (.int .i64 wd) := HB.out.cell 1
 have d2 : ((w2.alloc (.cells #[.string ⟨#[]⟩, .nilFunc, .nilFunc, .nilFunc, .nilFunc] 130)).setRow w2.heap.size #[.string ⟨#[99, 104, 101, 110]⟩, .func (.func 142) #[] #[], .func (.func 143) #[] #[], .func (.func 144) #[] #[], .func (.func 145) #[] #[]]).cell? ⟨w.heap.size, 2, none⟩ = some (.int .i64 sl) := HB.out.cell 2
 have d3 : ((w2.alloc (.cells #[.string ⟨#[]⟩, .nilFunc, .nilFunc, .nilFunc, .nilFunc] 130)).setRow w2.heap.size #[.string ⟨#[99, 104, 101, 110]⟩, .func (.func 142) #[] #[], .func (.func 143) #[] #[], .func (.func 144) #[] #[], .func (.func 145) #[] #[]]).cell? ⟨w.heap.size, 3, none⟩ = some (.int .i64 cp) := HB.out.cell 3
 have d4 : ((w2.alloc (.cells #[.string ⟨#[]⟩, .nilFunc, .nilFunc, .nilFunc, .nilFunc] 130)).setRow w2.heap.size #[.string ⟨#[99, 104, 101, 110]⟩, .func (.func 142) #[] #[], .func (.func 143) #[] #[], .func (.func 144) #[] #[], .func (.func 145) #[] #[]]).cell? ⟨w.heap.size, 4, none⟩ = some (.int .u32 sa) := HB.out.cell 4
 have d5 : ((w2.alloc (.cells #[.string ⟨#[]⟩, .nilFunc, .nilFunc, .nilFunc, .nilFunc] 130)).setRow w2.heap.size #[.string ⟨#[99, 104, 101, 110]⟩, .func (.func 142) #[] #[], .func (.func 143) #[] #[], .func (.func 144) #[] #[], .func (.func 145) #[] #[]]).cell? ⟨w.heap.size, 5, none⟩ = some (.slice ia il ic) := HB.out.cell 5
 have d6 : ((w2.alloc (.cells #[.string ⟨#[]⟩, .nilFunc, .nilFunc, .nilFunc, .nilFunc] 130)).setRow w2.heap.size #[.string ⟨#[99, 104, 101, 110]⟩, .func (.func 142) #[] #[], .func (.func 143) #[] #[], .func (.func 144) #[] #[], .func (.func 145) #[] #[]]).cell? ⟨w.heap.size, 6, none⟩ = some (.int .i64 ow) := HB.out.cell 6
 have d7 : ((w2.alloc (.cells #[.string ⟨#[]⟩, .nilFunc, .nilFunc, .nilFunc, .nilFunc] 130)).setRow w2.heap.size #[.string ⟨#[99, 104, 101, 110]⟩, .func (.func 142) #[] #[], .func (.func 143) #[] #[], .func (.func 144) #[] #[], .func (.func 145) #[] #[]]).cell? ⟨w.heap.size, 7, none⟩ = some (.slice ra rl rc) := HB.out.cell 7
 have df : ((w2.alloc (.cells #[.string ⟨#[]⟩, .nilFunc, .nilFunc, .nilFunc, .nilFunc] 130)).setRow w2.heap.size #[.string ⟨#[99, 104, 101, 110]⟩, .func (.func 142) #[] #[], .func (.func 143) #[] #[], .func (.func 144) #[] #[], .func (.func 145) #[] #[]]).cell? ⟨w2.heap.size, 4, none⟩ = some (.func (.func 145) #[] #[]) := HF.out.cell 4
 go_wp2_with (refine wpList_store_row rfl 130 (.tmp 5) (.tmp 11) rfl w2.heap.size #[.string ⟨#[99, 104, 101, 110]⟩, .func (.func 142) #[] #[], .func (.func 143) #[] #[], .func (.func 144) #[] #[], .func (.func 145) #[] #[]] rfl rfl 130 #[.string ⟨#[]⟩, .nilFunc, .nilFunc, .nilFunc, .nilFunc] HZ.out face_size rfl one_2 ?_)
 refine (HC.out _).mono ?_
 rintro e w4 ⟨rfl, s4⟩
 go_wp2_with fail
 go_ret
 exact ⟨rfl, HS3.out.trans s4⟩
set_option maxRecDepth 100000 in
theorem shaped_3 (wd sl cp sa ow : Int) (ia ra : Option Addr) (il ic rl rc : Nat) (w : World) (hsa : 0 ≤ sa ∧ sa < 4294967296 := by assumption) :
 Calls Tryz.prog 107 #[.agg #[.int .i64 3, .int .i64 wd, .int .i64 sl, .int .i64 cp, .int .u32 sa, .slice ia il ic, .int .i64 ow, .slice ra rl rc]] w fun e w' => e = .returned (.bool (Sq.rightB wd sl cp sa il rl)) ∧ Same w w' := by
 have HC := Lib.hid (fun w' => Sq.right_any wd sl cp sa ow ia ra il ic rl rc w')
 have hb0 := Blk.new w 34 #[.int .i64 3, .int .i64 wd, .int .i64 sl, .int .i64 cp, .int .u32 sa, .slice ia il ic, .int .i64 ow, .slice ra rl rc]
 have HS0 := Lib.hid ((Same.refl w).alloc (.cells #[.int .i64 3, .int .i64 wd, .int .i64 sl, .int .i64 cp, .int .u32 sa, .slice ia il ic, .int .i64 ow, .slice ra rl rc] 34))
 have HB0 := Lib.hid hb0
 clear hb0
 generalize Sq.rightB wd sl cp sa il rl = rb at *
 go_enter Tryz.func107, Tryz.ntmps107
 go_wp2_with fail
 refine (face_3 _).mono ?_
 rintro e w2 ⟨rfl, s2⟩
 have HZ := Lib.hid (Blk.new w2 130 #[.string ⟨#[]⟩, .nilFunc, .nilFunc, .nilFunc, .nilFunc])
 have HS2 := Lib.hid (HS0.out.trans s2)
 have hb2 := HB0.out.same s2
 have hlt := hb2.lt
 have hb3 := (hb2.same ((Same.refl w2).alloc (.cells #[.string ⟨#[]⟩, .nilFunc, .nilFunc, .nilFunc, .nilFunc] 130)))
 have HB := Lib.hid (Blk.chg hb3 (chg_setRow (Chg.refl (fun i => i = w2.heap.size) _) (.inl rfl) #[.string ⟨#[115, 101, 113]⟩, .func (.func 146) #[] #[], .func (.func 147) #[] #[], .func (.func 148) #[] #[], .func (.func 149) #[] #[]]) (by omega))
 have HF := Lib.hid (row_blk (cs := #[.string ⟨#[115, 101, 113]⟩, .func (.func 146) #[] #[], .func (.func 147) #[] #[], .func (.func 148) #[] #[], .func (.func 149) #[] #[]]) HZ.out)
 have HS3 := Lib.hid (show Same w ((w2.alloc (.cells #[.string ⟨#[]⟩, .nilFunc, .nilFunc, .nilFunc, .nilFunc] 130)).setRow w2.heap.size #[.string ⟨#[115, 101, 113]⟩, .func (.func 146) #[] #[], .func (.func 147) #[] #[], .func (.func 148) #[] #[], .func (.func 149) #[] #[]]) from chg_setRow (HS2.out.alloc _) (.inr HS2.out.size) _)
 clear s2 hb2 hb3 hlt HB0 HS0
 have d0 : ((w2.alloc (.cells #[.string ⟨#[]⟩, .nilFunc, .nilFunc, .nilFunc, .nilFunc] 130)).setRow w2.heap.size #[.string ⟨#[115, 101, 113]⟩, .func (.func 146) #[] #[], .func (.func 147) #[] #[], .func (.func 148) #[] #[], .func (.func 149) #[] #[]]).cell? ⟨w.heap.size, 0, none⟩ = some (.int .i64 3) := HB.out.cell 0
 have d1 : ((w2.alloc (.cells #[.string ⟨#[]⟩, .nilFunc, .nilFunc, .nilFunc, .nilFunc] 130)).setRow w2.heap.size #[.string ⟨#[115, 101, 113]⟩, .func (.func 146) #[] #[], .func (.func 147) #[] #[], .func (.func 148) #[] #[], .func (.func 149) #[] #[]]).cell? ⟨w.heap.size, 1, none⟩ = some (.int .i64 wd) := HB.out.cell 1
 have d2 : ((w2.alloc (.cells #[.string ⟨#[]⟩, .nilFunc, .nilFunc, .nilFunc, .nilFunc] 130)).setRow w2.heap.size #[.string ⟨#[115, 101, 113]⟩, .func (.func 146) #[] #[], .func (.func 147) #[] #[], .func (.func 148) #[] #[], .func (.func 149) #[] #[]]).cell? ⟨w.heap.size, 2, none⟩ = some (.int .i64 sl) := HB.out.cell 2
 have d3 : ((w2.alloc (.cells #[.string ⟨#[]⟩, .nilFunc, .nilFunc, .nilFunc, .nilFunc] 130)).setRow w2.heap.size #[.string ⟨#[115, 101, 113]⟩, .func (.func 146) #[] #[], .func (.func 147) #[] #[], .func (.func 148) #[] #[], .func (.func 149) #[] #[]]).cell? ⟨w.heap.size, 3, none⟩ = some (.int .i64 cp) := HB.out.cell 3
 have d4 : ((w2.alloc (.cells #[.string ⟨#[]⟩, .nilFunc, .nilFunc, .nilFunc, .nilFunc] 130)).setRow w2.heap.size #[.string ⟨#[115, 101, 113]⟩, .func (.func 146) #[] #[], .func (.func 147) #[] #[], .func (.func 148) #[] #[], .func (.func 149) #[] #[]]).cell? ⟨w.heap.size, 4, none⟩ = some (.int .u32 sa) := HB.out.cell 4
 have d5 : ((w2.alloc (.cells #[.string ⟨#[]⟩, .nilFunc, .nilFunc, .nilFunc, .nilFunc] 130)).setRow w2.heap.size #[.string ⟨#[115, 101, 113]⟩, .func (.func 146) #[] #[], .func (.func 147) #[] #[], .func (.func 148) #[] #[], .func (.func 149) #[] #[]]).cell? ⟨w.heap.size, 5, none⟩ = some (.slice ia il ic) := HB.out.cell 5
 have d6 : ((w2.alloc (.cells #[.string ⟨#[]⟩, .nilFunc, .nilFunc, .nilFunc, .nilFunc] 130)).setRow w2.heap.size #[.string ⟨#[115, 101, 113]⟩, .func (.func 146) #[] #[], .func (.func 147) #[] #[], .func (.func 148) #[] #[], .func (.func 149) #[] #[]]).cell? ⟨w.heap.size, 6, none⟩ = some (.int .i64 ow) := HB.out.cell 6
 have d7 : ((w2.alloc (.cells #[.string ⟨#[]⟩, .nilFunc, .nilFunc, .nilFunc, .nilFunc] 130)).setRow w2.heap.size #[.string ⟨#[115, 101, 113]⟩, .func (.func 146) #[] #[], .func (.func 147) #[] #[], .func (.func 148) #[] #[], .func (.func 149) #[] #[]]).cell? ⟨w.heap.size, 7, none⟩ = some (.slice ra rl rc) := HB.out.cell 7
 have df : ((w2.alloc (.cells #[.string ⟨#[]⟩, .nilFunc, .nilFunc, .nilFunc, .nilFunc] 130)).setRow w2.heap.size #[.string ⟨#[115, 101, 113]⟩, .func (.func 146) #[] #[], .func (.func 147) #[] #[], .func (.func 148) #[] #[], .func (.func 149) #[] #[]]).cell? ⟨w2.heap.size, 1, none⟩ = some (.func (.func 146) #[] #[]) := HF.out.cell 1
 go_wp2_with (refine wpList_store_row rfl 130 (.tmp 3) (.tmp 9) rfl w2.heap.size #[.string ⟨#[115, 101, 113]⟩, .func (.func 146) #[] #[], .func (.func 147) #[] #[], .func (.func 148) #[] #[], .func (.func 149) #[] #[]] rfl rfl 130 #[.string ⟨#[]⟩, .nilFunc, .nilFunc, .nilFunc, .nilFunc] HZ.out face_size rfl one_3 ?_)
 refine (HC.out _).mono ?_
 rintro e w4 ⟨rfl, s4⟩
 go_wp2_with fail
 go_ret
 exact ⟨rfl, HS3.out.trans s4⟩
theorem bnd_3 (wd sl cp sa ow : Int) (ia ra : Option Addr) (il ic rl rc : Nat) (op : Int) (w : World) (hsa : 0 ≤ sa ∧ sa < 4294967296 := by assumption) :
 Calls Tryz.prog 149 #[.agg #[.int .i64 3, .int .i64 wd, .int .i64 sl, .int .i64 cp, .int .u32 sa, .slice ia il ic, .int .i64 ow, .slice ra rl rc], .int .i64 op] w fun e w' => e = .returned (.int .i64 (boundF 3 wd sl cp sa il rl op)) ∧ Same w w' := by
 rw [bound_3]
 cases h : Sq.rightB wd sl cp sa il rl
 ·rw [if_neg Bool.false_ne_true]
  exact Sq.bound_no wd sl cp sa ow ia ra il ic rl rc op w h
 ·rw [if_pos rfl]
  exact Sq.bound_yes wd sl cp sa ow ia ra il ic rl rc op w h
theorem rbnd_3 (wd sl cp sa ow : Int) (ia ra : Option Addr) (il ic rl rc : Nat) (op : Int) (w : World) (hsa : 0 ≤ sa ∧ sa < 4294967296 := by assumption) :
 Calls Tryz.prog 90 #[.agg #[.int .i64 3, .int .i64 wd, .int .i64 sl, .int .i64 cp, .int .u32 sa, .slice ia il ic, .int .i64 ow, .slice ra rl rc], .int .i64 op] w fun e w' => e = .returned (.int .i64 (boundF 3 wd sl cp sa il rl op)) ∧ Same w w' := by
 rw [bound_3]
 cases h : Sq.rightB wd sl cp sa il rl
 ·rw [if_neg Bool.false_ne_true]
  exact Sq.rbound_no wd sl cp sa ow ia ra il ic rl rc op w h
 ·rw [if_pos rfl]
  exact Sq.rbound_yes wd sl cp sa ow ia ra il ic rl rc op w h
set_option maxRecDepth 100000 in
theorem bound_of_3 (wd sl cp sa ow : Int) (ia ra : Option Addr) (il ic rl rc : Nat) (op : Int) (w : World) (hsa : 0 ≤ sa ∧ sa < 4294967296 := by assumption) :
 Calls Tryz.prog 168 #[.agg #[.int .i64 3, .int .i64 wd, .int .i64 sl, .int .i64 cp, .int .u32 sa, .slice ia il ic, .int .i64 ow, .slice ra rl rc], .int .i64 op] w fun e w' => e = .returned (.int .i64 (boundF 3 wd sl cp sa il rl op)) ∧ Same w w' := by
 have HC := Lib.hid (fun w' => bnd_3 wd sl cp sa ow ia ra il ic rl rc op w')
 have hb0 := Blk.new w 34 #[.int .i64 3, .int .i64 wd, .int .i64 sl, .int .i64 cp, .int .u32 sa, .slice ia il ic, .int .i64 ow, .slice ra rl rc]
 have HS0 := Lib.hid ((Same.refl w).alloc (.cells #[.int .i64 3, .int .i64 wd, .int .i64 sl, .int .i64 cp, .int .u32 sa, .slice ia il ic, .int .i64 ow, .slice ra rl rc] 34))
 have HB0 := Lib.hid hb0
 clear hb0
 generalize boundF 3 wd sl cp sa il rl op = rb at *
 go_enter Tryz.func168, Tryz.ntmps168
 go_wp2_with fail
 refine (face_3 _).mono ?_
 rintro e w2 ⟨rfl, s2⟩
 have HZ := Lib.hid (Blk.new w2 130 #[.string ⟨#[]⟩, .nilFunc, .nilFunc, .nilFunc, .nilFunc])
 have HS2 := Lib.hid (HS0.out.trans s2)
 have hb2 := HB0.out.same s2
 have hlt := hb2.lt
 have hb3 := (hb2.same ((Same.refl w2).alloc (.cells #[.string ⟨#[]⟩, .nilFunc, .nilFunc, .nilFunc, .nilFunc] 130)))
 have HB := Lib.hid (Blk.chg hb3 (chg_setRow (Chg.refl (fun i => i = w2.heap.size) _) (.inl rfl) #[.string ⟨#[115, 101, 113]⟩, .func (.func 146) #[] #[], .func (.func 147) #[] #[], .func (.func 148) #[] #[], .func (.func 149) #[] #[]]) (by omega))
 have HF := Lib.hid (row_blk (cs := #[.string ⟨#[115, 101, 113]⟩, .func (.func 146) #[] #[], .func (.func 147) #[] #[], .func (.func 148) #[] #[], .func (.func 149) #[] #[]]) HZ.out)
 have HS3 := Lib.hid (show Same w ((w2.alloc (.cells #[.string ⟨#[]⟩, .nilFunc, .nilFunc, .nilFunc, .nilFunc] 130)).setRow w2.heap.size #[.string ⟨#[115, 101, 113]⟩, .func (.func 146) #[] #[], .func (.func 147) #[] #[], .func (.func 148) #[] #[], .func (.func 149) #[] #[]]) from chg_setRow (HS2.out.alloc _) (.inr HS2.out.size) _)
 clear s2 hb2 hb3 hlt HB0 HS0
 have d0 : ((w2.alloc (.cells #[.string ⟨#[]⟩, .nilFunc, .nilFunc, .nilFunc, .nilFunc] 130)).setRow w2.heap.size #[.string ⟨#[115, 101, 113]⟩, .func (.func 146) #[] #[], .func (.func 147) #[] #[], .func (.func 148) #[] #[], .func (.func 149) #[] #[]]).cell? ⟨w.heap.size, 0, none⟩ = some (.int .i64 3) := HB.out.cell 0
 have d1 : ((w2.alloc (.cells #[.string ⟨#[]⟩, .nilFunc, .nilFunc, .nilFunc, .nilFunc] 130)).setRow w2.heap.size #[.string ⟨#[115, 101, 113]⟩, .func (.func 146) #[] #[], .func (.func 147) #[] #[], .func (.func 148) #[] #[], .func (.func 149) #[] #[]]).cell? ⟨w.heap.size, 1, none⟩ = some (.int .i64 wd) := HB.out.cell 1
 have d2 : ((w2.alloc (.cells #[.string ⟨#[]⟩, .nilFunc, .nilFunc, .nilFunc, .nilFunc] 130)).setRow w2.heap.size #[.string ⟨#[115, 101, 113]⟩, .func (.func 146) #[] #[], .func (.func 147) #[] #[], .func (.func 148) #[] #[], .func (.func 149) #[] #[]]).cell? ⟨w.heap.size, 2, none⟩ = some (.int .i64 sl) := HB.out.cell 2
 have d3 : ((w2.alloc (.cells #[.string ⟨#[]⟩, .nilFunc, .nilFunc, .nilFunc, .nilFunc] 130)).setRow w2.heap.size #[.string ⟨#[115, 101, 113]⟩, .func (.func 146) #[] #[], .func (.func 147) #[] #[], .func (.func 148) #[] #[], .func (.func 149) #[] #[]]).cell? ⟨w.heap.size, 3, none⟩ = some (.int .i64 cp) := HB.out.cell 3
 have d4 : ((w2.alloc (.cells #[.string ⟨#[]⟩, .nilFunc, .nilFunc, .nilFunc, .nilFunc] 130)).setRow w2.heap.size #[.string ⟨#[115, 101, 113]⟩, .func (.func 146) #[] #[], .func (.func 147) #[] #[], .func (.func 148) #[] #[], .func (.func 149) #[] #[]]).cell? ⟨w.heap.size, 4, none⟩ = some (.int .u32 sa) := HB.out.cell 4
 have d5 : ((w2.alloc (.cells #[.string ⟨#[]⟩, .nilFunc, .nilFunc, .nilFunc, .nilFunc] 130)).setRow w2.heap.size #[.string ⟨#[115, 101, 113]⟩, .func (.func 146) #[] #[], .func (.func 147) #[] #[], .func (.func 148) #[] #[], .func (.func 149) #[] #[]]).cell? ⟨w.heap.size, 5, none⟩ = some (.slice ia il ic) := HB.out.cell 5
 have d6 : ((w2.alloc (.cells #[.string ⟨#[]⟩, .nilFunc, .nilFunc, .nilFunc, .nilFunc] 130)).setRow w2.heap.size #[.string ⟨#[115, 101, 113]⟩, .func (.func 146) #[] #[], .func (.func 147) #[] #[], .func (.func 148) #[] #[], .func (.func 149) #[] #[]]).cell? ⟨w.heap.size, 6, none⟩ = some (.int .i64 ow) := HB.out.cell 6
 have d7 : ((w2.alloc (.cells #[.string ⟨#[]⟩, .nilFunc, .nilFunc, .nilFunc, .nilFunc] 130)).setRow w2.heap.size #[.string ⟨#[115, 101, 113]⟩, .func (.func 146) #[] #[], .func (.func 147) #[] #[], .func (.func 148) #[] #[], .func (.func 149) #[] #[]]).cell? ⟨w.heap.size, 7, none⟩ = some (.slice ra rl rc) := HB.out.cell 7
 have df : ((w2.alloc (.cells #[.string ⟨#[]⟩, .nilFunc, .nilFunc, .nilFunc, .nilFunc] 130)).setRow w2.heap.size #[.string ⟨#[115, 101, 113]⟩, .func (.func 146) #[] #[], .func (.func 147) #[] #[], .func (.func 148) #[] #[], .func (.func 149) #[] #[]]).cell? ⟨w2.heap.size, 4, none⟩ = some (.func (.func 149) #[] #[]) := HF.out.cell 4
 go_wp2_with (refine wpList_store_row rfl 130 (.tmp 5) (.tmp 11) rfl w2.heap.size #[.string ⟨#[115, 101, 113]⟩, .func (.func 146) #[] #[], .func (.func 147) #[] #[], .func (.func 148) #[] #[], .func (.func 149) #[] #[]] rfl rfl 130 #[.string ⟨#[]⟩, .nilFunc, .nilFunc, .nilFunc, .nilFunc] HZ.out face_size rfl one_3 ?_)
 refine (HC.out _).mono ?_
 rintro e w4 ⟨rfl, s4⟩
 go_wp2_with fail
 go_ret
 exact ⟨rfl, HS3.out.trans s4⟩
set_option maxRecDepth 100000 in
theorem shaped_4 (wd sl cp sa ow : Int) (ia ra : Option Addr) (il ic rl rc : Nat) (w : World) (hsa : 0 ≤ sa ∧ sa < 4294967296 := by assumption) :
 Calls Tryz.prog 107 #[.agg #[.int .i64 4, .int .i64 wd, .int .i64 sl, .int .i64 cp, .int .u32 sa, .slice ia il ic, .int .i64 ow, .slice ra rl rc]] w fun e w' => e = .returned (.bool (Rg.rightB wd sl cp sa il rl)) ∧ Same w w' := by
 have HC := Lib.hid (fun w' => Rg.right_any wd sl cp sa ow ia ra il ic rl rc w')
 have hb0 := Blk.new w 34 #[.int .i64 4, .int .i64 wd, .int .i64 sl, .int .i64 cp, .int .u32 sa, .slice ia il ic, .int .i64 ow, .slice ra rl rc]
 have HS0 := Lib.hid ((Same.refl w).alloc (.cells #[.int .i64 4, .int .i64 wd, .int .i64 sl, .int .i64 cp, .int .u32 sa, .slice ia il ic, .int .i64 ow, .slice ra rl rc] 34))
 have HB0 := Lib.hid hb0
 clear hb0
 generalize Rg.rightB wd sl cp sa il rl = rb at *
 go_enter Tryz.func107, Tryz.ntmps107
 go_wp2_with fail
 refine (face_4 _).mono ?_
 rintro e w2 ⟨rfl, s2⟩
 have HZ := Lib.hid (Blk.new w2 130 #[.string ⟨#[]⟩, .nilFunc, .nilFunc, .nilFunc, .nilFunc])
 have HS2 := Lib.hid (HS0.out.trans s2)
 have hb2 := HB0.out.same s2
 have hlt := hb2.lt
 have hb3 := (hb2.same ((Same.refl w2).alloc (.cells #[.string ⟨#[]⟩, .nilFunc, .nilFunc, .nilFunc, .nilFunc] 130)))
 have HB := Lib.hid (Blk.chg hb3 (chg_setRow (Chg.refl (fun i => i = w2.heap.size) _) (.inl rfl) #[.string ⟨#[114, 105, 110, 103]⟩, .func (.func 150) #[] #[], .func (.func 151) #[] #[], .func (.func 152) #[] #[], .func (.func 153) #[] #[]]) (by omega))
 have HF := Lib.hid (row_blk (cs := #[.string ⟨#[114, 105, 110, 103]⟩, .func (.func 150) #[] #[], .func (.func 151) #[] #[], .func (.func 152) #[] #[], .func (.func 153) #[] #[]]) HZ.out)
 have HS3 := Lib.hid (show Same w ((w2.alloc (.cells #[.string ⟨#[]⟩, .nilFunc, .nilFunc, .nilFunc, .nilFunc] 130)).setRow w2.heap.size #[.string ⟨#[114, 105, 110, 103]⟩, .func (.func 150) #[] #[], .func (.func 151) #[] #[], .func (.func 152) #[] #[], .func (.func 153) #[] #[]]) from chg_setRow (HS2.out.alloc _) (.inr HS2.out.size) _)
 clear s2 hb2 hb3 hlt HB0 HS0
 have d0 : ((w2.alloc (.cells #[.string ⟨#[]⟩, .nilFunc, .nilFunc, .nilFunc, .nilFunc] 130)).setRow w2.heap.size #[.string ⟨#[114, 105, 110, 103]⟩, .func (.func 150) #[] #[], .func (.func 151) #[] #[], .func (.func 152) #[] #[], .func (.func 153) #[] #[]]).cell? ⟨w.heap.size, 0, none⟩ = some (.int .i64 4) := HB.out.cell 0
 have d1 : ((w2.alloc (.cells #[.string ⟨#[]⟩, .nilFunc, .nilFunc, .nilFunc, .nilFunc] 130)).setRow w2.heap.size #[.string ⟨#[114, 105, 110, 103]⟩, .func (.func 150) #[] #[], .func (.func 151) #[] #[], .func (.func 152) #[] #[], .func (.func 153) #[] #[]]).cell? ⟨w.heap.size, 1, none⟩ = some (.int .i64 wd) := HB.out.cell 1
 have d2 : ((w2.alloc (.cells #[.string ⟨#[]⟩, .nilFunc, .nilFunc, .nilFunc, .nilFunc] 130)).setRow w2.heap.size #[.string ⟨#[114, 105, 110, 103]⟩, .func (.func 150) #[] #[], .func (.func 151) #[] #[], .func (.func 152) #[] #[], .func (.func 153) #[] #[]]).cell? ⟨w.heap.size, 2, none⟩ = some (.int .i64 sl) := HB.out.cell 2
 have d3 : ((w2.alloc (.cells #[.string ⟨#[]⟩, .nilFunc, .nilFunc, .nilFunc, .nilFunc] 130)).setRow w2.heap.size #[.string ⟨#[114, 105, 110, 103]⟩, .func (.func 150) #[] #[], .func (.func 151) #[] #[], .func (.func 152) #[] #[], .func (.func 153) #[] #[]]).cell? ⟨w.heap.size, 3, none⟩ = some (.int .i64 cp) := HB.out.cell 3
 have d4 : ((w2.alloc (.cells #[.string ⟨#[]⟩, .nilFunc, .nilFunc, .nilFunc, .nilFunc] 130)).setRow w2.heap.size #[.string ⟨#[114, 105, 110, 103]⟩, .func (.func 150) #[] #[], .func (.func 151) #[] #[], .func (.func 152) #[] #[], .func (.func 153) #[] #[]]).cell? ⟨w.heap.size, 4, none⟩ = some (.int .u32 sa) := HB.out.cell 4
 have d5 : ((w2.alloc (.cells #[.string ⟨#[]⟩, .nilFunc, .nilFunc, .nilFunc, .nilFunc] 130)).setRow w2.heap.size #[.string ⟨#[114, 105, 110, 103]⟩, .func (.func 150) #[] #[], .func (.func 151) #[] #[], .func (.func 152) #[] #[], .func (.func 153) #[] #[]]).cell? ⟨w.heap.size, 5, none⟩ = some (.slice ia il ic) := HB.out.cell 5
 have d6 : ((w2.alloc (.cells #[.string ⟨#[]⟩, .nilFunc, .nilFunc, .nilFunc, .nilFunc] 130)).setRow w2.heap.size #[.string ⟨#[114, 105, 110, 103]⟩, .func (.func 150) #[] #[], .func (.func 151) #[] #[], .func (.func 152) #[] #[], .func (.func 153) #[] #[]]).cell? ⟨w.heap.size, 6, none⟩ = some (.int .i64 ow) := HB.out.cell 6
 have d7 : ((w2.alloc (.cells #[.string ⟨#[]⟩, .nilFunc, .nilFunc, .nilFunc, .nilFunc] 130)).setRow w2.heap.size #[.string ⟨#[114, 105, 110, 103]⟩, .func (.func 150) #[] #[], .func (.func 151) #[] #[], .func (.func 152) #[] #[], .func (.func 153) #[] #[]]).cell? ⟨w.heap.size, 7, none⟩ = some (.slice ra rl rc) := HB.out.cell 7
 have df : ((w2.alloc (.cells #[.string ⟨#[]⟩, .nilFunc, .nilFunc, .nilFunc, .nilFunc] 130)).setRow w2.heap.size #[.string ⟨#[114, 105, 110, 103]⟩, .func (.func 150) #[] #[], .func (.func 151) #[] #[], .func (.func 152) #[] #[], .func (.func 153) #[] #[]]).cell? ⟨w2.heap.size, 1, none⟩ = some (.func (.func 150) #[] #[]) := HF.out.cell 1
 go_wp2_with (refine wpList_store_row rfl 130 (.tmp 3) (.tmp 9) rfl w2.heap.size #[.string ⟨#[114, 105, 110, 103]⟩, .func (.func 150) #[] #[], .func (.func 151) #[] #[], .func (.func 152) #[] #[], .func (.func 153) #[] #[]] rfl rfl 130 #[.string ⟨#[]⟩, .nilFunc, .nilFunc, .nilFunc, .nilFunc] HZ.out face_size rfl one_4 ?_)
 refine (HC.out _).mono ?_
 rintro e w4 ⟨rfl, s4⟩
 go_wp2_with fail
 go_ret
 exact ⟨rfl, HS3.out.trans s4⟩
theorem bnd_4 (wd sl cp sa ow : Int) (ia ra : Option Addr) (il ic rl rc : Nat) (op : Int) (w : World) (hsa : 0 ≤ sa ∧ sa < 4294967296 := by assumption) :
 Calls Tryz.prog 153 #[.agg #[.int .i64 4, .int .i64 wd, .int .i64 sl, .int .i64 cp, .int .u32 sa, .slice ia il ic, .int .i64 ow, .slice ra rl rc], .int .i64 op] w fun e w' => e = .returned (.int .i64 (boundF 4 wd sl cp sa il rl op)) ∧ Same w w' := by
 rw [bound_4]
 cases h : Rg.rightB wd sl cp sa il rl
 ·rw [if_neg Bool.false_ne_true]
  exact Rg.bound_no wd sl cp sa ow ia ra il ic rl rc op w h
 ·rw [if_pos rfl]
  exact Rg.bound_yes wd sl cp sa ow ia ra il ic rl rc op w h
theorem rbnd_4 (wd sl cp sa ow : Int) (ia ra : Option Addr) (il ic rl rc : Nat) (op : Int) (w : World) (hsa : 0 ≤ sa ∧ sa < 4294967296 := by assumption) :
 Calls Tryz.prog 90 #[.agg #[.int .i64 4, .int .i64 wd, .int .i64 sl, .int .i64 cp, .int .u32 sa, .slice ia il ic, .int .i64 ow, .slice ra rl rc], .int .i64 op] w fun e w' => e = .returned (.int .i64 (boundF 4 wd sl cp sa il rl op)) ∧ Same w w' := by
 rw [bound_4]
 cases h : Rg.rightB wd sl cp sa il rl
 ·rw [if_neg Bool.false_ne_true]
  exact Rg.rbound_no wd sl cp sa ow ia ra il ic rl rc op w h
 ·rw [if_pos rfl]
  exact Rg.rbound_yes wd sl cp sa ow ia ra il ic rl rc op w h
set_option maxRecDepth 100000 in
theorem bound_of_4 (wd sl cp sa ow : Int) (ia ra : Option Addr) (il ic rl rc : Nat) (op : Int) (w : World) (hsa : 0 ≤ sa ∧ sa < 4294967296 := by assumption) :
 Calls Tryz.prog 168 #[.agg #[.int .i64 4, .int .i64 wd, .int .i64 sl, .int .i64 cp, .int .u32 sa, .slice ia il ic, .int .i64 ow, .slice ra rl rc], .int .i64 op] w fun e w' => e = .returned (.int .i64 (boundF 4 wd sl cp sa il rl op)) ∧ Same w w' := by
 have HC := Lib.hid (fun w' => bnd_4 wd sl cp sa ow ia ra il ic rl rc op w')
 have hb0 := Blk.new w 34 #[.int .i64 4, .int .i64 wd, .int .i64 sl, .int .i64 cp, .int .u32 sa, .slice ia il ic, .int .i64 ow, .slice ra rl rc]
 have HS0 := Lib.hid ((Same.refl w).alloc (.cells #[.int .i64 4, .int .i64 wd, .int .i64 sl, .int .i64 cp, .int .u32 sa, .slice ia il ic, .int .i64 ow, .slice ra rl rc] 34))
 have HB0 := Lib.hid hb0
 clear hb0
 generalize boundF 4 wd sl cp sa il rl op = rb at *
 go_enter Tryz.func168, Tryz.ntmps168
 go_wp2_with fail
 refine (face_4 _).mono ?_
 rintro e w2 ⟨rfl, s2⟩
 have HZ := Lib.hid (Blk.new w2 130 #[.string ⟨#[]⟩, .nilFunc, .nilFunc, .nilFunc, .nilFunc])
 have HS2 := Lib.hid (HS0.out.trans s2)
 have hb2 := HB0.out.same s2
 have hlt := hb2.lt
 have hb3 := (hb2.same ((Same.refl w2).alloc (.cells #[.string ⟨#[]⟩, .nilFunc, .nilFunc, .nilFunc, .nilFunc] 130)))
 have HB := Lib.hid (Blk.chg hb3 (chg_setRow (Chg.refl (fun i => i = w2.heap.size) _) (.inl rfl) #[.string ⟨#[114, 105, 110, 103]⟩, .func (.func 150) #[] #[], .func (.func 151) #[] #[], .func (.func 152) #[] #[], .func (.func 153) #[] #[]]) (by omega))
 have HF := Lib.hid (row_blk (cs := #[.string ⟨#[114, 105, 110, 103]⟩, .func (.func 150) #[] #[], .func (.func 151) #[] #[], .func (.func 152) #[] #[], .func (.func 153) #[] #[]]) HZ.out)
 have HS3 := Lib.hid (show Same w ((w2.alloc (.cells #[.string ⟨#[]⟩, .nilFunc, .nilFunc, .nilFunc, .nilFunc] 130)).setRow w2.heap.size #[.string ⟨#[114, 105, 110, 103]⟩, .func (.func 150) #[] #[], .func (.func 151) #[] #[], .func (.func 152) #[] #[], .func (.func 153) #[] #[]]) from chg_setRow (HS2.out.alloc _) (.inr HS2.out.size) _)
 clear s2 hb2 hb3 hlt HB0 HS0
 have d0 : ((w2.alloc (.cells #[.string ⟨#[]⟩, .nilFunc, .nilFunc, .nilFunc, .nilFunc] 130)).setRow w2.heap.size #[.string ⟨#[114, 105, 110, 103]⟩, .func (.func 150) #[] #[], .func (.func 151) #[] #[], .func (.func 152) #[] #[], .func (.func 153) #[] #[]]).cell? ⟨w.heap.size, 0, none⟩ = some (.int .i64 4) := HB.out.cell 0
 have d1 : ((w2.alloc (.cells #[.string ⟨#[]⟩, .nilFunc, .nilFunc, .nilFunc, .nilFunc] 130)).setRow w2.heap.size #[.string ⟨#[114, 105, 110, 103]⟩, .func (.func 150) #[] #[], .func (.func 151) #[] #[], .func (.func 152) #[] #[], .func (.func 153) #[] #[]]).cell? ⟨w.heap.size, 1, none⟩ = some (.int .i64 wd) := HB.out.cell 1
 have d2 : ((w2.alloc (.cells #[.string ⟨#[]⟩, .nilFunc, .nilFunc, .nilFunc, .nilFunc] 130)).setRow w2.heap.size #[.string ⟨#[114, 105, 110, 103]⟩, .func (.func 150) #[] #[], .func (.func 151) #[] #[], .func (.func 152) #[] #[], .func (.func 153) #[] #[]]).cell? ⟨w.heap.size, 2, none⟩ = some (.int .i64 sl) := HB.out.cell 2
 have d3 : ((w2.alloc (.cells #[.string ⟨#[]⟩, .nilFunc, .nilFunc, .nilFunc, .nilFunc] 130)).setRow w2.heap.size #[.string ⟨#[114, 105, 110, 103]⟩, .func (.func 150) #[] #[], .func (.func 151) #[] #[], .func (.func 152) #[] #[], .func (.func 153) #[] #[]]).cell? ⟨w.heap.size, 3, none⟩ = some (.int .i64 cp) := HB.out.cell 3
 have d4 : ((w2.alloc (.cells #[.string ⟨#[]⟩, .nilFunc, .nilFunc, .nilFunc, .nilFunc] 130)).setRow w2.heap.size #[.string ⟨#[114, 105, 110, 103]⟩, .func (.func 150) #[] #[], .func (.func 151) #[] #[], .func (.func 152) #[] #[], .func (.func 153) #[] #[]]).cell? ⟨w.heap.size, 4, none⟩ = some (.int .u32 sa) := HB.out.cell 4
 have d5 : ((w2.alloc (.cells #[.string ⟨#[]⟩, .nilFunc, .nilFunc, .nilFunc, .nilFunc] 130)).setRow w2.heap.size #[.string ⟨#[114, 105, 110, 103]⟩, .func (.func 150) #[] #[], .func (.func 151) #[] #[], .func (.func 152) #[] #[], .func (.func 153) #[] #[]]).cell? ⟨w.heap.size, 5, none⟩ = some (.slice ia il ic) := HB.out.cell 5
 have d6 : ((w2.alloc (.cells #[.string ⟨#[]⟩, .nilFunc, .nilFunc, .nilFunc, .nilFunc] 130)).setRow w2.heap.size #[.string ⟨#[114, 105, 110, 103]⟩, .func (.func 150) #[] #[], .func (.func 151) #[] #[], .func (.func 152) #[] #[], .func (.func 153) #[] #[]]).cell? ⟨w.heap.size, 6, none⟩ = some (.int .i64 ow) := HB.out.cell 6
 have d7 : ((w2.alloc (.cells #[.string ⟨#[]⟩, .nilFunc, .nilFunc, .nilFunc, .nilFunc] 130)).setRow w2.heap.size #[.string ⟨#[114, 105, 110, 103]⟩, .func (.func 150) #[] #[], .func (.func 151) #[] #[], .func (.func 152) #[] #[], .func (.func 153) #[] #[]]).cell? ⟨w.heap.size, 7, none⟩ = some (.slice ra rl rc) := HB.out.cell 7
 have df : ((w2.alloc (.cells #[.string ⟨#[]⟩, .nilFunc, .nilFunc, .nilFunc, .nilFunc] 130)).setRow w2.heap.size #[.string ⟨#[114, 105, 110, 103]⟩, .func (.func 150) #[] #[], .func (.func 151) #[] #[], .func (.func 152) #[] #[], .func (.func 153) #[] #[]]).cell? ⟨w2.heap.size, 4, none⟩ = some (.func (.func 153) #[] #[]) := HF.out.cell 4
 go_wp2_with (refine wpList_store_row rfl 130 (.tmp 5) (.tmp 11) rfl w2.heap.size #[.string ⟨#[114, 105, 110, 103]⟩, .func (.func 150) #[] #[], .func (.func 151) #[] #[], .func (.func 152) #[] #[], .func (.func 153) #[] #[]] rfl rfl 130 #[.string ⟨#[]⟩, .nilFunc, .nilFunc, .nilFunc, .nilFunc] HZ.out face_size rfl one_4 ?_)
 refine (HC.out _).mono ?_
 rintro e w4 ⟨rfl, s4⟩
 go_wp2_with fail
 go_ret
 exact ⟨rfl, HS3.out.trans s4⟩
set_option maxRecDepth 100000 in
theorem shaped_5 (wd sl cp sa ow : Int) (ia ra : Option Addr) (il ic rl rc : Nat) (w : World) (hsa : 0 ≤ sa ∧ sa < 4294967296 := by assumption) :
 Calls Tryz.prog 107 #[.agg #[.int .i64 5, .int .i64 wd, .int .i64 sl, .int .i64 cp, .int .u32 sa, .slice ia il ic, .int .i64 ow, .slice ra rl rc]] w fun e w' => e = .returned (.bool (Cb.rightB wd sl cp sa il rl)) ∧ Same w w' := by
 have HC := Lib.hid (fun w' => Cb.right_any wd sl cp sa ow ia ra il ic rl rc w')
 have hb0 := Blk.new w 34 #[.int .i64 5, .int .i64 wd, .int .i64 sl, .int .i64 cp, .int .u32 sa, .slice ia il ic, .int .i64 ow, .slice ra rl rc]
 have HS0 := Lib.hid ((Same.refl w).alloc (.cells #[.int .i64 5, .int .i64 wd, .int .i64 sl, .int .i64 cp, .int .u32 sa, .slice ia il ic, .int .i64 ow, .slice ra rl rc] 34))
 have HB0 := Lib.hid hb0
 clear hb0
 generalize Cb.rightB wd sl cp sa il rl = rb at *
 go_enter Tryz.func107, Tryz.ntmps107
 go_wp2_with fail
 refine (face_5 _).mono ?_
 rintro e w2 ⟨rfl, s2⟩
 have HZ := Lib.hid (Blk.new w2 130 #[.string ⟨#[]⟩, .nilFunc, .nilFunc, .nilFunc, .nilFunc])
 have HS2 := Lib.hid (HS0.out.trans s2)
 have hb2 := HB0.out.same s2
 have hlt := hb2.lt
 have hb3 := (hb2.same ((Same.refl w2).alloc (.cells #[.string ⟨#[]⟩, .nilFunc, .nilFunc, .nilFunc, .nilFunc] 130)))
 have HB := Lib.hid (Blk.chg hb3 (chg_setRow (Chg.refl (fun i => i = w2.heap.size) _) (.inl rfl) #[.string ⟨#[99, 97, 98]⟩, .func (.func 154) #[] #[], .func (.func 155) #[] #[], .func (.func 156) #[] #[], .func (.func 157) #[] #[]]) (by omega))
 have HF := Lib.hid (row_blk (cs := #[.string ⟨#[99, 97, 98]⟩, .func (.func 154) #[] #[], .func (.func 155) #[] #[], .func (.func 156) #[] #[], .func (.func 157) #[] #[]]) HZ.out)
 have HS3 := Lib.hid (show Same w ((w2.alloc (.cells #[.string ⟨#[]⟩, .nilFunc, .nilFunc, .nilFunc, .nilFunc] 130)).setRow w2.heap.size #[.string ⟨#[99, 97, 98]⟩, .func (.func 154) #[] #[], .func (.func 155) #[] #[], .func (.func 156) #[] #[], .func (.func 157) #[] #[]]) from chg_setRow (HS2.out.alloc _) (.inr HS2.out.size) _)
 clear s2 hb2 hb3 hlt HB0 HS0
 have d0 : ((w2.alloc (.cells #[.string ⟨#[]⟩, .nilFunc, .nilFunc, .nilFunc, .nilFunc] 130)).setRow w2.heap.size #[.string ⟨#[99, 97, 98]⟩, .func (.func 154) #[] #[], .func (.func 155) #[] #[], .func (.func 156) #[] #[], .func (.func 157) #[] #[]]).cell? ⟨w.heap.size, 0, none⟩ = some (.int .i64 5) := HB.out.cell 0
 have d1 : ((w2.alloc (.cells #[.string ⟨#[]⟩, .nilFunc, .nilFunc, .nilFunc, .nilFunc] 130)).setRow w2.heap.size #[.string ⟨#[99, 97, 98]⟩, .func (.func 154) #[] #[], .func (.func 155) #[] #[], .func (.func 156) #[] #[], .func (.func 157) #[] #[]]).cell? ⟨w.heap.size, 1, none⟩ = some (.int .i64 wd) := HB.out.cell 1
 have d2 : ((w2.alloc (.cells #[.string ⟨#[]⟩, .nilFunc, .nilFunc, .nilFunc, .nilFunc] 130)).setRow w2.heap.size #[.string ⟨#[99, 97, 98]⟩, .func (.func 154) #[] #[], .func (.func 155) #[] #[], .func (.func 156) #[] #[], .func (.func 157) #[] #[]]).cell? ⟨w.heap.size, 2, none⟩ = some (.int .i64 sl) := HB.out.cell 2
 have d3 : ((w2.alloc (.cells #[.string ⟨#[]⟩, .nilFunc, .nilFunc, .nilFunc, .nilFunc] 130)).setRow w2.heap.size #[.string ⟨#[99, 97, 98]⟩, .func (.func 154) #[] #[], .func (.func 155) #[] #[], .func (.func 156) #[] #[], .func (.func 157) #[] #[]]).cell? ⟨w.heap.size, 3, none⟩ = some (.int .i64 cp) := HB.out.cell 3
 have d4 : ((w2.alloc (.cells #[.string ⟨#[]⟩, .nilFunc, .nilFunc, .nilFunc, .nilFunc] 130)).setRow w2.heap.size #[.string ⟨#[99, 97, 98]⟩, .func (.func 154) #[] #[], .func (.func 155) #[] #[], .func (.func 156) #[] #[], .func (.func 157) #[] #[]]).cell? ⟨w.heap.size, 4, none⟩ = some (.int .u32 sa) := HB.out.cell 4
 have d5 : ((w2.alloc (.cells #[.string ⟨#[]⟩, .nilFunc, .nilFunc, .nilFunc, .nilFunc] 130)).setRow w2.heap.size #[.string ⟨#[99, 97, 98]⟩, .func (.func 154) #[] #[], .func (.func 155) #[] #[], .func (.func 156) #[] #[], .func (.func 157) #[] #[]]).cell? ⟨w.heap.size, 5, none⟩ = some (.slice ia il ic) := HB.out.cell 5
 have d6 : ((w2.alloc (.cells #[.string ⟨#[]⟩, .nilFunc, .nilFunc, .nilFunc, .nilFunc] 130)).setRow w2.heap.size #[.string ⟨#[99, 97, 98]⟩, .func (.func 154) #[] #[], .func (.func 155) #[] #[], .func (.func 156) #[] #[], .func (.func 157) #[] #[]]).cell? ⟨w.heap.size, 6, none⟩ = some (.int .i64 ow) := HB.out.cell 6
 have d7 : ((w2.alloc (.cells #[.string ⟨#[]⟩, .nilFunc, .nilFunc, .nilFunc, .nilFunc] 130)).setRow w2.heap.size #[.string ⟨#[99, 97, 98]⟩, .func (.func 154) #[] #[], .func (.func 155) #[] #[], .func (.func 156) #[] #[], .func (.func 157) #[] #[]]).cell? ⟨w.heap.size, 7, none⟩ = some (.slice ra rl rc) := HB.out.cell 7
 have df : ((w2.alloc (.cells #[.string ⟨#[]⟩, .nilFunc, .nilFunc, .nilFunc, .nilFunc] 130)).setRow w2.heap.size #[.string ⟨#[99, 97, 98]⟩, .func (.func 154) #[] #[], .func (.func 155) #[] #[], .func (.func 156) #[] #[], .func (.func 157) #[] #[]]).cell? ⟨w2.heap.size, 1, none⟩ = some (.func (.func 154) #[] #[]) := HF.out.cell 1
 go_wp2_with (refine wpList_store_row rfl 130 (.tmp 3) (.tmp 9) rfl w2.heap.size #[.string ⟨#[99, 97, 98]⟩, .func (.func 154) #[] #[], .func (.func 155) #[] #[], .func (.func 156) #[] #[], .func (.func 157) #[] #[]] rfl rfl 130 #[.string ⟨#[]⟩, .nilFunc, .nilFunc, .nilFunc, .nilFunc] HZ.out face_size rfl one_5 ?_)
 refine (HC.out _).mono ?_
 rintro e w4 ⟨rfl, s4⟩
 go_wp2_with fail
 go_ret
 exact ⟨rfl, HS3.out.trans s4⟩
theorem bnd_5 (wd sl cp sa ow : Int) (ia ra : Option Addr) (il ic rl rc : Nat) (op : Int) (w : World) (hsa : 0 ≤ sa ∧ sa < 4294967296 := by assumption) :
 Calls Tryz.prog 157 #[.agg #[.int .i64 5, .int .i64 wd, .int .i64 sl, .int .i64 cp, .int .u32 sa, .slice ia il ic, .int .i64 ow, .slice ra rl rc], .int .i64 op] w fun e w' => e = .returned (.int .i64 (boundF 5 wd sl cp sa il rl op)) ∧ Same w w' := by
 rw [bound_5]
 cases h : Cb.rightB wd sl cp sa il rl
 ·rw [if_neg Bool.false_ne_true]
  exact Cb.bound_no wd sl cp sa ow ia ra il ic rl rc op w h
 ·rw [if_pos rfl]
  exact Cb.bound_yes wd sl cp sa ow ia ra il ic rl rc op w h
theorem rbnd_5 (wd sl cp sa ow : Int) (ia ra : Option Addr) (il ic rl rc : Nat) (op : Int) (w : World) (hsa : 0 ≤ sa ∧ sa < 4294967296 := by assumption) :
 Calls Tryz.prog 90 #[.agg #[.int .i64 5, .int .i64 wd, .int .i64 sl, .int .i64 cp, .int .u32 sa, .slice ia il ic, .int .i64 ow, .slice ra rl rc], .int .i64 op] w fun e w' => e = .returned (.int .i64 (boundF 5 wd sl cp sa il rl op)) ∧ Same w w' := by
 rw [bound_5]
 cases h : Cb.rightB wd sl cp sa il rl
 ·rw [if_neg Bool.false_ne_true]
  exact Cb.rbound_no wd sl cp sa ow ia ra il ic rl rc op w h
 ·rw [if_pos rfl]
  exact Cb.rbound_yes wd sl cp sa ow ia ra il ic rl rc op w h
set_option maxRecDepth 100000 in
theorem bound_of_5 (wd sl cp sa ow : Int) (ia ra : Option Addr) (il ic rl rc : Nat) (op : Int) (w : World) (hsa : 0 ≤ sa ∧ sa < 4294967296 := by assumption) :
 Calls Tryz.prog 168 #[.agg #[.int .i64 5, .int .i64 wd, .int .i64 sl, .int .i64 cp, .int .u32 sa, .slice ia il ic, .int .i64 ow, .slice ra rl rc], .int .i64 op] w fun e w' => e = .returned (.int .i64 (boundF 5 wd sl cp sa il rl op)) ∧ Same w w' := by
 have HC := Lib.hid (fun w' => bnd_5 wd sl cp sa ow ia ra il ic rl rc op w')
 have hb0 := Blk.new w 34 #[.int .i64 5, .int .i64 wd, .int .i64 sl, .int .i64 cp, .int .u32 sa, .slice ia il ic, .int .i64 ow, .slice ra rl rc]
 have HS0 := Lib.hid ((Same.refl w).alloc (.cells #[.int .i64 5, .int .i64 wd, .int .i64 sl, .int .i64 cp, .int .u32 sa, .slice ia il ic, .int .i64 ow, .slice ra rl rc] 34))
 have HB0 := Lib.hid hb0
 clear hb0
 generalize boundF 5 wd sl cp sa il rl op = rb at *
 go_enter Tryz.func168, Tryz.ntmps168
 go_wp2_with fail
 refine (face_5 _).mono ?_
 rintro e w2 ⟨rfl, s2⟩
 have HZ := Lib.hid (Blk.new w2 130 #[.string ⟨#[]⟩, .nilFunc, .nilFunc, .nilFunc, .nilFunc])
 have HS2 := Lib.hid (HS0.out.trans s2)
 have hb2 := HB0.out.same s2
 have hlt := hb2.lt
 have hb3 := (hb2.same ((Same.refl w2).alloc (.cells #[.string ⟨#[]⟩, .nilFunc, .nilFunc, .nilFunc, .nilFunc] 130)))
 have HB := Lib.hid (Blk.chg hb3 (chg_setRow (Chg.refl (fun i => i = w2.heap.size) _) (.inl rfl) #[.string ⟨#[99, 97, 98]⟩, .func (.func 154) #[] #[], .func (.func 155) #[] #[], .func (.func 156) #[] #[], .func (.func 157) #[] #[]]) (by omega))
 have HF := Lib.hid (row_blk (cs := #[.string ⟨#[99, 97, 98]⟩, .func (.func 154) #[] #[], .func (.func 155) #[] #[], .func (.func 156) #[] #[], .func (.func 157) #[] #[]]) HZ.out)
 have HS3 := Lib.hid (show Same w ((w2.alloc (.cells #[.string ⟨#[]⟩, .nilFunc, .nilFunc, .nilFunc, .nilFunc] 130)).setRow w2.heap.size #[.string ⟨#[99, 97, 98]⟩, .func (.func 154) #[] #[], .func (.func 155) #[] #[], .func (.func 156) #[] #[], .func (.func 157) #[] #[]]) from chg_setRow (HS2.out.alloc _) (.inr HS2.out.size) _)
 clear s2 hb2 hb3 hlt HB0 HS0
 have d0 : ((w2.alloc (.cells #[.string ⟨#[]⟩, .nilFunc, .nilFunc, .nilFunc, .nilFunc] 130)).setRow w2.heap.size #[.string ⟨#[99, 97, 98]⟩, .func (.func 154) #[] #[], .func (.func 155) #[] #[], .func (.func 156) #[] #[], .func (.func 157) #[] #[]]).cell? ⟨w.heap.size, 0, none⟩ = some (.int .i64 5) := HB.out.cell 0
 have d1 : ((w2.alloc (.cells #[.string ⟨#[]⟩, .nilFunc, .nilFunc, .nilFunc, .nilFunc] 130)).setRow w2.heap.size #[.string ⟨#[99, 97, 98]⟩, .func (.func 154) #[] #[], .func (.func 155) #[] #[], .func (.func 156) #[] #[], .func (.func 157) #[] #[]]).cell? ⟨w.heap.size, 1, none⟩ = some (.int .i64 wd) := HB.out.cell 1
 have d2 : ((w2.alloc (.cells #[.string ⟨#[]⟩, .nilFunc, .nilFunc, .nilFunc, .nilFunc] 130)).setRow w2.heap.size #[.string ⟨#[99, 97, 98]⟩, .func (.func 154) #[] #[], .func (.func 155) #[] #[], .func (.func 156) #[] #[], .func (.func 157) #[] #[]]).cell? ⟨w.heap.size, 2, none⟩ = some (.int .i64 sl) := HB.out.cell 2
 have d3 : ((w2.alloc (.cells #[.string ⟨#[]⟩, .nilFunc, .nilFunc, .nilFunc, .nilFunc] 130)).setRow w2.heap.size #[.string ⟨#[99, 97, 98]⟩, .func (.func 154) #[] #[], .func (.func 155) #[] #[], .func (.func 156) #[] #[], .func (.func 157) #[] #[]]).cell? ⟨w.heap.size, 3, none⟩ = some (.int .i64 cp) := HB.out.cell 3
 have d4 : ((w2.alloc (.cells #[.string ⟨#[]⟩, .nilFunc, .nilFunc, .nilFunc, .nilFunc] 130)).setRow w2.heap.size #[.string ⟨#[99, 97, 98]⟩, .func (.func 154) #[] #[], .func (.func 155) #[] #[], .func (.func 156) #[] #[], .func (.func 157) #[] #[]]).cell? ⟨w.heap.size, 4, none⟩ = some (.int .u32 sa) := HB.out.cell 4
 have d5 : ((w2.alloc (.cells #[.string ⟨#[]⟩, .nilFunc, .nilFunc, .nilFunc, .nilFunc] 130)).setRow w2.heap.size #[.string ⟨#[99, 97, 98]⟩, .func (.func 154) #[] #[], .func (.func 155) #[] #[], .func (.func 156) #[] #[], .func (.func 157) #[] #[]]).cell? ⟨w.heap.size, 5, none⟩ = some (.slice ia il ic) := HB.out.cell 5
 have d6 : ((w2.alloc (.cells #[.string ⟨#[]⟩, .nilFunc, .nilFunc, .nilFunc, .nilFunc] 130)).setRow w2.heap.size #[.string ⟨#[99, 97, 98]⟩, .func (.func 154) #[] #[], .func (.func 155) #[] #[], .func (.func 156) #[] #[], .func (.func 157) #[] #[]]).cell? ⟨w.heap.size, 6, none⟩ = some (.int .i64 ow) := HB.out.cell 6
 have d7 : ((w2.alloc (.cells #[.string ⟨#[]⟩, .nilFunc, .nilFunc, .nilFunc, .nilFunc] 130)).setRow w2.heap.size #[.string ⟨#[99, 97, 98]⟩, .func (.func 154) #[] #[], .func (.func 155) #[] #[], .func (.func 156) #[] #[], .func (.func 157) #[] #[]]).cell? ⟨w.heap.size, 7, none⟩ = some (.slice ra rl rc) := HB.out.cell 7
 have df : ((w2.alloc (.cells #[.string ⟨#[]⟩, .nilFunc, .nilFunc, .nilFunc, .nilFunc] 130)).setRow w2.heap.size #[.string ⟨#[99, 97, 98]⟩, .func (.func 154) #[] #[], .func (.func 155) #[] #[], .func (.func 156) #[] #[], .func (.func 157) #[] #[]]).cell? ⟨w2.heap.size, 4, none⟩ = some (.func (.func 157) #[] #[]) := HF.out.cell 4
 go_wp2_with (refine wpList_store_row rfl 130 (.tmp 5) (.tmp 11) rfl w2.heap.size #[.string ⟨#[99, 97, 98]⟩, .func (.func 154) #[] #[], .func (.func 155) #[] #[], .func (.func 156) #[] #[], .func (.func 157) #[] #[]] rfl rfl 130 #[.string ⟨#[]⟩, .nilFunc, .nilFunc, .nilFunc, .nilFunc] HZ.out face_size rfl one_5 ?_)
 refine (HC.out _).mono ?_
 rintro e w4 ⟨rfl, s4⟩
 go_wp2_with fail
 go_ret
 exact ⟨rfl, HS3.out.trans s4⟩
set_option maxRecDepth 100000 in
theorem shaped_6 (wd sl cp sa ow : Int) (ia ra : Option Addr) (il ic rl rc : Nat) (w : World) (hsa : 0 ≤ sa ∧ sa < 4294967296 := by assumption) :
 Calls Tryz.prog 107 #[.agg #[.int .i64 6, .int .i64 wd, .int .i64 sl, .int .i64 cp, .int .u32 sa, .slice ia il ic, .int .i64 ow, .slice ra rl rc]] w fun e w' => e = .returned (.bool (Ff.rightB wd sl cp sa il rl)) ∧ Same w w' := by
 have HC := Lib.hid (fun w' => Ff.right_any wd sl cp sa ow ia ra il ic rl rc w')
 have hb0 := Blk.new w 34 #[.int .i64 6, .int .i64 wd, .int .i64 sl, .int .i64 cp, .int .u32 sa, .slice ia il ic, .int .i64 ow, .slice ra rl rc]
 have HS0 := Lib.hid ((Same.refl w).alloc (.cells #[.int .i64 6, .int .i64 wd, .int .i64 sl, .int .i64 cp, .int .u32 sa, .slice ia il ic, .int .i64 ow, .slice ra rl rc] 34))
 have HB0 := Lib.hid hb0
 clear hb0
 generalize Ff.rightB wd sl cp sa il rl = rb at *
 go_enter Tryz.func107, Tryz.ntmps107
 go_wp2_with fail
 refine (face_6 _).mono ?_
 rintro e w2 ⟨rfl, s2⟩
 have HZ := Lib.hid (Blk.new w2 130 #[.string ⟨#[]⟩, .nilFunc, .nilFunc, .nilFunc, .nilFunc])
 have HS2 := Lib.hid (HS0.out.trans s2)
 have hb2 := HB0.out.same s2
 have hlt := hb2.lt
 have hb3 := (hb2.same ((Same.refl w2).alloc (.cells #[.string ⟨#[]⟩, .nilFunc, .nilFunc, .nilFunc, .nilFunc] 130)))
 have HB := Lib.hid (Blk.chg hb3 (chg_setRow (Chg.refl (fun i => i = w2.heap.size) _) (.inl rfl) #[.string ⟨#[102, 105, 102, 111]⟩, .func (.func 158) #[] #[], .func (.func 159) #[] #[], .func (.func 160) #[] #[], .func (.func 161) #[] #[]]) (by omega))
 have HF := Lib.hid (row_blk (cs := #[.string ⟨#[102, 105, 102, 111]⟩, .func (.func 158) #[] #[], .func (.func 159) #[] #[], .func (.func 160) #[] #[], .func (.func 161) #[] #[]]) HZ.out)
 have HS3 := Lib.hid (show Same w ((w2.alloc (.cells #[.string ⟨#[]⟩, .nilFunc, .nilFunc, .nilFunc, .nilFunc] 130)).setRow w2.heap.size #[.string ⟨#[102, 105, 102, 111]⟩, .func (.func 158) #[] #[], .func (.func 159) #[] #[], .func (.func 160) #[] #[], .func (.func 161) #[] #[]]) from chg_setRow (HS2.out.alloc _) (.inr HS2.out.size) _)
 clear s2 hb2 hb3 hlt HB0 HS0
 have d0 : ((w2.alloc (.cells #[.string ⟨#[]⟩, .nilFunc, .nilFunc, .nilFunc, .nilFunc] 130)).setRow w2.heap.size #[.string ⟨#[102, 105, 102, 111]⟩, .func (.func 158) #[] #[], .func (.func 159) #[] #[], .func (.func 160) #[] #[], .func (.func 161) #[] #[]]).cell? ⟨w.heap.size, 0, none⟩ = some (.int .i64 6) := HB.out.cell 0
 have d1 : ((w2.alloc (.cells #[.string ⟨#[]⟩, .nilFunc, .nilFunc, .nilFunc, .nilFunc] 130)).setRow w2.heap.size #[.string ⟨#[102, 105, 102, 111]⟩, .func (.func 158) #[] #[], .func (.func 159) #[] #[], .func (.func 160) #[] #[], .func (.func 161) #[] #[]]).cell? ⟨w.heap.size, 1, none⟩ = some (.int .i64 wd) := HB.out.cell 1
 have d2 : ((w2.alloc (.cells #[.string ⟨#[]⟩, .nilFunc, .nilFunc, .nilFunc, .nilFunc] 130)).setRow w2.heap.size #[.string ⟨#[102, 105, 102, 111]⟩, .func (.func 158) #[] #[], .func (.func 159) #[] #[], .func (.func 160) #[] #[], .func (.func 161) #[] #[]]).cell? ⟨w.heap.size, 2, none⟩ = some (.int .i64 sl) := HB.out.cell 2
 have d3 : ((w2.alloc (.cells #[.string ⟨#[]⟩, .nilFunc, .nilFunc, .nilFunc, .nilFunc] 130)).setRow w2.heap.size #[.string ⟨#[102, 105, 102, 111]⟩, .func (.func 158) #[] #[], .func (.func 159) #[] #[], .func (.func 160) #[] #[], .func (.func 161) #[] #[]]).cell? ⟨w.heap.size, 3, none⟩ = some (.int .i64 cp) := HB.out.cell 3
 have d4 : ((w2.alloc (.cells #[.string ⟨#[]⟩, .nilFunc, .nilFunc, .nilFunc, .nilFunc] 130)).setRow w2.heap.size #[.string ⟨#[102, 105, 102, 111]⟩, .func (.func 158) #[] #[], .func (.func 159) #[] #[], .func (.func 160) #[] #[], .func (.func 161) #[] #[]]).cell? ⟨w.heap.size, 4, none⟩ = some (.int .u32 sa) := HB.out.cell 4
 have d5 : ((w2.alloc (.cells #[.string ⟨#[]⟩, .nilFunc, .nilFunc, .nilFunc, .nilFunc] 130)).setRow w2.heap.size #[.string ⟨#[102, 105, 102, 111]⟩, .func (.func 158) #[] #[], .func (.func 159) #[] #[], .func (.func 160) #[] #[], .func (.func 161) #[] #[]]).cell? ⟨w.heap.size, 5, none⟩ = some (.slice ia il ic) := HB.out.cell 5
 have d6 : ((w2.alloc (.cells #[.string ⟨#[]⟩, .nilFunc, .nilFunc, .nilFunc, .nilFunc] 130)).setRow w2.heap.size #[.string ⟨#[102, 105, 102, 111]⟩, .func (.func 158) #[] #[], .func (.func 159) #[] #[], .func (.func 160) #[] #[], .func (.func 161) #[] #[]]).cell? ⟨w.heap.size, 6, none⟩ = some (.int .i64 ow) := HB.out.cell 6
 have d7 : ((w2.alloc (.cells #[.string ⟨#[]⟩, .nilFunc, .nilFunc, .nilFunc, .nilFunc] 130)).setRow w2.heap.size #[.string ⟨#[102, 105, 102, 111]⟩, .func (.func 158) #[] #[], .func (.func 159) #[] #[], .func (.func 160) #[] #[], .func (.func 161) #[] #[]]).cell? ⟨w.heap.size, 7, none⟩ = some (.slice ra rl rc) := HB.out.cell 7
 have df : ((w2.alloc (.cells #[.string ⟨#[]⟩, .nilFunc, .nilFunc, .nilFunc, .nilFunc] 130)).setRow w2.heap.size #[.string ⟨#[102, 105, 102, 111]⟩, .func (.func 158) #[] #[], .func (.func 159) #[] #[], .func (.func 160) #[] #[], .func (.func 161) #[] #[]]).cell? ⟨w2.heap.size, 1, none⟩ = some (.func (.func 158) #[] #[]) := HF.out.cell 1
 go_wp2_with (refine wpList_store_row rfl 130 (.tmp 3) (.tmp 9) rfl w2.heap.size #[.string ⟨#[102, 105, 102, 111]⟩, .func (.func 158) #[] #[], .func (.func 159) #[] #[], .func (.func 160) #[] #[], .func (.func 161) #[] #[]] rfl rfl 130 #[.string ⟨#[]⟩, .nilFunc, .nilFunc, .nilFunc, .nilFunc] HZ.out face_size rfl one_6 ?_)
 refine (HC.out _).mono ?_
 rintro e w4 ⟨rfl, s4⟩
 go_wp2_with fail
 go_ret
 exact ⟨rfl, HS3.out.trans s4⟩
theorem bnd_6 (wd sl cp sa ow : Int) (ia ra : Option Addr) (il ic rl rc : Nat) (op : Int) (w : World) (hsa : 0 ≤ sa ∧ sa < 4294967296 := by assumption) :
 Calls Tryz.prog 161 #[.agg #[.int .i64 6, .int .i64 wd, .int .i64 sl, .int .i64 cp, .int .u32 sa, .slice ia il ic, .int .i64 ow, .slice ra rl rc], .int .i64 op] w fun e w' => e = .returned (.int .i64 (boundF 6 wd sl cp sa il rl op)) ∧ Same w w' := by
 rw [bound_6]
 cases h : Ff.rightB wd sl cp sa il rl
 ·rw [if_neg Bool.false_ne_true]
  exact Ff.bound_no wd sl cp sa ow ia ra il ic rl rc op w h
 ·rw [if_pos rfl]
  exact Ff.bound_yes wd sl cp sa ow ia ra il ic rl rc op w h
theorem rbnd_6 (wd sl cp sa ow : Int) (ia ra : Option Addr) (il ic rl rc : Nat) (op : Int) (w : World) (hsa : 0 ≤ sa ∧ sa < 4294967296 := by assumption) :
 Calls Tryz.prog 90 #[.agg #[.int .i64 6, .int .i64 wd, .int .i64 sl, .int .i64 cp, .int .u32 sa, .slice ia il ic, .int .i64 ow, .slice ra rl rc], .int .i64 op] w fun e w' => e = .returned (.int .i64 (boundF 6 wd sl cp sa il rl op)) ∧ Same w w' := by
 rw [bound_6]
 cases h : Ff.rightB wd sl cp sa il rl
 ·rw [if_neg Bool.false_ne_true]
  exact Ff.rbound_no wd sl cp sa ow ia ra il ic rl rc op w h
 ·rw [if_pos rfl]
  exact Ff.rbound_yes wd sl cp sa ow ia ra il ic rl rc op w h
set_option maxRecDepth 100000 in
theorem bound_of_6 (wd sl cp sa ow : Int) (ia ra : Option Addr) (il ic rl rc : Nat) (op : Int) (w : World) (hsa : 0 ≤ sa ∧ sa < 4294967296 := by assumption) :
 Calls Tryz.prog 168 #[.agg #[.int .i64 6, .int .i64 wd, .int .i64 sl, .int .i64 cp, .int .u32 sa, .slice ia il ic, .int .i64 ow, .slice ra rl rc], .int .i64 op] w fun e w' => e = .returned (.int .i64 (boundF 6 wd sl cp sa il rl op)) ∧ Same w w' := by
 have HC := Lib.hid (fun w' => bnd_6 wd sl cp sa ow ia ra il ic rl rc op w')
 have hb0 := Blk.new w 34 #[.int .i64 6, .int .i64 wd, .int .i64 sl, .int .i64 cp, .int .u32 sa, .slice ia il ic, .int .i64 ow, .slice ra rl rc]
 have HS0 := Lib.hid ((Same.refl w).alloc (.cells #[.int .i64 6, .int .i64 wd, .int .i64 sl, .int .i64 cp, .int .u32 sa, .slice ia il ic, .int .i64 ow, .slice ra rl rc] 34))
 have HB0 := Lib.hid hb0
 clear hb0
 generalize boundF 6 wd sl cp sa il rl op = rb at *
 go_enter Tryz.func168, Tryz.ntmps168
 go_wp2_with fail
 refine (face_6 _).mono ?_
 rintro e w2 ⟨rfl, s2⟩
 have HZ := Lib.hid (Blk.new w2 130 #[.string ⟨#[]⟩, .nilFunc, .nilFunc, .nilFunc, .nilFunc])
 have HS2 := Lib.hid (HS0.out.trans s2)
 have hb2 := HB0.out.same s2
 have hlt := hb2.lt
 have hb3 := (hb2.same ((Same.refl w2).alloc (.cells #[.string ⟨#[]⟩, .nilFunc, .nilFunc, .nilFunc, .nilFunc] 130)))
 have HB := Lib.hid (Blk.chg hb3 (chg_setRow (Chg.refl (fun i => i = w2.heap.size) _) (.inl rfl) #[.string ⟨#[102, 105, 102, 111]⟩, .func (.func 158) #[] #[], .func (.func 159) #[] #[], .func (.func 160) #[] #[], .func (.func 161) #[] #[]]) (by omega))
 have HF := Lib.hid (row_blk (cs := #[.string ⟨#[102, 105, 102, 111]⟩, .func (.func 158) #[] #[], .func (.func 159) #[] #[], .func (.func 160) #[] #[], .func (.func 161) #[] #[]]) HZ.out)
 have HS3 := Lib.hid (show Same w ((w2.alloc (.cells #[.string ⟨#[]⟩, .nilFunc, .nilFunc, .nilFunc, .nilFunc] 130)).setRow w2.heap.size #[.string ⟨#[102, 105, 102, 111]⟩, .func (.func 158) #[] #[], .func (.func 159) #[] #[], .func (.func 160) #[] #[], .func (.func 161) #[] #[]]) from chg_setRow (HS2.out.alloc _) (.inr HS2.out.size) _)
 clear s2 hb2 hb3 hlt HB0 HS0
 have d0 : ((w2.alloc (.cells #[.string ⟨#[]⟩, .nilFunc, .nilFunc, .nilFunc, .nilFunc] 130)).setRow w2.heap.size #[.string ⟨#[102, 105, 102, 111]⟩, .func (.func 158) #[] #[], .func (.func 159) #[] #[], .func (.func 160) #[] #[], .func (.func 161) #[] #[]]).cell? ⟨w.heap.size, 0, none⟩ = some (.int .i64 6) := HB.out.cell 0
 have d1 : ((w2.alloc (.cells #[.string ⟨#[]⟩, .nilFunc, .nilFunc, .nilFunc, .nilFunc] 130)).setRow w2.heap.size #[.string ⟨#[102, 105, 102, 111]⟩, .func (.func 158) #[] #[], .func (.func 159) #[] #[], .func (.func 160) #[] #[], .func (.func 161) #[] #[]]).cell? ⟨w.heap.size, 1, none⟩ = some (.int .i64 wd) := HB.out.cell 1
 have d2 : ((w2.alloc (.cells #[.string ⟨#[]⟩, .nilFunc, .nilFunc, .nilFunc, .nilFunc] 130)).setRow w2.heap.size #[.string ⟨#[102, 105, 102, 111]⟩, .func (.func 158) #[] #[], .func (.func 159) #[] #[], .func (.func 160) #[] #[], .func (.func 161) #[] #[]]).cell? ⟨w.heap.size, 2, none⟩ = some (.int .i64 sl) := HB.out.cell 2
 have d3 : ((w2.alloc (.cells #[.string ⟨#[]⟩, .nilFunc, .nilFunc, .nilFunc, .nilFunc] 130)).setRow w2.heap.size #[.string ⟨#[102, 105, 102, 111]⟩, .func (.func 158) #[] #[], .func (.func 159) #[] #[], .func (.func 160) #[] #[], .func (.func 161) #[] #[]]).cell? ⟨w.heap.size, 3, none⟩ = some (.int .i64 cp) := HB.out.cell 3
 have d4 : ((w2.alloc (.cells #[.string ⟨#[]⟩, .nilFunc, .nilFunc, .nilFunc, .nilFunc] 130)).setRow w2.heap.size #[.string ⟨#[102, 105, 102, 111]⟩, .func (.func 158) #[] #[], .func (.func 159) #[] #[], .func (.func 160) #[] #[], .func (.func 161) #[] #[]]).cell? ⟨w.heap.size, 4, none⟩ = some (.int .u32 sa) := HB.out.cell 4
 have d5 : ((w2.alloc (.cells #[.string ⟨#[]⟩, .nilFunc, .nilFunc, .nilFunc, .nilFunc] 130)).setRow w2.heap.size #[.string ⟨#[102, 105, 102, 111]⟩, .func (.func 158) #[] #[], .func (.func 159) #[] #[], .func (.func 160) #[] #[], .func (.func 161) #[] #[]]).cell? ⟨w.heap.size, 5, none⟩ = some (.slice ia il ic) := HB.out.cell 5
 have d6 : ((w2.alloc (.cells #[.string ⟨#[]⟩, .nilFunc, .nilFunc, .nilFunc, .nilFunc] 130)).setRow w2.heap.size #[.string ⟨#[102, 105, 102, 111]⟩, .func (.func 158) #[] #[], .func (.func 159) #[] #[], .func (.func 160) #[] #[], .func (.func 161) #[] #[]]).cell? ⟨w.heap.size, 6, none⟩ = some (.int .i64 ow) := HB.out.cell 6
 have d7 : ((w2.alloc (.cells #[.string ⟨#[]⟩, .nilFunc, .nilFunc, .nilFunc, .nilFunc] 130)).setRow w2.heap.size #[.string ⟨#[102, 105, 102, 111]⟩, .func (.func 158) #[] #[], .func (.func 159) #[] #[], .func (.func 160) #[] #[], .func (.func 161) #[] #[]]).cell? ⟨w.heap.size, 7, none⟩ = some (.slice ra rl rc) := HB.out.cell 7
 have df : ((w2.alloc (.cells #[.string ⟨#[]⟩, .nilFunc, .nilFunc, .nilFunc, .nilFunc] 130)).setRow w2.heap.size #[.string ⟨#[102, 105, 102, 111]⟩, .func (.func 158) #[] #[], .func (.func 159) #[] #[], .func (.func 160) #[] #[], .func (.func 161) #[] #[]]).cell? ⟨w2.heap.size, 4, none⟩ = some (.func (.func 161) #[] #[]) := HF.out.cell 4
 go_wp2_with (refine wpList_store_row rfl 130 (.tmp 5) (.tmp 11) rfl w2.heap.size #[.string ⟨#[102, 105, 102, 111]⟩, .func (.func 158) #[] #[], .func (.func 159) #[] #[], .func (.func 160) #[] #[], .func (.func 161) #[] #[]] rfl rfl 130 #[.string ⟨#[]⟩, .nilFunc, .nilFunc, .nilFunc, .nilFunc] HZ.out face_size rfl one_6 ?_)
 refine (HC.out _).mono ?_
 rintro e w4 ⟨rfl, s4⟩
 go_wp2_with fail
 go_ret
 exact ⟨rfl, HS3.out.trans s4⟩
set_option maxRecDepth 100000 in
theorem shaped_none (k : Int) (wd sl cp sa ow : Int) (ia ra : Option Addr) (il ic rl rc : Nat) (w : World) (h : k < 1 ∨ 6 < k) :
 Calls Tryz.prog 107 #[.agg #[.int .i64 k, .int .i64 wd, .int .i64 sl, .int .i64 cp, .int .u32 sa, .slice ia il ic, .int .i64 ow, .slice ra rl rc]] w fun e w' => e = .returned (.bool false) ∧ Same w w' := by
 have hb0 := Blk.new w 34 #[.int .i64 k, .int .i64 wd, .int .i64 sl, .int .i64 cp, .int .u32 sa, .slice ia il ic, .int .i64 ow, .slice ra rl rc]
 have HS0 := Lib.hid ((Same.refl w).alloc (.cells #[.int .i64 k, .int .i64 wd, .int .i64 sl, .int .i64 cp, .int .u32 sa, .slice ia il ic, .int .i64 ow, .slice ra rl rc] 34))
 have d0 := hb0.cell 0
 have HFN := Lib.hid (fun w' => face_none k h w')
 clear hb0 h
 go_enter Tryz.func107, Tryz.ntmps107
 go_wp2_with fail
 refine (HFN.out _).mono ?_
 rintro e w2 ⟨rfl, s2⟩
 have HZ := Lib.hid (Blk.new w2 130 #[.string ⟨#[]⟩, .nilFunc, .nilFunc, .nilFunc, .nilFunc])
 have HS2 := Lib.hid (HS0.out.trans s2)
 have HS3 := Lib.hid (show Same w ((w2.alloc (.cells #[.string ⟨#[]⟩, .nilFunc, .nilFunc, .nilFunc, .nilFunc] 130)).setRow w2.heap.size #[.string ⟨#[]⟩, .nilFunc, .nilFunc, .nilFunc, .nilFunc]) from chg_setRow (HS2.out.alloc _) (.inr HS2.out.size) _)
 clear s2 HS0
 go_wp2_with (refine wpList_store_row rfl 130 (.tmp 3) (.tmp 9) rfl w2.heap.size #[.string ⟨#[]⟩, .nilFunc, .nilFunc, .nilFunc, .nilFunc] rfl rfl 130 #[.string ⟨#[]⟩, .nilFunc, .nilFunc, .nilFunc, .nilFunc] HZ.out face_size rfl one_0 ?_)
 go_ret
 exact ⟨rfl, HS3.out⟩
set_option maxRecDepth 100000 in
theorem bound_of_none (k : Int) (wd sl cp sa ow : Int) (ia ra : Option Addr) (il ic rl rc : Nat) (op : Int) (w : World) (h : k < 1 ∨ 6 < k) :
 Calls Tryz.prog 168 #[.agg #[.int .i64 k, .int .i64 wd, .int .i64 sl, .int .i64 cp, .int .u32 sa, .slice ia il ic, .int .i64 ow, .slice ra rl rc], .int .i64 op] w fun e w' => e = .returned (.int .i64 0) ∧ Same w w' := by
 have hb0 := Blk.new w 34 #[.int .i64 k, .int .i64 wd, .int .i64 sl, .int .i64 cp, .int .u32 sa, .slice ia il ic, .int .i64 ow, .slice ra rl rc]
 have HS0 := Lib.hid ((Same.refl w).alloc (.cells #[.int .i64 k, .int .i64 wd, .int .i64 sl, .int .i64 cp, .int .u32 sa, .slice ia il ic, .int .i64 ow, .slice ra rl rc] 34))
 have d0 := hb0.cell 0
 have HFN := Lib.hid (fun w' => face_none k h w')
 clear hb0 h
 go_enter Tryz.func168, Tryz.ntmps168
 go_wp2_with fail
 refine (HFN.out _).mono ?_
 rintro e w2 ⟨rfl, s2⟩
 have HZ := Lib.hid (Blk.new w2 130 #[.string ⟨#[]⟩, .nilFunc, .nilFunc, .nilFunc, .nilFunc])
 have HS2 := Lib.hid (HS0.out.trans s2)
 have HS3 := Lib.hid (show Same w ((w2.alloc (.cells #[.string ⟨#[]⟩, .nilFunc, .nilFunc, .nilFunc, .nilFunc] 130)).setRow w2.heap.size #[.string ⟨#[]⟩, .nilFunc, .nilFunc, .nilFunc, .nilFunc]) from chg_setRow (HS2.out.alloc _) (.inr HS2.out.size) _)
 clear s2 HS0
 go_wp2_with (refine wpList_store_row rfl 130 (.tmp 5) (.tmp 11) rfl w2.heap.size #[.string ⟨#[]⟩, .nilFunc, .nilFunc, .nilFunc, .nilFunc] rfl rfl 130 #[.string ⟨#[]⟩, .nilFunc, .nilFunc, .nilFunc, .nilFunc] HZ.out face_size rfl one_0 ?_)
 go_ret
 exact ⟨rfl, HS3.out⟩
set_option maxRecDepth 100000 in
set_option maxHeartbeats 1000000 in
theorem rright_none (k : Int) (wd sl cp sa ow : Int) (ia ra : Option Addr) (il ic rl rc : Nat) (w : World) (h : k < 1 ∨ 6 < k) :
 Calls Tryz.prog 92 #[.agg #[.int .i64 k, .int .i64 wd, .int .i64 sl, .int .i64 cp, .int .u32 sa, .slice ia il ic, .int .i64 ow, .slice ra rl rc]] w fun e w' => e = .returned (.bool false) ∧ Same w w' := by
 have b1 : (k == 1) = false := by rw [beq_eq_false_iff_ne]; omega
 have b2 : (k == 2) = false := by rw [beq_eq_false_iff_ne]; omega
 have b3 : (k == 3) = false := by rw [beq_eq_false_iff_ne]; omega
 have b4 : (k == 4) = false := by rw [beq_eq_false_iff_ne]; omega
 have b5 : (k == 5) = false := by rw [beq_eq_false_iff_ne]; omega
 have b6 : (k == 6) = false := by rw [beq_eq_false_iff_ne]; omega
 have b7 : (k != 6) = true := by rw [bne_iff_ne]; omega
 clear h
 go_enter Tryz.func92, Tryz.ntmps92
 go_wp2
 all_goals
  go_ret
  exact ⟨rfl, (Same.refl _).alloc _⟩
set_option maxRecDepth 100000 in
theorem rbound_none (k : Int) (wd sl cp sa ow : Int) (ia ra : Option Addr) (il ic rl rc : Nat) (op : Int) (w : World) (h : k < 1 ∨ 6 < k) :
 Calls Tryz.prog 90 #[.agg #[.int .i64 k, .int .i64 wd, .int .i64 sl, .int .i64 cp, .int .u32 sa, .slice ia il ic, .int .i64 ow, .slice ra rl rc], .int .i64 op] w fun e w' => e = .returned (.int .i64 0) ∧ Same w w' := by
 have HS0 := Lib.hid ((Same.refl w).alloc (.cells #[.int .i64 k, .int .i64 wd, .int .i64 sl, .int .i64 cp, .int .u32 sa, .slice ia il ic, .int .i64 ow, .slice ra rl rc] 34))
 have HR := Lib.hid (fun w' => rright_none k wd sl cp sa ow ia ra il ic rl rc w' h)
 clear h
 go_enter Tryz.func90, Tryz.ntmps90
 go_wp2_with fail
 refine (HR.out _).mono ?_
 rintro e w2 ⟨rfl, s2⟩
 go_wp2_with fail
 go_ret
 exact ⟨rfl, HS0.out.trans s2⟩
theorem shaped_any (k : Int) (wd sl cp sa ow : Int) (ia ra : Option Addr) (il ic rl rc : Nat) (w : World) (hsa : 0 ≤ sa ∧ sa < 4294967296) :
 Calls Tryz.prog 107 #[.agg #[.int .i64 k, .int .i64 wd, .int .i64 sl, .int .i64 cp, .int .u32 sa, .slice ia il ic, .int .i64 ow, .slice ra rl rc]] w fun e w' => e = .returned (.bool (rightF k wd sl cp sa il rl)) ∧ Same w w' := by
 by_cases h : k < 1 ∨ 6 < k
 ·rw [right_none wd sl cp sa il rl h]
  exact shaped_none k wd sl cp sa ow ia ra il ic rl rc w h
 rcases (show k = 1 ∨ k = 2 ∨ k = 3 ∨ k = 4 ∨ k = 5 ∨ k = 6 by omega) with rfl | rfl | rfl | rfl | rfl | rfl
 ·rw [right_1]; exact shaped_1 wd sl cp sa ow ia ra il ic rl rc w
 ·rw [right_2]; exact shaped_2 wd sl cp sa ow ia ra il ic rl rc w
 ·rw [right_3]; exact shaped_3 wd sl cp sa ow ia ra il ic rl rc w
 ·rw [right_4]; exact shaped_4 wd sl cp sa ow ia ra il ic rl rc w
 ·rw [right_5]; exact shaped_5 wd sl cp sa ow ia ra il ic rl rc w
 ·rw [right_6]; exact shaped_6 wd sl cp sa ow ia ra il ic rl rc w
theorem rright_any (k : Int) (wd sl cp sa ow : Int) (ia ra : Option Addr) (il ic rl rc : Nat) (w : World) (hsa : 0 ≤ sa ∧ sa < 4294967296) :
 Calls Tryz.prog 92 #[.agg #[.int .i64 k, .int .i64 wd, .int .i64 sl, .int .i64 cp, .int .u32 sa, .slice ia il ic, .int .i64 ow, .slice ra rl rc]] w fun e w' => e = .returned (.bool (rightF k wd sl cp sa il rl)) ∧ Same w w' := by
 by_cases h : k < 1 ∨ 6 < k
 ·rw [right_none wd sl cp sa il rl h]
  exact rright_none k wd sl cp sa ow ia ra il ic rl rc w h
 rcases (show k = 1 ∨ k = 2 ∨ k = 3 ∨ k = 4 ∨ k = 5 ∨ k = 6 by omega) with rfl | rfl | rfl | rfl | rfl | rfl
 ·rw [right_1]; exact Fo.rright_any wd sl cp sa ow ia ra il ic rl rc w
 ·rw [right_2]; exact Ch.rright_any wd sl cp sa ow ia ra il ic rl rc w
 ·rw [right_3]; exact Sq.rright_any wd sl cp sa ow ia ra il ic rl rc w
 ·rw [right_4]; exact Rg.rright_any wd sl cp sa ow ia ra il ic rl rc w
 ·rw [right_5]; exact Cb.rright_any wd sl cp sa ow ia ra il ic rl rc w
 ·rw [right_6]; exact Ff.rright_any wd sl cp sa ow ia ra il ic rl rc w
theorem bound_any (k : Int) (wd sl cp sa ow : Int) (ia ra : Option Addr) (il ic rl rc : Nat) (op : Int) (w : World) (hsa : 0 ≤ sa ∧ sa < 4294967296) :
 Calls Tryz.prog 168 #[.agg #[.int .i64 k, .int .i64 wd, .int .i64 sl, .int .i64 cp, .int .u32 sa, .slice ia il ic, .int .i64 ow, .slice ra rl rc], .int .i64 op] w fun e w' => e = .returned (.int .i64 (boundF k wd sl cp sa il rl op)) ∧ Same w w' := by
 by_cases h : k < 1 ∨ 6 < k
 ·rw [bound_none wd sl cp sa il rl op h]
  exact bound_of_none k wd sl cp sa ow ia ra il ic rl rc op w h
 rcases (show k = 1 ∨ k = 2 ∨ k = 3 ∨ k = 4 ∨ k = 5 ∨ k = 6 by omega) with rfl | rfl | rfl | rfl | rfl | rfl
 ·exact bound_of_1 wd sl cp sa ow ia ra il ic rl rc op w
 ·exact bound_of_2 wd sl cp sa ow ia ra il ic rl rc op w
 ·exact bound_of_3 wd sl cp sa ow ia ra il ic rl rc op w
 ·exact bound_of_4 wd sl cp sa ow ia ra il ic rl rc op w
 ·exact bound_of_5 wd sl cp sa ow ia ra il ic rl rc op w
 ·exact bound_of_6 wd sl cp sa ow ia ra il ic rl rc op w
theorem rbound_any (k : Int) (wd sl cp sa ow : Int) (ia ra : Option Addr) (il ic rl rc : Nat) (op : Int) (w : World) (hsa : 0 ≤ sa ∧ sa < 4294967296) :
 Calls Tryz.prog 90 #[.agg #[.int .i64 k, .int .i64 wd, .int .i64 sl, .int .i64 cp, .int .u32 sa, .slice ia il ic, .int .i64 ow, .slice ra rl rc], .int .i64 op] w fun e w' => e = .returned (.int .i64 (boundF k wd sl cp sa il rl op)) ∧ Same w w' := by
 by_cases h : k < 1 ∨ 6 < k
 ·rw [bound_none wd sl cp sa il rl op h]
  exact rbound_none k wd sl cp sa ow ia ra il ic rl rc op w h
 rcases (show k = 1 ∨ k = 2 ∨ k = 3 ∨ k = 4 ∨ k = 5 ∨ k = 6 by omega) with rfl | rfl | rfl | rfl | rfl | rfl
 ·exact rbnd_1 wd sl cp sa ow ia ra il ic rl rc op w
 ·exact rbnd_2 wd sl cp sa ow ia ra il ic rl rc op w
 ·exact rbnd_3 wd sl cp sa ow ia ra il ic rl rc op w
 ·exact rbnd_4 wd sl cp sa ow ia ra il ic rl rc op w
 ·exact rbnd_5 wd sl cp sa ow ia ra il ic rl rc op w
 ·exact rbnd_6 wd sl cp sa ow ia ra il ic rl rc op w

end Go.Proofs.YthhbhbfkbncegaaGreatDoor.Fc
end
end
end
end
end
end
section
set_option linter.unusedVariables false
set_option linter.unusedSimpArgs false
namespace Go.Proofs.YthhbhbfkbncegaaGreatDoor.Bd
open Go.ChangeShapes Go.WideShapes Go.ChangeAt Go.RowKit Ws Fc
open Go.Proofs.YthhbhbfkbncegaaGreatDoor.Wd (clamp wclamp)

def trB (k wd sl cp sa : Int) (il rl : Nat) (op : Int) : Bool := rightF k wd sl cp sa il rl && decide (op = 1) && decide (3 ≤ k ∧ k ≤ 5)
def failI (k wd sl cp sa : Int) (il rl : Nat) (op : Int) : Int := if trB k wd sl cp sa il rl op = true then (if k = 5 then 3 else wd + 2) else 0
def endI (k wd sl cp sa : Int) (il rl : Nat) (op : Int) : Int := if trB k wd sl cp sa il rl op = true then (if k = 5 then wd + 4 else wd + 2) else 0
def cleanI (k wd sl cp sa : Int) (il rl : Nat) (op : Int) : Int := if trB k wd sl cp sa il rl op = true then endI k wd sl cp sa il rl op else boundF k wd sl cp sa il rl op
theorem right_wd {k wd sl cp sa : Int} {il rl : Nat} (h : rightF k wd sl cp sa il rl = true) : (1 ≤ wd ∧ wd ≤ 8) ∧ (rl : Int) ≤ 4 ∧ (k = 3 ∨ k = 4 ∨ k = 5 → 1 ≤ cp ∧ cp ≤ 16) ∧ sl ≤ 16 ∧ cp ≤ 16 ∧ 0 ≤ cp := by
 unfold rightF at h
 repeat' split at h
 ·unfold Fo.rightB at h; rw [decide_eq_true_iff] at h; omega
 ·unfold Ch.rightB at h; rw [decide_eq_true_iff] at h; omega
 ·unfold Sq.rightB at h; rw [decide_eq_true_iff] at h; omega
 ·unfold Rg.rightB at h; rw [decide_eq_true_iff] at h; omega
 ·unfold Cb.rightB at h; rw [decide_eq_true_iff] at h; omega
 ·unfold Ff.rightB Ff.rightK at h; rw [decide_eq_true_iff] at h; omega
 ·cases h
theorem bound_bd (k wd sl cp sa : Int) (il rl : Nat) (op : Int) : 0 ≤ boundF k wd sl cp sa il rl op ∧ boundF k wd sl cp sa il rl op ≤ 1000 := by
 unfold boundF
 by_cases h : rightF k wd sl cp sa il rl = true
 ·rw [if_pos h]
  obtain ⟨h1, h2, h3, h4, h5, h6⟩ := right_wd h
  have h7 : 0 ≤ cp * (wd + 2) := Int.mul_nonneg h6 (by omega)
  have h8 : cp * (wd + 2) ≤ 16 * 10 := Int.mul_le_mul h5 (by omega) (by omega) (by omega)
  unfold Fo.boundI Ch.boundI Sq.boundI Rg.boundI Cb.boundI Ff.boundI
  repeat' split
  all_goals omega
 ·rw [if_neg h]
  omega
theorem tr_yes {k wd sl cp sa : Int} {il rl : Nat} {op : Int} (h : trB k wd sl cp sa il rl op = true) : rightF k wd sl cp sa il rl = true ∧ op = 1 ∧ (k = 3 ∨ k = 4 ∨ k = 5) ∧ (1 ≤ wd ∧ wd ≤ 8) ∧ 1 ≤ cp ∧ cp ≤ 16 := by
 unfold trB at h
 rw [Bool.and_eq_true, Bool.and_eq_true, decide_eq_true_iff, decide_eq_true_iff] at h
 obtain ⟨⟨h1, h2⟩, h3⟩ := h
 have hk : k = 3 ∨ k = 4 ∨ k = 5 := by omega
 obtain ⟨h4, _, h5, _⟩ := right_wd h1
 exact ⟨h1, h2, hk, h4, h5 hk⟩
theorem fail_bd (k wd sl cp sa : Int) (il rl : Nat) (op : Int) : 0 ≤ failI k wd sl cp sa il rl op ∧ failI k wd sl cp sa il rl op ≤ 10 ∧ 0 ≤ endI k wd sl cp sa il rl op ∧ endI k wd sl cp sa il rl op ≤ 12 := by
 unfold failI endI
 by_cases h : trB k wd sl cp sa il rl op = true
 ·obtain ⟨_, _, _, h4, _⟩ := tr_yes h
  rw [if_pos h, if_pos h]
  split <;> omega
 ·rw [if_neg h, if_neg h]
  omega
theorem clean_bd (k wd sl cp sa : Int) (il rl : Nat) (op : Int) : 0 ≤ cleanI k wd sl cp sa il rl op ∧ cleanI k wd sl cp sa il rl op ≤ 1000 := by
 unfold cleanI
 split
 ·have := fail_bd k wd sl cp sa il rl op; omega
 ·exact bound_bd k wd sl cp sa il rl op
theorem ret_ii {a a' b b' : Int} (h1 : a = a') (h2 : b = b') : Ending.returned (.tuple #[.int .i64 a, .int .i64 b]) = .returned (.tuple #[.int .i64 a', .int .i64 b']) := by rw [h1, h2]
set_option maxRecDepth 100000 in
set_option maxHeartbeats 1000000 in
theorem attempt_any (k wd sl cp sa ow : Int) (ia ra : Option Addr) (il ic rl rc : Nat) (op : Int) (w : World) (hsa : 0 ≤ sa ∧ sa < 4294967296) :
 Calls Tryz.prog 85 #[.agg #[.int .i64 k, .int .i64 wd, .int .i64 sl, .int .i64 cp, .int .u32 sa, .slice ia il ic, .int .i64 ow, .slice ra rl rc], .int .i64 op] w fun e w' => e = .returned (.tuple #[.int .i64 (failI k wd sl cp sa il rl op), .int .i64 (endI k wd sl cp sa il rl op)]) ∧ Same w w' := by
 have hb0 := Blk.new w 34 #[.int .i64 k, .int .i64 wd, .int .i64 sl, .int .i64 cp, .int .u32 sa, .slice ia il ic, .int .i64 ow, .slice ra rl rc]
 have HS0 := Lib.hid ((Same.refl w).alloc (.cells #[.int .i64 k, .int .i64 wd, .int .i64 sl, .int .i64 cp, .int .u32 sa, .slice ia il ic, .int .i64 ow, .slice ra rl rc] 34))
 have HB0 := Lib.hid hb0
 clear hb0
 have HSH := Lib.hid (fun w' => shaped_any k wd sl cp sa ow ia ra il ic rl rc w' hsa)
 by_cases hop : op = 1
 rotate_left
 ·have ht : trB k wd sl cp sa il rl op = false := by unfold trB; rw [decide_eq_false hop]; simp
  have e1 : failI k wd sl cp sa il rl op = 0 := by unfold failI; rw [ht]; rfl
  have e2 : endI k wd sl cp sa il rl op = 0 := by unfold endI; rw [ht]; rfl
  rw [e1, e2]
  have b0 : (op != 1) = true := by rw [bne_iff_ne]; exact hop
  clear ht e1 e2 hop hsa
  go_enter Tryz.func85, Tryz.ntmps85
  go_wp2_with fail
  go_ret2
  exact ⟨rfl, HS0.out⟩
 subst hop
 cases hr : rightF k wd sl cp sa il rl
 ·have ht : trB k wd sl cp sa il rl 1 = false := by unfold trB; rw [hr]; rfl
  have e1 : failI k wd sl cp sa il rl 1 = 0 := by unfold failI; rw [ht]; rfl
  have e2 : endI k wd sl cp sa il rl 1 = 0 := by unfold endI; rw [ht]; rfl
  rw [e1, e2]
  rw [hr] at HSH
  clear ht e1 e2 hr hsa
  go_enter Tryz.func85, Tryz.ntmps85
  go_wp2_with fail
  refine (HSH.out _).mono ?_
  rintro e w1 ⟨rfl, s1⟩
  go_wp2_with fail
  go_ret2
  exact ⟨rfl, HS0.out.trans s1⟩
 obtain ⟨hw, _⟩ := right_wd hr
 have f1 : wrap64 (wd + 2) = wd + 2 := Go.IntWalk.wrap64_in _ (by omega)
 have f2 : wrap64 (wd + 4) = wd + 4 := Go.IntWalk.wrap64_in _ (by omega)
 have ht : trB k wd sl cp sa il rl 1 = decide (3 ≤ k ∧ k ≤ 5) := by unfold trB; rw [hr]; simp
 have e1 : failI k wd sl cp sa il rl 1 = if 3 ≤ k ∧ k ≤ 5 then (if k = 5 then 3 else wd + 2) else 0 := by unfold failI; rw [ht]; by_cases h : 3 ≤ k ∧ k ≤ 5 <;> simp [h]
 have e2 : endI k wd sl cp sa il rl 1 = if 3 ≤ k ∧ k ≤ 5 then (if k = 5 then wd + 4 else wd + 2) else 0 := by unfold endI; rw [ht]; by_cases h : 3 ≤ k ∧ k ≤ 5 <;> simp [h]
 rw [e1, e2]
 rw [hr] at HSH
 clear ht e1 e2 hr hsa hw
 by_cases h3 : k = 3
 ·subst h3
  rw [if_pos (by omega), if_neg (by omega), if_pos (by omega), if_neg (by omega)]
  go_enter Tryz.func85, Tryz.ntmps85
  go_wp2_with fail
  refine (HSH.out _).mono ?_
  rintro e w1 ⟨rfl, s1⟩
  have hb1 := HB0.out.same s1
  have d0 := hb1.cell 0
  have d1 : w1.cell? ⟨w.heap.size, 1, none⟩ = some (.int .i64 wd) := hb1.cell 1
  simp only [List.getElem?_toArray, List.getElem?_cons_zero] at d0
  clear hb1
  go_wp2_with fail
  go_quiet (fail)
  go_wp2_with fail
  go_ret2
  exact ⟨ret_ii (by first | rfl | exact f1 | exact f2) (by first | rfl | exact f1 | exact f2), (HS0.out.trans s1).drewN _⟩
 by_cases h4 : k = 4
 ·subst h4
  rw [if_pos (by omega), if_neg (by omega), if_pos (by omega), if_neg (by omega)]
  go_enter Tryz.func85, Tryz.ntmps85
  go_wp2_with fail
  refine (HSH.out _).mono ?_
  rintro e w1 ⟨rfl, s1⟩
  have hb1 := HB0.out.same s1
  have d0 := hb1.cell 0
  have d1 : w1.cell? ⟨w.heap.size, 1, none⟩ = some (.int .i64 wd) := hb1.cell 1
  simp only [List.getElem?_toArray, List.getElem?_cons_zero] at d0
  clear hb1
  go_wp2_with fail
  go_quiet (fail)
  go_wp2_with fail
  go_ret2
  exact ⟨ret_ii (by first | rfl | exact f1 | exact f2) (by first | rfl | exact f1 | exact f2), (HS0.out.trans s1).drewN _⟩
 by_cases h5 : k = 5
 ·subst h5
  rw [if_pos (by omega), if_pos rfl, if_pos (by omega), if_pos rfl]
  go_enter Tryz.func85, Tryz.ntmps85
  go_wp2_with fail
  refine (HSH.out _).mono ?_
  rintro e w1 ⟨rfl, s1⟩
  have hb1 := HB0.out.same s1
  have d0 := hb1.cell 0
  have d1 : w1.cell? ⟨w.heap.size, 1, none⟩ = some (.int .i64 wd) := hb1.cell 1
  simp only [List.getElem?_toArray, List.getElem?_cons_zero] at d0
  clear hb1
  go_wp2_with fail
  go_quiet (fail)
  go_wp2_with fail
  go_ret2
  exact ⟨ret_ii (by first | rfl | exact f1 | exact f2) (by first | rfl | exact f1 | exact f2), (HS0.out.trans s1).drewN _⟩
 rw [if_neg (by omega), if_neg (by omega)]
 have b3 : (k == 3) = false := by simpa using h3
 have b4 : (k == 4) = false := by simpa using h4
 have b5 : (k == 5) = false := by simpa using h5
 clear h3 h4 h5 f1 f2
 go_enter Tryz.func85, Tryz.ntmps85
 go_wp2_with fail
 refine (HSH.out _).mono ?_
 rintro e w1 ⟨rfl, s1⟩
 have hb1 := HB0.out.same s1
 have d0 : w1.cell? ⟨w.heap.size, 0, none⟩ = some (.int .i64 k) := hb1.cell 0
 clear hb1
 go_wp2_with fail
 go_ret2
 exact ⟨rfl, HS0.out.trans s1⟩
set_option maxRecDepth 100000 in
theorem fail_any (k wd sl cp sa ow : Int) (ia ra : Option Addr) (il ic rl rc : Nat) (op : Int) (w : World) (hsa : 0 ≤ sa ∧ sa < 4294967296) :
 Calls Tryz.prog 61 #[.agg #[.int .i64 k, .int .i64 wd, .int .i64 sl, .int .i64 cp, .int .u32 sa, .slice ia il ic, .int .i64 ow, .slice ra rl rc], .int .i64 op] w fun e w' => e = .returned (.int .i64 (failI k wd sl cp sa il rl op)) ∧ Same w w' := by
 have hb0 := Blk.new w 34 #[.int .i64 k, .int .i64 wd, .int .i64 sl, .int .i64 cp, .int .u32 sa, .slice ia il ic, .int .i64 ow, .slice ra rl rc]
 have HS0 := Lib.hid ((Same.refl w).alloc (.cells #[.int .i64 k, .int .i64 wd, .int .i64 sl, .int .i64 cp, .int .u32 sa, .slice ia il ic, .int .i64 ow, .slice ra rl rc] 34))
 have HB0 := Lib.hid hb0
 clear hb0
 have HAT := Lib.hid (fun w' => attempt_any k wd sl cp sa ow ia ra il ic rl rc op w' hsa)
 clear hsa
 generalize failI k wd sl cp sa il rl op = fl at *
 generalize endI k wd sl cp sa il rl op = en at *
 go_enter Tryz.func61, Tryz.ntmps61
 go_wp2_with fail
 refine (HAT.out _).mono ?_
 rintro e w1 ⟨rfl, s1⟩
 go_wp2_with fail
 go_ret
 exact ⟨rfl, HS0.out.trans s1⟩
set_option maxRecDepth 100000 in
theorem clean_any (k wd sl cp sa ow : Int) (ia ra : Option Addr) (il ic rl rc : Nat) (op : Int) (w : World) (hsa : 0 ≤ sa ∧ sa < 4294967296) :
 Calls Tryz.prog 131 #[.agg #[.int .i64 k, .int .i64 wd, .int .i64 sl, .int .i64 cp, .int .u32 sa, .slice ia il ic, .int .i64 ow, .slice ra rl rc], .int .i64 op] w fun e w' => e = .returned (.int .i64 (cleanI k wd sl cp sa il rl op)) ∧ Same w w' := by
 have hb0 := Blk.new w 34 #[.int .i64 k, .int .i64 wd, .int .i64 sl, .int .i64 cp, .int .u32 sa, .slice ia il ic, .int .i64 ow, .slice ra rl rc]
 have HS0 := Lib.hid ((Same.refl w).alloc (.cells #[.int .i64 k, .int .i64 wd, .int .i64 sl, .int .i64 cp, .int .u32 sa, .slice ia il ic, .int .i64 ow, .slice ra rl rc] 34))
 have HB0 := Lib.hid hb0
 clear hb0
 have HAT := Lib.hid (fun w' => attempt_any k wd sl cp sa ow ia ra il ic rl rc op w' hsa)
 have HBN := Lib.hid (fun w' => bound_any k wd sl cp sa ow ia ra il ic rl rc op w' hsa)
 cases ht : trB k wd sl cp sa il rl op
 ·have e1 : cleanI k wd sl cp sa il rl op = boundF k wd sl cp sa il rl op := by unfold cleanI; rw [ht]; rfl
  have e2 : endI k wd sl cp sa il rl op = 0 := by unfold endI; rw [ht]; rfl
  rw [e1]
  rw [e2] at HAT
  clear hsa ht e1 e2
  generalize failI k wd sl cp sa il rl op = fl at *
  generalize boundF k wd sl cp sa il rl op = bn at *
  go_enter Tryz.func131, Tryz.ntmps131
  go_wp2_with fail
  refine (HAT.out _).mono ?_
  rintro e w1 ⟨rfl, s1⟩
  have hb1 := HB0.out.same s1
  have d0 : w1.cell? ⟨w.heap.size, 0, none⟩ = some (.int .i64 k) := hb1.cell 0
  have d1 : w1.cell? ⟨w.heap.size, 1, none⟩ = some (.int .i64 wd) := hb1.cell 1
  have d2 : w1.cell? ⟨w.heap.size, 2, none⟩ = some (.int .i64 sl) := hb1.cell 2
  have d3 : w1.cell? ⟨w.heap.size, 3, none⟩ = some (.int .i64 cp) := hb1.cell 3
  have d4 : w1.cell? ⟨w.heap.size, 4, none⟩ = some (.int .u32 sa) := hb1.cell 4
  have d5 : w1.cell? ⟨w.heap.size, 5, none⟩ = some (.slice ia il ic) := hb1.cell 5
  have d6 : w1.cell? ⟨w.heap.size, 6, none⟩ = some (.int .i64 ow) := hb1.cell 6
  have d7 : w1.cell? ⟨w.heap.size, 7, none⟩ = some (.slice ra rl rc) := hb1.cell 7
  clear hb1
  go_wp2_with fail
  refine (HBN.out _).mono ?_
  rintro e w2 ⟨rfl, s2⟩
  go_wp2_with fail
  go_ret
  exact ⟨rfl, (HS0.out.trans s1).trans s2⟩
 ·have e1 : cleanI k wd sl cp sa il rl op = endI k wd sl cp sa il rl op := by unfold cleanI; rw [ht]; rfl
  have e2 : 0 < endI k wd sl cp sa il rl op := by
   obtain ⟨_, _, _, h4, _⟩ := tr_yes ht
   unfold endI
   rw [ht, if_pos rfl]
   split <;> omega
  rw [e1]
  have d0 : decide ((0 : Int) < endI k wd sl cp sa il rl op) = true := decide_eq_true e2
  clear hsa ht e1 e2
  generalize failI k wd sl cp sa il rl op = fl at *
  generalize endI k wd sl cp sa il rl op = en at *
  go_enter Tryz.func131, Tryz.ntmps131
  go_wp2_with fail
  refine (HAT.out _).mono ?_
  rintro e w1 ⟨rfl, s1⟩
  go_wp2_with fail
  go_ret
  exact ⟨rfl, HS0.out.trans s1⟩
def lastI (cp : Int) : Int := IntKind.i64.wrap (cp - 1)
def afterI (k wd sl cp sa : Int) (il rl : Nat) (op fails : Int) : Int := cleanI k wd sl cp sa il rl op + failI k wd sl cp sa il rl op * clamp fails 0 (lastI cp)
theorem after_bd (k wd sl cp sa : Int) (il rl : Nat) (op fails : Int) : 0 ≤ failI k wd sl cp sa il rl op * clamp fails 0 (lastI cp) ∧ failI k wd sl cp sa il rl op * clamp fails 0 (lastI cp) ≤ 1000 := by
 by_cases ht : trB k wd sl cp sa il rl op = true
 ·obtain ⟨_, _, _, h4, h5, h6⟩ := tr_yes ht
  have hf := fail_bd k wd sl cp sa il rl op
  have hl : lastI cp = cp - 1 := Go.IntWalk.i64_in _ (by omega)
  have hc : 0 ≤ clamp fails 0 (lastI cp) ∧ clamp fails 0 (lastI cp) ≤ 15 := by rw [hl]; unfold clamp; omega
  have h7 : failI k wd sl cp sa il rl op * clamp fails 0 (lastI cp) ≤ 10 * 15 := Int.mul_le_mul hf.2.1 hc.2 hc.1 (by omega)
  have h8 := Int.mul_nonneg hf.1 hc.1
  omega
 ·have e1 : failI k wd sl cp sa il rl op = 0 := by unfold failI; rw [if_neg ht]
  rw [e1, Int.zero_mul]
  omega
set_option maxRecDepth 100000 in
set_option maxHeartbeats 1000000 in
theorem after_any (k wd sl cp sa ow : Int) (ia ra : Option Addr) (il ic rl rc : Nat) (op fails : Int) (w : World) (hsa : 0 ≤ sa ∧ sa < 4294967296) :
 Calls Tryz.prog 115 #[.agg #[.int .i64 k, .int .i64 wd, .int .i64 sl, .int .i64 cp, .int .u32 sa, .slice ia il ic, .int .i64 ow, .slice ra rl rc], .int .i64 op, .int .i64 fails] w fun e w' => e = .returned (.int .i64 (afterI k wd sl cp sa il rl op fails)) ∧ Same w w' := by
 have hb0 := Blk.new w 34 #[.int .i64 k, .int .i64 wd, .int .i64 sl, .int .i64 cp, .int .u32 sa, .slice ia il ic, .int .i64 ow, .slice ra rl rc]
 have hs0 := (Same.refl w).alloc (.cells #[.int .i64 k, .int .i64 wd, .int .i64 sl, .int .i64 cp, .int .u32 sa, .slice ia il ic, .int .i64 ow, .slice ra rl rc] 34)
 have HCL := fun w' => clean_any k wd sl cp sa ow ia ra il ic rl rc op w' hsa
 have HFL := fun w' => fail_any k wd sl cp sa ow ia ra il ic rl rc op w' hsa
 have HE : Hid (afterI k wd sl cp sa il rl op fails = cleanI k wd sl cp sa il rl op + failI k wd sl cp sa il rl op * clamp fails 0 (lastI cp)) := Lib.hid rfl
 have h1 := clean_bd k wd sl cp sa il rl op
 have h2 := after_bd k wd sl cp sa il rl op fails
 have HCM := fun w' => wclamp fails 0 (lastI cp) w'
 generalize afterI k wd sl cp sa il rl op fails = af at *
 generalize cleanI k wd sl cp sa il rl op = cl at *
 generalize failI k wd sl cp sa il rl op = fl at *
 unfold lastI at HE h2 HCM
 generalize clamp fails 0 (IntKind.i64.wrap (cp - 1)) = cm at *
 have f1 : IntKind.i64.wrap (fl * cm) = fl * cm := Go.IntWalk.i64_in _ (by omega)
 have f2 : IntKind.i64.wrap (cl + fl * cm) = cl + fl * cm := Go.IntWalk.i64_in _ (by omega)
 clear h1 h2 hsa
 go_enter Tryz.func115, Tryz.ntmps115
 go_wp2_with fail
 generalize w.alloc (.cells #[.int .i64 k, .int .i64 wd, .int .i64 sl, .int .i64 cp, .int .u32 sa, .slice ia il ic, .int .i64 ow, .slice ra rl rc] 34) = w1 at *
 generalize w.heap.size = g at *
 have SS : Hid (∀ w', Same w1 w' → w'.cell? ⟨g, 0, none⟩ = some (.int .i64 k) ∧ w'.cell? ⟨g, 1, none⟩ = some (.int .i64 wd) ∧ w'.cell? ⟨g, 2, none⟩ = some (.int .i64 sl) ∧ w'.cell? ⟨g, 3, none⟩ = some (.int .i64 cp) ∧ w'.cell? ⟨g, 4, none⟩ = some (.int .u32 sa) ∧ w'.cell? ⟨g, 5, none⟩ = some (.slice ia il ic) ∧ w'.cell? ⟨g, 6, none⟩ = some (.int .i64 ow) ∧ w'.cell? ⟨g, 7, none⟩ = some (.slice ra rl rc) ∧ Same w1 w') := Lib.hid (fun w' s => ⟨s.cell (hb0.cell 0), s.cell (hb0.cell 1), s.cell (hb0.cell 2), s.cell (hb0.cell 3), s.cell (hb0.cell 4), s.cell (hb0.cell 5), s.cell (hb0.cell 6), s.cell (hb0.cell 7), s⟩)
 go_region_held3 (fun w' => w'.cell? ⟨g, 0, none⟩ = some (.int .i64 k) ∧ w'.cell? ⟨g, 1, none⟩ = some (.int .i64 wd) ∧ w'.cell? ⟨g, 2, none⟩ = some (.int .i64 sl) ∧ w'.cell? ⟨g, 3, none⟩ = some (.int .i64 cp) ∧ w'.cell? ⟨g, 4, none⟩ = some (.int .u32 sa) ∧ w'.cell? ⟨g, 5, none⟩ = some (.slice ia il ic) ∧ w'.cell? ⟨g, 6, none⟩ = some (.int .i64 ow) ∧ w'.cell? ⟨g, 7, none⟩ = some (.slice ra rl rc) ∧ Same w1 w')
  (first | (with_reducible assumption) | (with_reducible exact SS.out _ (Same.refl w1).drew) | (with_reducible exact SS.out _ ((‹_ ∧ _ ∧ _ ∧ _ ∧ _ ∧ _ ∧ _ ∧ _ ∧ Same w1 _›).2.2.2.2.2.2.2.2.trans hs9)))
  (first | (go_at_call 131; (with_reducible refine (HCL _).mono ?_); rintro e w' ⟨rfl, hs9⟩) | (go_at_call 61; (with_reducible refine (HFL _).mono ?_); rintro e w' ⟨rfl, hs9⟩) | (go_at_call 108; (with_reducible refine (HCM _).mono ?_); rintro e w' ⟨rfl, rfl⟩))
 have x9 := Lib.hid (‹_ ∧ _ ∧ _ ∧ _ ∧ _ ∧ _ ∧ _ ∧ _ ∧ Same w1 _›).2.2.2.2.2.2.2.2
 go_wp2
 go_ret
 exact ⟨ret_int HE.out.symm, hs0.trans x9.out⟩
set_option maxRecDepth 100000 in
set_option maxHeartbeats 1000000 in
theorem rtries_any (k wd sl cp sa ow : Int) (ia ra : Option Addr) (il ic rl rc : Nat) (op : Int) (w : World) (hsa : 0 ≤ sa ∧ sa < 4294967296) :
 Calls Tryz.prog 69 #[.agg #[.int .i64 k, .int .i64 wd, .int .i64 sl, .int .i64 cp, .int .u32 sa, .slice ia il ic, .int .i64 ow, .slice ra rl rc], .int .i64 op] w fun e w' => e = .returned (.bool (trB k wd sl cp sa il rl op)) ∧ Same w w' := by
 have hb0 := Blk.new w 34 #[.int .i64 k, .int .i64 wd, .int .i64 sl, .int .i64 cp, .int .u32 sa, .slice ia il ic, .int .i64 ow, .slice ra rl rc]
 have HS0 := Lib.hid ((Same.refl w).alloc (.cells #[.int .i64 k, .int .i64 wd, .int .i64 sl, .int .i64 cp, .int .u32 sa, .slice ia il ic, .int .i64 ow, .slice ra rl rc] 34))
 have HB0 := Lib.hid hb0
 clear hb0
 have HSH := Lib.hid (fun w' => rright_any k wd sl cp sa ow ia ra il ic rl rc w' hsa)
 cases hr : rightF k wd sl cp sa il rl
 ·have ht : trB k wd sl cp sa il rl op = false := by unfold trB; rw [hr]; rfl
  rw [ht]
  rw [hr] at HSH
  clear ht hr hsa
  go_enter Tryz.func69, Tryz.ntmps69
  go_wp2_with fail
  refine (HSH.out _).mono ?_
  rintro e w1 ⟨rfl, s1⟩
  go_wp2_with fail
  go_ret
  exact ⟨rfl, HS0.out.trans s1⟩
 rw [hr] at HSH
 by_cases hop : op = 1
 rotate_left
 ·have ht : trB k wd sl cp sa il rl op = false := by unfold trB; rw [decide_eq_false hop]; simp
  rw [ht]
  have b0 : (op == 1) = false := by simpa using hop
  clear ht hr hsa hop
  go_enter Tryz.func69, Tryz.ntmps69
  go_wp2_with fail
  refine (HSH.out _).mono ?_
  rintro e w1 ⟨rfl, s1⟩
  go_wp2_with fail
  go_ret
  exact ⟨rfl, HS0.out.trans s1⟩
 subst hop
 have ht : trB k wd sl cp sa il rl 1 = decide (3 ≤ k ∧ k ≤ 5) := by unfold trB; rw [hr]; simp
 rw [ht]
 clear hr hsa ht
 have main : ∀ b : Bool, (decide (3 ≤ k ∧ k ≤ 5) = b) → Calls Tryz.prog 69 #[.agg #[.int .i64 k, .int .i64 wd, .int .i64 sl, .int .i64 cp, .int .u32 sa, .slice ia il ic, .int .i64 ow, .slice ra rl rc], .int .i64 1] w fun e w' => e = .returned (.bool b) ∧ Same w w' := by
  intro b hb
  by_cases h3 : k = 3
  ·have b3 : (k == 3) = true := by simpa using h3
   have hbt : b = true := by rw [← hb]; exact decide_eq_true (by omega)
   subst hbt
   clear h3 hb
   go_enter Tryz.func69, Tryz.ntmps69
   go_wp2_with fail
   refine (HSH.out _).mono ?_
   rintro e w1 ⟨rfl, s1⟩
   have hb1 := HB0.out.same s1
   have d0 : w1.cell? ⟨w.heap.size, 0, none⟩ = some (.int .i64 k) := hb1.cell 0
   clear hb1
   go_wp2_with fail
   go_ret
   exact ⟨rfl, HS0.out.trans s1⟩
  have b3 : (k == 3) = false := by simpa using h3
  by_cases h4 : k = 4
  ·have b4 : (k == 4) = true := by simpa using h4
   have hbt : b = true := by rw [← hb]; exact decide_eq_true (by omega)
   subst hbt
   clear h3 h4 hb
   go_enter Tryz.func69, Tryz.ntmps69
   go_wp2_with fail
   refine (HSH.out _).mono ?_
   rintro e w1 ⟨rfl, s1⟩
   have hb1 := HB0.out.same s1
   have d0 : w1.cell? ⟨w.heap.size, 0, none⟩ = some (.int .i64 k) := hb1.cell 0
   clear hb1
   go_wp2_with fail
   go_ret
   exact ⟨rfl, HS0.out.trans s1⟩
  have b4 : (k == 4) = false := by simpa using h4
  by_cases h5 : k = 5
  ·have b5 : (k == 5) = true := by simpa using h5
   have hbt : b = true := by rw [← hb]; exact decide_eq_true (by omega)
   subst hbt
   clear h3 h4 h5 hb
   go_enter Tryz.func69, Tryz.ntmps69
   go_wp2_with fail
   refine (HSH.out _).mono ?_
   rintro e w1 ⟨rfl, s1⟩
   have hb1 := HB0.out.same s1
   have d0 : w1.cell? ⟨w.heap.size, 0, none⟩ = some (.int .i64 k) := hb1.cell 0
   clear hb1
   go_wp2_with fail
   go_ret
   exact ⟨rfl, HS0.out.trans s1⟩
  have b5 : (k == 5) = false := by simpa using h5
  have hbt : b = false := by rw [← hb]; exact decide_eq_false (by omega)
  subst hbt
  clear h3 h4 h5 hb
  go_enter Tryz.func69, Tryz.ntmps69
  go_wp2_with fail
  refine (HSH.out _).mono ?_
  rintro e w1 ⟨rfl, s1⟩
  have hb1 := HB0.out.same s1
  have d0 : w1.cell? ⟨w.heap.size, 0, none⟩ = some (.int .i64 k) := hb1.cell 0
  clear hb1
  go_wp2_with fail
  go_ret
  exact ⟨rfl, HS0.out.trans s1⟩
 exact main _ rfl
set_option maxRecDepth 100000 in
theorem rfail_any (k wd sl cp sa ow : Int) (ia ra : Option Addr) (il ic rl rc : Nat) (op : Int) (w : World) (hsa : 0 ≤ sa ∧ sa < 4294967296) :
 Calls Tryz.prog 45 #[.agg #[.int .i64 k, .int .i64 wd, .int .i64 sl, .int .i64 cp, .int .u32 sa, .slice ia il ic, .int .i64 ow, .slice ra rl rc], .int .i64 op] w fun e w' => e = .returned (.int .i64 (failI k wd sl cp sa il rl op)) ∧ Same w w' := by
 have hb0 := Blk.new w 34 #[.int .i64 k, .int .i64 wd, .int .i64 sl, .int .i64 cp, .int .u32 sa, .slice ia il ic, .int .i64 ow, .slice ra rl rc]
 have HS0 := Lib.hid ((Same.refl w).alloc (.cells #[.int .i64 k, .int .i64 wd, .int .i64 sl, .int .i64 cp, .int .u32 sa, .slice ia il ic, .int .i64 ow, .slice ra rl rc] 34))
 have HB0 := Lib.hid hb0
 clear hb0
 have HTR := Lib.hid (fun w' => rtries_any k wd sl cp sa ow ia ra il ic rl rc op w' hsa)
 cases ht : trB k wd sl cp sa il rl op
 ·have e1 : failI k wd sl cp sa il rl op = 0 := by unfold failI; rw [ht]; rfl
  rw [e1]
  rw [ht] at HTR
  clear hsa ht e1
  go_enter Tryz.func45, Tryz.ntmps45
  go_wp2_with fail
  refine (HTR.out _).mono ?_
  rintro e w1 ⟨rfl, s1⟩
  go_wp2_with fail
  go_ret
  exact ⟨rfl, HS0.out.trans s1⟩
 ·have h4 := (tr_yes ht).2.2.2.1
  have f1 : wrap64 (wd + 2) = wd + 2 := Go.IntWalk.wrap64_in _ (by omega)
  have f2 : wrap64 (wd + 4) = wd + 4 := Go.IntWalk.wrap64_in _ (by omega)
  by_cases h5 : k = 5
  ·have e1 : failI k wd sl cp sa il rl op = 3 := by unfold failI ; rw [ht]; simp [h5]
   have b5 : (k == 5) = true := by simpa using h5
   rw [e1]
   rw [ht] at HTR
   clear hsa ht e1 h4 h5
   go_enter Tryz.func45, Tryz.ntmps45
   go_wp2_with fail
   refine (HTR.out _).mono ?_
   rintro e w1 ⟨rfl, s1⟩
   have hb1 := HB0.out.same s1
   have d0 : w1.cell? ⟨w.heap.size, 0, none⟩ = some (.int .i64 k) := hb1.cell 0
   have d1 : w1.cell? ⟨w.heap.size, 1, none⟩ = some (.int .i64 wd) := hb1.cell 1
   clear hb1
   go_wp2_with fail
   go_ret
   exact ⟨ret_int (by first | rfl | exact f1 | exact f2), HS0.out.trans s1⟩
  ·have e1 : failI k wd sl cp sa il rl op = wd + 2 := by unfold failI ; rw [ht]; simp [h5]
   have b5 : (k == 5) = false := by simpa using h5
   rw [e1]
   rw [ht] at HTR
   clear hsa ht e1 h4 h5
   go_enter Tryz.func45, Tryz.ntmps45
   go_wp2_with fail
   refine (HTR.out _).mono ?_
   rintro e w1 ⟨rfl, s1⟩
   have hb1 := HB0.out.same s1
   have d0 : w1.cell? ⟨w.heap.size, 0, none⟩ = some (.int .i64 k) := hb1.cell 0
   have d1 : w1.cell? ⟨w.heap.size, 1, none⟩ = some (.int .i64 wd) := hb1.cell 1
   clear hb1
   go_wp2_with fail
   go_ret
   exact ⟨ret_int (by first | rfl | exact f1 | exact f2), HS0.out.trans s1⟩
set_option maxRecDepth 100000 in
theorem rclean_any (k wd sl cp sa ow : Int) (ia ra : Option Addr) (il ic rl rc : Nat) (op : Int) (w : World) (hsa : 0 ≤ sa ∧ sa < 4294967296) :
 Calls Tryz.prog 110 #[.agg #[.int .i64 k, .int .i64 wd, .int .i64 sl, .int .i64 cp, .int .u32 sa, .slice ia il ic, .int .i64 ow, .slice ra rl rc], .int .i64 op] w fun e w' => e = .returned (.int .i64 (cleanI k wd sl cp sa il rl op)) ∧ Same w w' := by
 have hb0 := Blk.new w 34 #[.int .i64 k, .int .i64 wd, .int .i64 sl, .int .i64 cp, .int .u32 sa, .slice ia il ic, .int .i64 ow, .slice ra rl rc]
 have HS0 := Lib.hid ((Same.refl w).alloc (.cells #[.int .i64 k, .int .i64 wd, .int .i64 sl, .int .i64 cp, .int .u32 sa, .slice ia il ic, .int .i64 ow, .slice ra rl rc] 34))
 have HB0 := Lib.hid hb0
 clear hb0
 have HTR := Lib.hid (fun w' => rtries_any k wd sl cp sa ow ia ra il ic rl rc op w' hsa)
 have HBN := Lib.hid (fun w' => rbound_any k wd sl cp sa ow ia ra il ic rl rc op w' hsa)
 cases ht : trB k wd sl cp sa il rl op
 ·have e1 : cleanI k wd sl cp sa il rl op = boundF k wd sl cp sa il rl op := by unfold cleanI; rw [ht]; rfl
  rw [e1]
  rw [ht] at HTR
  clear hsa ht e1
  generalize boundF k wd sl cp sa il rl op = bn at *
  go_enter Tryz.func110, Tryz.ntmps110
  go_wp2_with fail
  refine (HTR.out _).mono ?_
  rintro e w1 ⟨rfl, s1⟩
  have hb1 := HB0.out.same s1
  have d0 : w1.cell? ⟨w.heap.size, 0, none⟩ = some (.int .i64 k) := hb1.cell 0
  have d1 : w1.cell? ⟨w.heap.size, 1, none⟩ = some (.int .i64 wd) := hb1.cell 1
  have d2 : w1.cell? ⟨w.heap.size, 2, none⟩ = some (.int .i64 sl) := hb1.cell 2
  have d3 : w1.cell? ⟨w.heap.size, 3, none⟩ = some (.int .i64 cp) := hb1.cell 3
  have d4 : w1.cell? ⟨w.heap.size, 4, none⟩ = some (.int .u32 sa) := hb1.cell 4
  have d5 : w1.cell? ⟨w.heap.size, 5, none⟩ = some (.slice ia il ic) := hb1.cell 5
  have d6 : w1.cell? ⟨w.heap.size, 6, none⟩ = some (.int .i64 ow) := hb1.cell 6
  have d7 : w1.cell? ⟨w.heap.size, 7, none⟩ = some (.slice ra rl rc) := hb1.cell 7
  clear hb1
  go_wp2_with fail
  refine (HBN.out _).mono ?_
  rintro e w2 ⟨rfl, s2⟩
  go_wp2_with fail
  go_ret
  exact ⟨rfl, (HS0.out.trans s1).trans s2⟩
 ·have h4 := (tr_yes ht).2.2.2.1
  have f1 : wrap64 (wd + 2) = wd + 2 := Go.IntWalk.wrap64_in _ (by omega)
  have f2 : wrap64 (wd + 4) = wd + 4 := Go.IntWalk.wrap64_in _ (by omega)
  by_cases h5 : k = 5
  ·have e1 : cleanI k wd sl cp sa il rl op = wd + 4 := by unfold cleanI endI; rw [ht]; simp [h5]
   have b5 : (k == 5) = true := by simpa using h5
   rw [e1]
   rw [ht] at HTR
   clear hsa ht e1 h4 h5
   go_enter Tryz.func110, Tryz.ntmps110
   go_wp2_with fail
   refine (HTR.out _).mono ?_
   rintro e w1 ⟨rfl, s1⟩
   have hb1 := HB0.out.same s1
   have d0 : w1.cell? ⟨w.heap.size, 0, none⟩ = some (.int .i64 k) := hb1.cell 0
   have d1 : w1.cell? ⟨w.heap.size, 1, none⟩ = some (.int .i64 wd) := hb1.cell 1
   clear hb1
   go_wp2_with fail
   go_ret
   exact ⟨ret_int (by first | rfl | exact f1 | exact f2), HS0.out.trans s1⟩
  ·have e1 : cleanI k wd sl cp sa il rl op = wd + 2 := by unfold cleanI endI; rw [ht]; simp [h5]
   have b5 : (k == 5) = false := by simpa using h5
   rw [e1]
   rw [ht] at HTR
   clear hsa ht e1 h4 h5
   go_enter Tryz.func110, Tryz.ntmps110
   go_wp2_with fail
   refine (HTR.out _).mono ?_
   rintro e w1 ⟨rfl, s1⟩
   have hb1 := HB0.out.same s1
   have d0 : w1.cell? ⟨w.heap.size, 0, none⟩ = some (.int .i64 k) := hb1.cell 0
   have d1 : w1.cell? ⟨w.heap.size, 1, none⟩ = some (.int .i64 wd) := hb1.cell 1
   clear hb1
   go_wp2_with fail
   go_ret
   exact ⟨ret_int (by first | rfl | exact f1 | exact f2), HS0.out.trans s1⟩

theorem wrap_i64 (x : Int) : wrap64 x = IntKind.i64.wrap x := (Go.IntWalk.i64_left x).symm
set_option maxRecDepth 100000 in
set_option maxHeartbeats 1000000 in
theorem rafter_any (k wd sl cp sa ow : Int) (ia ra : Option Addr) (il ic rl rc : Nat) (op fails : Int) (hf : fails ≤ 100) (w : World) (hsa : 0 ≤ sa ∧ sa < 4294967296) :
 Calls Tryz.prog 91 #[.agg #[.int .i64 k, .int .i64 wd, .int .i64 sl, .int .i64 cp, .int .u32 sa, .slice ia il ic, .int .i64 ow, .slice ra rl rc], .int .i64 op, .int .i64 fails] w fun e w' => e = .returned (.int .i64 (afterI k wd sl cp sa il rl op fails)) ∧ Same w w' := by
 have hb0 := Blk.new w 34 #[.int .i64 k, .int .i64 wd, .int .i64 sl, .int .i64 cp, .int .u32 sa, .slice ia il ic, .int .i64 ow, .slice ra rl rc]
 have HS0 := Lib.hid ((Same.refl w).alloc (.cells #[.int .i64 k, .int .i64 wd, .int .i64 sl, .int .i64 cp, .int .u32 sa, .slice ia il ic, .int .i64 ow, .slice ra rl rc] 34))
 have HB0 := Lib.hid hb0
 clear hb0
 have HCL := Lib.hid (fun w' => rclean_any k wd sl cp sa ow ia ra il ic rl rc op w' hsa)
 have HFL := Lib.hid (fun w' => rfail_any k wd sl cp sa ow ia ra il ic rl rc op w' hsa)
 have h1 := clean_bd k wd sl cp sa il rl op
 have h2 := fail_bd k wd sl cp sa il rl op
 obtain ⟨N, hN⟩ : ∃ N : Nat, (N : Int) = clamp fails 0 (lastI cp) := by
  obtain ⟨N, hN⟩ := Int.eq_ofNat_of_zero_le (show 0 ≤ clamp fails 0 (lastI cp) by unfold clamp; omega)
  exact ⟨N, hN.symm⟩
 have HE : Hid (afterI k wd sl cp sa il rl op fails = cleanI k wd sl cp sa il rl op + failI k wd sl cp sa il rl op * (N : Int)) := Lib.hid (by unfold afterI; rw [hN])
 have f3 : wrap64 (cp - 1) = lastI cp := wrap_i64 _
 have hN2 : N ≤ 100 := by unfold clamp at hN; omega
 have hlo : ∀ j : Nat, j < N → (j : Int) < fails ∧ (j : Int) < lastI cp := fun j hj => by unfold clamp at hN; omega
 have hhi : ¬ (N : Int) < fails ∨ ¬ (N : Int) < lastI cp := by unfold clamp at hN; omega
 generalize afterI k wd sl cp sa il rl op fails = af at *
 generalize cleanI k wd sl cp sa il rl op = cl at *
 generalize failI k wd sl cp sa il rl op = fl at *
 generalize endI k wd sl cp sa il rl op = en at *
 generalize hla : lastI cp = la at *
 clear hN hf hsa hla
 have HLO := Lib.hid hlo
 have HHI := Lib.hid hhi
 have HBD := Lib.hid (show (0 ≤ cl ∧ cl ≤ 1000) ∧ 0 ≤ fl ∧ fl ≤ 10 from ⟨h1, h2.1, h2.2.1⟩)
 clear hlo hhi h1 h2
 go_enter Tryz.func91, Tryz.ntmps91
 go_wp2_with fail
 refine (HCL.out _).mono ?_
 rintro e w1 ⟨rfl, s1⟩
 have HS1 := Lib.hid (HS0.out.trans s1)
 have HB1 := Lib.hid (HB0.out.same s1)
 clear s1 HS0 HB0
 generalize w.heap.size = g at *
 go_wp2_with fail
 go_loopg [8, 7] N (fun gk iv v wx => ∃ j : Nat, j + gk = N ∧ iv = .int .i64 j ∧ v = .int .i64 (cl + fl * (j : Int)) ∧ Same w1 wx)
 case atStart => exact ⟨0, by omega, rfl, by simp, Same.refl _⟩
 case round =>
  obtain ⟨j, hj, rfl, rfl, sx⟩ := hrel
  have HS := Lib.hid sx
  have hb := HB1.out.same sx
  have d0 : wr.cell? ⟨g, 0, none⟩ = some (.int .i64 k) := hb.cell 0
  have d1 : wr.cell? ⟨g, 1, none⟩ = some (.int .i64 wd) := hb.cell 1
  have d2 : wr.cell? ⟨g, 2, none⟩ = some (.int .i64 sl) := hb.cell 2
  have d3 : wr.cell? ⟨g, 3, none⟩ = some (.int .i64 cp) := hb.cell 3
  have d4 : wr.cell? ⟨g, 4, none⟩ = some (.int .u32 sa) := hb.cell 4
  have d5 : wr.cell? ⟨g, 5, none⟩ = some (.slice ia il ic) := hb.cell 5
  have d6 : wr.cell? ⟨g, 6, none⟩ = some (.int .i64 ow) := hb.cell 6
  have d7 : wr.cell? ⟨g, 7, none⟩ = some (.slice ra rl rc) := hb.cell 7
  clear sx hb
  cases gk with
  | zero =>
   obtain rfl : N = j := by omega
   have hhi := HHI.out
   by_cases hq : (N : Int) < fails
   ·have b0 : decide ((N : Int) < fails) = true := decide_eq_true hq
    have b1 : decide ((N : Int) < la) = false := decide_eq_false (by omega)
    clear hhi hq
    go_wp2_with fail
    go_ret
    exact ⟨ret_int HE.out.symm, HS1.out.trans HS.out⟩
   ·have b0 : decide ((N : Int) < fails) = false := decide_eq_false hq
    clear hhi hq
    go_wp2_with fail
    go_ret
    exact ⟨ret_int HE.out.symm, HS1.out.trans HS.out⟩
  | succ GJ =>
   have hlo := HLO.out j (by omega)
   have b0 : decide ((j : Int) < fails) = true := decide_eq_true hlo.1
   have b1 : decide ((j : Int) < la) = true := decide_eq_true hlo.2
   have hbd := HBD.out
   have hp1 : 0 ≤ fl * (j : Int) := Int.mul_nonneg hbd.2.1 (by omega)
   have hp2 : fl * (j : Int) ≤ 10 * 100 := Int.mul_le_mul hbd.2.2 (by omega) (by omega) (by omega)
   have f4 : wrap64 (cl + fl * (j : Int) + fl) = cl + fl * (j : Int) + fl := Go.IntWalk.wrap64_in _ (by omega)
   have HV : Hid (cl + fl * (j : Int) + fl = cl + fl * ((j + 1 : Nat) : Int)) := Lib.hid (by
    have : fl * ((j + 1 : Nat) : Int) = fl * (j : Int) + fl := by rw [Int.natCast_succ, Int.mul_add, Int.mul_one]
    omega)
   clear hlo hbd hp1 hp2
   generalize fl * (j : Int) = pj at *
   go_wp2_with fail
   refine (HFL.out _).mono ?_
   rintro e w2 ⟨rfl, s2⟩
   go_wp2_with fail
   go_roundg GJ
   case rel => exact ⟨j + 1, by omega, by go_num, by rw [← HV.out, f4], HS.out.trans s2⟩
   case measure => omega
theorem after_full {k wd sl cp sa : Int} {il rl : Nat} {op fails : Int} (h : trB k wd sl cp sa il rl op = true → clamp fails 0 (lastI cp) = cp - 1) : afterI k wd sl cp sa il rl op fails = boundF k wd sl cp sa il rl op := by
 unfold afterI
 cases ht : trB k wd sl cp sa il rl op
 ·unfold cleanI failI
  rw [ht]
  simp
 ·rw [h ht]
  obtain ⟨hr, ho, hk, hw, h1, h2⟩ := tr_yes ht
  have e1 : cleanI k wd sl cp sa il rl op = if k = 5 then wd + 4 else wd + 2 := by unfold cleanI endI; rw [ht]; simp
  have e2 : failI k wd sl cp sa il rl op = if k = 5 then 3 else wd + 2 := by unfold failI; rw [ht]; simp
  have e3 : boundF k wd sl cp sa il rl op = if k = 5 then 3 * cp + wd + 1 else cp * (wd + 2) := by
   unfold boundF Sq.boundI Rg.boundI Cb.boundI
   rw [hr, ho]
   rcases hk with rfl | rfl | rfl <;> simp
  rw [e1, e2, e3]
  by_cases h5 : k = 5
  ·rw [if_pos h5, if_pos h5, if_pos h5]
   omega
  ·rw [if_neg h5, if_neg h5, if_neg h5, Int.mul_sub, Int.mul_one, Int.mul_comm cp (wd + 2)]
   omega
theorem after_cap (k wd sl cp sa : Int) (il rl : Nat) (op : Int) : afterI k wd sl cp sa il rl op cp = boundF k wd sl cp sa il rl op := after_full fun h => by
 obtain ⟨_, _, _, _, h1, h2⟩ := tr_yes h
 have hl : lastI cp = cp - 1 := Go.IntWalk.i64_in _ (by omega)
 rw [hl]; unfold clamp; omega
end Go.Proofs.YthhbhbfkbncegaaGreatDoor.Bd
end
end
end
