/-

 An object of the kind fifo by value: how many words it has, how many steps its operations have, and its words at the beginning.
-/
import Derived.Test.YthhbhbfkbncegabGreatDoorJObj
import Derived.Deep.CutRange
section
set_option linter.unusedSimpArgs false
set_option linter.unusedVariables false
namespace Go.Proofs.YthhbhbfkbncegabGreatDoor.Ff
open Go.ChangeShapes Go.WideShapes Go.ChangeAt Go.RowKit Ws Mm Pa
open Go.Proofs.YthhbhbfkbncegabGreatDoor.Ob

theorem modulus_any (n : Nat) (hn : 1 ≤ n ∧ n ≤ 16) (w : World) :
 Calls Tryz.prog 161 #[.int .i64 n] w fun e w' => e = .returned (.int .u32 (2 * (n : Int))) ∧ w = w' := by
 have f1 := u32_in (n : Int) (by omega)
 have f2 := u32_in (2 * (n : Int)) (by omega)
 clear hn
 go_enter Tryz.func161, Tryz.ntmps161
 go_wp2
 go_ret
 exact ⟨rfl, rfl⟩

/-- whether an object of this kind may be -/
def rightK (k wd sl cp sa : Int) (il rl : Nat) : Bool := decide (k = 6 ∧ (1 ≤ wd ∧ wd ≤ 8) ∧ (1 ≤ sl ∧ sl ≤ 16) ∧ cp = 0 ∧ sa < 2 * sl ∧ (il : Int) = 0 ∧ (rl : Int) = 1)
def rightB (wd sl cp sa : Int) (il rl : Nat) : Bool := rightK 6 wd sl cp sa il rl
theorem HQ {wd sl cp sa : Int} {il rl : Nat} (h : rightB wd sl cp sa il rl = true) : (1 ≤ wd ∧ wd ≤ 8) ∧ (1 ≤ sl ∧ sl ≤ 16) ∧ cp = 0 ∧ sa < 2 * sl ∧ (il : Int) = 0 ∧ (rl : Int) = 1 := by
 unfold rightB rightK at h
 exact (of_decide_eq_true h).2
theorem kF {k wd sl cp sa : Int} {il rl : Nat} (h : ¬ (k = 6 ∧ (1 ≤ wd ∧ wd ≤ 8) ∧ (1 ≤ sl ∧ sl ≤ 16) ∧ cp = 0 ∧ sa < 2 * sl ∧ (il : Int) = 0 ∧ (rl : Int) = 1)) : false = rightK k wd sl cp sa il rl := (decide_eq_false h).symm
theorem four_cells {w w' : World} {q : Nat} {T : TypeId} {k wd sl cp sa ow : Int} {ia ra : Option Addr} {il ic rl rc : Nat} (h : Blk w q T #[.int .i64 k, .int .i64 wd, .int .i64 sl, .int .i64 cp, .int .u32 sa, .slice ia il ic, .int .i64 ow, .slice ra rl rc]) (s : Same w w') :
 w'.cell? ⟨q, 0, none⟩ = some (.int .i64 k) ∧ w'.cell? ⟨q, 1, none⟩ = some (.int .i64 wd) ∧ w'.cell? ⟨q, 2, none⟩ = some (.int .i64 sl) ∧ w'.cell? ⟨q, 3, none⟩ = some (.int .i64 cp) ∧ w'.cell? ⟨q, 4, none⟩ = some (.int .u32 sa) ∧ w'.cell? ⟨q, 5, none⟩ = some (.slice ia il ic) ∧ w'.cell? ⟨q, 6, none⟩ = some (.int .i64 ow) ∧ w'.cell? ⟨q, 7, none⟩ = some (.slice ra rl rc) ∧ Same w w' := by
 obtain ⟨d0, d1, d2, d3, d4, d5, d6, d7⟩ := obj_cells (h.same s)
 exact ⟨d0, d1, d2, d3, d4, d5, d6, d7, s⟩

set_option maxHeartbeats 1000000 in
set_option maxRecDepth 100000 in
theorem right_0 (k wd sl cp sa ow : Int) (ia ra : Option Addr) (il ic rl rc : Nat) (w : World) (hsa : 0 ≤ sa ∧ sa < 4294967296 := by assumption) (hk : ¬ k = 6) : Calls Tryz.prog 132 #[.agg #[.int .i64 k, .int .i64 wd, .int .i64 sl, .int .i64 cp, .int .u32 sa, .slice ia il ic, .int .i64 ow, .slice ra rl rc]] w fun e w' => e = .returned (.bool (false)) ∧ Same w w' := by
 have b_hk : (k == 6) = false := by simpa using hk
 have e_hk : decide (k = 6) = false := decide_eq_false hk
 clear hk
 have s0 := (Same.refl w).alloc (.cells #[.int .i64 k, .int .i64 wd, .int .i64 sl, .int .i64 cp, .int .u32 sa, .slice ia il ic, .int .i64 ow, .slice ra rl rc] 43)
 have hb := Blk.new w 43 #[.int .i64 k, .int .i64 wd, .int .i64 sl, .int .i64 cp, .int .u32 sa, .slice ia il ic, .int .i64 ow, .slice ra rl rc]
 have HB := Lib.hid hb
 have S := Lib.hid s0
 clear hb s0
 go_enter Tryz.func132, Tryz.ntmps132
 go_wp2_with fail
 generalize w.alloc (.cells #[.int .i64 k, .int .i64 wd, .int .i64 sl, .int .i64 cp, .int .u32 sa, .slice ia il ic, .int .i64 ow, .slice ra rl rc] 43) = wa at *
 generalize w.heap.size = q at *
 refine wp_region_held_drew (S := fun w' => w'.cell? ⟨q, 0, none⟩ = some (.int .i64 k) ∧ w'.cell? ⟨q, 1, none⟩ = some (.int .i64 wd) ∧ w'.cell? ⟨q, 2, none⟩ = some (.int .i64 sl) ∧ w'.cell? ⟨q, 3, none⟩ = some (.int .i64 cp) ∧ w'.cell? ⟨q, 4, none⟩ = some (.int .u32 sa) ∧ w'.cell? ⟨q, 5, none⟩ = some (.slice ia il ic) ∧ w'.cell? ⟨q, 6, none⟩ = some (.int .i64 ow) ∧ w'.cell? ⟨q, 7, none⟩ = some (.slice ra rl rc) ∧ Same wa w') (by kernel_rfl) ?_ (fun hHeld => ?_)
 ·exact four_cells HB.out (Same.refl _).drew
 iterate 39 ((first | refine Ro.tF 39 ?_ | (refine Ro.tN 39 ?_ ?_ ?_; rotate_left; · (intro wS hSw; (try dsimp only at hSw); go_simp; try with_reducible rfl))); try simp only [Ro.p])
 refine wpAnyH_done (by kernel_rfl) ?_ _
 have x9 := hHeld.2.2.2.2.2.2.2.2
 clear hHeld
 go_wp2
 go_ret
 exact ⟨ret_bool (by first | rfl | (rw [Bool.eq_iff_iff]; simp)), S.out.trans x9⟩
set_option maxHeartbeats 1000000 in
set_option maxRecDepth 100000 in
theorem right_1 (k wd sl cp sa ow : Int) (ia ra : Option Addr) (il ic rl rc : Nat) (w : World) (hsa : 0 ≤ sa ∧ sa < 4294967296 := by assumption) (hk : k = 6) (hw : ¬ (1 ≤ wd ∧ wd ≤ 8)) : Calls Tryz.prog 132 #[.agg #[.int .i64 k, .int .i64 wd, .int .i64 sl, .int .i64 cp, .int .u32 sa, .slice ia il ic, .int .i64 ow, .slice ra rl rc]] w fun e w' => e = .returned (.bool (false)) ∧ Same w w' := by
 have b_hk : (k == 6) = true := by simpa using hk
 have e_hk : decide (k = 6) = true := decide_eq_true hk
 have WW := fun w' => Ob.within_no wd 1 8 hw w'
 clear hw
 clear hk
 have s0 := (Same.refl w).alloc (.cells #[.int .i64 k, .int .i64 wd, .int .i64 sl, .int .i64 cp, .int .u32 sa, .slice ia il ic, .int .i64 ow, .slice ra rl rc] 43)
 have hb := Blk.new w 43 #[.int .i64 k, .int .i64 wd, .int .i64 sl, .int .i64 cp, .int .u32 sa, .slice ia il ic, .int .i64 ow, .slice ra rl rc]
 have HB := Lib.hid hb
 have S := Lib.hid s0
 clear hb s0
 go_enter Tryz.func132, Tryz.ntmps132
 go_wp2_with fail
 generalize w.alloc (.cells #[.int .i64 k, .int .i64 wd, .int .i64 sl, .int .i64 cp, .int .u32 sa, .slice ia il ic, .int .i64 ow, .slice ra rl rc] 43) = wa at *
 generalize w.heap.size = q at *
 refine wp_region_held_drew (S := fun w' => w'.cell? ⟨q, 0, none⟩ = some (.int .i64 k) ∧ w'.cell? ⟨q, 1, none⟩ = some (.int .i64 wd) ∧ w'.cell? ⟨q, 2, none⟩ = some (.int .i64 sl) ∧ w'.cell? ⟨q, 3, none⟩ = some (.int .i64 cp) ∧ w'.cell? ⟨q, 4, none⟩ = some (.int .u32 sa) ∧ w'.cell? ⟨q, 5, none⟩ = some (.slice ia il ic) ∧ w'.cell? ⟨q, 6, none⟩ = some (.int .i64 ow) ∧ w'.cell? ⟨q, 7, none⟩ = some (.slice ra rl rc) ∧ Same wa w') (by kernel_rfl) ?_ (fun hHeld => ?_)
 ·exact four_cells HB.out (Same.refl _).drew
 iterate 6 ((first | refine Ro.tF 39 ?_ | (refine Ro.tN 39 ?_ ?_ ?_; rotate_left; · (intro wS hSw; (try dsimp only at hSw); go_simp; try with_reducible rfl))); try simp only [Ro.p])
 first
  | (refine Ro.tf 6 ?_)
  | (refine Ro.one_on (i := 6) rfl (by kernel_rfl) (by rfl) (fun K hK => ?_); go_simp; go_at_call 156; (with_reducible refine (WW _).mono ?_); rintro e w' ⟨rfl, rfl⟩; (first | refine hK.out _ _ ?_ (fun hNew => ?_) | (go_wp2_with fail; refine hK.out _ _ ?_ (fun hNew => ?_))); (· (exact hHeld)); clear hK K hHeld; have hHeld := hNew; clear hNew)
 try simp only [Ro.p]
 iterate 32 ((first | refine Ro.tF 39 ?_ | (refine Ro.tN 39 ?_ ?_ ?_; rotate_left; · (intro wS hSw; (try dsimp only at hSw); go_simp; try with_reducible rfl))); try simp only [Ro.p])
 refine wpAnyH_done (by kernel_rfl) ?_ _
 have x9 := hHeld.2.2.2.2.2.2.2.2
 clear hHeld
 go_wp2
 go_ret
 exact ⟨ret_bool (by first | rfl | (rw [Bool.eq_iff_iff]; simp)), S.out.trans x9⟩
set_option maxHeartbeats 1000000 in
set_option maxRecDepth 100000 in
theorem right_2 (k wd sl cp sa ow : Int) (ia ra : Option Addr) (il ic rl rc : Nat) (w : World) (hsa : 0 ≤ sa ∧ sa < 4294967296 := by assumption) (hk : k = 6) (hw : 1 ≤ wd ∧ wd ≤ 8) (hs : ¬ (1 ≤ sl ∧ sl ≤ 16)) : Calls Tryz.prog 132 #[.agg #[.int .i64 k, .int .i64 wd, .int .i64 sl, .int .i64 cp, .int .u32 sa, .slice ia il ic, .int .i64 ow, .slice ra rl rc]] w fun e w' => e = .returned (.bool (false)) ∧ Same w w' := by
 have b_hk : (k == 6) = true := by simpa using hk
 have e_hk : decide (k = 6) = true := decide_eq_true hk
 have WW := fun w' => Ob.within_yes wd 1 8 hw w'
 have WS := fun w' => Ob.within_no sl 1 16 hs w'
 clear hw
 clear hs
 clear hk
 have s0 := (Same.refl w).alloc (.cells #[.int .i64 k, .int .i64 wd, .int .i64 sl, .int .i64 cp, .int .u32 sa, .slice ia il ic, .int .i64 ow, .slice ra rl rc] 43)
 have hb := Blk.new w 43 #[.int .i64 k, .int .i64 wd, .int .i64 sl, .int .i64 cp, .int .u32 sa, .slice ia il ic, .int .i64 ow, .slice ra rl rc]
 have HB := Lib.hid hb
 have S := Lib.hid s0
 clear hb s0
 go_enter Tryz.func132, Tryz.ntmps132
 go_wp2_with fail
 generalize w.alloc (.cells #[.int .i64 k, .int .i64 wd, .int .i64 sl, .int .i64 cp, .int .u32 sa, .slice ia il ic, .int .i64 ow, .slice ra rl rc] 43) = wa at *
 generalize w.heap.size = q at *
 refine wp_region_held_drew (S := fun w' => w'.cell? ⟨q, 0, none⟩ = some (.int .i64 k) ∧ w'.cell? ⟨q, 1, none⟩ = some (.int .i64 wd) ∧ w'.cell? ⟨q, 2, none⟩ = some (.int .i64 sl) ∧ w'.cell? ⟨q, 3, none⟩ = some (.int .i64 cp) ∧ w'.cell? ⟨q, 4, none⟩ = some (.int .u32 sa) ∧ w'.cell? ⟨q, 5, none⟩ = some (.slice ia il ic) ∧ w'.cell? ⟨q, 6, none⟩ = some (.int .i64 ow) ∧ w'.cell? ⟨q, 7, none⟩ = some (.slice ra rl rc) ∧ Same wa w') (by kernel_rfl) ?_ (fun hHeld => ?_)
 ·exact four_cells HB.out (Same.refl _).drew
 iterate 6 ((first | refine Ro.tF 39 ?_ | (refine Ro.tN 39 ?_ ?_ ?_; rotate_left; · (intro wS hSw; (try dsimp only at hSw); go_simp; try with_reducible rfl))); try simp only [Ro.p])
 first
  | (refine Ro.tf 6 ?_)
  | (refine Ro.one_on (i := 6) rfl (by kernel_rfl) (by rfl) (fun K hK => ?_); go_simp; go_at_call 156; (with_reducible refine (WW _).mono ?_); rintro e w' ⟨rfl, rfl⟩; (first | refine hK.out _ _ ?_ (fun hNew => ?_) | (go_wp2_with fail; refine hK.out _ _ ?_ (fun hNew => ?_))); (· (exact hHeld)); clear hK K hHeld; have hHeld := hNew; clear hNew)
 try simp only [Ro.p]
 iterate 4 ((first | refine Ro.tF 39 ?_ | (refine Ro.tN 39 ?_ ?_ ?_; rotate_left; · (intro wS hSw; (try dsimp only at hSw); go_simp; try with_reducible rfl))); try simp only [Ro.p])
 first
  | (refine Ro.tf 11 ?_)
  | (refine Ro.one_on (i := 11) rfl (by kernel_rfl) (by rfl) (fun K hK => ?_); go_simp; go_at_call 156; (with_reducible refine (WS _).mono ?_); rintro e w' ⟨rfl, rfl⟩; (first | refine hK.out _ _ ?_ (fun hNew => ?_) | (go_wp2_with fail; refine hK.out _ _ ?_ (fun hNew => ?_))); (· (exact hHeld)); clear hK K hHeld; have hHeld := hNew; clear hNew)
 try simp only [Ro.p]
 iterate 27 ((first | refine Ro.tF 39 ?_ | (refine Ro.tN 39 ?_ ?_ ?_; rotate_left; · (intro wS hSw; (try dsimp only at hSw); go_simp; try with_reducible rfl))); try simp only [Ro.p])
 refine wpAnyH_done (by kernel_rfl) ?_ _
 have x9 := hHeld.2.2.2.2.2.2.2.2
 clear hHeld
 go_wp2
 go_ret
 exact ⟨ret_bool (by first | rfl | (rw [Bool.eq_iff_iff]; simp)), S.out.trans x9⟩
set_option maxHeartbeats 1000000 in
set_option maxRecDepth 100000 in
theorem right_3 (k wd sl cp sa ow : Int) (ia ra : Option Addr) (il ic rl rc : Nat) (w : World) (hsa : 0 ≤ sa ∧ sa < 4294967296 := by assumption) (hk : k = 6) (hw : 1 ≤ wd ∧ wd ≤ 8) (hs : 1 ≤ sl ∧ sl ≤ 16) (hc : ¬ cp = 0) : Calls Tryz.prog 132 #[.agg #[.int .i64 k, .int .i64 wd, .int .i64 sl, .int .i64 cp, .int .u32 sa, .slice ia il ic, .int .i64 ow, .slice ra rl rc]] w fun e w' => e = .returned (.bool (false)) ∧ Same w w' := by
 have b_hk : (k == 6) = true := by simpa using hk
 have e_hk : decide (k = 6) = true := decide_eq_true hk
 have b_hc : (cp == 0) = false := by simpa using hc
 have e_hc : decide (cp = 0) = false := decide_eq_false hc
 have WW := fun w' => Ob.within_yes wd 1 8 hw w'
 have WS := fun w' => Ob.within_yes sl 1 16 hs w'
 clear hw
 clear hs
 clear hk hc
 have s0 := (Same.refl w).alloc (.cells #[.int .i64 k, .int .i64 wd, .int .i64 sl, .int .i64 cp, .int .u32 sa, .slice ia il ic, .int .i64 ow, .slice ra rl rc] 43)
 have hb := Blk.new w 43 #[.int .i64 k, .int .i64 wd, .int .i64 sl, .int .i64 cp, .int .u32 sa, .slice ia il ic, .int .i64 ow, .slice ra rl rc]
 have HB := Lib.hid hb
 have S := Lib.hid s0
 clear hb s0
 go_enter Tryz.func132, Tryz.ntmps132
 go_wp2_with fail
 generalize w.alloc (.cells #[.int .i64 k, .int .i64 wd, .int .i64 sl, .int .i64 cp, .int .u32 sa, .slice ia il ic, .int .i64 ow, .slice ra rl rc] 43) = wa at *
 generalize w.heap.size = q at *
 refine wp_region_held_drew (S := fun w' => w'.cell? ⟨q, 0, none⟩ = some (.int .i64 k) ∧ w'.cell? ⟨q, 1, none⟩ = some (.int .i64 wd) ∧ w'.cell? ⟨q, 2, none⟩ = some (.int .i64 sl) ∧ w'.cell? ⟨q, 3, none⟩ = some (.int .i64 cp) ∧ w'.cell? ⟨q, 4, none⟩ = some (.int .u32 sa) ∧ w'.cell? ⟨q, 5, none⟩ = some (.slice ia il ic) ∧ w'.cell? ⟨q, 6, none⟩ = some (.int .i64 ow) ∧ w'.cell? ⟨q, 7, none⟩ = some (.slice ra rl rc) ∧ Same wa w') (by kernel_rfl) ?_ (fun hHeld => ?_)
 ·exact four_cells HB.out (Same.refl _).drew
 iterate 6 ((first | refine Ro.tF 39 ?_ | (refine Ro.tN 39 ?_ ?_ ?_; rotate_left; · (intro wS hSw; (try dsimp only at hSw); go_simp; try with_reducible rfl))); try simp only [Ro.p])
 first
  | (refine Ro.tf 6 ?_)
  | (refine Ro.one_on (i := 6) rfl (by kernel_rfl) (by rfl) (fun K hK => ?_); go_simp; go_at_call 156; (with_reducible refine (WW _).mono ?_); rintro e w' ⟨rfl, rfl⟩; (first | refine hK.out _ _ ?_ (fun hNew => ?_) | (go_wp2_with fail; refine hK.out _ _ ?_ (fun hNew => ?_))); (· (exact hHeld)); clear hK K hHeld; have hHeld := hNew; clear hNew)
 try simp only [Ro.p]
 iterate 4 ((first | refine Ro.tF 39 ?_ | (refine Ro.tN 39 ?_ ?_ ?_; rotate_left; · (intro wS hSw; (try dsimp only at hSw); go_simp; try with_reducible rfl))); try simp only [Ro.p])
 first
  | (refine Ro.tf 11 ?_)
  | (refine Ro.one_on (i := 11) rfl (by kernel_rfl) (by rfl) (fun K hK => ?_); go_simp; go_at_call 156; (with_reducible refine (WS _).mono ?_); rintro e w' ⟨rfl, rfl⟩; (first | refine hK.out _ _ ?_ (fun hNew => ?_) | (go_wp2_with fail; refine hK.out _ _ ?_ (fun hNew => ?_))); (· (exact hHeld)); clear hK K hHeld; have hHeld := hNew; clear hNew)
 try simp only [Ro.p]
 iterate 27 ((first | refine Ro.tF 39 ?_ | (refine Ro.tN 39 ?_ ?_ ?_; rotate_left; · (intro wS hSw; (try dsimp only at hSw); go_simp; try with_reducible rfl))); try simp only [Ro.p])
 refine wpAnyH_done (by kernel_rfl) ?_ _
 have x9 := hHeld.2.2.2.2.2.2.2.2
 clear hHeld
 go_wp2
 go_ret
 exact ⟨ret_bool (by first | rfl | (rw [Bool.eq_iff_iff]; simp)), S.out.trans x9⟩
set_option maxHeartbeats 1000000 in
set_option maxRecDepth 100000 in
theorem right_4 (k wd sl cp sa ow : Int) (ia ra : Option Addr) (il ic rl rc : Nat) (w : World) (hsa : 0 ≤ sa ∧ sa < 4294967296 := by assumption) (hk : k = 6) (hw : 1 ≤ wd ∧ wd ≤ 8) (hs : 1 ≤ sl ∧ sl ≤ 16) (hc : cp = 0) (ha : ¬ sa < 2 * sl) : Calls Tryz.prog 132 #[.agg #[.int .i64 k, .int .i64 wd, .int .i64 sl, .int .i64 cp, .int .u32 sa, .slice ia il ic, .int .i64 ow, .slice ra rl rc]] w fun e w' => e = .returned (.bool (false)) ∧ Same w w' := by
 have b_hk : (k == 6) = true := by simpa using hk
 have e_hk : decide (k = 6) = true := decide_eq_true hk
 have b_hc : (cp == 0) = true := by simpa using hc
 have e_hc : decide (cp = 0) = true := decide_eq_true hc
 have MD := fun w' => modulus_any sl.toNat (by omega) w'
 rw [show ((sl.toNat : Nat) : Int) = sl by omega] at MD
 have e_ha : decide (sa < 2 * sl) = false := decide_eq_false ha
 have WW := fun w' => Ob.within_yes wd 1 8 hw w'
 have WS := fun w' => Ob.within_yes sl 1 16 hs w'
 clear hw
 clear hs
 clear hk hc ha
 have s0 := (Same.refl w).alloc (.cells #[.int .i64 k, .int .i64 wd, .int .i64 sl, .int .i64 cp, .int .u32 sa, .slice ia il ic, .int .i64 ow, .slice ra rl rc] 43)
 have hb := Blk.new w 43 #[.int .i64 k, .int .i64 wd, .int .i64 sl, .int .i64 cp, .int .u32 sa, .slice ia il ic, .int .i64 ow, .slice ra rl rc]
 have HB := Lib.hid hb
 have S := Lib.hid s0
 clear hb s0
 go_enter Tryz.func132, Tryz.ntmps132
 go_wp2_with fail
 generalize w.alloc (.cells #[.int .i64 k, .int .i64 wd, .int .i64 sl, .int .i64 cp, .int .u32 sa, .slice ia il ic, .int .i64 ow, .slice ra rl rc] 43) = wa at *
 generalize w.heap.size = q at *
 refine wp_region_held_drew (S := fun w' => w'.cell? ⟨q, 0, none⟩ = some (.int .i64 k) ∧ w'.cell? ⟨q, 1, none⟩ = some (.int .i64 wd) ∧ w'.cell? ⟨q, 2, none⟩ = some (.int .i64 sl) ∧ w'.cell? ⟨q, 3, none⟩ = some (.int .i64 cp) ∧ w'.cell? ⟨q, 4, none⟩ = some (.int .u32 sa) ∧ w'.cell? ⟨q, 5, none⟩ = some (.slice ia il ic) ∧ w'.cell? ⟨q, 6, none⟩ = some (.int .i64 ow) ∧ w'.cell? ⟨q, 7, none⟩ = some (.slice ra rl rc) ∧ Same wa w') (by kernel_rfl) ?_ (fun hHeld => ?_)
 ·exact four_cells HB.out (Same.refl _).drew
 iterate 6 ((first | refine Ro.tF 39 ?_ | (refine Ro.tN 39 ?_ ?_ ?_; rotate_left; · (intro wS hSw; (try dsimp only at hSw); go_simp; try with_reducible rfl))); try simp only [Ro.p])
 first
  | (refine Ro.tf 6 ?_)
  | (refine Ro.one_on (i := 6) rfl (by kernel_rfl) (by rfl) (fun K hK => ?_); go_simp; go_at_call 156; (with_reducible refine (WW _).mono ?_); rintro e w' ⟨rfl, rfl⟩; (first | refine hK.out _ _ ?_ (fun hNew => ?_) | (go_wp2_with fail; refine hK.out _ _ ?_ (fun hNew => ?_))); (· (exact hHeld)); clear hK K hHeld; have hHeld := hNew; clear hNew)
 try simp only [Ro.p]
 iterate 4 ((first | refine Ro.tF 39 ?_ | (refine Ro.tN 39 ?_ ?_ ?_; rotate_left; · (intro wS hSw; (try dsimp only at hSw); go_simp; try with_reducible rfl))); try simp only [Ro.p])
 first
  | (refine Ro.tf 11 ?_)
  | (refine Ro.one_on (i := 11) rfl (by kernel_rfl) (by rfl) (fun K hK => ?_); go_simp; go_at_call 156; (with_reducible refine (WS _).mono ?_); rintro e w' ⟨rfl, rfl⟩; (first | refine hK.out _ _ ?_ (fun hNew => ?_) | (go_wp2_with fail; refine hK.out _ _ ?_ (fun hNew => ?_))); (· (exact hHeld)); clear hK K hHeld; have hHeld := hNew; clear hNew)
 try simp only [Ro.p]
 iterate 11 ((first | refine Ro.tF 39 ?_ | (refine Ro.tN 39 ?_ ?_ ?_; rotate_left; · (intro wS hSw; (try dsimp only at hSw); go_simp; try with_reducible rfl))); try simp only [Ro.p])
 first
  | (refine Ro.tf 23 ?_)
  | (refine Ro.one_on (i := 23) rfl (by kernel_rfl) (by rfl) (fun K hK => ?_); go_simp; go_at_call 161; (with_reducible refine (MD _).mono ?_); rintro e w' ⟨rfl, rfl⟩; (first | refine hK.out _ _ ?_ (fun hNew => ?_) | (go_wp2_with fail; refine hK.out _ _ ?_ (fun hNew => ?_))); (· (exact hHeld)); clear hK K hHeld; have hHeld := hNew; clear hNew)
 try simp only [Ro.p]
 iterate 15 ((first | refine Ro.tF 39 ?_ | (refine Ro.tN 39 ?_ ?_ ?_; rotate_left; · (intro wS hSw; (try dsimp only at hSw); go_simp; try with_reducible rfl))); try simp only [Ro.p])
 refine wpAnyH_done (by kernel_rfl) ?_ _
 have x9 := hHeld.2.2.2.2.2.2.2.2
 clear hHeld
 go_wp2
 go_ret
 exact ⟨ret_bool (by first | rfl | (rw [Bool.eq_iff_iff]; simp)), S.out.trans x9⟩
set_option maxHeartbeats 1000000 in
set_option maxRecDepth 100000 in
theorem right_5 (k wd sl cp sa ow : Int) (ia ra : Option Addr) (il ic rl rc : Nat) (w : World) (hsa : 0 ≤ sa ∧ sa < 4294967296 := by assumption) (hk : k = 6) (hw : 1 ≤ wd ∧ wd ≤ 8) (hs : 1 ≤ sl ∧ sl ≤ 16) (hc : cp = 0) (ha : sa < 2 * sl) (hi : ¬ (il : Int) = 0) : Calls Tryz.prog 132 #[.agg #[.int .i64 k, .int .i64 wd, .int .i64 sl, .int .i64 cp, .int .u32 sa, .slice ia il ic, .int .i64 ow, .slice ra rl rc]] w fun e w' => e = .returned (.bool (false)) ∧ Same w w' := by
 have b_hk : (k == 6) = true := by simpa using hk
 have e_hk : decide (k = 6) = true := decide_eq_true hk
 have b_hc : (cp == 0) = true := by simpa using hc
 have e_hc : decide (cp = 0) = true := decide_eq_true hc
 have b_hi : ((il : Int) == 0) = false := by simpa using hi
 have e_hi : decide ((il : Int) = 0) = false := decide_eq_false hi
 have MD := fun w' => modulus_any sl.toNat (by omega) w'
 rw [show ((sl.toNat : Nat) : Int) = sl by omega] at MD
 have e_ha : decide (sa < 2 * sl) = true := decide_eq_true ha
 have WW := fun w' => Ob.within_yes wd 1 8 hw w'
 have WS := fun w' => Ob.within_yes sl 1 16 hs w'
 clear hw
 clear hs
 clear hk hc hi ha
 have s0 := (Same.refl w).alloc (.cells #[.int .i64 k, .int .i64 wd, .int .i64 sl, .int .i64 cp, .int .u32 sa, .slice ia il ic, .int .i64 ow, .slice ra rl rc] 43)
 have hb := Blk.new w 43 #[.int .i64 k, .int .i64 wd, .int .i64 sl, .int .i64 cp, .int .u32 sa, .slice ia il ic, .int .i64 ow, .slice ra rl rc]
 have HB := Lib.hid hb
 have S := Lib.hid s0
 clear hb s0
 go_enter Tryz.func132, Tryz.ntmps132
 go_wp2_with fail
 generalize w.alloc (.cells #[.int .i64 k, .int .i64 wd, .int .i64 sl, .int .i64 cp, .int .u32 sa, .slice ia il ic, .int .i64 ow, .slice ra rl rc] 43) = wa at *
 generalize w.heap.size = q at *
 refine wp_region_held_drew (S := fun w' => w'.cell? ⟨q, 0, none⟩ = some (.int .i64 k) ∧ w'.cell? ⟨q, 1, none⟩ = some (.int .i64 wd) ∧ w'.cell? ⟨q, 2, none⟩ = some (.int .i64 sl) ∧ w'.cell? ⟨q, 3, none⟩ = some (.int .i64 cp) ∧ w'.cell? ⟨q, 4, none⟩ = some (.int .u32 sa) ∧ w'.cell? ⟨q, 5, none⟩ = some (.slice ia il ic) ∧ w'.cell? ⟨q, 6, none⟩ = some (.int .i64 ow) ∧ w'.cell? ⟨q, 7, none⟩ = some (.slice ra rl rc) ∧ Same wa w') (by kernel_rfl) ?_ (fun hHeld => ?_)
 ·exact four_cells HB.out (Same.refl _).drew
 iterate 6 ((first | refine Ro.tF 39 ?_ | (refine Ro.tN 39 ?_ ?_ ?_; rotate_left; · (intro wS hSw; (try dsimp only at hSw); go_simp; try with_reducible rfl))); try simp only [Ro.p])
 first
  | (refine Ro.tf 6 ?_)
  | (refine Ro.one_on (i := 6) rfl (by kernel_rfl) (by rfl) (fun K hK => ?_); go_simp; go_at_call 156; (with_reducible refine (WW _).mono ?_); rintro e w' ⟨rfl, rfl⟩; (first | refine hK.out _ _ ?_ (fun hNew => ?_) | (go_wp2_with fail; refine hK.out _ _ ?_ (fun hNew => ?_))); (· (exact hHeld)); clear hK K hHeld; have hHeld := hNew; clear hNew)
 try simp only [Ro.p]
 iterate 4 ((first | refine Ro.tF 39 ?_ | (refine Ro.tN 39 ?_ ?_ ?_; rotate_left; · (intro wS hSw; (try dsimp only at hSw); go_simp; try with_reducible rfl))); try simp only [Ro.p])
 first
  | (refine Ro.tf 11 ?_)
  | (refine Ro.one_on (i := 11) rfl (by kernel_rfl) (by rfl) (fun K hK => ?_); go_simp; go_at_call 156; (with_reducible refine (WS _).mono ?_); rintro e w' ⟨rfl, rfl⟩; (first | refine hK.out _ _ ?_ (fun hNew => ?_) | (go_wp2_with fail; refine hK.out _ _ ?_ (fun hNew => ?_))); (· (exact hHeld)); clear hK K hHeld; have hHeld := hNew; clear hNew)
 try simp only [Ro.p]
 iterate 11 ((first | refine Ro.tF 39 ?_ | (refine Ro.tN 39 ?_ ?_ ?_; rotate_left; · (intro wS hSw; (try dsimp only at hSw); go_simp; try with_reducible rfl))); try simp only [Ro.p])
 first
  | (refine Ro.tf 23 ?_)
  | (refine Ro.one_on (i := 23) rfl (by kernel_rfl) (by rfl) (fun K hK => ?_); go_simp; go_at_call 161; (with_reducible refine (MD _).mono ?_); rintro e w' ⟨rfl, rfl⟩; (first | refine hK.out _ _ ?_ (fun hNew => ?_) | (go_wp2_with fail; refine hK.out _ _ ?_ (fun hNew => ?_))); (· (exact hHeld)); clear hK K hHeld; have hHeld := hNew; clear hNew)
 try simp only [Ro.p]
 iterate 15 ((first | refine Ro.tF 39 ?_ | (refine Ro.tN 39 ?_ ?_ ?_; rotate_left; · (intro wS hSw; (try dsimp only at hSw); go_simp; try with_reducible rfl))); try simp only [Ro.p])
 refine wpAnyH_done (by kernel_rfl) ?_ _
 have x9 := hHeld.2.2.2.2.2.2.2.2
 clear hHeld
 go_wp2
 go_ret
 exact ⟨ret_bool (by first | rfl | (rw [Bool.eq_iff_iff]; simp)), S.out.trans x9⟩
set_option maxHeartbeats 1000000 in
set_option maxRecDepth 100000 in
theorem right_6 (k wd sl cp sa ow : Int) (ia ra : Option Addr) (il ic rl rc : Nat) (w : World) (hsa : 0 ≤ sa ∧ sa < 4294967296 := by assumption) (hk : k = 6) (hw : 1 ≤ wd ∧ wd ≤ 8) (hs : 1 ≤ sl ∧ sl ≤ 16) (hc : cp = 0) (ha : sa < 2 * sl) (hi : (il : Int) = 0) : Calls Tryz.prog 132 #[.agg #[.int .i64 k, .int .i64 wd, .int .i64 sl, .int .i64 cp, .int .u32 sa, .slice ia il ic, .int .i64 ow, .slice ra rl rc]] w fun e w' => e = .returned (.bool (decide ((rl : Int) = 1))) ∧ Same w w' := by
 have b_hk : (k == 6) = true := by simpa using hk
 have e_hk : decide (k = 6) = true := decide_eq_true hk
 have b_hc : (cp == 0) = true := by simpa using hc
 have e_hc : decide (cp = 0) = true := decide_eq_true hc
 have b_hi : ((il : Int) == 0) = true := by simpa using hi
 have e_hi : decide ((il : Int) = 0) = true := decide_eq_true hi
 have MD := fun w' => modulus_any sl.toNat (by omega) w'
 rw [show ((sl.toNat : Nat) : Int) = sl by omega] at MD
 have e_ha : decide (sa < 2 * sl) = true := decide_eq_true ha
 have WW := fun w' => Ob.within_yes wd 1 8 hw w'
 have WS := fun w' => Ob.within_yes sl 1 16 hs w'
 clear hw
 clear hs
 clear hk hc hi ha
 have s0 := (Same.refl w).alloc (.cells #[.int .i64 k, .int .i64 wd, .int .i64 sl, .int .i64 cp, .int .u32 sa, .slice ia il ic, .int .i64 ow, .slice ra rl rc] 43)
 have hb := Blk.new w 43 #[.int .i64 k, .int .i64 wd, .int .i64 sl, .int .i64 cp, .int .u32 sa, .slice ia il ic, .int .i64 ow, .slice ra rl rc]
 have HB := Lib.hid hb
 have S := Lib.hid s0
 clear hb s0
 go_enter Tryz.func132, Tryz.ntmps132
 go_wp2_with fail
 generalize w.alloc (.cells #[.int .i64 k, .int .i64 wd, .int .i64 sl, .int .i64 cp, .int .u32 sa, .slice ia il ic, .int .i64 ow, .slice ra rl rc] 43) = wa at *
 generalize w.heap.size = q at *
 refine wp_region_held_drew (S := fun w' => w'.cell? ⟨q, 0, none⟩ = some (.int .i64 k) ∧ w'.cell? ⟨q, 1, none⟩ = some (.int .i64 wd) ∧ w'.cell? ⟨q, 2, none⟩ = some (.int .i64 sl) ∧ w'.cell? ⟨q, 3, none⟩ = some (.int .i64 cp) ∧ w'.cell? ⟨q, 4, none⟩ = some (.int .u32 sa) ∧ w'.cell? ⟨q, 5, none⟩ = some (.slice ia il ic) ∧ w'.cell? ⟨q, 6, none⟩ = some (.int .i64 ow) ∧ w'.cell? ⟨q, 7, none⟩ = some (.slice ra rl rc) ∧ Same wa w') (by kernel_rfl) ?_ (fun hHeld => ?_)
 ·exact four_cells HB.out (Same.refl _).drew
 iterate 6 ((first | refine Ro.tF 39 ?_ | (refine Ro.tN 39 ?_ ?_ ?_; rotate_left; · (intro wS hSw; (try dsimp only at hSw); go_simp; try with_reducible rfl))); try simp only [Ro.p])
 first
  | (refine Ro.tf 6 ?_)
  | (refine Ro.one_on (i := 6) rfl (by kernel_rfl) (by rfl) (fun K hK => ?_); go_simp; go_at_call 156; (with_reducible refine (WW _).mono ?_); rintro e w' ⟨rfl, rfl⟩; (first | refine hK.out _ _ ?_ (fun hNew => ?_) | (go_wp2_with fail; refine hK.out _ _ ?_ (fun hNew => ?_))); (· (exact hHeld)); clear hK K hHeld; have hHeld := hNew; clear hNew)
 try simp only [Ro.p]
 iterate 4 ((first | refine Ro.tF 39 ?_ | (refine Ro.tN 39 ?_ ?_ ?_; rotate_left; · (intro wS hSw; (try dsimp only at hSw); go_simp; try with_reducible rfl))); try simp only [Ro.p])
 first
  | (refine Ro.tf 11 ?_)
  | (refine Ro.one_on (i := 11) rfl (by kernel_rfl) (by rfl) (fun K hK => ?_); go_simp; go_at_call 156; (with_reducible refine (WS _).mono ?_); rintro e w' ⟨rfl, rfl⟩; (first | refine hK.out _ _ ?_ (fun hNew => ?_) | (go_wp2_with fail; refine hK.out _ _ ?_ (fun hNew => ?_))); (· (exact hHeld)); clear hK K hHeld; have hHeld := hNew; clear hNew)
 try simp only [Ro.p]
 iterate 11 ((first | refine Ro.tF 39 ?_ | (refine Ro.tN 39 ?_ ?_ ?_; rotate_left; · (intro wS hSw; (try dsimp only at hSw); go_simp; try with_reducible rfl))); try simp only [Ro.p])
 first
  | (refine Ro.tf 23 ?_)
  | (refine Ro.one_on (i := 23) rfl (by kernel_rfl) (by rfl) (fun K hK => ?_); go_simp; go_at_call 161; (with_reducible refine (MD _).mono ?_); rintro e w' ⟨rfl, rfl⟩; (first | refine hK.out _ _ ?_ (fun hNew => ?_) | (go_wp2_with fail; refine hK.out _ _ ?_ (fun hNew => ?_))); (· (exact hHeld)); clear hK K hHeld; have hHeld := hNew; clear hNew)
 try simp only [Ro.p]
 iterate 15 ((first | refine Ro.tF 39 ?_ | (refine Ro.tN 39 ?_ ?_ ?_; rotate_left; · (intro wS hSw; (try dsimp only at hSw); go_simp; try with_reducible rfl))); try simp only [Ro.p])
 refine wpAnyH_done (by kernel_rfl) ?_ _
 have x9 := hHeld.2.2.2.2.2.2.2.2
 clear hHeld
 go_wp2
 go_ret
 exact ⟨ret_bool (by first | rfl | (rw [Bool.eq_iff_iff]; simp)), S.out.trans x9⟩
theorem right_all (k wd sl cp sa ow : Int) (ia ra : Option Addr) (il ic rl rc : Nat) (w : World) (hsa : 0 ≤ sa ∧ sa < 4294967296 := by assumption) :
 Calls Tryz.prog 132 #[.agg #[.int .i64 k, .int .i64 wd, .int .i64 sl, .int .i64 cp, .int .u32 sa, .slice ia il ic, .int .i64 ow, .slice ra rl rc]] w fun e w' => e = .returned (.bool (rightK k wd sl cp sa il rl)) ∧ Same w w' := by
 by_cases hk : k = 6
 ·by_cases hw : 1 ≤ wd ∧ wd ≤ 8
  ·by_cases hs : 1 ≤ sl ∧ sl ≤ 16
   ·by_cases hc : cp = 0
    ·by_cases ha : sa < 2 * sl
     ·by_cases hi : (il : Int) = 0
      ·rw [show rightK k wd sl cp sa il rl = decide ((rl : Int) = 1) by unfold rightK; rw [decide_eq_decide]; exact ⟨fun h => h.2.2.2.2.2.2, fun h => ⟨hk, hw, hs, hc, ha, hi, h⟩⟩]
       exact right_6 k wd sl cp sa ow ia ra il ic rl rc w hsa hk hw hs hc ha hi
      ·rw [← kF fun h => hi h.2.2.2.2.2.1]; exact right_5 k wd sl cp sa ow ia ra il ic rl rc w hsa hk hw hs hc ha hi
     ·rw [← kF fun h => ha h.2.2.2.2.1]; exact right_4 k wd sl cp sa ow ia ra il ic rl rc w hsa hk hw hs hc ha
    ·rw [← kF fun h => hc h.2.2.2.1]; exact right_3 k wd sl cp sa ow ia ra il ic rl rc w hsa hk hw hs hc
   ·rw [← kF fun h => hs h.2.2.1]; exact right_2 k wd sl cp sa ow ia ra il ic rl rc w hsa hk hw hs
  ·rw [← kF fun h => hw h.2.1]; exact right_1 k wd sl cp sa ow ia ra il ic rl rc w hsa hk hw
 ·rw [← kF fun h => hk h.1]; exact right_0 k wd sl cp sa ow ia ra il ic rl rc w hsa hk
theorem right_not (k wd sl cp sa ow : Int) (ia ra : Option Addr) (il ic rl rc : Nat) (hk : k ≠ 6) (w : World) (hsa : 0 ≤ sa ∧ sa < 4294967296 := by assumption) :
 Calls Tryz.prog 132 #[.agg #[.int .i64 k, .int .i64 wd, .int .i64 sl, .int .i64 cp, .int .u32 sa, .slice ia il ic, .int .i64 ow, .slice ra rl rc]] w fun e w' => e = .returned (.bool false) ∧ Same w w' := right_0 k wd sl cp sa ow ia ra il ic rl rc w hsa hk
theorem right_any (wd sl cp sa ow : Int) (ia ra : Option Addr) (il ic rl rc : Nat) (w : World) (hsa : 0 ≤ sa ∧ sa < 4294967296 := by assumption) :
 Calls Tryz.prog 132 #[.agg #[.int .i64 6, .int .i64 wd, .int .i64 sl, .int .i64 cp, .int .u32 sa, .slice ia il ic, .int .i64 ow, .slice ra rl rc]] w fun e w' => e = .returned (.bool (rightB wd sl cp sa il rl)) ∧ Same w w' := right_all 6 wd sl cp sa ow ia ra il ic rl rc w hsa

end Go.Proofs.YthhbhbfkbncegabGreatDoor.Ff
end
section
set_option linter.unusedSimpArgs false
set_option linter.unusedVariables false
namespace Go.Proofs.YthhbhbfkbncegabGreatDoor.Ff
open Go.ChangeShapes Go.WideShapes Go.ChangeAt Go.RowKit Ws Mm Pa
open Go.Proofs.YthhbhbfkbncegabGreatDoor.Ob

def boundI (wd op : Int) : Int := if op = 3 then wd + 3 else if op = 4 then wd + 3 else 0
end Go.Proofs.YthhbhbfkbncegabGreatDoor.Ff
end
