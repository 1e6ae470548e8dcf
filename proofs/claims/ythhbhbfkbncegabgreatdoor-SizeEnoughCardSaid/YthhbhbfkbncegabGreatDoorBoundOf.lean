/-

 How many steps operations have, if attempts fail (layer 35): of the program, and of the document.
-/
import Derived.Test.YthhbhbfkbncegabGreatDoorJObj
import Derived.Deep.CutRange
import Derived.Test.YthhbhbfkbncegabGreatDoorJFifoLay
import Derived.Laws.Rows
import Derived.Laws.ResultCell
import Derived.Test.YthhbhbfkbncegabGreatDoorWordBase
section
section
set_option linter.unusedSimpArgs false
set_option linter.unusedVariables false
namespace Go.Proofs.YthhbhbfkbncegabGreatDoor.Rg
open Go.ChangeShapes Go.WideShapes Go.ChangeAt Go.RowKit Ws Mm Pa
open Go.Proofs.YthhbhbfkbncegabGreatDoor.Ob

theorem modulus_any (n : Nat) (hn : 2 ≤ n ∧ n ≤ 16) (w : World) :
 Calls Tryz.prog 158 #[.int .i64 n] w fun e w' => e = .returned (.int .u32 ((n : Int) * 1048576)) ∧ w = w' := by
 have f1 := u32_in (n : Int) (by omega)
 have f2 := u32_in ((n : Int) * 1048576) (by omega)
 clear hn
 go_enter Tryz.func158, Tryz.ntmps158
 go_wp2
 go_ret
 exact ⟨rfl, rfl⟩

/-- whether an object of this kind may be -/
def rightB (wd sl cp sa : Int) (il rl : Nat) : Bool := decide ((1 ≤ wd ∧ wd ≤ 8) ∧ (il : Int) = wd ∧ (1 ≤ (rl : Int) ∧ (rl : Int) ≤ 4) ∧ (2 ≤ sl ∧ sl ≤ 16) ∧ (1 ≤ cp ∧ cp ≤ 16) ∧ sa < sl * 1048576)

theorem four_cells {w w' : World} {q : Nat} {T : TypeId} {k wd sl cp sa ow : Int} {ia ra : Option Addr} {il ic rl rc : Nat} (h : Blk w q T #[.int .i64 k, .int .i64 wd, .int .i64 sl, .int .i64 cp, .int .u32 sa, .slice ia il ic, .int .i64 ow, .slice ra rl rc]) (s : Same w w') :
 w'.cell? ⟨q, 0, none⟩ = some (.int .i64 k) ∧ w'.cell? ⟨q, 1, none⟩ = some (.int .i64 wd) ∧ w'.cell? ⟨q, 2, none⟩ = some (.int .i64 sl) ∧ w'.cell? ⟨q, 3, none⟩ = some (.int .i64 cp) ∧ w'.cell? ⟨q, 4, none⟩ = some (.int .u32 sa) ∧ w'.cell? ⟨q, 5, none⟩ = some (.slice ia il ic) ∧ w'.cell? ⟨q, 6, none⟩ = some (.int .i64 ow) ∧ w'.cell? ⟨q, 7, none⟩ = some (.slice ra rl rc) ∧ Same w w' := by
 obtain ⟨d0, d1, d2, d3, d4, d5, d6, d7⟩ := obj_cells (h.same s)
 exact ⟨d0, d1, d2, d3, d4, d5, d6, d7, s⟩
set_option maxHeartbeats 1000000 in
theorem right_all (k wd sl cp sa ow : Int) (ia ra : Option Addr) (il ic rl rc : Nat) (w : World) (hsa : 0 ≤ sa ∧ sa < 4294967296 := by assumption) :
 Calls Tryz.prog 124 #[.agg #[.int .i64 k, .int .i64 wd, .int .i64 sl, .int .i64 cp, .int .u32 sa, .slice ia il ic, .int .i64 ow, .slice ra rl rc]] w fun e w' => e = .returned (.bool (decide (regB k wd il rl 4 = true ∧ (2 ≤ sl ∧ sl ≤ 16) ∧ (1 ≤ cp ∧ cp ≤ 16) ∧ sa < sl * 1048576))) ∧ Same w w' := by
 have s0 := (Same.refl w).alloc (.cells #[.int .i64 k, .int .i64 wd, .int .i64 sl, .int .i64 cp, .int .u32 sa, .slice ia il ic, .int .i64 ow, .slice ra rl rc] 43)
 have hb := Blk.new w 43 #[.int .i64 k, .int .i64 wd, .int .i64 sl, .int .i64 cp, .int .u32 sa, .slice ia il ic, .int .i64 ow, .slice ra rl rc]
 have HB := Lib.hid hb
 clear hb
 have HR := fun w' => register_any 4 k wd sl cp sa ow ia ra il ic rl rc w'
 have WS := fun w' => within_any sl 2 16 w'
 have WC := fun w' => within_any cp 1 16 w'
 generalize hr : regB k wd il rl 4 = r at *
 clear hr
 generalize hG : decide (r = true ∧ (2 ≤ sl ∧ sl ≤ 16) ∧ (1 ≤ cp ∧ cp ≤ 16) ∧ sa < sl * 1048576) = G at *
 have HG := Lib.hid hG
 clear hG
 cases r with
 | false =>
  have E : Hid (false = G) := Lib.hid (by rw [← HG.out]; simp)
  clear HG
  go_enter Tryz.func124, Tryz.ntmps124
  go_wp2_with fail
  generalize w.alloc (.cells #[.int .i64 k, .int .i64 wd, .int .i64 sl, .int .i64 cp, .int .u32 sa, .slice ia il ic, .int .i64 ow, .slice ra rl rc] 43) = wa at *
  generalize w.heap.size = q at *
  refine wp_region_held_drew (S := fun w' => w'.cell? ⟨q, 0, none⟩ = some (.int .i64 k) ∧ w'.cell? ⟨q, 1, none⟩ = some (.int .i64 wd) ∧ w'.cell? ⟨q, 2, none⟩ = some (.int .i64 sl) ∧ w'.cell? ⟨q, 3, none⟩ = some (.int .i64 cp) ∧ w'.cell? ⟨q, 4, none⟩ = some (.int .u32 sa) ∧ w'.cell? ⟨q, 5, none⟩ = some (.slice ia il ic) ∧ w'.cell? ⟨q, 6, none⟩ = some (.int .i64 ow) ∧ w'.cell? ⟨q, 7, none⟩ = some (.slice ra rl rc) ∧ Same wa w') (by kernel_rfl) ?_ (fun hHeld => ?_)
  ·exact four_cells HB.out (Same.refl _).drew
  first
   | (refine Ro.tf 0 ?_)
   | (refine Ro.tn 0 ?_ ?_ ?_; rotate_left; · (intro wS hSw; (try dsimp only at hSw); go_simp; try with_reducible rfl))
  try simp only [Ro.p]
  first
   | (refine Ro.tf 1 ?_)
   | (refine Ro.one_on (i := 1) rfl (by kernel_rfl) (by rfl) (fun K hK => ?_); go_simp; go_at_call 153; (with_reducible refine (HR _).mono ?_); rintro e w' ⟨rfl, hs9⟩; (first | refine hK.out _ _ ?_ (fun hNew => ?_) | (go_wp2_with fail; refine hK.out _ _ ?_ (fun hNew => ?_))); (· (exact four_cells HB.out (hHeld.2.2.2.2.2.2.2.2.trans hs9))); clear hK K hHeld; have hHeld := hNew; clear hNew)
  try simp only [Ro.p]
  iterate 3 ((first | refine Ro.tF 21 ?_ | (refine Ro.tN 21 ?_ ?_ ?_; rotate_left; · (intro wS hSw; (try dsimp only at hSw); go_simp; try with_reducible rfl))); try simp only [Ro.p])
  first
   | (refine Ro.tf 5 ?_)
   | (refine Ro.one_on (i := 5) rfl (by kernel_rfl) (by rfl) (fun K hK => ?_); go_simp; go_at_call 156; (with_reducible refine (WS _).mono ?_); rintro e w' ⟨rfl, rfl⟩; (first | refine hK.out _ _ ?_ (fun hNew => ?_) | (go_wp2_with fail; refine hK.out _ _ ?_ (fun hNew => ?_))); (· (exact hHeld)); clear hK K hHeld; have hHeld := hNew; clear hNew)
  try simp only [Ro.p]
  iterate 4 ((first | refine Ro.tF 21 ?_ | (refine Ro.tN 21 ?_ ?_ ?_; rotate_left; · (intro wS hSw; (try dsimp only at hSw); go_simp; try with_reducible rfl))); try simp only [Ro.p])
  first
   | (refine Ro.tf 10 ?_)
   | (refine Ro.one_on (i := 10) rfl (by kernel_rfl) (by rfl) (fun K hK => ?_); go_simp; go_at_call 156; (with_reducible refine (WC _).mono ?_); rintro e w' ⟨rfl, rfl⟩; (first | refine hK.out _ _ ?_ (fun hNew => ?_) | (go_wp2_with fail; refine hK.out _ _ ?_ (fun hNew => ?_))); (· (exact hHeld)); clear hK K hHeld; have hHeld := hNew; clear hNew)
  try simp only [Ro.p]
  iterate 6 ((first | refine Ro.tF 21 ?_ | (refine Ro.tN 21 ?_ ?_ ?_; rotate_left; · (intro wS hSw; (try dsimp only at hSw); go_simp; try with_reducible rfl))); try simp only [Ro.p])
  first
   | (refine Ro.tf 17 ?_)
   | (refine Ro.one_on (i := 17) rfl (by kernel_rfl) (by rfl) (fun K hK => ?_); go_simp; go_at_call 158; (with_reducible refine (MD _).mono ?_); rintro e w' ⟨rfl, rfl⟩; (first | refine hK.out _ _ ?_ (fun hNew => ?_) | (go_wp2_with fail; refine hK.out _ _ ?_ (fun hNew => ?_))); (· (exact hHeld)); clear hK K hHeld; have hHeld := hNew; clear hNew)
  try simp only [Ro.p]
  iterate 3 ((first | refine Ro.tF 21 ?_ | (refine Ro.tN 21 ?_ ?_ ?_; rotate_left; · (intro wS hSw; (try dsimp only at hSw); go_simp; try with_reducible rfl))); try simp only [Ro.p])
  refine wpAnyH_done (by kernel_rfl) ?_ _
  have x9 := hHeld.2.2.2.2.2.2.2.2
  clear hHeld
  go_wp2
  go_ret
  exact ⟨ret_bool E.out, s0.trans x9⟩
 | true =>
  by_cases hs : 2 ≤ sl ∧ sl ≤ 16
  ·have MD := fun w' => modulus_any sl.toNat (by omega) w'
   rw [show ((sl.toNat : Nat) : Int) = sl by omega] at MD
   rw [decide_eq_true hs] at WS
   by_cases hc : 1 ≤ cp ∧ cp ≤ 16
   ·rw [decide_eq_true hc] at WC
    have E : Hid (decide (sa < sl * 1048576) = G) := Lib.hid (by rw [← HG.out, decide_eq_decide]; simp [hs, hc])
    clear HG hs hc
    go_enter Tryz.func124, Tryz.ntmps124
    go_wp2_with fail
    generalize w.alloc (.cells #[.int .i64 k, .int .i64 wd, .int .i64 sl, .int .i64 cp, .int .u32 sa, .slice ia il ic, .int .i64 ow, .slice ra rl rc] 43) = wa at *
    generalize w.heap.size = q at *
    refine wp_region_held_drew (S := fun w' => w'.cell? ⟨q, 0, none⟩ = some (.int .i64 k) ∧ w'.cell? ⟨q, 1, none⟩ = some (.int .i64 wd) ∧ w'.cell? ⟨q, 2, none⟩ = some (.int .i64 sl) ∧ w'.cell? ⟨q, 3, none⟩ = some (.int .i64 cp) ∧ w'.cell? ⟨q, 4, none⟩ = some (.int .u32 sa) ∧ w'.cell? ⟨q, 5, none⟩ = some (.slice ia il ic) ∧ w'.cell? ⟨q, 6, none⟩ = some (.int .i64 ow) ∧ w'.cell? ⟨q, 7, none⟩ = some (.slice ra rl rc) ∧ Same wa w') (by kernel_rfl) ?_ (fun hHeld => ?_)
    ·exact four_cells HB.out (Same.refl _).drew
    first
     | (refine Ro.tf 0 ?_)
     | (refine Ro.tn 0 ?_ ?_ ?_; rotate_left; · (intro wS hSw; (try dsimp only at hSw); go_simp; try with_reducible rfl))
    try simp only [Ro.p]
    first
     | (refine Ro.tf 1 ?_)
     | (refine Ro.one_on (i := 1) rfl (by kernel_rfl) (by rfl) (fun K hK => ?_); go_simp; go_at_call 153; (with_reducible refine (HR _).mono ?_); rintro e w' ⟨rfl, hs9⟩; (first | refine hK.out _ _ ?_ (fun hNew => ?_) | (go_wp2_with fail; refine hK.out _ _ ?_ (fun hNew => ?_))); (· (exact four_cells HB.out (hHeld.2.2.2.2.2.2.2.2.trans hs9))); clear hK K hHeld; have hHeld := hNew; clear hNew)
    try simp only [Ro.p]
    iterate 3 ((first | refine Ro.tF 21 ?_ | (refine Ro.tN 21 ?_ ?_ ?_; rotate_left; · (intro wS hSw; (try dsimp only at hSw); go_simp; try with_reducible rfl))); try simp only [Ro.p])
    first
     | (refine Ro.tf 5 ?_)
     | (refine Ro.one_on (i := 5) rfl (by kernel_rfl) (by rfl) (fun K hK => ?_); go_simp; go_at_call 156; (with_reducible refine (WS _).mono ?_); rintro e w' ⟨rfl, rfl⟩; (first | refine hK.out _ _ ?_ (fun hNew => ?_) | (go_wp2_with fail; refine hK.out _ _ ?_ (fun hNew => ?_))); (· (exact hHeld)); clear hK K hHeld; have hHeld := hNew; clear hNew)
    try simp only [Ro.p]
    iterate 4 ((first | refine Ro.tF 21 ?_ | (refine Ro.tN 21 ?_ ?_ ?_; rotate_left; · (intro wS hSw; (try dsimp only at hSw); go_simp; try with_reducible rfl))); try simp only [Ro.p])
    first
     | (refine Ro.tf 10 ?_)
     | (refine Ro.one_on (i := 10) rfl (by kernel_rfl) (by rfl) (fun K hK => ?_); go_simp; go_at_call 156; (with_reducible refine (WC _).mono ?_); rintro e w' ⟨rfl, rfl⟩; (first | refine hK.out _ _ ?_ (fun hNew => ?_) | (go_wp2_with fail; refine hK.out _ _ ?_ (fun hNew => ?_))); (· (exact hHeld)); clear hK K hHeld; have hHeld := hNew; clear hNew)
    try simp only [Ro.p]
    iterate 6 ((first | refine Ro.tF 21 ?_ | (refine Ro.tN 21 ?_ ?_ ?_; rotate_left; · (intro wS hSw; (try dsimp only at hSw); go_simp; try with_reducible rfl))); try simp only [Ro.p])
    first
     | (refine Ro.tf 17 ?_)
     | (refine Ro.one_on (i := 17) rfl (by kernel_rfl) (by rfl) (fun K hK => ?_); go_simp; go_at_call 158; (with_reducible refine (MD _).mono ?_); rintro e w' ⟨rfl, rfl⟩; (first | refine hK.out _ _ ?_ (fun hNew => ?_) | (go_wp2_with fail; refine hK.out _ _ ?_ (fun hNew => ?_))); (· (exact hHeld)); clear hK K hHeld; have hHeld := hNew; clear hNew)
    try simp only [Ro.p]
    iterate 3 ((first | refine Ro.tF 21 ?_ | (refine Ro.tN 21 ?_ ?_ ?_; rotate_left; · (intro wS hSw; (try dsimp only at hSw); go_simp; try with_reducible rfl))); try simp only [Ro.p])
    refine wpAnyH_done (by kernel_rfl) ?_ _
    have x9 := hHeld.2.2.2.2.2.2.2.2
    clear hHeld
    go_wp2
    go_ret
    exact ⟨ret_bool E.out, s0.trans x9⟩
   ·rw [decide_eq_false hc] at WC
    have E : Hid (false = G) := Lib.hid (by rw [← HG.out]; simp [hc])
    clear HG hs hc
    go_enter Tryz.func124, Tryz.ntmps124
    go_wp2_with fail
    generalize w.alloc (.cells #[.int .i64 k, .int .i64 wd, .int .i64 sl, .int .i64 cp, .int .u32 sa, .slice ia il ic, .int .i64 ow, .slice ra rl rc] 43) = wa at *
    generalize w.heap.size = q at *
    refine wp_region_held_drew (S := fun w' => w'.cell? ⟨q, 0, none⟩ = some (.int .i64 k) ∧ w'.cell? ⟨q, 1, none⟩ = some (.int .i64 wd) ∧ w'.cell? ⟨q, 2, none⟩ = some (.int .i64 sl) ∧ w'.cell? ⟨q, 3, none⟩ = some (.int .i64 cp) ∧ w'.cell? ⟨q, 4, none⟩ = some (.int .u32 sa) ∧ w'.cell? ⟨q, 5, none⟩ = some (.slice ia il ic) ∧ w'.cell? ⟨q, 6, none⟩ = some (.int .i64 ow) ∧ w'.cell? ⟨q, 7, none⟩ = some (.slice ra rl rc) ∧ Same wa w') (by kernel_rfl) ?_ (fun hHeld => ?_)
    ·exact four_cells HB.out (Same.refl _).drew
    first
     | (refine Ro.tf 0 ?_)
     | (refine Ro.tn 0 ?_ ?_ ?_; rotate_left; · (intro wS hSw; (try dsimp only at hSw); go_simp; try with_reducible rfl))
    try simp only [Ro.p]
    first
     | (refine Ro.tf 1 ?_)
     | (refine Ro.one_on (i := 1) rfl (by kernel_rfl) (by rfl) (fun K hK => ?_); go_simp; go_at_call 153; (with_reducible refine (HR _).mono ?_); rintro e w' ⟨rfl, hs9⟩; (first | refine hK.out _ _ ?_ (fun hNew => ?_) | (go_wp2_with fail; refine hK.out _ _ ?_ (fun hNew => ?_))); (· (exact four_cells HB.out (hHeld.2.2.2.2.2.2.2.2.trans hs9))); clear hK K hHeld; have hHeld := hNew; clear hNew)
    try simp only [Ro.p]
    iterate 3 ((first | refine Ro.tF 21 ?_ | (refine Ro.tN 21 ?_ ?_ ?_; rotate_left; · (intro wS hSw; (try dsimp only at hSw); go_simp; try with_reducible rfl))); try simp only [Ro.p])
    first
     | (refine Ro.tf 5 ?_)
     | (refine Ro.one_on (i := 5) rfl (by kernel_rfl) (by rfl) (fun K hK => ?_); go_simp; go_at_call 156; (with_reducible refine (WS _).mono ?_); rintro e w' ⟨rfl, rfl⟩; (first | refine hK.out _ _ ?_ (fun hNew => ?_) | (go_wp2_with fail; refine hK.out _ _ ?_ (fun hNew => ?_))); (· (exact hHeld)); clear hK K hHeld; have hHeld := hNew; clear hNew)
    try simp only [Ro.p]
    iterate 4 ((first | refine Ro.tF 21 ?_ | (refine Ro.tN 21 ?_ ?_ ?_; rotate_left; · (intro wS hSw; (try dsimp only at hSw); go_simp; try with_reducible rfl))); try simp only [Ro.p])
    first
     | (refine Ro.tf 10 ?_)
     | (refine Ro.one_on (i := 10) rfl (by kernel_rfl) (by rfl) (fun K hK => ?_); go_simp; go_at_call 156; (with_reducible refine (WC _).mono ?_); rintro e w' ⟨rfl, rfl⟩; (first | refine hK.out _ _ ?_ (fun hNew => ?_) | (go_wp2_with fail; refine hK.out _ _ ?_ (fun hNew => ?_))); (· (exact hHeld)); clear hK K hHeld; have hHeld := hNew; clear hNew)
    try simp only [Ro.p]
    iterate 6 ((first | refine Ro.tF 21 ?_ | (refine Ro.tN 21 ?_ ?_ ?_; rotate_left; · (intro wS hSw; (try dsimp only at hSw); go_simp; try with_reducible rfl))); try simp only [Ro.p])
    first
     | (refine Ro.tf 17 ?_)
     | (refine Ro.one_on (i := 17) rfl (by kernel_rfl) (by rfl) (fun K hK => ?_); go_simp; go_at_call 158; (with_reducible refine (MD _).mono ?_); rintro e w' ⟨rfl, rfl⟩; (first | refine hK.out _ _ ?_ (fun hNew => ?_) | (go_wp2_with fail; refine hK.out _ _ ?_ (fun hNew => ?_))); (· (exact hHeld)); clear hK K hHeld; have hHeld := hNew; clear hNew)
    try simp only [Ro.p]
    iterate 3 ((first | refine Ro.tF 21 ?_ | (refine Ro.tN 21 ?_ ?_ ?_; rotate_left; · (intro wS hSw; (try dsimp only at hSw); go_simp; try with_reducible rfl))); try simp only [Ro.p])
    refine wpAnyH_done (by kernel_rfl) ?_ _
    have x9 := hHeld.2.2.2.2.2.2.2.2
    clear hHeld
    go_wp2
    go_ret
    exact ⟨ret_bool E.out, s0.trans x9⟩
  ·rw [decide_eq_false hs] at WS
   have E : Hid (false = G) := Lib.hid (by rw [← HG.out]; simp [hs])
   clear HG hs
   go_enter Tryz.func124, Tryz.ntmps124
   go_wp2_with fail
   generalize w.alloc (.cells #[.int .i64 k, .int .i64 wd, .int .i64 sl, .int .i64 cp, .int .u32 sa, .slice ia il ic, .int .i64 ow, .slice ra rl rc] 43) = wa at *
   generalize w.heap.size = q at *
   refine wp_region_held_drew (S := fun w' => w'.cell? ⟨q, 0, none⟩ = some (.int .i64 k) ∧ w'.cell? ⟨q, 1, none⟩ = some (.int .i64 wd) ∧ w'.cell? ⟨q, 2, none⟩ = some (.int .i64 sl) ∧ w'.cell? ⟨q, 3, none⟩ = some (.int .i64 cp) ∧ w'.cell? ⟨q, 4, none⟩ = some (.int .u32 sa) ∧ w'.cell? ⟨q, 5, none⟩ = some (.slice ia il ic) ∧ w'.cell? ⟨q, 6, none⟩ = some (.int .i64 ow) ∧ w'.cell? ⟨q, 7, none⟩ = some (.slice ra rl rc) ∧ Same wa w') (by kernel_rfl) ?_ (fun hHeld => ?_)
   ·exact four_cells HB.out (Same.refl _).drew
   first
    | (refine Ro.tf 0 ?_)
    | (refine Ro.tn 0 ?_ ?_ ?_; rotate_left; · (intro wS hSw; (try dsimp only at hSw); go_simp; try with_reducible rfl))
   try simp only [Ro.p]
   first
    | (refine Ro.tf 1 ?_)
    | (refine Ro.one_on (i := 1) rfl (by kernel_rfl) (by rfl) (fun K hK => ?_); go_simp; go_at_call 153; (with_reducible refine (HR _).mono ?_); rintro e w' ⟨rfl, hs9⟩; (first | refine hK.out _ _ ?_ (fun hNew => ?_) | (go_wp2_with fail; refine hK.out _ _ ?_ (fun hNew => ?_))); (· (exact four_cells HB.out (hHeld.2.2.2.2.2.2.2.2.trans hs9))); clear hK K hHeld; have hHeld := hNew; clear hNew)
   try simp only [Ro.p]
   iterate 3 ((first | refine Ro.tF 21 ?_ | (refine Ro.tN 21 ?_ ?_ ?_; rotate_left; · (intro wS hSw; (try dsimp only at hSw); go_simp; try with_reducible rfl))); try simp only [Ro.p])
   first
    | (refine Ro.tf 5 ?_)
    | (refine Ro.one_on (i := 5) rfl (by kernel_rfl) (by rfl) (fun K hK => ?_); go_simp; go_at_call 156; (with_reducible refine (WS _).mono ?_); rintro e w' ⟨rfl, rfl⟩; (first | refine hK.out _ _ ?_ (fun hNew => ?_) | (go_wp2_with fail; refine hK.out _ _ ?_ (fun hNew => ?_))); (· (exact hHeld)); clear hK K hHeld; have hHeld := hNew; clear hNew)
   try simp only [Ro.p]
   iterate 4 ((first | refine Ro.tF 21 ?_ | (refine Ro.tN 21 ?_ ?_ ?_; rotate_left; · (intro wS hSw; (try dsimp only at hSw); go_simp; try with_reducible rfl))); try simp only [Ro.p])
   first
    | (refine Ro.tf 10 ?_)
    | (refine Ro.one_on (i := 10) rfl (by kernel_rfl) (by rfl) (fun K hK => ?_); go_simp; go_at_call 156; (with_reducible refine (WC _).mono ?_); rintro e w' ⟨rfl, rfl⟩; (first | refine hK.out _ _ ?_ (fun hNew => ?_) | (go_wp2_with fail; refine hK.out _ _ ?_ (fun hNew => ?_))); (· (exact hHeld)); clear hK K hHeld; have hHeld := hNew; clear hNew)
   try simp only [Ro.p]
   iterate 6 ((first | refine Ro.tF 21 ?_ | (refine Ro.tN 21 ?_ ?_ ?_; rotate_left; · (intro wS hSw; (try dsimp only at hSw); go_simp; try with_reducible rfl))); try simp only [Ro.p])
   first
    | (refine Ro.tf 17 ?_)
    | (refine Ro.one_on (i := 17) rfl (by kernel_rfl) (by rfl) (fun K hK => ?_); go_simp; go_at_call 158; (with_reducible refine (MD _).mono ?_); rintro e w' ⟨rfl, rfl⟩; (first | refine hK.out _ _ ?_ (fun hNew => ?_) | (go_wp2_with fail; refine hK.out _ _ ?_ (fun hNew => ?_))); (· (exact hHeld)); clear hK K hHeld; have hHeld := hNew; clear hNew)
   try simp only [Ro.p]
   iterate 3 ((first | refine Ro.tF 21 ?_ | (refine Ro.tN 21 ?_ ?_ ?_; rotate_left; · (intro wS hSw; (try dsimp only at hSw); go_simp; try with_reducible rfl))); try simp only [Ro.p])
   refine wpAnyH_done (by kernel_rfl) ?_ _
   have x9 := hHeld.2.2.2.2.2.2.2.2
   clear hHeld
   go_wp2
   go_ret
   exact ⟨ret_bool E.out, s0.trans x9⟩

theorem right_not (k wd sl cp sa ow : Int) (ia ra : Option Addr) (il ic rl rc : Nat) (hk : k ≠ 4) (w : World) (hsa : 0 ≤ sa ∧ sa < 4294967296 := by assumption) :
 Calls Tryz.prog 124 #[.agg #[.int .i64 k, .int .i64 wd, .int .i64 sl, .int .i64 cp, .int .u32 sa, .slice ia il ic, .int .i64 ow, .slice ra rl rc]] w fun e w' => e = .returned (.bool false) ∧ Same w w' := by
 have h := right_all k wd sl cp sa ow ia ra il ic rl rc w hsa
 have hb : regB k wd il rl 4 = false := by unfold regB; rw [decide_eq_false (by omega)]
 rw [hb] at h
 simpa using h
theorem right_any (wd sl cp sa ow : Int) (ia ra : Option Addr) (il ic rl rc : Nat) (w : World) (hsa : 0 ≤ sa ∧ sa < 4294967296 := by assumption) :
 Calls Tryz.prog 124 #[.agg #[.int .i64 4, .int .i64 wd, .int .i64 sl, .int .i64 cp, .int .u32 sa, .slice ia il ic, .int .i64 ow, .slice ra rl rc]] w fun e w' => e = .returned (.bool (rightB wd sl cp sa il rl)) ∧ Same w w' := by
 have h := right_all 4 wd sl cp sa ow ia ra il ic rl rc w hsa
 have e : decide (regB 4 wd il rl 4 = true ∧ (2 ≤ sl ∧ sl ≤ 16) ∧ (1 ≤ cp ∧ cp ≤ 16) ∧ sa < sl * 1048576) = rightB wd sl cp sa il rl := by
  unfold rightB regB
  rw [decide_eq_decide, decide_eq_true_eq]
  omega
 rw [e] at h
 exact h

end Go.Proofs.YthhbhbfkbncegabGreatDoor.Rg
end
section
set_option linter.unusedSimpArgs false
set_option linter.unusedVariables false
namespace Go.Proofs.YthhbhbfkbncegabGreatDoor.Rg
open Go.ChangeShapes Go.WideShapes Go.ChangeAt Go.RowKit Ws Mm Pa
open Go.Proofs.YthhbhbfkbncegabGreatDoor.Ob

theorem HQ {wd sl cp sa : Int} {il rl : Nat} (h : rightB wd sl cp sa il rl = true) : (1 ≤ wd ∧ wd ≤ 8) ∧ (il : Int) = wd ∧ (1 ≤ (rl : Int) ∧ (rl : Int) ≤ 4) ∧ (2 ≤ sl ∧ sl ≤ 16) ∧ (1 ≤ cp ∧ cp ≤ 16) ∧ sa < sl * 1048576 := by
 unfold rightB at h
 exact of_decide_eq_true h
def boundI (wd cp op : Int) : Int := if op = 2 then wd + 2 else if op = 1 then cp * (wd + 2) else 0
end Go.Proofs.YthhbhbfkbncegabGreatDoor.Rg
end
end
section
section
section
section
set_option linter.unusedSimpArgs false
set_option linter.unusedVariables false
namespace Go.Proofs.YthhbhbfkbncegabGreatDoor.Cb
open Go.ChangeShapes Go.WideShapes Go.ChangeAt Go.RowKit Ws Mm Pa
open Go.Proofs.YthhbhbfkbncegabGreatDoor.Ob

/-- whether an object of this kind may be -/
def rightB (wd sl cp sa : Int) (il rl : Nat) : Bool := decide ((1 ≤ wd ∧ wd ≤ 8) ∧ (il : Int) = wd ∧ (1 ≤ (rl : Int) ∧ (rl : Int) ≤ 4) ∧ ((rl : Int) + 2 ≤ sl ∧ sl ≤ 16) ∧ (1 ≤ cp ∧ cp ≤ 16) ∧ sa = 0)

theorem beq_dec (a b : Int) : (a == b) = decide (a = b) := by rw [Bool.eq_iff_iff]; simp
theorem right_not (k wd sl cp sa ow : Int) (ia ra : Option Addr) (il ic rl rc : Nat) (hk : k ≠ 5) (w : World) (hsa : 0 ≤ sa ∧ sa < 4294967296 := by assumption) :
 Calls Tryz.prog 128 #[.agg #[.int .i64 k, .int .i64 wd, .int .i64 sl, .int .i64 cp, .int .u32 sa, .slice ia il ic, .int .i64 ow, .slice ra rl rc]] w fun e w' => e = .returned (.bool false) ∧ Same w w' := by
 have hb : regB k wd il rl 5 = false := by unfold regB; rw [decide_eq_false (by omega)]
 have HR := fun w' => register_any 5 k wd sl cp sa ow ia ra il ic rl rc w'
 simp only [hb] at HR
 clear hb
 go_enter Tryz.func128, Tryz.ntmps128
 go_wp2_with fail
 refine (HR _).mono ?_
 rintro e w1 ⟨rfl, s1⟩
 go_wp2_with fail
 go_ret
 exact ⟨rfl, Same.trans ((Same.refl _).alloc _) s1⟩

set_option maxHeartbeats 400000 in
theorem right_any (wd sl cp sa ow : Int) (ia ra : Option Addr) (il ic rl rc : Nat) (w : World) (hsa : 0 ≤ sa ∧ sa < 4294967296 := by assumption) :
 Calls Tryz.prog 128 #[.agg #[.int .i64 5, .int .i64 wd, .int .i64 sl, .int .i64 cp, .int .u32 sa, .slice ia il ic, .int .i64 ow, .slice ra rl rc]] w fun e w' => e = .returned (.bool (rightB wd sl cp sa il rl)) ∧ Same w w' := by
 have s0 := (Same.refl w).alloc (.cells #[.int .i64 5, .int .i64 wd, .int .i64 sl, .int .i64 cp, .int .u32 sa, .slice ia il ic, .int .i64 ow, .slice ra rl rc] 43)
 have hb := Blk.new w 43 #[.int .i64 5, .int .i64 wd, .int .i64 sl, .int .i64 cp, .int .u32 sa, .slice ia il ic, .int .i64 ow, .slice ra rl rc]
 have HB := Lib.hid hb
 clear hb
 have HR := fun w' => register_any 5 5 wd sl cp sa ow ia ra il ic rl rc w'
 have WS := fun w' => within_any sl ((rl : Int) + 2) 16 w'
 have WC := fun w' => within_any cp 1 16 w'
 obtain ⟨G, hG⟩ : ∃ G, G = rightB wd sl cp sa il rl := ⟨_, rfl⟩
 rw [← hG]
 unfold rightB at hG
 cases hr : regB 5 wd il rl 5
 ·rw [hr] at HR
  have hr' : ¬ ((1 ≤ wd ∧ wd ≤ 8) ∧ (il : Int) = wd ∧ (1 ≤ (rl : Int) ∧ (rl : Int) ≤ 4)) := by
   intro h
   have h2 : regB 5 wd il rl 5 = true := decide_eq_true ⟨rfl, h⟩
   rw [hr] at h2
   cases h2
  have E : Hid (false = G) := Lib.hid (by rw [hG]; symm; apply decide_eq_false; intro h; exact hr' ⟨h.1, h.2.1, h.2.2.1⟩)
  clear hG hr hr'
  go_enter Tryz.func128, Tryz.ntmps128
  go_wp2_with fail
  refine (HR _).mono ?_
  rintro e w1 ⟨rfl, s1⟩
  obtain ⟨_, _, d2, d3, d4, _, _, d7⟩ := obj_cells (HB.out.same s1)
  have S := Lib.hid (s0.trans s1)
  clear HB s0 s1 HR
  generalize w.heap.size = q at *
  go_wp2_with fail
  go_ret
  exact ⟨ret_bool E.out, S.out⟩
 ·rw [hr] at HR
  have hr' : (1 ≤ wd ∧ wd ≤ 8) ∧ (il : Int) = wd ∧ (1 ≤ (rl : Int) ∧ (rl : Int) ≤ 4) := by
   unfold regB at hr
   exact (of_decide_eq_true hr).2
  have fr := i64_in ((rl : Int) + 2) (by omega)
  by_cases hs : (rl : Int) + 2 ≤ sl ∧ sl ≤ 16
  ·rw [decide_eq_true hs] at WS
   by_cases hc : 1 ≤ cp ∧ cp ≤ 16
   ·rw [decide_eq_true hc] at WC
    have E : Hid (decide (sa = 0) = G) := Lib.hid (by rw [hG, decide_eq_decide]; exact ⟨fun h => ⟨hr'.1, hr'.2.1, hr'.2.2, hs, hc, h⟩, fun h => h.2.2.2.2.2⟩)
    clear hG hr hr' hs hc
    go_enter Tryz.func128, Tryz.ntmps128
    go_wp2_with fail
    refine (HR _).mono ?_
    rintro e w1 ⟨rfl, s1⟩
    obtain ⟨_, _, d2, d3, d4, _, _, d7⟩ := obj_cells (HB.out.same s1)
    have S := Lib.hid (s0.trans s1)
    clear HB s0 s1 HR
    generalize w.heap.size = q at *
    go_wp2_with fail
    refine (WS _).mono ?_
    rintro e w2 ⟨rfl, rfl⟩
    go_wp2_with fail
    refine (WC _).mono ?_
    rintro e w2 ⟨rfl, rfl⟩
    go_wp2_with fail
    go_ret
    exact ⟨ret_bool (by rw [← E.out]; exact beq_dec _ _), S.out⟩
   ·rw [decide_eq_false hc] at WC
    have E : Hid (false = G) := Lib.hid (by rw [hG]; symm; apply decide_eq_false; intro h; exact hc h.2.2.2.2.1)
    clear hG hr hr' hs hc
    go_enter Tryz.func128, Tryz.ntmps128
    go_wp2_with fail
    refine (HR _).mono ?_
    rintro e w1 ⟨rfl, s1⟩
    obtain ⟨_, _, d2, d3, d4, _, _, d7⟩ := obj_cells (HB.out.same s1)
    have S := Lib.hid (s0.trans s1)
    clear HB s0 s1 HR
    generalize w.heap.size = q at *
    go_wp2_with fail
    refine (WS _).mono ?_
    rintro e w2 ⟨rfl, rfl⟩
    go_wp2_with fail
    refine (WC _).mono ?_
    rintro e w2 ⟨rfl, rfl⟩
    go_wp2_with fail
    go_ret
    exact ⟨ret_bool E.out, S.out⟩
  ·rw [decide_eq_false hs] at WS
   have E : Hid (false = G) := Lib.hid (by rw [hG]; symm; apply decide_eq_false; intro h; exact hs h.2.2.2.1)
   clear hG hr hr' hs
   go_enter Tryz.func128, Tryz.ntmps128
   go_wp2_with fail
   refine (HR _).mono ?_
   rintro e w1 ⟨rfl, s1⟩
   obtain ⟨_, _, d2, d3, d4, _, _, d7⟩ := obj_cells (HB.out.same s1)
   have S := Lib.hid (s0.trans s1)
   clear HB s0 s1 HR
   generalize w.heap.size = q at *
   go_wp2_with fail
   refine (WS _).mono ?_
   rintro e w2 ⟨rfl, rfl⟩
   go_wp2_with fail
   go_ret
   exact ⟨ret_bool E.out, S.out⟩

end Go.Proofs.YthhbhbfkbncegabGreatDoor.Cb
end
section
set_option linter.unusedSimpArgs false
set_option linter.unusedVariables false
namespace Go.Proofs.YthhbhbfkbncegabGreatDoor.Cb
open Go.ChangeShapes Go.WideShapes Go.ChangeAt Go.RowKit Ws Mm Pa
open Go.Proofs.YthhbhbfkbncegabGreatDoor.Ob

theorem HQ {wd sl cp sa : Int} {il rl : Nat} (h : rightB wd sl cp sa il rl = true) : (1 ≤ wd ∧ wd ≤ 8) ∧ (il : Int) = wd ∧ (1 ≤ (rl : Int) ∧ (rl : Int) ≤ 4) ∧ ((rl : Int) + 2 ≤ sl ∧ sl ≤ 16) ∧ (1 ≤ cp ∧ cp ≤ 16) ∧ sa = 0 := by
 unfold rightB at h
 exact of_decide_eq_true h
def boundI (wd cp : Int) (rl : Nat) (op : Int) : Int := if op = 2 then wd + rl + 2 else if op = 1 then 3 * cp + wd + 1 else 0
end Go.Proofs.YthhbhbfkbncegabGreatDoor.Cb
end
end
section
section
section
set_option linter.unusedSimpArgs false
set_option linter.unusedVariables false
namespace Go.Proofs.YthhbhbfkbncegabGreatDoor.Ch
open Go.ChangeShapes Go.WideShapes Go.ChangeAt Go.RowKit Ws Mm Pa
open Go.Proofs.YthhbhbfkbncegabGreatDoor.Ob

theorem slots_any (n : Nat) (hn : n ≤ 4) (w : World) :
 Calls Tryz.prog 155 #[.int .i64 n] w fun e w' => e = .returned (.int .i64 ((n + 2 : Nat) : Int)) ∧ w = w' := by
 have f1 := i64_in ((n : Int) + 2) (by omega)
 have E : Hid ((n : Int) + 2 = ((n + 2 : Nat) : Int)) := Lib.hid (by omega)
 clear hn
 go_enter Tryz.func155, Tryz.ntmps155
 go_wp2
 go_ret
 exact ⟨ret_int E.out, rfl⟩

/-- whether an object of this kind may be -/
def rightB (wd sl cp sa : Int) (il rl : Nat) : Bool := decide ((1 ≤ wd ∧ wd ≤ 8) ∧ (il : Int) = wd ∧ (1 ≤ (rl : Int) ∧ (rl : Int) ≤ 4) ∧ sl = 0 ∧ cp = 0 ∧ sa = 0)

theorem right_not (k wd sl cp sa ow : Int) (ia ra : Option Addr) (il ic rl rc : Nat) (hk : k ≠ 2) (w : World) (hsa : 0 ≤ sa ∧ sa < 4294967296 := by assumption) :
 Calls Tryz.prog 116 #[.agg #[.int .i64 k, .int .i64 wd, .int .i64 sl, .int .i64 cp, .int .u32 sa, .slice ia il ic, .int .i64 ow, .slice ra rl rc]] w fun e w' => e = .returned (.bool false) ∧ Same w w' := by
 have hb : regB k wd il rl 2 = false := by unfold regB; rw [decide_eq_false (by omega)]
 have HR := fun w' => register_any 2 k wd sl cp sa ow ia ra il ic rl rc w'
 simp only [hb] at HR
 clear hb
 go_enter Tryz.func116, Tryz.ntmps116
 go_wp2_with fail
 refine (HR _).mono ?_
 rintro e w1 ⟨rfl, s1⟩
 go_wp2_with fail
 go_ret
 exact ⟨rfl, Same.trans ((Same.refl _).alloc _) s1⟩

set_option maxHeartbeats 400000 in
theorem right_any (wd sl cp sa ow : Int) (ia ra : Option Addr) (il ic rl rc : Nat) (w : World) (hsa : 0 ≤ sa ∧ sa < 4294967296 := by assumption) :
 Calls Tryz.prog 116 #[.agg #[.int .i64 2, .int .i64 wd, .int .i64 sl, .int .i64 cp, .int .u32 sa, .slice ia il ic, .int .i64 ow, .slice ra rl rc]] w fun e w' => e = .returned (.bool (rightB wd sl cp sa il rl)) ∧ Same w w' := by
 have s0 := (Same.refl w).alloc (.cells #[.int .i64 2, .int .i64 wd, .int .i64 sl, .int .i64 cp, .int .u32 sa, .slice ia il ic, .int .i64 ow, .slice ra rl rc] 43)
 have hb := Blk.new w 43 #[.int .i64 2, .int .i64 wd, .int .i64 sl, .int .i64 cp, .int .u32 sa, .slice ia il ic, .int .i64 ow, .slice ra rl rc]
 have HB := Lib.hid hb
 clear hb
 cases hr : regB 2 wd il rl 2
 all_goals
  have HR := fun w' => register_any 2 2 wd sl cp sa ow ia ra il ic rl rc w'
  simp only [hr] at HR
  have hr2 := Lib.hid hr
  clear hr
  go_enter Tryz.func116, Tryz.ntmps116
  go_wp2_with fail
  refine (HR _).mono ?_
  rintro e w1 ⟨rfl, s1⟩
  obtain ⟨_, _, d2, d3, d4, _, _, d7⟩ := obj_cells (HB.out.same s1)
  have S := s0.trans s1
  clear HB s0 s1 HR
  generalize w.heap.size = q at *
  go_wp2
  all_goals
   go_ret
   have hr := hr2.out
   unfold regB at hr
   simp only [decide_eq_true_eq, decide_eq_false_iff_not] at hr
   refine ⟨ret_bool ?_, S⟩
   unfold rightB
   first
    | (rw [Bool.eq_iff_iff, decide_eq_true_eq, decide_eq_true_eq]; omega)
    | (rw [Bool.eq_iff_iff]; simp only [beq_iff_eq, bne_iff_ne, ne_eq, beq_eq_false_iff_ne, bne_eq_false_iff_eq, decide_eq_true_eq, Bool.false_eq_true, true_iff, false_iff, and_true, true_and, and_false, false_and] at *; omega)

end Go.Proofs.YthhbhbfkbncegabGreatDoor.Ch
end
section
set_option linter.unusedSimpArgs false
set_option linter.unusedVariables false
namespace Go.Proofs.YthhbhbfkbncegabGreatDoor.Ch
open Go.ChangeShapes Go.WideShapes Go.ChangeAt Go.RowKit Ws Mm Pa
open Go.Proofs.YthhbhbfkbncegabGreatDoor.Ob

theorem HQ {wd sl cp sa : Int} {il rl : Nat} (h : rightB wd sl cp sa il rl = true) : (1 ≤ wd ∧ wd ≤ 8) ∧ (il : Int) = wd ∧ (1 ≤ (rl : Int) ∧ (rl : Int) ≤ 4) ∧ sl = 0 ∧ cp = 0 ∧ sa = 0 := by
 unfold rightB at h
 exact of_decide_eq_true h
def boundI (wd cp : Int) (rl : Nat) (op : Int) : Int := if op = 2 then wd + 2 * rl + 2 else if op = 1 then wd + 4 else 0
end Go.Proofs.YthhbhbfkbncegabGreatDoor.Ch
end
end
section
section
section
set_option linter.unusedSimpArgs false
set_option linter.unusedVariables false
namespace Go.Proofs.YthhbhbfkbncegabGreatDoor.Sq
open Go.ChangeShapes Go.WideShapes Go.ChangeAt Go.RowKit Ws Mm Pa
open Go.Proofs.YthhbhbfkbncegabGreatDoor.Ob

/-- whether an object of this kind may be -/
def rightB (wd sl cp sa : Int) (il rl : Nat) : Bool := decide ((1 ≤ wd ∧ wd ≤ 8) ∧ (il : Int) = wd ∧ (1 ≤ (rl : Int) ∧ (rl : Int) ≤ 4) ∧ sl = 0 ∧ (1 ≤ cp ∧ cp ≤ 16) ∧ sa % 2 = 0)

theorem right_not (k wd sl cp sa ow : Int) (ia ra : Option Addr) (il ic rl rc : Nat) (hk : k ≠ 3) (w : World) (hsa : 0 ≤ sa ∧ sa < 4294967296 := by assumption) :
 Calls Tryz.prog 120 #[.agg #[.int .i64 k, .int .i64 wd, .int .i64 sl, .int .i64 cp, .int .u32 sa, .slice ia il ic, .int .i64 ow, .slice ra rl rc]] w fun e w' => e = .returned (.bool false) ∧ Same w w' := by
 have hb : regB k wd il rl 3 = false := by unfold regB; rw [decide_eq_false (by omega)]
 have HR := fun w' => register_any 3 k wd sl cp sa ow ia ra il ic rl rc w'
 simp only [hb] at HR
 clear hb
 go_enter Tryz.func120, Tryz.ntmps120
 go_wp2_with fail
 refine (HR _).mono ?_
 rintro e w1 ⟨rfl, s1⟩
 go_wp2_with fail
 go_ret
 exact ⟨rfl, Same.trans ((Same.refl _).alloc _) s1⟩

set_option maxHeartbeats 400000 in
theorem right_any (wd sl cp sa ow : Int) (ia ra : Option Addr) (il ic rl rc : Nat) (w : World) (hsa : 0 ≤ sa ∧ sa < 4294967296 := by assumption) :
 Calls Tryz.prog 120 #[.agg #[.int .i64 3, .int .i64 wd, .int .i64 sl, .int .i64 cp, .int .u32 sa, .slice ia il ic, .int .i64 ow, .slice ra rl rc]] w fun e w' => e = .returned (.bool (rightB wd sl cp sa il rl)) ∧ Same w w' := by
 have f1 := and_one sa hsa
 have s0 := (Same.refl w).alloc (.cells #[.int .i64 3, .int .i64 wd, .int .i64 sl, .int .i64 cp, .int .u32 sa, .slice ia il ic, .int .i64 ow, .slice ra rl rc] 43)
 have hb := Blk.new w 43 #[.int .i64 3, .int .i64 wd, .int .i64 sl, .int .i64 cp, .int .u32 sa, .slice ia il ic, .int .i64 ow, .slice ra rl rc]
 have HB := Lib.hid hb
 clear hb
 cases hr : regB 3 wd il rl 3
 all_goals
  have HR := fun w' => register_any 3 3 wd sl cp sa ow ia ra il ic rl rc w'
  simp only [hr] at HR
  have hr2 := Lib.hid hr
  clear hr
  go_enter Tryz.func120, Tryz.ntmps120
  go_wp2_with fail
  refine (HR _).mono ?_
  rintro e w1 ⟨rfl, s1⟩
  obtain ⟨_, _, d2, d3, d4, _, _, d7⟩ := obj_cells (HB.out.same s1)
  have S := s0.trans s1
  clear HB s0 s1 HR
  generalize w.heap.size = q at *
  go_wp2
  all_goals
   go_ret
   have hr := hr2.out
   unfold regB at hr
   simp only [decide_eq_true_eq, decide_eq_false_iff_not] at hr
   refine ⟨ret_bool ?_, S⟩
   unfold rightB
   first
    | (rw [Bool.eq_iff_iff, decide_eq_true_eq, decide_eq_true_eq]; omega)
    | (rw [Bool.eq_iff_iff]; simp only [Bool.not_eq_true', Bool.not_eq_eq_eq_not, Bool.not_true, Bool.not_false, beq_iff_eq, bne_iff_ne, ne_eq, beq_eq_false_iff_ne, bne_eq_false_iff_eq, decide_eq_true_eq, Bool.false_eq_true, true_iff, false_iff, and_true, true_and, and_false, false_and] at *; omega)

end Go.Proofs.YthhbhbfkbncegabGreatDoor.Sq
end
section
set_option linter.unusedSimpArgs false
set_option linter.unusedVariables false
namespace Go.Proofs.YthhbhbfkbncegabGreatDoor.Sq
open Go.ChangeShapes Go.WideShapes Go.ChangeAt Go.RowKit Ws Mm Pa
open Go.Proofs.YthhbhbfkbncegabGreatDoor.Ob

theorem HQ {wd sl cp sa : Int} {il rl : Nat} (h : rightB wd sl cp sa il rl = true) : (1 ≤ wd ∧ wd ≤ 8) ∧ (il : Int) = wd ∧ (1 ≤ (rl : Int) ∧ (rl : Int) ≤ 4) ∧ sl = 0 ∧ (1 ≤ cp ∧ cp ≤ 16) ∧ sa % 2 = 0 := by
 unfold rightB at h
 exact of_decide_eq_true h
def boundI (wd cp op : Int) : Int := if op = 2 then wd + 3 else if op = 1 then cp * (wd + 2) else 0
end Go.Proofs.YthhbhbfkbncegabGreatDoor.Sq
end
end
section
section
section
set_option linter.unusedSimpArgs false
set_option linter.unusedVariables false
namespace Go.Proofs.YthhbhbfkbncegabGreatDoor.Fo
open Go.ChangeShapes Go.WideShapes Go.ChangeAt Go.RowKit Ws Mm Pa
open Go.Proofs.YthhbhbfkbncegabGreatDoor.Ob

/-- whether an object of this kind may be -/
def rightB (wd sl cp sa : Int) (il rl : Nat) : Bool := decide ((1 ≤ wd ∧ wd ≤ 8) ∧ (il : Int) = wd ∧ (rl : Int) = 1 ∧ sl = 0 ∧ cp = 0 ∧ sa = 0)

theorem right_not (k wd sl cp sa ow : Int) (ia ra : Option Addr) (il ic rl rc : Nat) (hk : k ≠ 1) (w : World) :
 Calls Tryz.prog 112 #[.agg #[.int .i64 k, .int .i64 wd, .int .i64 sl, .int .i64 cp, .int .u32 sa, .slice ia il ic, .int .i64 ow, .slice ra rl rc]] w fun e w' => e = .returned (.bool false) ∧ Same w w' := by
 have hb : regB k wd il rl 1 = false := by unfold regB; rw [decide_eq_false (by omega)]
 have HR := fun w' => register_any 1 k wd sl cp sa ow ia ra il ic rl rc w'
 simp only [hb] at HR
 clear hb
 go_enter Tryz.func112, Tryz.ntmps112
 go_wp2_with fail
 refine (HR _).mono ?_
 rintro e w1 ⟨rfl, s1⟩
 go_wp2_with fail
 go_ret
 exact ⟨rfl, Same.trans ((Same.refl _).alloc _) s1⟩

set_option maxHeartbeats 400000 in
theorem right_any (wd sl cp sa ow : Int) (ia ra : Option Addr) (il ic rl rc : Nat) (w : World) :
 Calls Tryz.prog 112 #[.agg #[.int .i64 1, .int .i64 wd, .int .i64 sl, .int .i64 cp, .int .u32 sa, .slice ia il ic, .int .i64 ow, .slice ra rl rc]] w fun e w' => e = .returned (.bool (rightB wd sl cp sa il rl)) ∧ Same w w' := by
 have s0 := (Same.refl w).alloc (.cells #[.int .i64 1, .int .i64 wd, .int .i64 sl, .int .i64 cp, .int .u32 sa, .slice ia il ic, .int .i64 ow, .slice ra rl rc] 43)
 have hb := Blk.new w 43 #[.int .i64 1, .int .i64 wd, .int .i64 sl, .int .i64 cp, .int .u32 sa, .slice ia il ic, .int .i64 ow, .slice ra rl rc]
 have HB := Lib.hid hb
 clear hb
 cases hr : regB 1 wd il rl 1
 all_goals
  have HR := fun w' => register_any 1 1 wd sl cp sa ow ia ra il ic rl rc w'
  simp only [hr] at HR
  have hr2 := Lib.hid hr
  clear hr
  go_enter Tryz.func112, Tryz.ntmps112
  go_wp2_with fail
  refine (HR _).mono ?_
  rintro e w1 ⟨rfl, s1⟩
  obtain ⟨_, _, d2, d3, d4, _, _, d7⟩ := obj_cells (HB.out.same s1)
  have S := s0.trans s1
  clear HB s0 s1 HR
  generalize w.heap.size = q at *
  go_wp2
  all_goals
   go_ret
   have hr := hr2.out
   unfold regB at hr
   simp only [decide_eq_true_eq, decide_eq_false_iff_not] at hr
   refine ⟨ret_bool ?_, S⟩
   unfold rightB
   first
    | (rw [Bool.eq_iff_iff, decide_eq_true_eq, decide_eq_true_eq]; omega)
    | (rw [Bool.eq_iff_iff]; simp only [beq_iff_eq, bne_iff_ne, ne_eq, beq_eq_false_iff_ne, bne_eq_false_iff_eq, decide_eq_true_eq, Bool.false_eq_true, true_iff, false_iff, and_true, true_and, and_false, false_and] at *; omega)

end Go.Proofs.YthhbhbfkbncegabGreatDoor.Fo
end
section
set_option linter.unusedSimpArgs false
set_option linter.unusedVariables false
namespace Go.Proofs.YthhbhbfkbncegabGreatDoor.Fo
open Go.ChangeShapes Go.WideShapes Go.ChangeAt Go.RowKit Ws Mm Pa
open Go.Proofs.YthhbhbfkbncegabGreatDoor.Ob

theorem HQ {wd sl cp sa : Int} {il rl : Nat} (h : rightB wd sl cp sa il rl = true) : (1 ≤ wd ∧ wd ≤ 8) ∧ (il : Int) = wd ∧ (rl : Int) = 1 ∧ sl = 0 ∧ cp = 0 ∧ sa = 0 := by
 unfold rightB at h
 exact of_decide_eq_true h
def boundI (wd op : Int) : Int := if op = 2 then wd + 4 else if op = 1 then wd + 3 else 0
end Go.Proofs.YthhbhbfkbncegabGreatDoor.Fo
end
end
section
set_option linter.unusedVariables false
set_option linter.unusedSimpArgs false
namespace Go.Proofs.YthhbhbfkbncegabGreatDoor.Fc
open Go.ChangeShapes Go.WideShapes Go.ChangeAt Go.RowKit Ws

theorem ret_int {k : IntKind} {a b : Int} (h : a = b) : Ending.returned (.int k a) = .returned (.int k b) := by rw [h]
theorem ret_bool {a b : Bool} (h : a = b) : Ending.returned (.bool a) = .returned (.bool b) := by rw [h]
theorem results_cell2 {P : Program} {fn : Func} {p t : Tmp} {ty : TypeId} (h : fn.results = #[.cell p ty, .tmp t]) (tmps : Array Value) (w : World) (g : Nat) (T : TypeId) (cs : Array Value) (fr : Nat × Nat) (d : TypeDesc)
 (hp : tmps.getD p undef = .pointer (some ⟨g, 0, none⟩)) (hg : w.heap[g]? = some (.cells cs T fr))
 (hu : P.underlying ty = some d) (hd : (match d with | .struct _ | .array _ _ => true | _ => false) = true) (hi : (P.info? ty).map (·.size) = some cs.size) :
 (results fn tmps).run P w = .ok (.tuple #[.agg cs, tmps.getD t undef]) w := by
 have hp' : tmps[p]?.getD undef = .pointer (some ⟨g, 0, none⟩) := by simpa using hp
 simp [results, h, hp', asAddr, run_loadVar_row w g T ty cs fr d hg hu hd hi]
theorem face_size : (Tryz.prog.info? 119).map (·.size) = some 5 := by kernel_rfl
def rightF (k wd sl cp sa : Int) (il rl : Nat) : Bool := if k = 1 then Fo.rightB wd sl cp sa il rl else if k = 2 then Ch.rightB wd sl cp sa il rl else if k = 3 then Sq.rightB wd sl cp sa il rl else if k = 4 then Rg.rightB wd sl cp sa il rl else if k = 5 then Cb.rightB wd sl cp sa il rl else if k = 6 then Ff.rightB wd sl cp sa il rl else false
def boundF (k wd sl cp sa : Int) (il rl : Nat) (op : Int) : Int := if rightF k wd sl cp sa il rl = true then (if k = 1 then Fo.boundI wd op else if k = 2 then Ch.boundI wd cp rl op else if k = 3 then Sq.boundI wd cp op else if k = 4 then Rg.boundI wd cp op else if k = 5 then Cb.boundI wd cp rl op else if k = 6 then Ff.boundI wd op else 0) else 0
theorem right_1 (wd sl cp sa : Int) (il rl : Nat) : rightF 1 wd sl cp sa il rl = Fo.rightB wd sl cp sa il rl := by unfold rightF; simp
theorem right_2 (wd sl cp sa : Int) (il rl : Nat) : rightF 2 wd sl cp sa il rl = Ch.rightB wd sl cp sa il rl := by unfold rightF; simp
theorem right_3 (wd sl cp sa : Int) (il rl : Nat) : rightF 3 wd sl cp sa il rl = Sq.rightB wd sl cp sa il rl := by unfold rightF; simp
theorem right_4 (wd sl cp sa : Int) (il rl : Nat) : rightF 4 wd sl cp sa il rl = Rg.rightB wd sl cp sa il rl := by unfold rightF; simp
theorem right_5 (wd sl cp sa : Int) (il rl : Nat) : rightF 5 wd sl cp sa il rl = Cb.rightB wd sl cp sa il rl := by unfold rightF; simp
theorem right_6 (wd sl cp sa : Int) (il rl : Nat) : rightF 6 wd sl cp sa il rl = Ff.rightB wd sl cp sa il rl := by unfold rightF; simp
theorem right_none {k : Int} (wd sl cp sa : Int) (il rl : Nat) (h : k < 1 ∨ 6 < k) : rightF k wd sl cp sa il rl = false := by
 unfold rightF
 rw [if_neg (by omega), if_neg (by omega), if_neg (by omega), if_neg (by omega), if_neg (by omega), if_neg (by omega)]
theorem chg_setRow {S : Nat → Prop} {a b : World} (h : Chg S a b) {g : Nat} (hg : S g ∨ a.heap.size ≤ g) (cs : Array Value) : Chg S a (b.setRow g cs) := by
 refine ⟨h.os, h.tape, h.output, by simpa [World.setRow] using h.size, fun i hi hn => ?_⟩
 rw [← h.block i hi hn]
 unfold World.setRow
 simp only [Array.getElem?_modify]
 rw [if_neg]
 rintro rfl
 rcases hg with hg | hg
 ·exact hn hg
 ·omega
theorem row_blk {w : World} {g : Nat} {T : TypeId} {old cs : Array Value} (h : Blk w g T old) : Blk (w.setRow g cs) g T cs := setRow_heap w g old cs T (0, 0) h
theorem one_all {cs : List Value} (h : cs.all (fun v => v.oneCell') = true) : cs.toArray.all (·.oneCell') = true := by
 rw [List.all_toArray]
 exact h
theorem one_0 : (#[.string ⟨#[]⟩, .nilFunc, .nilFunc, .nilFunc, .nilFunc] : Array Value).all (·.oneCell') = true := one_all (by rfl)
theorem one_1 : (#[.string ⟨#[102, 111, 117, 114]⟩, .func (.func 112) #[] #[], .func (.func 113) #[] #[], .func (.func 114) #[] #[], .func (.func 115) #[] #[]] : Array Value).all (·.oneCell') = true := one_all (by rfl)
theorem one_2 : (#[.string ⟨#[99, 104, 101, 110]⟩, .func (.func 116) #[] #[], .func (.func 117) #[] #[], .func (.func 118) #[] #[], .func (.func 119) #[] #[]] : Array Value).all (·.oneCell') = true := one_all (by rfl)
theorem one_3 : (#[.string ⟨#[115, 101, 113]⟩, .func (.func 120) #[] #[], .func (.func 121) #[] #[], .func (.func 122) #[] #[], .func (.func 123) #[] #[]] : Array Value).all (·.oneCell') = true := one_all (by rfl)
theorem one_4 : (#[.string ⟨#[114, 105, 110, 103]⟩, .func (.func 124) #[] #[], .func (.func 125) #[] #[], .func (.func 126) #[] #[], .func (.func 127) #[] #[]] : Array Value).all (·.oneCell') = true := one_all (by rfl)
theorem one_5 : (#[.string ⟨#[99, 97, 98]⟩, .func (.func 128) #[] #[], .func (.func 129) #[] #[], .func (.func 130) #[] #[], .func (.func 131) #[] #[]] : Array Value).all (·.oneCell') = true := one_all (by rfl)
theorem one_6 : (#[.string ⟨#[102, 105, 102, 111]⟩, .func (.func 132) #[] #[], .func (.func 133) #[] #[], .func (.func 134) #[] #[], .func (.func 135) #[] #[]] : Array Value).all (·.oneCell') = true := one_all (by rfl)
set_option maxRecDepth 100000 in
theorem face_1 (w : World) : Calls Tryz.prog 99 #[.int .i64 1] w fun e w' => e = .returned (.tuple #[.agg #[.string ⟨#[102, 111, 117, 114]⟩, .func (.func 112) #[] #[], .func (.func 113) #[] #[], .func (.func 114) #[] #[], .func (.func 115) #[] #[]], .bool true]) ∧ Same w w' := by
 have HZ := Lib.hid (Blk.new w 119 #[.string ⟨#[]⟩, .nilFunc, .nilFunc, .nilFunc, .nilFunc])
 go_enter Tryz.func99, Tryz.ntmps99
 go_wp2_with (refine wpList_store_row rfl 119 (.tmp 2) (.tmp 7) rfl w.heap.size #[.string ⟨#[102, 111, 117, 114]⟩, .func (.func 112) #[] #[], .func (.func 113) #[] #[], .func (.func 114) #[] #[], .func (.func 115) #[] #[]] rfl rfl 119 #[.string ⟨#[]⟩, .nilFunc, .nilFunc, .nilFunc, .nilFunc] HZ.out face_size rfl one_1 ?_)
 refine bodyPost_ret (v := .tuple #[.agg #[.string ⟨#[102, 111, 117, 114]⟩, .func (.func 112) #[] #[], .func (.func 113) #[] #[], .func (.func 114) #[] #[], .func (.func 115) #[] #[]], .bool true]) (results_cell2 Tryz.results99 _ _ w.heap.size 119 #[.string ⟨#[102, 111, 117, 114]⟩, .func (.func 112) #[] #[], .func (.func 113) #[] #[], .func (.func 114) #[] #[], .func (.func 115) #[] #[]] (0, 0) _ rfl (row_blk HZ.out) Tryz.underlying119 rfl face_size) rfl ⟨rfl, ?_⟩
 exact chg_setRow ((Same.refl w).alloc _) (.inr (Nat.le_refl _)) _
set_option maxRecDepth 100000 in
theorem face_2 (w : World) : Calls Tryz.prog 99 #[.int .i64 2] w fun e w' => e = .returned (.tuple #[.agg #[.string ⟨#[99, 104, 101, 110]⟩, .func (.func 116) #[] #[], .func (.func 117) #[] #[], .func (.func 118) #[] #[], .func (.func 119) #[] #[]], .bool true]) ∧ Same w w' := by
 have HZ := Lib.hid (Blk.new w 119 #[.string ⟨#[]⟩, .nilFunc, .nilFunc, .nilFunc, .nilFunc])
 go_enter Tryz.func99, Tryz.ntmps99
 go_wp2_with (refine wpList_store_row rfl 119 (.tmp 2) (.tmp 10) rfl w.heap.size #[.string ⟨#[99, 104, 101, 110]⟩, .func (.func 116) #[] #[], .func (.func 117) #[] #[], .func (.func 118) #[] #[], .func (.func 119) #[] #[]] rfl rfl 119 #[.string ⟨#[]⟩, .nilFunc, .nilFunc, .nilFunc, .nilFunc] HZ.out face_size rfl one_2 ?_)
 refine bodyPost_ret (v := .tuple #[.agg #[.string ⟨#[99, 104, 101, 110]⟩, .func (.func 116) #[] #[], .func (.func 117) #[] #[], .func (.func 118) #[] #[], .func (.func 119) #[] #[]], .bool true]) (results_cell2 Tryz.results99 _ _ w.heap.size 119 #[.string ⟨#[99, 104, 101, 110]⟩, .func (.func 116) #[] #[], .func (.func 117) #[] #[], .func (.func 118) #[] #[], .func (.func 119) #[] #[]] (0, 0) _ rfl (row_blk HZ.out) Tryz.underlying119 rfl face_size) rfl ⟨rfl, ?_⟩
 exact chg_setRow ((Same.refl w).alloc _) (.inr (Nat.le_refl _)) _
set_option maxRecDepth 100000 in
theorem face_3 (w : World) : Calls Tryz.prog 99 #[.int .i64 3] w fun e w' => e = .returned (.tuple #[.agg #[.string ⟨#[115, 101, 113]⟩, .func (.func 120) #[] #[], .func (.func 121) #[] #[], .func (.func 122) #[] #[], .func (.func 123) #[] #[]], .bool true]) ∧ Same w w' := by
 have HZ := Lib.hid (Blk.new w 119 #[.string ⟨#[]⟩, .nilFunc, .nilFunc, .nilFunc, .nilFunc])
 go_enter Tryz.func99, Tryz.ntmps99
 go_wp2_with (refine wpList_store_row rfl 119 (.tmp 2) (.tmp 13) rfl w.heap.size #[.string ⟨#[115, 101, 113]⟩, .func (.func 120) #[] #[], .func (.func 121) #[] #[], .func (.func 122) #[] #[], .func (.func 123) #[] #[]] rfl rfl 119 #[.string ⟨#[]⟩, .nilFunc, .nilFunc, .nilFunc, .nilFunc] HZ.out face_size rfl one_3 ?_)
 refine bodyPost_ret (v := .tuple #[.agg #[.string ⟨#[115, 101, 113]⟩, .func (.func 120) #[] #[], .func (.func 121) #[] #[], .func (.func 122) #[] #[], .func (.func 123) #[] #[]], .bool true]) (results_cell2 Tryz.results99 _ _ w.heap.size 119 #[.string ⟨#[115, 101, 113]⟩, .func (.func 120) #[] #[], .func (.func 121) #[] #[], .func (.func 122) #[] #[], .func (.func 123) #[] #[]] (0, 0) _ rfl (row_blk HZ.out) Tryz.underlying119 rfl face_size) rfl ⟨rfl, ?_⟩
 exact chg_setRow ((Same.refl w).alloc _) (.inr (Nat.le_refl _)) _
set_option maxRecDepth 100000 in
theorem face_4 (w : World) : Calls Tryz.prog 99 #[.int .i64 4] w fun e w' => e = .returned (.tuple #[.agg #[.string ⟨#[114, 105, 110, 103]⟩, .func (.func 124) #[] #[], .func (.func 125) #[] #[], .func (.func 126) #[] #[], .func (.func 127) #[] #[]], .bool true]) ∧ Same w w' := by
 have HZ := Lib.hid (Blk.new w 119 #[.string ⟨#[]⟩, .nilFunc, .nilFunc, .nilFunc, .nilFunc])
 go_enter Tryz.func99, Tryz.ntmps99
 go_wp2_with (refine wpList_store_row rfl 119 (.tmp 2) (.tmp 16) rfl w.heap.size #[.string ⟨#[114, 105, 110, 103]⟩, .func (.func 124) #[] #[], .func (.func 125) #[] #[], .func (.func 126) #[] #[], .func (.func 127) #[] #[]] rfl rfl 119 #[.string ⟨#[]⟩, .nilFunc, .nilFunc, .nilFunc, .nilFunc] HZ.out face_size rfl one_4 ?_)
 refine bodyPost_ret (v := .tuple #[.agg #[.string ⟨#[114, 105, 110, 103]⟩, .func (.func 124) #[] #[], .func (.func 125) #[] #[], .func (.func 126) #[] #[], .func (.func 127) #[] #[]], .bool true]) (results_cell2 Tryz.results99 _ _ w.heap.size 119 #[.string ⟨#[114, 105, 110, 103]⟩, .func (.func 124) #[] #[], .func (.func 125) #[] #[], .func (.func 126) #[] #[], .func (.func 127) #[] #[]] (0, 0) _ rfl (row_blk HZ.out) Tryz.underlying119 rfl face_size) rfl ⟨rfl, ?_⟩
 exact chg_setRow ((Same.refl w).alloc _) (.inr (Nat.le_refl _)) _
set_option maxRecDepth 100000 in
theorem face_5 (w : World) : Calls Tryz.prog 99 #[.int .i64 5] w fun e w' => e = .returned (.tuple #[.agg #[.string ⟨#[99, 97, 98]⟩, .func (.func 128) #[] #[], .func (.func 129) #[] #[], .func (.func 130) #[] #[], .func (.func 131) #[] #[]], .bool true]) ∧ Same w w' := by
 have HZ := Lib.hid (Blk.new w 119 #[.string ⟨#[]⟩, .nilFunc, .nilFunc, .nilFunc, .nilFunc])
 go_enter Tryz.func99, Tryz.ntmps99
 go_wp2_with (refine wpList_store_row rfl 119 (.tmp 2) (.tmp 19) rfl w.heap.size #[.string ⟨#[99, 97, 98]⟩, .func (.func 128) #[] #[], .func (.func 129) #[] #[], .func (.func 130) #[] #[], .func (.func 131) #[] #[]] rfl rfl 119 #[.string ⟨#[]⟩, .nilFunc, .nilFunc, .nilFunc, .nilFunc] HZ.out face_size rfl one_5 ?_)
 refine bodyPost_ret (v := .tuple #[.agg #[.string ⟨#[99, 97, 98]⟩, .func (.func 128) #[] #[], .func (.func 129) #[] #[], .func (.func 130) #[] #[], .func (.func 131) #[] #[]], .bool true]) (results_cell2 Tryz.results99 _ _ w.heap.size 119 #[.string ⟨#[99, 97, 98]⟩, .func (.func 128) #[] #[], .func (.func 129) #[] #[], .func (.func 130) #[] #[], .func (.func 131) #[] #[]] (0, 0) _ rfl (row_blk HZ.out) Tryz.underlying119 rfl face_size) rfl ⟨rfl, ?_⟩
 exact chg_setRow ((Same.refl w).alloc _) (.inr (Nat.le_refl _)) _
set_option maxRecDepth 100000 in
theorem face_6 (w : World) : Calls Tryz.prog 99 #[.int .i64 6] w fun e w' => e = .returned (.tuple #[.agg #[.string ⟨#[102, 105, 102, 111]⟩, .func (.func 132) #[] #[], .func (.func 133) #[] #[], .func (.func 134) #[] #[], .func (.func 135) #[] #[]], .bool true]) ∧ Same w w' := by
 have HZ := Lib.hid (Blk.new w 119 #[.string ⟨#[]⟩, .nilFunc, .nilFunc, .nilFunc, .nilFunc])
 go_enter Tryz.func99, Tryz.ntmps99
 go_wp2_with (refine wpList_store_row rfl 119 (.tmp 2) (.tmp 22) rfl w.heap.size #[.string ⟨#[102, 105, 102, 111]⟩, .func (.func 132) #[] #[], .func (.func 133) #[] #[], .func (.func 134) #[] #[], .func (.func 135) #[] #[]] rfl rfl 119 #[.string ⟨#[]⟩, .nilFunc, .nilFunc, .nilFunc, .nilFunc] HZ.out face_size rfl one_6 ?_)
 refine bodyPost_ret (v := .tuple #[.agg #[.string ⟨#[102, 105, 102, 111]⟩, .func (.func 132) #[] #[], .func (.func 133) #[] #[], .func (.func 134) #[] #[], .func (.func 135) #[] #[]], .bool true]) (results_cell2 Tryz.results99 _ _ w.heap.size 119 #[.string ⟨#[102, 105, 102, 111]⟩, .func (.func 132) #[] #[], .func (.func 133) #[] #[], .func (.func 134) #[] #[], .func (.func 135) #[] #[]] (0, 0) _ rfl (row_blk HZ.out) Tryz.underlying119 rfl face_size) rfl ⟨rfl, ?_⟩
 exact chg_setRow ((Same.refl w).alloc _) (.inr (Nat.le_refl _)) _
set_option maxRecDepth 100000 in
theorem face_none (k : Int) (h : k < 1 ∨ 6 < k) (w : World) : Calls Tryz.prog 99 #[.int .i64 k] w fun e w' => e = .returned (.tuple #[.agg #[.string ⟨#[]⟩, .nilFunc, .nilFunc, .nilFunc, .nilFunc], .bool false]) ∧ Same w w' := by
 have HZ := Lib.hid (Blk.new w 119 #[.string ⟨#[]⟩, .nilFunc, .nilFunc, .nilFunc, .nilFunc])
 have b1 : (k == 1) = false := by rw [beq_eq_false_iff_ne]; omega
 have b2 : (k == 2) = false := by rw [beq_eq_false_iff_ne]; omega
 have b3 : (k == 3) = false := by rw [beq_eq_false_iff_ne]; omega
 have b4 : (k == 4) = false := by rw [beq_eq_false_iff_ne]; omega
 have b5 : (k == 5) = false := by rw [beq_eq_false_iff_ne]; omega
 have b6 : (k == 6) = false := by rw [beq_eq_false_iff_ne]; omega
 clear h
 go_enter Tryz.func99, Tryz.ntmps99
 go_wp2_with (refine wpList_store_row rfl 119 (.tmp 2) (.tmp 23) rfl w.heap.size #[.string ⟨#[]⟩, .nilFunc, .nilFunc, .nilFunc, .nilFunc] rfl rfl 119 #[.string ⟨#[]⟩, .nilFunc, .nilFunc, .nilFunc, .nilFunc] HZ.out face_size rfl one_0 ?_)
 refine bodyPost_ret (v := .tuple #[.agg #[.string ⟨#[]⟩, .nilFunc, .nilFunc, .nilFunc, .nilFunc], .bool false]) (results_cell2 Tryz.results99 _ _ w.heap.size 119 #[.string ⟨#[]⟩, .nilFunc, .nilFunc, .nilFunc, .nilFunc] (0, 0) _ rfl (row_blk HZ.out) Tryz.underlying119 rfl face_size) rfl ⟨rfl, ?_⟩
 exact chg_setRow ((Same.refl w).alloc _) (.inr (Nat.le_refl _)) _
set_option maxRecDepth 100000 in
theorem shaped_1 (wd sl cp sa ow : Int) (ia ra : Option Addr) (il ic rl rc : Nat) (w : World) :
 Calls Tryz.prog 87 #[.agg #[.int .i64 1, .int .i64 wd, .int .i64 sl, .int .i64 cp, .int .u32 sa, .slice ia il ic, .int .i64 ow, .slice ra rl rc]] w fun e w' => e = .returned (.bool (Fo.rightB wd sl cp sa il rl)) ∧ Same w w' := by
 have HC := Lib.hid (fun w' => Fo.right_any wd sl cp sa ow ia ra il ic rl rc w')
 have hb0 := Blk.new w 43 #[.int .i64 1, .int .i64 wd, .int .i64 sl, .int .i64 cp, .int .u32 sa, .slice ia il ic, .int .i64 ow, .slice ra rl rc]
 have HS0 := Lib.hid ((Same.refl w).alloc (.cells #[.int .i64 1, .int .i64 wd, .int .i64 sl, .int .i64 cp, .int .u32 sa, .slice ia il ic, .int .i64 ow, .slice ra rl rc] 43))
 have HB0 := Lib.hid hb0
 clear hb0
 generalize Fo.rightB wd sl cp sa il rl = rb at *
 go_enter Tryz.func87, Tryz.ntmps87
 go_wp2_with fail
 refine (face_1 _).mono ?_
 rintro e w2 ⟨rfl, s2⟩
 have HZ := Lib.hid (Blk.new w2 119 #[.string ⟨#[]⟩, .nilFunc, .nilFunc, .nilFunc, .nilFunc])
 have HS2 := Lib.hid (HS0.out.trans s2)
 have hb2 := HB0.out.same s2
 have hlt := hb2.lt
 have hb3 := (hb2.same ((Same.refl w2).alloc (.cells #[.string ⟨#[]⟩, .nilFunc, .nilFunc, .nilFunc, .nilFunc] 119)))
 have HB := Lib.hid (Blk.chg hb3 (chg_setRow (Chg.refl (fun i => i = w2.heap.size) _) (.inl rfl) #[.string ⟨#[102, 111, 117, 114]⟩, .func (.func 112) #[] #[], .func (.func 113) #[] #[], .func (.func 114) #[] #[], .func (.func 115) #[] #[]]) (by omega))
 have HF := Lib.hid (row_blk (cs := #[.string ⟨#[102, 111, 117, 114]⟩, .func (.func 112) #[] #[], .func (.func 113) #[] #[], .func (.func 114) #[] #[], .func (.func 115) #[] #[]]) HZ.out)
 have HS3 := Lib.hid (show Same w ((w2.alloc (.cells #[.string ⟨#[]⟩, .nilFunc, .nilFunc, .nilFunc, .nilFunc] 119)).setRow w2.heap.size #[.string ⟨#[102, 111, 117, 114]⟩, .func (.func 112) #[] #[], .func (.func 113) #[] #[], .func (.func 114) #[] #[], .func (.func 115) #[] #[]]) from chg_setRow (HS2.out.alloc _) (.inr HS2.out.size) _)
 clear s2 hb2 hb3 hlt HB0 HS0
 have d0 : ((w2.alloc (.cells #[.string ⟨#[]⟩, .nilFunc, .nilFunc, .nilFunc, .nilFunc] 119)).setRow w2.heap.size #[.string ⟨#[102, 111, 117, 114]⟩, .func (.func 112) #[] #[], .func (.func 113) #[] #[], .func (.func 114) #[] #[], .func (.func 115) #[] #[]]).cell? ⟨w.heap.size, 0, none⟩ = some (.int .i64 1) := HB.out.cell 0
 have d1 : ((w2.alloc (.cells #[.string ⟨#[]⟩, .nilFunc, .nilFunc, .nilFunc, .nilFunc] 119)).setRow w2.heap.size #[.string ⟨#[102, 111, 117, 114]⟩, .func (.func 112) #[] #[], .func (.func 113) #[] #[], .func (.func 114) #[] #[], .func (.func 115) #[] #[]]).cell? ⟨w.heap.size, 1, none⟩ = some (.int .i64 wd) := HB.out.cell 1
 have d2 : ((w2.alloc (.cells #[.string ⟨#[]⟩, .nilFunc, .nilFunc, .nilFunc, .nilFunc] 119)).setRow w2.heap.size #[.string ⟨#[102, 111, 117, 114]⟩, .func (.func 112) #[] #[], .func (.func 113) #[] #[], .func (.func 114) #[] #[], .func (.func 115) #[] #[]]).cell? ⟨w.heap.size, 2, none⟩ = some (.int .i64 sl) := HB.out.cell 2
 have d3 : ((w2.alloc (.cells #[.string ⟨#[]⟩, .nilFunc, .nilFunc, .nilFunc, .nilFunc] 119)).setRow w2.heap.size #[.string ⟨#[102, 111, 117, 114]⟩, .func (.func 112) #[] #[], .func (.func 113) #[] #[], .func (.func 114) #[] #[], .func (.func 115) #[] #[]]).cell? ⟨w.heap.size, 3, none⟩ = some (.int .i64 cp) := HB.out.cell 3
 have d4 : ((w2.alloc (.cells #[.string ⟨#[]⟩, .nilFunc, .nilFunc, .nilFunc, .nilFunc] 119)).setRow w2.heap.size #[.string ⟨#[102, 111, 117, 114]⟩, .func (.func 112) #[] #[], .func (.func 113) #[] #[], .func (.func 114) #[] #[], .func (.func 115) #[] #[]]).cell? ⟨w.heap.size, 4, none⟩ = some (.int .u32 sa) := HB.out.cell 4
 have d5 : ((w2.alloc (.cells #[.string ⟨#[]⟩, .nilFunc, .nilFunc, .nilFunc, .nilFunc] 119)).setRow w2.heap.size #[.string ⟨#[102, 111, 117, 114]⟩, .func (.func 112) #[] #[], .func (.func 113) #[] #[], .func (.func 114) #[] #[], .func (.func 115) #[] #[]]).cell? ⟨w.heap.size, 5, none⟩ = some (.slice ia il ic) := HB.out.cell 5
 have d6 : ((w2.alloc (.cells #[.string ⟨#[]⟩, .nilFunc, .nilFunc, .nilFunc, .nilFunc] 119)).setRow w2.heap.size #[.string ⟨#[102, 111, 117, 114]⟩, .func (.func 112) #[] #[], .func (.func 113) #[] #[], .func (.func 114) #[] #[], .func (.func 115) #[] #[]]).cell? ⟨w.heap.size, 6, none⟩ = some (.int .i64 ow) := HB.out.cell 6
 have d7 : ((w2.alloc (.cells #[.string ⟨#[]⟩, .nilFunc, .nilFunc, .nilFunc, .nilFunc] 119)).setRow w2.heap.size #[.string ⟨#[102, 111, 117, 114]⟩, .func (.func 112) #[] #[], .func (.func 113) #[] #[], .func (.func 114) #[] #[], .func (.func 115) #[] #[]]).cell? ⟨w.heap.size, 7, none⟩ = some (.slice ra rl rc) := HB.out.cell 7
 have df : ((w2.alloc (.cells #[.string ⟨#[]⟩, .nilFunc, .nilFunc, .nilFunc, .nilFunc] 119)).setRow w2.heap.size #[.string ⟨#[102, 111, 117, 114]⟩, .func (.func 112) #[] #[], .func (.func 113) #[] #[], .func (.func 114) #[] #[], .func (.func 115) #[] #[]]).cell? ⟨w2.heap.size, 1, none⟩ = some (.func (.func 112) #[] #[]) := HF.out.cell 1
 go_wp2_with (refine wpList_store_row rfl 119 (.tmp 3) (.tmp 9) rfl w2.heap.size #[.string ⟨#[102, 111, 117, 114]⟩, .func (.func 112) #[] #[], .func (.func 113) #[] #[], .func (.func 114) #[] #[], .func (.func 115) #[] #[]] rfl rfl 119 #[.string ⟨#[]⟩, .nilFunc, .nilFunc, .nilFunc, .nilFunc] HZ.out face_size rfl one_1 ?_)
 refine (HC.out _).mono ?_
 rintro e w4 ⟨rfl, s4⟩
 go_wp2_with fail
 go_ret
 exact ⟨rfl, HS3.out.trans s4⟩
set_option maxRecDepth 100000 in
theorem shaped_2 (wd sl cp sa ow : Int) (ia ra : Option Addr) (il ic rl rc : Nat) (w : World) (hsa : 0 ≤ sa ∧ sa < 4294967296 := by assumption) :
 Calls Tryz.prog 87 #[.agg #[.int .i64 2, .int .i64 wd, .int .i64 sl, .int .i64 cp, .int .u32 sa, .slice ia il ic, .int .i64 ow, .slice ra rl rc]] w fun e w' => e = .returned (.bool (Ch.rightB wd sl cp sa il rl)) ∧ Same w w' := by
 have HC := Lib.hid (fun w' => Ch.right_any wd sl cp sa ow ia ra il ic rl rc w')
 have hb0 := Blk.new w 43 #[.int .i64 2, .int .i64 wd, .int .i64 sl, .int .i64 cp, .int .u32 sa, .slice ia il ic, .int .i64 ow, .slice ra rl rc]
 have HS0 := Lib.hid ((Same.refl w).alloc (.cells #[.int .i64 2, .int .i64 wd, .int .i64 sl, .int .i64 cp, .int .u32 sa, .slice ia il ic, .int .i64 ow, .slice ra rl rc] 43))
 have HB0 := Lib.hid hb0
 clear hb0
 generalize Ch.rightB wd sl cp sa il rl = rb at *
 go_enter Tryz.func87, Tryz.ntmps87
 go_wp2_with fail
 refine (face_2 _).mono ?_
 rintro e w2 ⟨rfl, s2⟩
 have HZ := Lib.hid (Blk.new w2 119 #[.string ⟨#[]⟩, .nilFunc, .nilFunc, .nilFunc, .nilFunc])
 have HS2 := Lib.hid (HS0.out.trans s2)
 have hb2 := HB0.out.same s2
 have hlt := hb2.lt
 have hb3 := (hb2.same ((Same.refl w2).alloc (.cells #[.string ⟨#[]⟩, .nilFunc, .nilFunc, .nilFunc, .nilFunc] 119)))
 have HB := Lib.hid (Blk.chg hb3 (chg_setRow (Chg.refl (fun i => i = w2.heap.size) _) (.inl rfl) #[.string ⟨#[99, 104, 101, 110]⟩, .func (.func 116) #[] #[], .func (.func 117) #[] #[], .func (.func 118) #[] #[], .func (.func 119) #[] #[]]) (by omega))
 have HF := Lib.hid (row_blk (cs := #[.string ⟨#[99, 104, 101, 110]⟩, .func (.func 116) #[] #[], .func (.func 117) #[] #[], .func (.func 118) #[] #[], .func (.func 119) #[] #[]]) HZ.out)
 have HS3 := Lib.hid (show Same w ((w2.alloc (.cells #[.string ⟨#[]⟩, .nilFunc, .nilFunc, .nilFunc, .nilFunc] 119)).setRow w2.heap.size #[.string ⟨#[99, 104, 101, 110]⟩, .func (.func 116) #[] #[], .func (.func 117) #[] #[], .func (.func 118) #[] #[], .func (.func 119) #[] #[]]) from chg_setRow (HS2.out.alloc _) (.inr HS2.out.size) _)
 clear s2 hb2 hb3 hlt HB0 HS0
 have d0 : ((w2.alloc (.cells #[.string ⟨#[]⟩, .nilFunc, .nilFunc, .nilFunc, .nilFunc] 119)).setRow w2.heap.size #[.string ⟨#[99, 104, 101, 110]⟩, .func (.func 116) #[] #[], .func (.func 117) #[] #[], .func (.func 118) #[] #[], .func (.func 119) #[] #[]]).cell? ⟨w.heap.size, 0, none⟩ = some (.int .i64 2) := HB.out.cell 0
 have d1 : ((w2.alloc (.cells #[.string ⟨#[]⟩, .nilFunc, .nilFunc, .nilFunc, .nilFunc] 119)).setRow w2.heap.size #[.string ⟨#[99, 104, 101, 110]⟩, .func (.func 116) #[] #[], .func (.func 117) #[] #[], .func (.func 118) #[] #[], .func (.func 119) #[] #[]]).cell? ⟨w.heap.size, 1, none⟩ = some (.int .i64 wd) := HB.out.cell 1
 have d2 : ((w2.alloc (.cells #[.string ⟨#[]⟩, .nilFunc, .nilFunc, .nilFunc, .nilFunc] 119)).setRow w2.heap.size #[.string ⟨#[99, 104, 101, 110]⟩, .func (.func 116) #[] #[], .func (.func 117) #[] #[], .func (.func 118) #[] #[], .func (.func 119) #[] #[]]).cell? ⟨w.heap.size, 2, none⟩ = some (.int .i64 sl) := HB.out.cell 2
 have d3 : ((w2.alloc (.cells #[.string ⟨#[]⟩, .nilFunc, .nilFunc, .nilFunc, .nilFunc] 119)).setRow w2.heap.size #[.string ⟨#[99, 104, 101, 110]⟩, .func (.func 116) #[] #[], .func (.func 117) #[] #[], .func (.func 118) #[] #[], .func (.func 119) #[] #[]]).cell? ⟨w.heap.size, 3, none⟩ = some (.int .i64 cp) := HB.out.cell 3
 have d4 : ((w2.alloc (.cells #[.string ⟨#[]⟩, .nilFunc, .nilFunc, .nilFunc, .nilFunc] 119)).setRow w2.heap.size #[.string ⟨#[99, 104, 101, 110]⟩, .func (.func 116) #[] #[], .func (.func 117) #[] #[], .func (.func 118) #[] #[], .func (.func 119) #[] #[]]).cell? ⟨w.heap.size, 4, none⟩ = some (.int .u32 sa) := HB.out.cell 4
 have d5 : ((w2.alloc (.cells #[.string ⟨#[]⟩, .nilFunc, .nilFunc, .nilFunc, .nilFunc] 119)).setRow w2.heap.size #[.string ⟨#[99, 104, 101, 110]⟩, .func (.func 116) #[] #[], .func (.func 117) #[] #[], .func (.func 118) #[] #[], .func (.func 119) #[] #[]]).cell? ⟨w.heap.size, 5, none⟩ = some (.slice ia il ic) := HB.out.cell 5
 have d6 : ((w2.alloc (.cells #[.string ⟨#[]⟩, .nilFunc, .nilFunc, .nilFunc, .nilFunc] 119)).setRow w2.heap.size #[.string ⟨#[99, 104, 101, 110]⟩, .func (.func 116) #[] #[], .func (.func 117) #[] #[], .func (.func 118) #[] #[], .func (.func 119) #[] #[]]).cell? ⟨w.heap.size, 6, none⟩ = some (.int .i64 ow) := HB.out.cell 6
 have d7 : ((w2.alloc (.cells #[.string ⟨#[]⟩, .nilFunc, .nilFunc, .nilFunc, .nilFunc] 119)).setRow w2.heap.size #[.string ⟨#[99, 104, 101, 110]⟩, .func (.func 116) #[] #[], .func (.func 117) #[] #[], .func (.func 118) #[] #[], .func (.func 119) #[] #[]]).cell? ⟨w.heap.size, 7, none⟩ = some (.slice ra rl rc) := HB.out.cell 7
 have df : ((w2.alloc (.cells #[.string ⟨#[]⟩, .nilFunc, .nilFunc, .nilFunc, .nilFunc] 119)).setRow w2.heap.size #[.string ⟨#[99, 104, 101, 110]⟩, .func (.func 116) #[] #[], .func (.func 117) #[] #[], .func (.func 118) #[] #[], .func (.func 119) #[] #[]]).cell? ⟨w2.heap.size, 1, none⟩ = some (.func (.func 116) #[] #[]) := HF.out.cell 1
 go_wp2_with (refine wpList_store_row rfl 119 (.tmp 3) (.tmp 9) rfl w2.heap.size #[.string ⟨#[99, 104, 101, 110]⟩, .func (.func 116) #[] #[], .func (.func 117) #[] #[], .func (.func 118) #[] #[], .func (.func 119) #[] #[]] rfl rfl 119 #[.string ⟨#[]⟩, .nilFunc, .nilFunc, .nilFunc, .nilFunc] HZ.out face_size rfl one_2 ?_)
 refine (HC.out _).mono ?_
 rintro e w4 ⟨rfl, s4⟩
 go_wp2_with fail
 go_ret
 exact ⟨rfl, HS3.out.trans s4⟩
set_option maxRecDepth 100000 in
theorem shaped_3 (wd sl cp sa ow : Int) (ia ra : Option Addr) (il ic rl rc : Nat) (w : World) (hsa : 0 ≤ sa ∧ sa < 4294967296 := by assumption) :
 Calls Tryz.prog 87 #[.agg #[.int .i64 3, .int .i64 wd, .int .i64 sl, .int .i64 cp, .int .u32 sa, .slice ia il ic, .int .i64 ow, .slice ra rl rc]] w fun e w' => e = .returned (.bool (Sq.rightB wd sl cp sa il rl)) ∧ Same w w' := by
 have HC := Lib.hid (fun w' => Sq.right_any wd sl cp sa ow ia ra il ic rl rc w')
 have hb0 := Blk.new w 43 #[.int .i64 3, .int .i64 wd, .int .i64 sl, .int .i64 cp, .int .u32 sa, .slice ia il ic, .int .i64 ow, .slice ra rl rc]
 have HS0 := Lib.hid ((Same.refl w).alloc (.cells #[.int .i64 3, .int .i64 wd, .int .i64 sl, .int .i64 cp, .int .u32 sa, .slice ia il ic, .int .i64 ow, .slice ra rl rc] 43))
 have HB0 := Lib.hid hb0
 clear hb0
 generalize Sq.rightB wd sl cp sa il rl = rb at *
 go_enter Tryz.func87, Tryz.ntmps87
 go_wp2_with fail
 refine (face_3 _).mono ?_
 rintro e w2 ⟨rfl, s2⟩
 have HZ := Lib.hid (Blk.new w2 119 #[.string ⟨#[]⟩, .nilFunc, .nilFunc, .nilFunc, .nilFunc])
 have HS2 := Lib.hid (HS0.out.trans s2)
 have hb2 := HB0.out.same s2
 have hlt := hb2.lt
 have hb3 := (hb2.same ((Same.refl w2).alloc (.cells #[.string ⟨#[]⟩, .nilFunc, .nilFunc, .nilFunc, .nilFunc] 119)))
 have HB := Lib.hid (Blk.chg hb3 (chg_setRow (Chg.refl (fun i => i = w2.heap.size) _) (.inl rfl) #[.string ⟨#[115, 101, 113]⟩, .func (.func 120) #[] #[], .func (.func 121) #[] #[], .func (.func 122) #[] #[], .func (.func 123) #[] #[]]) (by omega))
 have HF := Lib.hid (row_blk (cs := #[.string ⟨#[115, 101, 113]⟩, .func (.func 120) #[] #[], .func (.func 121) #[] #[], .func (.func 122) #[] #[], .func (.func 123) #[] #[]]) HZ.out)
 have HS3 := Lib.hid (show Same w ((w2.alloc (.cells #[.string ⟨#[]⟩, .nilFunc, .nilFunc, .nilFunc, .nilFunc] 119)).setRow w2.heap.size #[.string ⟨#[115, 101, 113]⟩, .func (.func 120) #[] #[], .func (.func 121) #[] #[], .func (.func 122) #[] #[], .func (.func 123) #[] #[]]) from chg_setRow (HS2.out.alloc _) (.inr HS2.out.size) _)
 clear s2 hb2 hb3 hlt HB0 HS0
 have d0 : ((w2.alloc (.cells #[.string ⟨#[]⟩, .nilFunc, .nilFunc, .nilFunc, .nilFunc] 119)).setRow w2.heap.size #[.string ⟨#[115, 101, 113]⟩, .func (.func 120) #[] #[], .func (.func 121) #[] #[], .func (.func 122) #[] #[], .func (.func 123) #[] #[]]).cell? ⟨w.heap.size, 0, none⟩ = some (.int .i64 3) := HB.out.cell 0
 have d1 : ((w2.alloc (.cells #[.string ⟨#[]⟩, .nilFunc, .nilFunc, .nilFunc, .nilFunc] 119)).setRow w2.heap.size #[.string ⟨#[115, 101, 113]⟩, .func (.func 120) #[] #[], .func (.func 121) #[] #[], .func (.func 122) #[] #[], .func (.func 123) #[] #[]]).cell? ⟨w.heap.size, 1, none⟩ = some (.int .i64 wd) := HB.out.cell 1
 have d2 : ((w2.alloc (.cells #[.string ⟨#[]⟩, .nilFunc, .nilFunc, .nilFunc, .nilFunc] 119)).setRow w2.heap.size #[.string ⟨#[115, 101, 113]⟩, .func (.func 120) #[] #[], .func (.func 121) #[] #[], .func (.func 122) #[] #[], .func (.func 123) #[] #[]]).cell? ⟨w.heap.size, 2, none⟩ = some (.int .i64 sl) := HB.out.cell 2
 have d3 : ((w2.alloc (.cells #[.string ⟨#[]⟩, .nilFunc, .nilFunc, .nilFunc, .nilFunc] 119)).setRow w2.heap.size #[.string ⟨#[115, 101, 113]⟩, .func (.func 120) #[] #[], .func (.func 121) #[] #[], .func (.func 122) #[] #[], .func (.func 123) #[] #[]]).cell? ⟨w.heap.size, 3, none⟩ = some (.int .i64 cp) := HB.out.cell 3
 have d4 : ((w2.alloc (.cells #[.string ⟨#[]⟩, .nilFunc, .nilFunc, .nilFunc, .nilFunc] 119)).setRow w2.heap.size #[.string ⟨#[115, 101, 113]⟩, .func (.func 120) #[] #[], .func (.func 121) #[] #[], .func (.func 122) #[] #[], .func (.func 123) #[] #[]]).cell? ⟨w.heap.size, 4, none⟩ = some (.int .u32 sa) := HB.out.cell 4
 have d5 : ((w2.alloc (.cells #[.string ⟨#[]⟩, .nilFunc, .nilFunc, .nilFunc, .nilFunc] 119)).setRow w2.heap.size #[.string ⟨#[115, 101, 113]⟩, .func (.func 120) #[] #[], .func (.func 121) #[] #[], .func (.func 122) #[] #[], .func (.func 123) #[] #[]]).cell? ⟨w.heap.size, 5, none⟩ = some (.slice ia il ic) := HB.out.cell 5
 have d6 : ((w2.alloc (.cells #[.string ⟨#[]⟩, .nilFunc, .nilFunc, .nilFunc, .nilFunc] 119)).setRow w2.heap.size #[.string ⟨#[115, 101, 113]⟩, .func (.func 120) #[] #[], .func (.func 121) #[] #[], .func (.func 122) #[] #[], .func (.func 123) #[] #[]]).cell? ⟨w.heap.size, 6, none⟩ = some (.int .i64 ow) := HB.out.cell 6
 have d7 : ((w2.alloc (.cells #[.string ⟨#[]⟩, .nilFunc, .nilFunc, .nilFunc, .nilFunc] 119)).setRow w2.heap.size #[.string ⟨#[115, 101, 113]⟩, .func (.func 120) #[] #[], .func (.func 121) #[] #[], .func (.func 122) #[] #[], .func (.func 123) #[] #[]]).cell? ⟨w.heap.size, 7, none⟩ = some (.slice ra rl rc) := HB.out.cell 7
 have df : ((w2.alloc (.cells #[.string ⟨#[]⟩, .nilFunc, .nilFunc, .nilFunc, .nilFunc] 119)).setRow w2.heap.size #[.string ⟨#[115, 101, 113]⟩, .func (.func 120) #[] #[], .func (.func 121) #[] #[], .func (.func 122) #[] #[], .func (.func 123) #[] #[]]).cell? ⟨w2.heap.size, 1, none⟩ = some (.func (.func 120) #[] #[]) := HF.out.cell 1
 go_wp2_with (refine wpList_store_row rfl 119 (.tmp 3) (.tmp 9) rfl w2.heap.size #[.string ⟨#[115, 101, 113]⟩, .func (.func 120) #[] #[], .func (.func 121) #[] #[], .func (.func 122) #[] #[], .func (.func 123) #[] #[]] rfl rfl 119 #[.string ⟨#[]⟩, .nilFunc, .nilFunc, .nilFunc, .nilFunc] HZ.out face_size rfl one_3 ?_)
 refine (HC.out _).mono ?_
 rintro e w4 ⟨rfl, s4⟩
 go_wp2_with fail
 go_ret
 exact ⟨rfl, HS3.out.trans s4⟩
set_option maxRecDepth 100000 in
theorem shaped_4 (wd sl cp sa ow : Int) (ia ra : Option Addr) (il ic rl rc : Nat) (w : World) (hsa : 0 ≤ sa ∧ sa < 4294967296 := by assumption) :
 Calls Tryz.prog 87 #[.agg #[.int .i64 4, .int .i64 wd, .int .i64 sl, .int .i64 cp, .int .u32 sa, .slice ia il ic, .int .i64 ow, .slice ra rl rc]] w fun e w' => e = .returned (.bool (Rg.rightB wd sl cp sa il rl)) ∧ Same w w' := by
 have HC := Lib.hid (fun w' => Rg.right_any wd sl cp sa ow ia ra il ic rl rc w')
 have hb0 := Blk.new w 43 #[.int .i64 4, .int .i64 wd, .int .i64 sl, .int .i64 cp, .int .u32 sa, .slice ia il ic, .int .i64 ow, .slice ra rl rc]
 have HS0 := Lib.hid ((Same.refl w).alloc (.cells #[.int .i64 4, .int .i64 wd, .int .i64 sl, .int .i64 cp, .int .u32 sa, .slice ia il ic, .int .i64 ow, .slice ra rl rc] 43))
 have HB0 := Lib.hid hb0
 clear hb0
 generalize Rg.rightB wd sl cp sa il rl = rb at *
 go_enter Tryz.func87, Tryz.ntmps87
 go_wp2_with fail
 refine (face_4 _).mono ?_
 rintro e w2 ⟨rfl, s2⟩
 have HZ := Lib.hid (Blk.new w2 119 #[.string ⟨#[]⟩, .nilFunc, .nilFunc, .nilFunc, .nilFunc])
 have HS2 := Lib.hid (HS0.out.trans s2)
 have hb2 := HB0.out.same s2
 have hlt := hb2.lt
 have hb3 := (hb2.same ((Same.refl w2).alloc (.cells #[.string ⟨#[]⟩, .nilFunc, .nilFunc, .nilFunc, .nilFunc] 119)))
 have HB := Lib.hid (Blk.chg hb3 (chg_setRow (Chg.refl (fun i => i = w2.heap.size) _) (.inl rfl) #[.string ⟨#[114, 105, 110, 103]⟩, .func (.func 124) #[] #[], .func (.func 125) #[] #[], .func (.func 126) #[] #[], .func (.func 127) #[] #[]]) (by omega))
 have HF := Lib.hid (row_blk (cs := #[.string ⟨#[114, 105, 110, 103]⟩, .func (.func 124) #[] #[], .func (.func 125) #[] #[], .func (.func 126) #[] #[], .func (.func 127) #[] #[]]) HZ.out)
 have HS3 := Lib.hid (show Same w ((w2.alloc (.cells #[.string ⟨#[]⟩, .nilFunc, .nilFunc, .nilFunc, .nilFunc] 119)).setRow w2.heap.size #[.string ⟨#[114, 105, 110, 103]⟩, .func (.func 124) #[] #[], .func (.func 125) #[] #[], .func (.func 126) #[] #[], .func (.func 127) #[] #[]]) from chg_setRow (HS2.out.alloc _) (.inr HS2.out.size) _)
 clear s2 hb2 hb3 hlt HB0 HS0
 have d0 : ((w2.alloc (.cells #[.string ⟨#[]⟩, .nilFunc, .nilFunc, .nilFunc, .nilFunc] 119)).setRow w2.heap.size #[.string ⟨#[114, 105, 110, 103]⟩, .func (.func 124) #[] #[], .func (.func 125) #[] #[], .func (.func 126) #[] #[], .func (.func 127) #[] #[]]).cell? ⟨w.heap.size, 0, none⟩ = some (.int .i64 4) := HB.out.cell 0
 have d1 : ((w2.alloc (.cells #[.string ⟨#[]⟩, .nilFunc, .nilFunc, .nilFunc, .nilFunc] 119)).setRow w2.heap.size #[.string ⟨#[114, 105, 110, 103]⟩, .func (.func 124) #[] #[], .func (.func 125) #[] #[], .func (.func 126) #[] #[], .func (.func 127) #[] #[]]).cell? ⟨w.heap.size, 1, none⟩ = some (.int .i64 wd) := HB.out.cell 1
 have d2 : ((w2.alloc (.cells #[.string ⟨#[]⟩, .nilFunc, .nilFunc, .nilFunc, .nilFunc] 119)).setRow w2.heap.size #[.string ⟨#[114, 105, 110, 103]⟩, .func (.func 124) #[] #[], .func (.func 125) #[] #[], .func (.func 126) #[] #[], .func (.func 127) #[] #[]]).cell? ⟨w.heap.size, 2, none⟩ = some (.int .i64 sl) := HB.out.cell 2
 have d3 : ((w2.alloc (.cells #[.string ⟨#[]⟩, .nilFunc, .nilFunc, .nilFunc, .nilFunc] 119)).setRow w2.heap.size #[.string ⟨#[114, 105, 110, 103]⟩, .func (.func 124) #[] #[], .func (.func 125) #[] #[], .func (.func 126) #[] #[], .func (.func 127) #[] #[]]).cell? ⟨w.heap.size, 3, none⟩ = some (.int .i64 cp) := HB.out.cell 3
 have d4 : ((w2.alloc (.cells #[.string ⟨#[]⟩, .nilFunc, .nilFunc, .nilFunc, .nilFunc] 119)).setRow w2.heap.size #[.string ⟨#[114, 105, 110, 103]⟩, .func (.func 124) #[] #[], .func (.func 125) #[] #[], .func (.func 126) #[] #[], .func (.func 127) #[] #[]]).cell? ⟨w.heap.size, 4, none⟩ = some (.int .u32 sa) := HB.out.cell 4
 have d5 : ((w2.alloc (.cells #[.string ⟨#[]⟩, .nilFunc, .nilFunc, .nilFunc, .nilFunc] 119)).setRow w2.heap.size #[.string ⟨#[114, 105, 110, 103]⟩, .func (.func 124) #[] #[], .func (.func 125) #[] #[], .func (.func 126) #[] #[], .func (.func 127) #[] #[]]).cell? ⟨w.heap.size, 5, none⟩ = some (.slice ia il ic) := HB.out.cell 5
 have d6 : ((w2.alloc (.cells #[.string ⟨#[]⟩, .nilFunc, .nilFunc, .nilFunc, .nilFunc] 119)).setRow w2.heap.size #[.string ⟨#[114, 105, 110, 103]⟩, .func (.func 124) #[] #[], .func (.func 125) #[] #[], .func (.func 126) #[] #[], .func (.func 127) #[] #[]]).cell? ⟨w.heap.size, 6, none⟩ = some (.int .i64 ow) := HB.out.cell 6
 have d7 : ((w2.alloc (.cells #[.string ⟨#[]⟩, .nilFunc, .nilFunc, .nilFunc, .nilFunc] 119)).setRow w2.heap.size #[.string ⟨#[114, 105, 110, 103]⟩, .func (.func 124) #[] #[], .func (.func 125) #[] #[], .func (.func 126) #[] #[], .func (.func 127) #[] #[]]).cell? ⟨w.heap.size, 7, none⟩ = some (.slice ra rl rc) := HB.out.cell 7
 have df : ((w2.alloc (.cells #[.string ⟨#[]⟩, .nilFunc, .nilFunc, .nilFunc, .nilFunc] 119)).setRow w2.heap.size #[.string ⟨#[114, 105, 110, 103]⟩, .func (.func 124) #[] #[], .func (.func 125) #[] #[], .func (.func 126) #[] #[], .func (.func 127) #[] #[]]).cell? ⟨w2.heap.size, 1, none⟩ = some (.func (.func 124) #[] #[]) := HF.out.cell 1
 go_wp2_with (refine wpList_store_row rfl 119 (.tmp 3) (.tmp 9) rfl w2.heap.size #[.string ⟨#[114, 105, 110, 103]⟩, .func (.func 124) #[] #[], .func (.func 125) #[] #[], .func (.func 126) #[] #[], .func (.func 127) #[] #[]] rfl rfl 119 #[.string ⟨#[]⟩, .nilFunc, .nilFunc, .nilFunc, .nilFunc] HZ.out face_size rfl one_4 ?_)
 refine (HC.out _).mono ?_
 rintro e w4 ⟨rfl, s4⟩
 go_wp2_with fail
 go_ret
 exact ⟨rfl, HS3.out.trans s4⟩
set_option maxRecDepth 100000 in
theorem shaped_5 (wd sl cp sa ow : Int) (ia ra : Option Addr) (il ic rl rc : Nat) (w : World) (hsa : 0 ≤ sa ∧ sa < 4294967296 := by assumption) :
 Calls Tryz.prog 87 #[.agg #[.int .i64 5, .int .i64 wd, .int .i64 sl, .int .i64 cp, .int .u32 sa, .slice ia il ic, .int .i64 ow, .slice ra rl rc]] w fun e w' => e = .returned (.bool (Cb.rightB wd sl cp sa il rl)) ∧ Same w w' := by
 have HC := Lib.hid (fun w' => Cb.right_any wd sl cp sa ow ia ra il ic rl rc w')
 have hb0 := Blk.new w 43 #[.int .i64 5, .int .i64 wd, .int .i64 sl, .int .i64 cp, .int .u32 sa, .slice ia il ic, .int .i64 ow, .slice ra rl rc]
 have HS0 := Lib.hid ((Same.refl w).alloc (.cells #[.int .i64 5, .int .i64 wd, .int .i64 sl, .int .i64 cp, .int .u32 sa, .slice ia il ic, .int .i64 ow, .slice ra rl rc] 43))
 have HB0 := Lib.hid hb0
 clear hb0
 generalize Cb.rightB wd sl cp sa il rl = rb at *
 go_enter Tryz.func87, Tryz.ntmps87
 go_wp2_with fail
 refine (face_5 _).mono ?_
 rintro e w2 ⟨rfl, s2⟩
 have HZ := Lib.hid (Blk.new w2 119 #[.string ⟨#[]⟩, .nilFunc, .nilFunc, .nilFunc, .nilFunc])
 have HS2 := Lib.hid (HS0.out.trans s2)
 have hb2 := HB0.out.same s2
 have hlt := hb2.lt
 have hb3 := (hb2.same ((Same.refl w2).alloc (.cells #[.string ⟨#[]⟩, .nilFunc, .nilFunc, .nilFunc, .nilFunc] 119)))
 have HB := Lib.hid (Blk.chg hb3 (chg_setRow (Chg.refl (fun i => i = w2.heap.size) _) (.inl rfl) #[.string ⟨#[99, 97, 98]⟩, .func (.func 128) #[] #[], .func (.func 129) #[] #[], .func (.func 130) #[] #[], .func (.func 131) #[] #[]]) (by omega))
 have HF := Lib.hid (row_blk (cs := #[.string ⟨#[99, 97, 98]⟩, .func (.func 128) #[] #[], .func (.func 129) #[] #[], .func (.func 130) #[] #[], .func (.func 131) #[] #[]]) HZ.out)
 have HS3 := Lib.hid (show Same w ((w2.alloc (.cells #[.string ⟨#[]⟩, .nilFunc, .nilFunc, .nilFunc, .nilFunc] 119)).setRow w2.heap.size #[.string ⟨#[99, 97, 98]⟩, .func (.func 128) #[] #[], .func (.func 129) #[] #[], .func (.func 130) #[] #[], .func (.func 131) #[] #[]]) from chg_setRow (HS2.out.alloc _) (.inr HS2.out.size) _)
 clear s2 hb2 hb3 hlt HB0 HS0
 have d0 : ((w2.alloc (.cells #[.string ⟨#[]⟩, .nilFunc, .nilFunc, .nilFunc, .nilFunc] 119)).setRow w2.heap.size #[.string ⟨#[99, 97, 98]⟩, .func (.func 128) #[] #[], .func (.func 129) #[] #[], .func (.func 130) #[] #[], .func (.func 131) #[] #[]]).cell? ⟨w.heap.size, 0, none⟩ = some (.int .i64 5) := HB.out.cell 0
 have d1 : ((w2.alloc (.cells #[.string ⟨#[]⟩, .nilFunc, .nilFunc, .nilFunc, .nilFunc] 119)).setRow w2.heap.size #[.string ⟨#[99, 97, 98]⟩, .func (.func 128) #[] #[], .func (.func 129) #[] #[], .func (.func 130) #[] #[], .func (.func 131) #[] #[]]).cell? ⟨w.heap.size, 1, none⟩ = some (.int .i64 wd) := HB.out.cell 1
 have d2 : ((w2.alloc (.cells #[.string ⟨#[]⟩, .nilFunc, .nilFunc, .nilFunc, .nilFunc] 119)).setRow w2.heap.size #[.string ⟨#[99, 97, 98]⟩, .func (.func 128) #[] #[], .func (.func 129) #[] #[], .func (.func 130) #[] #[], .func (.func 131) #[] #[]]).cell? ⟨w.heap.size, 2, none⟩ = some (.int .i64 sl) := HB.out.cell 2
 have d3 : ((w2.alloc (.cells #[.string ⟨#[]⟩, .nilFunc, .nilFunc, .nilFunc, .nilFunc] 119)).setRow w2.heap.size #[.string ⟨#[99, 97, 98]⟩, .func (.func 128) #[] #[], .func (.func 129) #[] #[], .func (.func 130) #[] #[], .func (.func 131) #[] #[]]).cell? ⟨w.heap.size, 3, none⟩ = some (.int .i64 cp) := HB.out.cell 3
 have d4 : ((w2.alloc (.cells #[.string ⟨#[]⟩, .nilFunc, .nilFunc, .nilFunc, .nilFunc] 119)).setRow w2.heap.size #[.string ⟨#[99, 97, 98]⟩, .func (.func 128) #[] #[], .func (.func 129) #[] #[], .func (.func 130) #[] #[], .func (.func 131) #[] #[]]).cell? ⟨w.heap.size, 4, none⟩ = some (.int .u32 sa) := HB.out.cell 4
 have d5 : ((w2.alloc (.cells #[.string ⟨#[]⟩, .nilFunc, .nilFunc, .nilFunc, .nilFunc] 119)).setRow w2.heap.size #[.string ⟨#[99, 97, 98]⟩, .func (.func 128) #[] #[], .func (.func 129) #[] #[], .func (.func 130) #[] #[], .func (.func 131) #[] #[]]).cell? ⟨w.heap.size, 5, none⟩ = some (.slice ia il ic) := HB.out.cell 5
 have d6 : ((w2.alloc (.cells #[.string ⟨#[]⟩, .nilFunc, .nilFunc, .nilFunc, .nilFunc] 119)).setRow w2.heap.size #[.string ⟨#[99, 97, 98]⟩, .func (.func 128) #[] #[], .func (.func 129) #[] #[], .func (.func 130) #[] #[], .func (.func 131) #[] #[]]).cell? ⟨w.heap.size, 6, none⟩ = some (.int .i64 ow) := HB.out.cell 6
 have d7 : ((w2.alloc (.cells #[.string ⟨#[]⟩, .nilFunc, .nilFunc, .nilFunc, .nilFunc] 119)).setRow w2.heap.size #[.string ⟨#[99, 97, 98]⟩, .func (.func 128) #[] #[], .func (.func 129) #[] #[], .func (.func 130) #[] #[], .func (.func 131) #[] #[]]).cell? ⟨w.heap.size, 7, none⟩ = some (.slice ra rl rc) := HB.out.cell 7
 have df : ((w2.alloc (.cells #[.string ⟨#[]⟩, .nilFunc, .nilFunc, .nilFunc, .nilFunc] 119)).setRow w2.heap.size #[.string ⟨#[99, 97, 98]⟩, .func (.func 128) #[] #[], .func (.func 129) #[] #[], .func (.func 130) #[] #[], .func (.func 131) #[] #[]]).cell? ⟨w2.heap.size, 1, none⟩ = some (.func (.func 128) #[] #[]) := HF.out.cell 1
 go_wp2_with (refine wpList_store_row rfl 119 (.tmp 3) (.tmp 9) rfl w2.heap.size #[.string ⟨#[99, 97, 98]⟩, .func (.func 128) #[] #[], .func (.func 129) #[] #[], .func (.func 130) #[] #[], .func (.func 131) #[] #[]] rfl rfl 119 #[.string ⟨#[]⟩, .nilFunc, .nilFunc, .nilFunc, .nilFunc] HZ.out face_size rfl one_5 ?_)
 refine (HC.out _).mono ?_
 rintro e w4 ⟨rfl, s4⟩
 go_wp2_with fail
 go_ret
 exact ⟨rfl, HS3.out.trans s4⟩
set_option maxRecDepth 100000 in
theorem shaped_6 (wd sl cp sa ow : Int) (ia ra : Option Addr) (il ic rl rc : Nat) (w : World) (hsa : 0 ≤ sa ∧ sa < 4294967296 := by assumption) :
 Calls Tryz.prog 87 #[.agg #[.int .i64 6, .int .i64 wd, .int .i64 sl, .int .i64 cp, .int .u32 sa, .slice ia il ic, .int .i64 ow, .slice ra rl rc]] w fun e w' => e = .returned (.bool (Ff.rightB wd sl cp sa il rl)) ∧ Same w w' := by
 have HC := Lib.hid (fun w' => Ff.right_any wd sl cp sa ow ia ra il ic rl rc w')
 have hb0 := Blk.new w 43 #[.int .i64 6, .int .i64 wd, .int .i64 sl, .int .i64 cp, .int .u32 sa, .slice ia il ic, .int .i64 ow, .slice ra rl rc]
 have HS0 := Lib.hid ((Same.refl w).alloc (.cells #[.int .i64 6, .int .i64 wd, .int .i64 sl, .int .i64 cp, .int .u32 sa, .slice ia il ic, .int .i64 ow, .slice ra rl rc] 43))
 have HB0 := Lib.hid hb0
 clear hb0
 generalize Ff.rightB wd sl cp sa il rl = rb at *
 go_enter Tryz.func87, Tryz.ntmps87
 go_wp2_with fail
 refine (face_6 _).mono ?_
 rintro e w2 ⟨rfl, s2⟩
 have HZ := Lib.hid (Blk.new w2 119 #[.string ⟨#[]⟩, .nilFunc, .nilFunc, .nilFunc, .nilFunc])
 have HS2 := Lib.hid (HS0.out.trans s2)
 have hb2 := HB0.out.same s2
 have hlt := hb2.lt
 have hb3 := (hb2.same ((Same.refl w2).alloc (.cells #[.string ⟨#[]⟩, .nilFunc, .nilFunc, .nilFunc, .nilFunc] 119)))
 have HB := Lib.hid (Blk.chg hb3 (chg_setRow (Chg.refl (fun i => i = w2.heap.size) _) (.inl rfl) #[.string ⟨#[102, 105, 102, 111]⟩, .func (.func 132) #[] #[], .func (.func 133) #[] #[], .func (.func 134) #[] #[], .func (.func 135) #[] #[]]) (by omega))
 have HF := Lib.hid (row_blk (cs := #[.string ⟨#[102, 105, 102, 111]⟩, .func (.func 132) #[] #[], .func (.func 133) #[] #[], .func (.func 134) #[] #[], .func (.func 135) #[] #[]]) HZ.out)
 have HS3 := Lib.hid (show Same w ((w2.alloc (.cells #[.string ⟨#[]⟩, .nilFunc, .nilFunc, .nilFunc, .nilFunc] 119)).setRow w2.heap.size #[.string ⟨#[102, 105, 102, 111]⟩, .func (.func 132) #[] #[], .func (.func 133) #[] #[], .func (.func 134) #[] #[], .func (.func 135) #[] #[]]) from chg_setRow (HS2.out.alloc _) (.inr HS2.out.size) _)
 clear s2 hb2 hb3 hlt HB0 HS0
 have d0 : ((w2.alloc (.cells #[.string ⟨#[]⟩, .nilFunc, .nilFunc, .nilFunc, .nilFunc] 119)).setRow w2.heap.size #[.string ⟨#[102, 105, 102, 111]⟩, .func (.func 132) #[] #[], .func (.func 133) #[] #[], .func (.func 134) #[] #[], .func (.func 135) #[] #[]]).cell? ⟨w.heap.size, 0, none⟩ = some (.int .i64 6) := HB.out.cell 0
 have d1 : ((w2.alloc (.cells #[.string ⟨#[]⟩, .nilFunc, .nilFunc, .nilFunc, .nilFunc] 119)).setRow w2.heap.size #[.string ⟨#[102, 105, 102, 111]⟩, .func (.func 132) #[] #[], .func (.func 133) #[] #[], .func (.func 134) #[] #[], .func (.func 135) #[] #[]]).cell? ⟨w.heap.size, 1, none⟩ = some (.int .i64 wd) := HB.out.cell 1
 have d2 : ((w2.alloc (.cells #[.string ⟨#[]⟩, .nilFunc, .nilFunc, .nilFunc, .nilFunc] 119)).setRow w2.heap.size #[.string ⟨#[102, 105, 102, 111]⟩, .func (.func 132) #[] #[], .func (.func 133) #[] #[], .func (.func 134) #[] #[], .func (.func 135) #[] #[]]).cell? ⟨w.heap.size, 2, none⟩ = some (.int .i64 sl) := HB.out.cell 2
 have d3 : ((w2.alloc (.cells #[.string ⟨#[]⟩, .nilFunc, .nilFunc, .nilFunc, .nilFunc] 119)).setRow w2.heap.size #[.string ⟨#[102, 105, 102, 111]⟩, .func (.func 132) #[] #[], .func (.func 133) #[] #[], .func (.func 134) #[] #[], .func (.func 135) #[] #[]]).cell? ⟨w.heap.size, 3, none⟩ = some (.int .i64 cp) := HB.out.cell 3
 have d4 : ((w2.alloc (.cells #[.string ⟨#[]⟩, .nilFunc, .nilFunc, .nilFunc, .nilFunc] 119)).setRow w2.heap.size #[.string ⟨#[102, 105, 102, 111]⟩, .func (.func 132) #[] #[], .func (.func 133) #[] #[], .func (.func 134) #[] #[], .func (.func 135) #[] #[]]).cell? ⟨w.heap.size, 4, none⟩ = some (.int .u32 sa) := HB.out.cell 4
 have d5 : ((w2.alloc (.cells #[.string ⟨#[]⟩, .nilFunc, .nilFunc, .nilFunc, .nilFunc] 119)).setRow w2.heap.size #[.string ⟨#[102, 105, 102, 111]⟩, .func (.func 132) #[] #[], .func (.func 133) #[] #[], .func (.func 134) #[] #[], .func (.func 135) #[] #[]]).cell? ⟨w.heap.size, 5, none⟩ = some (.slice ia il ic) := HB.out.cell 5
 have d6 : ((w2.alloc (.cells #[.string ⟨#[]⟩, .nilFunc, .nilFunc, .nilFunc, .nilFunc] 119)).setRow w2.heap.size #[.string ⟨#[102, 105, 102, 111]⟩, .func (.func 132) #[] #[], .func (.func 133) #[] #[], .func (.func 134) #[] #[], .func (.func 135) #[] #[]]).cell? ⟨w.heap.size, 6, none⟩ = some (.int .i64 ow) := HB.out.cell 6
 have d7 : ((w2.alloc (.cells #[.string ⟨#[]⟩, .nilFunc, .nilFunc, .nilFunc, .nilFunc] 119)).setRow w2.heap.size #[.string ⟨#[102, 105, 102, 111]⟩, .func (.func 132) #[] #[], .func (.func 133) #[] #[], .func (.func 134) #[] #[], .func (.func 135) #[] #[]]).cell? ⟨w.heap.size, 7, none⟩ = some (.slice ra rl rc) := HB.out.cell 7
 have df : ((w2.alloc (.cells #[.string ⟨#[]⟩, .nilFunc, .nilFunc, .nilFunc, .nilFunc] 119)).setRow w2.heap.size #[.string ⟨#[102, 105, 102, 111]⟩, .func (.func 132) #[] #[], .func (.func 133) #[] #[], .func (.func 134) #[] #[], .func (.func 135) #[] #[]]).cell? ⟨w2.heap.size, 1, none⟩ = some (.func (.func 132) #[] #[]) := HF.out.cell 1
 go_wp2_with (refine wpList_store_row rfl 119 (.tmp 3) (.tmp 9) rfl w2.heap.size #[.string ⟨#[102, 105, 102, 111]⟩, .func (.func 132) #[] #[], .func (.func 133) #[] #[], .func (.func 134) #[] #[], .func (.func 135) #[] #[]] rfl rfl 119 #[.string ⟨#[]⟩, .nilFunc, .nilFunc, .nilFunc, .nilFunc] HZ.out face_size rfl one_6 ?_)
 refine (HC.out _).mono ?_
 rintro e w4 ⟨rfl, s4⟩
 go_wp2_with fail
 go_ret
 exact ⟨rfl, HS3.out.trans s4⟩
set_option maxRecDepth 100000 in
theorem shaped_none (k : Int) (wd sl cp sa ow : Int) (ia ra : Option Addr) (il ic rl rc : Nat) (w : World) (h : k < 1 ∨ 6 < k) :
 Calls Tryz.prog 87 #[.agg #[.int .i64 k, .int .i64 wd, .int .i64 sl, .int .i64 cp, .int .u32 sa, .slice ia il ic, .int .i64 ow, .slice ra rl rc]] w fun e w' => e = .returned (.bool false) ∧ Same w w' := by
 have hb0 := Blk.new w 43 #[.int .i64 k, .int .i64 wd, .int .i64 sl, .int .i64 cp, .int .u32 sa, .slice ia il ic, .int .i64 ow, .slice ra rl rc]
 have HS0 := Lib.hid ((Same.refl w).alloc (.cells #[.int .i64 k, .int .i64 wd, .int .i64 sl, .int .i64 cp, .int .u32 sa, .slice ia il ic, .int .i64 ow, .slice ra rl rc] 43))
 have d0 := hb0.cell 0
 have HFN := Lib.hid (fun w' => face_none k h w')
 clear hb0 h
 go_enter Tryz.func87, Tryz.ntmps87
 go_wp2_with fail
 refine (HFN.out _).mono ?_
 rintro e w2 ⟨rfl, s2⟩
 have HZ := Lib.hid (Blk.new w2 119 #[.string ⟨#[]⟩, .nilFunc, .nilFunc, .nilFunc, .nilFunc])
 have HS2 := Lib.hid (HS0.out.trans s2)
 have HS3 := Lib.hid (show Same w ((w2.alloc (.cells #[.string ⟨#[]⟩, .nilFunc, .nilFunc, .nilFunc, .nilFunc] 119)).setRow w2.heap.size #[.string ⟨#[]⟩, .nilFunc, .nilFunc, .nilFunc, .nilFunc]) from chg_setRow (HS2.out.alloc _) (.inr HS2.out.size) _)
 clear s2 HS0
 go_wp2_with (refine wpList_store_row rfl 119 (.tmp 3) (.tmp 9) rfl w2.heap.size #[.string ⟨#[]⟩, .nilFunc, .nilFunc, .nilFunc, .nilFunc] rfl rfl 119 #[.string ⟨#[]⟩, .nilFunc, .nilFunc, .nilFunc, .nilFunc] HZ.out face_size rfl one_0 ?_)
 go_ret
 exact ⟨rfl, HS3.out⟩
theorem shaped_any (k : Int) (wd sl cp sa ow : Int) (ia ra : Option Addr) (il ic rl rc : Nat) (w : World) (hsa : 0 ≤ sa ∧ sa < 4294967296) :
 Calls Tryz.prog 87 #[.agg #[.int .i64 k, .int .i64 wd, .int .i64 sl, .int .i64 cp, .int .u32 sa, .slice ia il ic, .int .i64 ow, .slice ra rl rc]] w fun e w' => e = .returned (.bool (rightF k wd sl cp sa il rl)) ∧ Same w w' := by
 by_cases h : k < 1 ∨ 6 < k
 ·rw [right_none wd sl cp sa il rl h]
  exact shaped_none k wd sl cp sa ow ia ra il ic rl rc w h
 rcases (show k = 1 ∨ k = 2 ∨ k = 3 ∨ k = 4 ∨ k = 5 ∨ k = 6 by omega) with rfl | rfl | rfl | rfl | rfl | rfl
 ·rw [right_1]; exact shaped_1 wd sl cp sa ow ia ra il ic rl rc w
 ·rw [right_2]; exact shaped_2 wd sl cp sa ow ia ra il ic rl rc w
 ·rw [right_3]; exact shaped_3 wd sl cp sa ow ia ra il ic rl rc w
 ·rw [right_4]; exact shaped_4 wd sl cp sa ow ia ra il ic rl rc w
 ·rw [right_5]; exact shaped_5 wd sl cp sa ow ia ra il ic rl rc w
 ·rw [right_6]; exact shaped_6 wd sl cp sa ow ia ra il ic rl rc w
end Go.Proofs.YthhbhbfkbncegabGreatDoor.Fc
end
end
end
end
end
section
set_option linter.unusedVariables false
set_option linter.unusedSimpArgs false
namespace Go.Proofs.YthhbhbfkbncegabGreatDoor.Bd
open Go.ChangeShapes Go.WideShapes Go.ChangeAt Go.RowKit Ws Fc
open Go.Proofs.YthhbhbfkbncegabGreatDoor.Wd (clamp wclamp)

def trB (k wd sl cp sa : Int) (il rl : Nat) (op : Int) : Bool := rightF k wd sl cp sa il rl && decide (op = 1) && decide (3 ≤ k ∧ k ≤ 5)
def failI (k wd sl cp sa : Int) (il rl : Nat) (op : Int) : Int := if trB k wd sl cp sa il rl op = true then (if k = 5 then 3 else wd + 2) else 0
def endI (k wd sl cp sa : Int) (il rl : Nat) (op : Int) : Int := if trB k wd sl cp sa il rl op = true then (if k = 5 then wd + 4 else wd + 2) else 0
def cleanI (k wd sl cp sa : Int) (il rl : Nat) (op : Int) : Int := if trB k wd sl cp sa il rl op = true then endI k wd sl cp sa il rl op else boundF k wd sl cp sa il rl op
theorem right_wd {k wd sl cp sa : Int} {il rl : Nat} (h : rightF k wd sl cp sa il rl = true) : (1 ≤ wd ∧ wd ≤ 8) ∧ (rl : Int) ≤ 4 ∧ (k = 3 ∨ k = 4 ∨ k = 5 → 1 ≤ cp ∧ cp ≤ 16) ∧ sl ≤ 16 ∧ cp ≤ 16 ∧ 0 ≤ cp := by
 unfold rightF at h
 repeat' split at h
 ·unfold Fo.rightB at h; rw [decide_eq_true_iff] at h; omega
 ·unfold Ch.rightB at h; rw [decide_eq_true_iff] at h; omega
 ·unfold Sq.rightB at h; rw [decide_eq_true_iff] at h; omega
 ·unfold Rg.rightB at h; rw [decide_eq_true_iff] at h; omega
 ·unfold Cb.rightB at h; rw [decide_eq_true_iff] at h; omega
 ·unfold Ff.rightB Ff.rightK at h; rw [decide_eq_true_iff] at h; omega
 ·cases h
theorem ret_ii {a a' b b' : Int} (h1 : a = a') (h2 : b = b') : Ending.returned (.tuple #[.int .i64 a, .int .i64 b]) = .returned (.tuple #[.int .i64 a', .int .i64 b']) := by rw [h1, h2]
set_option maxRecDepth 100000 in
set_option maxHeartbeats 1000000 in
theorem attempt_any (k wd sl cp sa ow : Int) (ia ra : Option Addr) (il ic rl rc : Nat) (op : Int) (w : World) (hsa : 0 ≤ sa ∧ sa < 4294967296) :
 Calls Tryz.prog 71 #[.agg #[.int .i64 k, .int .i64 wd, .int .i64 sl, .int .i64 cp, .int .u32 sa, .slice ia il ic, .int .i64 ow, .slice ra rl rc], .int .i64 op] w fun e w' => e = .returned (.tuple #[.int .i64 (failI k wd sl cp sa il rl op), .int .i64 (endI k wd sl cp sa il rl op)]) ∧ Same w w' := by
 have hb0 := Blk.new w 43 #[.int .i64 k, .int .i64 wd, .int .i64 sl, .int .i64 cp, .int .u32 sa, .slice ia il ic, .int .i64 ow, .slice ra rl rc]
 have HS0 := Lib.hid ((Same.refl w).alloc (.cells #[.int .i64 k, .int .i64 wd, .int .i64 sl, .int .i64 cp, .int .u32 sa, .slice ia il ic, .int .i64 ow, .slice ra rl rc] 43))
 have HB0 := Lib.hid hb0
 clear hb0
 have HSH := Lib.hid (fun w' => shaped_any k wd sl cp sa ow ia ra il ic rl rc w' hsa)
 by_cases hop : op = 1
 rotate_left
 ·have ht : trB k wd sl cp sa il rl op = false := by unfold trB; rw [decide_eq_false hop]; simp
  have e1 : failI k wd sl cp sa il rl op = 0 := by unfold failI; rw [ht]; rfl
  have e2 : endI k wd sl cp sa il rl op = 0 := by unfold endI; rw [ht]; rfl
  rw [e1, e2]
  have b0 : (op != 1) = true := by rw [bne_iff_ne]; exact hop
  clear ht e1 e2 hop hsa
  go_enter Tryz.func71, Tryz.ntmps71
  go_wp2_with fail
  go_ret2
  exact ⟨rfl, HS0.out⟩
 subst hop
 cases hr : rightF k wd sl cp sa il rl
 ·have ht : trB k wd sl cp sa il rl 1 = false := by unfold trB; rw [hr]; rfl
  have e1 : failI k wd sl cp sa il rl 1 = 0 := by unfold failI; rw [ht]; rfl
  have e2 : endI k wd sl cp sa il rl 1 = 0 := by unfold endI; rw [ht]; rfl
  rw [e1, e2]
  rw [hr] at HSH
  clear ht e1 e2 hr hsa
  go_enter Tryz.func71, Tryz.ntmps71
  go_wp2_with fail
  refine (HSH.out _).mono ?_
  rintro e w1 ⟨rfl, s1⟩
  go_wp2_with fail
  go_ret2
  exact ⟨rfl, HS0.out.trans s1⟩
 obtain ⟨hw, _⟩ := right_wd hr
 have f1 : wrap64 (wd + 2) = wd + 2 := Go.IntWalk.wrap64_in _ (by omega)
 have f2 : wrap64 (wd + 4) = wd + 4 := Go.IntWalk.wrap64_in _ (by omega)
 have ht : trB k wd sl cp sa il rl 1 = decide (3 ≤ k ∧ k ≤ 5) := by unfold trB; rw [hr]; simp
 have e1 : failI k wd sl cp sa il rl 1 = if 3 ≤ k ∧ k ≤ 5 then (if k = 5 then 3 else wd + 2) else 0 := by unfold failI; rw [ht]; by_cases h : 3 ≤ k ∧ k ≤ 5 <;> simp [h]
 have e2 : endI k wd sl cp sa il rl 1 = if 3 ≤ k ∧ k ≤ 5 then (if k = 5 then wd + 4 else wd + 2) else 0 := by unfold endI; rw [ht]; by_cases h : 3 ≤ k ∧ k ≤ 5 <;> simp [h]
 rw [e1, e2]
 rw [hr] at HSH
 clear ht e1 e2 hr hsa hw
 by_cases h3 : k = 3
 ·subst h3
  rw [if_pos (by omega), if_neg (by omega), if_pos (by omega), if_neg (by omega)]
  go_enter Tryz.func71, Tryz.ntmps71
  go_wp2_with fail
  refine (HSH.out _).mono ?_
  rintro e w1 ⟨rfl, s1⟩
  have hb1 := HB0.out.same s1
  have d0 := hb1.cell 0
  have d1 : w1.cell? ⟨w.heap.size, 1, none⟩ = some (.int .i64 wd) := hb1.cell 1
  simp only [List.getElem?_toArray, List.getElem?_cons_zero] at d0
  clear hb1
  go_wp2_with fail
  go_quiet (fail)
  go_wp2_with fail
  go_ret2
  exact ⟨ret_ii (by first | rfl | exact f1 | exact f2) (by first | rfl | exact f1 | exact f2), (HS0.out.trans s1).drewN _⟩
 by_cases h4 : k = 4
 ·subst h4
  rw [if_pos (by omega), if_neg (by omega), if_pos (by omega), if_neg (by omega)]
  go_enter Tryz.func71, Tryz.ntmps71
  go_wp2_with fail
  refine (HSH.out _).mono ?_
  rintro e w1 ⟨rfl, s1⟩
  have hb1 := HB0.out.same s1
  have d0 := hb1.cell 0
  have d1 : w1.cell? ⟨w.heap.size, 1, none⟩ = some (.int .i64 wd) := hb1.cell 1
  simp only [List.getElem?_toArray, List.getElem?_cons_zero] at d0
  clear hb1
  go_wp2_with fail
  go_quiet (fail)
  go_wp2_with fail
  go_ret2
  exact ⟨ret_ii (by first | rfl | exact f1 | exact f2) (by first | rfl | exact f1 | exact f2), (HS0.out.trans s1).drewN _⟩
 by_cases h5 : k = 5
 ·subst h5
  rw [if_pos (by omega), if_pos rfl, if_pos (by omega), if_pos rfl]
  go_enter Tryz.func71, Tryz.ntmps71
  go_wp2_with fail
  refine (HSH.out _).mono ?_
  rintro e w1 ⟨rfl, s1⟩
  have hb1 := HB0.out.same s1
  have d0 := hb1.cell 0
  have d1 : w1.cell? ⟨w.heap.size, 1, none⟩ = some (.int .i64 wd) := hb1.cell 1
  simp only [List.getElem?_toArray, List.getElem?_cons_zero] at d0
  clear hb1
  go_wp2_with fail
  go_quiet (fail)
  go_wp2_with fail
  go_ret2
  exact ⟨ret_ii (by first | rfl | exact f1 | exact f2) (by first | rfl | exact f1 | exact f2), (HS0.out.trans s1).drewN _⟩
 rw [if_neg (by omega), if_neg (by omega)]
 have b3 : (k == 3) = false := by simpa using h3
 have b4 : (k == 4) = false := by simpa using h4
 have b5 : (k == 5) = false := by simpa using h5
 clear h3 h4 h5 f1 f2
 go_enter Tryz.func71, Tryz.ntmps71
 go_wp2_with fail
 refine (HSH.out _).mono ?_
 rintro e w1 ⟨rfl, s1⟩
 have hb1 := HB0.out.same s1
 have d0 : w1.cell? ⟨w.heap.size, 0, none⟩ = some (.int .i64 k) := hb1.cell 0
 clear hb1
 go_wp2_with fail
 go_ret2
 exact ⟨rfl, HS0.out.trans s1⟩
set_option maxRecDepth 100000 in
theorem fail_any (k wd sl cp sa ow : Int) (ia ra : Option Addr) (il ic rl rc : Nat) (op : Int) (w : World) (hsa : 0 ≤ sa ∧ sa < 4294967296) :
 Calls Tryz.prog 56 #[.agg #[.int .i64 k, .int .i64 wd, .int .i64 sl, .int .i64 cp, .int .u32 sa, .slice ia il ic, .int .i64 ow, .slice ra rl rc], .int .i64 op] w fun e w' => e = .returned (.int .i64 (failI k wd sl cp sa il rl op)) ∧ Same w w' := by
 have hb0 := Blk.new w 43 #[.int .i64 k, .int .i64 wd, .int .i64 sl, .int .i64 cp, .int .u32 sa, .slice ia il ic, .int .i64 ow, .slice ra rl rc]
 have HS0 := Lib.hid ((Same.refl w).alloc (.cells #[.int .i64 k, .int .i64 wd, .int .i64 sl, .int .i64 cp, .int .u32 sa, .slice ia il ic, .int .i64 ow, .slice ra rl rc] 43))
 have HB0 := Lib.hid hb0
 clear hb0
 have HAT := Lib.hid (fun w' => attempt_any k wd sl cp sa ow ia ra il ic rl rc op w' hsa)
 clear hsa
 generalize failI k wd sl cp sa il rl op = fl at *
 generalize endI k wd sl cp sa il rl op = en at *
 go_enter Tryz.func56, Tryz.ntmps56
 go_wp2_with fail
 refine (HAT.out _).mono ?_
 rintro e w1 ⟨rfl, s1⟩
 go_wp2_with fail
 go_ret
 exact ⟨rfl, HS0.out.trans s1⟩
def lastI (cp : Int) : Int := IntKind.i64.wrap (cp - 1)
def afterI (k wd sl cp sa : Int) (il rl : Nat) (op fails : Int) : Int := cleanI k wd sl cp sa il rl op + failI k wd sl cp sa il rl op * clamp fails 0 (lastI cp)
theorem wrap_i64 (x : Int) : wrap64 x = IntKind.i64.wrap x := (Go.IntWalk.i64_left x).symm
end Go.Proofs.YthhbhbfkbncegabGreatDoor.Bd
end
end
