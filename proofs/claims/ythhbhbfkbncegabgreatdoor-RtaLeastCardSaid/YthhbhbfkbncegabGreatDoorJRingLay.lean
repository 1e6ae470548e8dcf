/-

 An object of the kind ring by value: how many words it has, how many steps its operations have, and its words at the beginning.
-/
import Derived.Test.YthhbhbfkbncegabGreatDoorJObj
import Derived.Deep.CutRange
section
set_option linter.unusedSimpArgs false
set_option linter.unusedVariables false
namespace Go.Proofs.YthhbhbfkbncegabGreatDoor.Rg
open Go.ChangeShapes Go.WideShapes Go.ChangeAt Go.RowKit Ws Mm Pa
open Go.Proofs.YthhbhbfkbncegabGreatDoor.Ob

theorem modulus_any (n : Nat) (hn : 2 ≤ n ∧ n ≤ 16) (w : World) :
 Calls Tryz.prog 158 #[.int .i64 n] w fun e w' => e = .returned (.int .u32 ((n : Int) * 1048576)) ∧ w = w' := by
 have f1 := u32_in (n : Int) (by omega)
 have f2 := u32_in ((n : Int) * 1048576) (by omega)
 clear hn
 go_enter Tryz.func158, Tryz.ntmps158
 go_wp2
 go_ret
 exact ⟨rfl, rfl⟩

/-- whether an object of this kind may be -/
def rightB (wd sl cp sa : Int) (il rl : Nat) : Bool := decide ((1 ≤ wd ∧ wd ≤ 8) ∧ (il : Int) = wd ∧ (1 ≤ (rl : Int) ∧ (rl : Int) ≤ 4) ∧ (2 ≤ sl ∧ sl ≤ 16) ∧ (1 ≤ cp ∧ cp ≤ 16) ∧ sa < sl * 1048576)

theorem four_cells {w w' : World} {q : Nat} {T : TypeId} {k wd sl cp sa ow : Int} {ia ra : Option Addr} {il ic rl rc : Nat} (h : Blk w q T #[.int .i64 k, .int .i64 wd, .int .i64 sl, .int .i64 cp, .int .u32 sa, .slice ia il ic, .int .i64 ow, .slice ra rl rc]) (s : Same w w') :
 w'.cell? ⟨q, 0, none⟩ = some (.int .i64 k) ∧ w'.cell? ⟨q, 1, none⟩ = some (.int .i64 wd) ∧ w'.cell? ⟨q, 2, none⟩ = some (.int .i64 sl) ∧ w'.cell? ⟨q, 3, none⟩ = some (.int .i64 cp) ∧ w'.cell? ⟨q, 4, none⟩ = some (.int .u32 sa) ∧ w'.cell? ⟨q, 5, none⟩ = some (.slice ia il ic) ∧ w'.cell? ⟨q, 6, none⟩ = some (.int .i64 ow) ∧ w'.cell? ⟨q, 7, none⟩ = some (.slice ra rl rc) ∧ Same w w' := by
 obtain ⟨d0, d1, d2, d3, d4, d5, d6, d7⟩ := obj_cells (h.same s)
 exact ⟨d0, d1, d2, d3, d4, d5, d6, d7, s⟩
set_option maxHeartbeats 1000000 in
theorem right_all (k wd sl cp sa ow : Int) (ia ra : Option Addr) (il ic rl rc : Nat) (w : World) (hsa : 0 ≤ sa ∧ sa < 4294967296 := by assumption) :
 Calls Tryz.prog 124 #[.agg #[.int .i64 k, .int .i64 wd, .int .i64 sl, .int .i64 cp, .int .u32 sa, .slice ia il ic, .int .i64 ow, .slice ra rl rc]] w fun e w' => e = .returned (.bool (decide (regB k wd il rl 4 = true ∧ (2 ≤ sl ∧ sl ≤ 16) ∧ (1 ≤ cp ∧ cp ≤ 16) ∧ sa < sl * 1048576))) ∧ Same w w' := by
 have s0 := (Same.refl w).alloc (.cells #[.int .i64 k, .int .i64 wd, .int .i64 sl, .int .i64 cp, .int .u32 sa, .slice ia il ic, .int .i64 ow, .slice ra rl rc] 43)
 have hb := Blk.new w 43 #[.int .i64 k, .int .i64 wd, .int .i64 sl, .int .i64 cp, .int .u32 sa, .slice ia il ic, .int .i64 ow, .slice ra rl rc]
 have HB := Lib.hid hb
 clear hb
 have HR := fun w' => register_any 4 k wd sl cp sa ow ia ra il ic rl rc w'
 have WS := fun w' => within_any sl 2 16 w'
 have WC := fun w' => within_any cp 1 16 w'
 generalize hr : regB k wd il rl 4 = r at *
 clear hr
 generalize hG : decide (r = true ∧ (2 ≤ sl ∧ sl ≤ 16) ∧ (1 ≤ cp ∧ cp ≤ 16) ∧ sa < sl * 1048576) = G at *
 have HG := Lib.hid hG
 clear hG
 cases r with
 | false =>
  have E : Hid (false = G) := Lib.hid (by rw [← HG.out]; simp)
  clear HG
  go_enter Tryz.func124, Tryz.ntmps124
  go_wp2_with fail
  generalize w.alloc (.cells #[.int .i64 k, .int .i64 wd, .int .i64 sl, .int .i64 cp, .int .u32 sa, .slice ia il ic, .int .i64 ow, .slice ra rl rc] 43) = wa at *
  generalize w.heap.size = q at *
  refine wp_region_held_drew (S := fun w' => w'.cell? ⟨q, 0, none⟩ = some (.int .i64 k) ∧ w'.cell? ⟨q, 1, none⟩ = some (.int .i64 wd) ∧ w'.cell? ⟨q, 2, none⟩ = some (.int .i64 sl) ∧ w'.cell? ⟨q, 3, none⟩ = some (.int .i64 cp) ∧ w'.cell? ⟨q, 4, none⟩ = some (.int .u32 sa) ∧ w'.cell? ⟨q, 5, none⟩ = some (.slice ia il ic) ∧ w'.cell? ⟨q, 6, none⟩ = some (.int .i64 ow) ∧ w'.cell? ⟨q, 7, none⟩ = some (.slice ra rl rc) ∧ Same wa w') (by kernel_rfl) ?_ (fun hHeld => ?_)
  ·exact four_cells HB.out (Same.refl _).drew
  first
   | (refine Ro.tf 0 ?_)
   | (refine Ro.tn 0 ?_ ?_ ?_; rotate_left; · (intro wS hSw; (try dsimp only at hSw); go_simp; try with_reducible rfl))
  try simp only [Ro.p]
  first
   | (refine Ro.tf 1 ?_)
   | (refine Ro.one_on (i := 1) rfl (by kernel_rfl) (by rfl) (fun K hK => ?_); go_simp; go_at_call 153; (with_reducible refine (HR _).mono ?_); rintro e w' ⟨rfl, hs9⟩; (first | refine hK.out _ _ ?_ (fun hNew => ?_) | (go_wp2_with fail; refine hK.out _ _ ?_ (fun hNew => ?_))); (· (exact four_cells HB.out (hHeld.2.2.2.2.2.2.2.2.trans hs9))); clear hK K hHeld; have hHeld := hNew; clear hNew)
  try simp only [Ro.p]
  iterate 3 ((first | refine Ro.tF 21 ?_ | (refine Ro.tN 21 ?_ ?_ ?_; rotate_left; · (intro wS hSw; (try dsimp only at hSw); go_simp; try with_reducible rfl))); try simp only [Ro.p])
  first
   | (refine Ro.tf 5 ?_)
   | (refine Ro.one_on (i := 5) rfl (by kernel_rfl) (by rfl) (fun K hK => ?_); go_simp; go_at_call 156; (with_reducible refine (WS _).mono ?_); rintro e w' ⟨rfl, rfl⟩; (first | refine hK.out _ _ ?_ (fun hNew => ?_) | (go_wp2_with fail; refine hK.out _ _ ?_ (fun hNew => ?_))); (· (exact hHeld)); clear hK K hHeld; have hHeld := hNew; clear hNew)
  try simp only [Ro.p]
  iterate 4 ((first | refine Ro.tF 21 ?_ | (refine Ro.tN 21 ?_ ?_ ?_; rotate_left; · (intro wS hSw; (try dsimp only at hSw); go_simp; try with_reducible rfl))); try simp only [Ro.p])
  first
   | (refine Ro.tf 10 ?_)
   | (refine Ro.one_on (i := 10) rfl (by kernel_rfl) (by rfl) (fun K hK => ?_); go_simp; go_at_call 156; (with_reducible refine (WC _).mono ?_); rintro e w' ⟨rfl, rfl⟩; (first | refine hK.out _ _ ?_ (fun hNew => ?_) | (go_wp2_with fail; refine hK.out _ _ ?_ (fun hNew => ?_))); (· (exact hHeld)); clear hK K hHeld; have hHeld := hNew; clear hNew)
  try simp only [Ro.p]
  iterate 6 ((first | refine Ro.tF 21 ?_ | (refine Ro.tN 21 ?_ ?_ ?_; rotate_left; · (intro wS hSw; (try dsimp only at hSw); go_simp; try with_reducible rfl))); try simp only [Ro.p])
  first
   | (refine Ro.tf 17 ?_)
   | (refine Ro.one_on (i := 17) rfl (by kernel_rfl) (by rfl) (fun K hK => ?_); go_simp; go_at_call 158; (with_reducible refine (MD _).mono ?_); rintro e w' ⟨rfl, rfl⟩; (first | refine hK.out _ _ ?_ (fun hNew => ?_) | (go_wp2_with fail; refine hK.out _ _ ?_ (fun hNew => ?_))); (· (exact hHeld)); clear hK K hHeld; have hHeld := hNew; clear hNew)
  try simp only [Ro.p]
  iterate 3 ((first | refine Ro.tF 21 ?_ | (refine Ro.tN 21 ?_ ?_ ?_; rotate_left; · (intro wS hSw; (try dsimp only at hSw); go_simp; try with_reducible rfl))); try simp only [Ro.p])
  refine wpAnyH_done (by kernel_rfl) ?_ _
  have x9 := hHeld.2.2.2.2.2.2.2.2
  clear hHeld
  go_wp2
  go_ret
  exact ⟨ret_bool E.out, s0.trans x9⟩
 | true =>
  by_cases hs : 2 ≤ sl ∧ sl ≤ 16
  ·have MD := fun w' => modulus_any sl.toNat (by omega) w'
   rw [show ((sl.toNat : Nat) : Int) = sl by omega] at MD
   rw [decide_eq_true hs] at WS
   by_cases hc : 1 ≤ cp ∧ cp ≤ 16
   ·rw [decide_eq_true hc] at WC
    have E : Hid (decide (sa < sl * 1048576) = G) := Lib.hid (by rw [← HG.out, decide_eq_decide]; simp [hs, hc])
    clear HG hs hc
    go_enter Tryz.func124, Tryz.ntmps124
    go_wp2_with fail
    generalize w.alloc (.cells #[.int .i64 k, .int .i64 wd, .int .i64 sl, .int .i64 cp, .int .u32 sa, .slice ia il ic, .int .i64 ow, .slice ra rl rc] 43) = wa at *
    generalize w.heap.size = q at *
    refine wp_region_held_drew (S := fun w' => w'.cell? ⟨q, 0, none⟩ = some (.int .i64 k) ∧ w'.cell? ⟨q, 1, none⟩ = some (.int .i64 wd) ∧ w'.cell? ⟨q, 2, none⟩ = some (.int .i64 sl) ∧ w'.cell? ⟨q, 3, none⟩ = some (.int .i64 cp) ∧ w'.cell? ⟨q, 4, none⟩ = some (.int .u32 sa) ∧ w'.cell? ⟨q, 5, none⟩ = some (.slice ia il ic) ∧ w'.cell? ⟨q, 6, none⟩ = some (.int .i64 ow) ∧ w'.cell? ⟨q, 7, none⟩ = some (.slice ra rl rc) ∧ Same wa w') (by kernel_rfl) ?_ (fun hHeld => ?_)
    ·exact four_cells HB.out (Same.refl _).drew
    first
     | (refine Ro.tf 0 ?_)
     | (refine Ro.tn 0 ?_ ?_ ?_; rotate_left; · (intro wS hSw; (try dsimp only at hSw); go_simp; try with_reducible rfl))
    try simp only [Ro.p]
    first
     | (refine Ro.tf 1 ?_)
     | (refine Ro.one_on (i := 1) rfl (by kernel_rfl) (by rfl) (fun K hK => ?_); go_simp; go_at_call 153; (with_reducible refine (HR _).mono ?_); rintro e w' ⟨rfl, hs9⟩; (first | refine hK.out _ _ ?_ (fun hNew => ?_) | (go_wp2_with fail; refine hK.out _ _ ?_ (fun hNew => ?_))); (· (exact four_cells HB.out (hHeld.2.2.2.2.2.2.2.2.trans hs9))); clear hK K hHeld; have hHeld := hNew; clear hNew)
    try simp only [Ro.p]
    iterate 3 ((first | refine Ro.tF 21 ?_ | (refine Ro.tN 21 ?_ ?_ ?_; rotate_left; · (intro wS hSw; (try dsimp only at hSw); go_simp; try with_reducible rfl))); try simp only [Ro.p])
    first
     | (refine Ro.tf 5 ?_)
     | (refine Ro.one_on (i := 5) rfl (by kernel_rfl) (by rfl) (fun K hK => ?_); go_simp; go_at_call 156; (with_reducible refine (WS _).mono ?_); rintro e w' ⟨rfl, rfl⟩; (first | refine hK.out _ _ ?_ (fun hNew => ?_) | (go_wp2_with fail; refine hK.out _ _ ?_ (fun hNew => ?_))); (· (exact hHeld)); clear hK K hHeld; have hHeld := hNew; clear hNew)
    try simp only [Ro.p]
    iterate 4 ((first | refine Ro.tF 21 ?_ | (refine Ro.tN 21 ?_ ?_ ?_; rotate_left; · (intro wS hSw; (try dsimp only at hSw); go_simp; try with_reducible rfl))); try simp only [Ro.p])
    first
     | (refine Ro.tf 10 ?_)
     | (refine Ro.one_on (i := 10) rfl (by kernel_rfl) (by rfl) (fun K hK => ?_); go_simp; go_at_call 156; (with_reducible refine (WC _).mono ?_); rintro e w' ⟨rfl, rfl⟩; (first | refine hK.out _ _ ?_ (fun hNew => ?_) | (go_wp2_with fail; refine hK.out _ _ ?_ (fun hNew => ?_))); (· (exact hHeld)); clear hK K hHeld; have hHeld := hNew; clear hNew)
    try simp only [Ro.p]
    iterate 6 ((first | refine Ro.tF 21 ?_ | (refine Ro.tN 21 ?_ ?_ ?_; rotate_left; · (intro wS hSw; (try dsimp only at hSw); go_simp; try with_reducible rfl))); try simp only [Ro.p])
    first
     | (refine Ro.tf 17 ?_)
     | (refine Ro.one_on (i := 17) rfl (by kernel_rfl) (by rfl) (fun K hK => ?_); go_simp; go_at_call 158; (with_reducible refine (MD _).mono ?_); rintro e w' ⟨rfl, rfl⟩; (first | refine hK.out _ _ ?_ (fun hNew => ?_) | (go_wp2_with fail; refine hK.out _ _ ?_ (fun hNew => ?_))); (· (exact hHeld)); clear hK K hHeld; have hHeld := hNew; clear hNew)
    try simp only [Ro.p]
    iterate 3 ((first | refine Ro.tF 21 ?_ | (refine Ro.tN 21 ?_ ?_ ?_; rotate_left; · (intro wS hSw; (try dsimp only at hSw); go_simp; try with_reducible rfl))); try simp only [Ro.p])
    refine wpAnyH_done (by kernel_rfl) ?_ _
    have x9 := hHeld.2.2.2.2.2.2.2.2
    clear hHeld
    go_wp2
    go_ret
    exact ⟨ret_bool E.out, s0.trans x9⟩
   ·rw [decide_eq_false hc] at WC
    have E : Hid (false = G) := Lib.hid (by rw [← HG.out]; simp [hc])
    clear HG hs hc
    go_enter Tryz.func124, Tryz.ntmps124
    go_wp2_with fail
    generalize w.alloc (.cells #[.int .i64 k, .int .i64 wd, .int .i64 sl, .int .i64 cp, .int .u32 sa, .slice ia il ic, .int .i64 ow, .slice ra rl rc] 43) = wa at *
    generalize w.heap.size = q at *
    refine wp_region_held_drew (S := fun w' => w'.cell? ⟨q, 0, none⟩ = some (.int .i64 k) ∧ w'.cell? ⟨q, 1, none⟩ = some (.int .i64 wd) ∧ w'.cell? ⟨q, 2, none⟩ = some (.int .i64 sl) ∧ w'.cell? ⟨q, 3, none⟩ = some (.int .i64 cp) ∧ w'.cell? ⟨q, 4, none⟩ = some (.int .u32 sa) ∧ w'.cell? ⟨q, 5, none⟩ = some (.slice ia il ic) ∧ w'.cell? ⟨q, 6, none⟩ = some (.int .i64 ow) ∧ w'.cell? ⟨q, 7, none⟩ = some (.slice ra rl rc) ∧ Same wa w') (by kernel_rfl) ?_ (fun hHeld => ?_)
    ·exact four_cells HB.out (Same.refl _).drew
    first
     | (refine Ro.tf 0 ?_)
     | (refine Ro.tn 0 ?_ ?_ ?_; rotate_left; · (intro wS hSw; (try dsimp only at hSw); go_simp; try with_reducible rfl))
    try simp only [Ro.p]
    first
     | (refine Ro.tf 1 ?_)
     | (refine Ro.one_on (i := 1) rfl (by kernel_rfl) (by rfl) (fun K hK => ?_); go_simp; go_at_call 153; (with_reducible refine (HR _).mono ?_); rintro e w' ⟨rfl, hs9⟩; (first | refine hK.out _ _ ?_ (fun hNew => ?_) | (go_wp2_with fail; refine hK.out _ _ ?_ (fun hNew => ?_))); (· (exact four_cells HB.out (hHeld.2.2.2.2.2.2.2.2.trans hs9))); clear hK K hHeld; have hHeld := hNew; clear hNew)
    try simp only [Ro.p]
    iterate 3 ((first | refine Ro.tF 21 ?_ | (refine Ro.tN 21 ?_ ?_ ?_; rotate_left; · (intro wS hSw; (try dsimp only at hSw); go_simp; try with_reducible rfl))); try simp only [Ro.p])
    first
     | (refine Ro.tf 5 ?_)
     | (refine Ro.one_on (i := 5) rfl (by kernel_rfl) (by rfl) (fun K hK => ?_); go_simp; go_at_call 156; (with_reducible refine (WS _).mono ?_); rintro e w' ⟨rfl, rfl⟩; (first | refine hK.out _ _ ?_ (fun hNew => ?_) | (go_wp2_with fail; refine hK.out _ _ ?_ (fun hNew => ?_))); (· (exact hHeld)); clear hK K hHeld; have hHeld := hNew; clear hNew)
    try simp only [Ro.p]
    iterate 4 ((first | refine Ro.tF 21 ?_ | (refine Ro.tN 21 ?_ ?_ ?_; rotate_left; · (intro wS hSw; (try dsimp only at hSw); go_simp; try with_reducible rfl))); try simp only [Ro.p])
    first
     | (refine Ro.tf 10 ?_)
     | (refine Ro.one_on (i := 10) rfl (by kernel_rfl) (by rfl) (fun K hK => ?_); go_simp; go_at_call 156; (with_reducible refine (WC _).mono ?_); rintro e w' ⟨rfl, rfl⟩; (first | refine hK.out _ _ ?_ (fun hNew => ?_) | (go_wp2_with fail; refine hK.out _ _ ?_ (fun hNew => ?_))); (· (exact hHeld)); clear hK K hHeld; have hHeld := hNew; clear hNew)
    try simp only [Ro.p]
    iterate 6 ((first | refine Ro.tF 21 ?_ | (refine Ro.tN 21 ?_ ?_ ?_; rotate_left; · (intro wS hSw; (try dsimp only at hSw); go_simp; try with_reducible rfl))); try simp only [Ro.p])
    first
     | (refine Ro.tf 17 ?_)
     | (refine Ro.one_on (i := 17) rfl (by kernel_rfl) (by rfl) (fun K hK => ?_); go_simp; go_at_call 158; (with_reducible refine (MD _).mono ?_); rintro e w' ⟨rfl, rfl⟩; (first | refine hK.out _ _ ?_ (fun hNew => ?_) | (go_wp2_with fail; refine hK.out _ _ ?_ (fun hNew => ?_))); (· (exact hHeld)); clear hK K hHeld; have hHeld := hNew; clear hNew)
    try simp only [Ro.p]
    iterate 3 ((first | refine Ro.tF 21 ?_ | (refine Ro.tN 21 ?_ ?_ ?_; rotate_left; · (intro wS hSw; (try dsimp only at hSw); go_simp; try with_reducible rfl))); try simp only [Ro.p])
    refine wpAnyH_done (by kernel_rfl) ?_ _
    have x9 := hHeld.2.2.2.2.2.2.2.2
    clear hHeld
    go_wp2
    go_ret
    exact ⟨ret_bool E.out, s0.trans x9⟩
  ·rw [decide_eq_false hs] at WS
   have E : Hid (false = G) := Lib.hid (by rw [← HG.out]; simp [hs])
   clear HG hs
   go_enter Tryz.func124, Tryz.ntmps124
   go_wp2_with fail
   generalize w.alloc (.cells #[.int .i64 k, .int .i64 wd, .int .i64 sl, .int .i64 cp, .int .u32 sa, .slice ia il ic, .int .i64 ow, .slice ra rl rc] 43) = wa at *
   generalize w.heap.size = q at *
   refine wp_region_held_drew (S := fun w' => w'.cell? ⟨q, 0, none⟩ = some (.int .i64 k) ∧ w'.cell? ⟨q, 1, none⟩ = some (.int .i64 wd) ∧ w'.cell? ⟨q, 2, none⟩ = some (.int .i64 sl) ∧ w'.cell? ⟨q, 3, none⟩ = some (.int .i64 cp) ∧ w'.cell? ⟨q, 4, none⟩ = some (.int .u32 sa) ∧ w'.cell? ⟨q, 5, none⟩ = some (.slice ia il ic) ∧ w'.cell? ⟨q, 6, none⟩ = some (.int .i64 ow) ∧ w'.cell? ⟨q, 7, none⟩ = some (.slice ra rl rc) ∧ Same wa w') (by kernel_rfl) ?_ (fun hHeld => ?_)
   ·exact four_cells HB.out (Same.refl _).drew
   first
    | (refine Ro.tf 0 ?_)
    | (refine Ro.tn 0 ?_ ?_ ?_; rotate_left; · (intro wS hSw; (try dsimp only at hSw); go_simp; try with_reducible rfl))
   try simp only [Ro.p]
   first
    | (refine Ro.tf 1 ?_)
    | (refine Ro.one_on (i := 1) rfl (by kernel_rfl) (by rfl) (fun K hK => ?_); go_simp; go_at_call 153; (with_reducible refine (HR _).mono ?_); rintro e w' ⟨rfl, hs9⟩; (first | refine hK.out _ _ ?_ (fun hNew => ?_) | (go_wp2_with fail; refine hK.out _ _ ?_ (fun hNew => ?_))); (· (exact four_cells HB.out (hHeld.2.2.2.2.2.2.2.2.trans hs9))); clear hK K hHeld; have hHeld := hNew; clear hNew)
   try simp only [Ro.p]
   iterate 3 ((first | refine Ro.tF 21 ?_ | (refine Ro.tN 21 ?_ ?_ ?_; rotate_left; · (intro wS hSw; (try dsimp only at hSw); go_simp; try with_reducible rfl))); try simp only [Ro.p])
   first
    | (refine Ro.tf 5 ?_)
    | (refine Ro.one_on (i := 5) rfl (by kernel_rfl) (by rfl) (fun K hK => ?_); go_simp; go_at_call 156; (with_reducible refine (WS _).mono ?_); rintro e w' ⟨rfl, rfl⟩; (first | refine hK.out _ _ ?_ (fun hNew => ?_) | (go_wp2_with fail; refine hK.out _ _ ?_ (fun hNew => ?_))); (· (exact hHeld)); clear hK K hHeld; have hHeld := hNew; clear hNew)
   try simp only [Ro.p]
   iterate 4 ((first | refine Ro.tF 21 ?_ | (refine Ro.tN 21 ?_ ?_ ?_; rotate_left; · (intro wS hSw; (try dsimp only at hSw); go_simp; try with_reducible rfl))); try simp only [Ro.p])
   first
    | (refine Ro.tf 10 ?_)
    | (refine Ro.one_on (i := 10) rfl (by kernel_rfl) (by rfl) (fun K hK => ?_); go_simp; go_at_call 156; (with_reducible refine (WC _).mono ?_); rintro e w' ⟨rfl, rfl⟩; (first | refine hK.out _ _ ?_ (fun hNew => ?_) | (go_wp2_with fail; refine hK.out _ _ ?_ (fun hNew => ?_))); (· (exact hHeld)); clear hK K hHeld; have hHeld := hNew; clear hNew)
   try simp only [Ro.p]
   iterate 6 ((first | refine Ro.tF 21 ?_ | (refine Ro.tN 21 ?_ ?_ ?_; rotate_left; · (intro wS hSw; (try dsimp only at hSw); go_simp; try with_reducible rfl))); try simp only [Ro.p])
   first
    | (refine Ro.tf 17 ?_)
    | (refine Ro.one_on (i := 17) rfl (by kernel_rfl) (by rfl) (fun K hK => ?_); go_simp; go_at_call 158; (with_reducible refine (MD _).mono ?_); rintro e w' ⟨rfl, rfl⟩; (first | refine hK.out _ _ ?_ (fun hNew => ?_) | (go_wp2_with fail; refine hK.out _ _ ?_ (fun hNew => ?_))); (· (exact hHeld)); clear hK K hHeld; have hHeld := hNew; clear hNew)
   try simp only [Ro.p]
   iterate 3 ((first | refine Ro.tF 21 ?_ | (refine Ro.tN 21 ?_ ?_ ?_; rotate_left; · (intro wS hSw; (try dsimp only at hSw); go_simp; try with_reducible rfl))); try simp only [Ro.p])
   refine wpAnyH_done (by kernel_rfl) ?_ _
   have x9 := hHeld.2.2.2.2.2.2.2.2
   clear hHeld
   go_wp2
   go_ret
   exact ⟨ret_bool E.out, s0.trans x9⟩

theorem right_any (wd sl cp sa ow : Int) (ia ra : Option Addr) (il ic rl rc : Nat) (w : World) (hsa : 0 ≤ sa ∧ sa < 4294967296 := by assumption) :
 Calls Tryz.prog 124 #[.agg #[.int .i64 4, .int .i64 wd, .int .i64 sl, .int .i64 cp, .int .u32 sa, .slice ia il ic, .int .i64 ow, .slice ra rl rc]] w fun e w' => e = .returned (.bool (rightB wd sl cp sa il rl)) ∧ Same w w' := by
 have h := right_all 4 wd sl cp sa ow ia ra il ic rl rc w hsa
 have e : decide (regB 4 wd il rl 4 = true ∧ (2 ≤ sl ∧ sl ≤ 16) ∧ (1 ≤ cp ∧ cp ≤ 16) ∧ sa < sl * 1048576) = rightB wd sl cp sa il rl := by
  unfold rightB regB
  rw [decide_eq_decide, decide_eq_true_eq]
  omega
 rw [e] at h
 exact h

end Go.Proofs.YthhbhbfkbncegabGreatDoor.Rg
end
section
set_option linter.unusedSimpArgs false
set_option linter.unusedVariables false
namespace Go.Proofs.YthhbhbfkbncegabGreatDoor.Rg
open Go.ChangeShapes Go.WideShapes Go.ChangeAt Go.RowKit Ws Mm Pa
open Go.Proofs.YthhbhbfkbncegabGreatDoor.Ob

theorem HQ {wd sl cp sa : Int} {il rl : Nat} (h : rightB wd sl cp sa il rl = true) : (1 ≤ wd ∧ wd ≤ 8) ∧ (il : Int) = wd ∧ (1 ≤ (rl : Int) ∧ (rl : Int) ≤ 4) ∧ (2 ≤ sl ∧ sl ≤ 16) ∧ (1 ≤ cp ∧ cp ≤ 16) ∧ sa < sl * 1048576 := by
 unfold rightB at h
 exact of_decide_eq_true h
theorem size_yes (wd sl cp sa ow : Int) (ia ra : Option Addr) (il ic rl rc : Nat) (w : World) (hr : rightB wd sl cp sa il rl = true) (hsa : 0 ≤ sa ∧ sa < 4294967296 := by assumption) :
 Calls Tryz.prog 125 #[.agg #[.int .i64 4, .int .i64 wd, .int .i64 sl, .int .i64 cp, .int .u32 sa, .slice ia il ic, .int .i64 ow, .slice ra rl rc]] w fun e w' => e = .returned (.int .i64 (1 + sl * wd)) ∧ Same w w' := by
 have hb := Blk.new w 43 #[.int .i64 4, .int .i64 wd, .int .i64 sl, .int .i64 cp, .int .u32 sa, .slice ia il ic, .int .i64 ow, .slice ra rl rc]
 have s0 := (Same.refl w).alloc (.cells #[.int .i64 4, .int .i64 wd, .int .i64 sl, .int .i64 cp, .int .u32 sa, .slice ia il ic, .int .i64 ow, .slice ra rl rc] 43)
 have HB := Lib.hid hb
 have HR := fun w' => right_any wd sl cp sa ow ia ra il ic rl rc w'
 rw [hr] at HR
 have hq := HQ hr
 obtain ⟨h1, h2⟩ := hq.1
 obtain ⟨e1, e2⟩ := hq.2.2.2.1
 have k1 : 0 ≤ sl * wd := Int.mul_nonneg (by omega) (by omega)
 have k2 : sl * wd ≤ 128 := by
  have := Int.mul_le_mul e2 (show wd ≤ 8 by omega) (by omega) (by omega)
  omega
 have k3 : wrap64 (sl * wd) = sl * wd := by unfold wrap64; omega
 have k4 : IntKind.i64.wrap (sl * wd) = sl * wd := Go.IntWalk.i64_in _ (by omega)
 have k5 : wrap64 (1 + sl * wd) = 1 + sl * wd := by unfold wrap64; omega
 have k6 : IntKind.i64.wrap (1 + sl * wd) = 1 + sl * wd := Go.IntWalk.i64_in _ (by omega)
 have HQ2 := Lib.hid hq
 clear hb hq hr
 go_enter Tryz.func125, Tryz.ntmps125
 go_wp2_with fail
 refine (HR _).mono ?_
 rintro e w1 ⟨rfl, s1⟩
 have hb1 := HB.out.same s1
 have S1 := Lib.hid (s0.trans s1)
 have HB1 := Lib.hid hb1
 obtain ⟨d0, d1, d2, d3, d4, d5, d6, d7⟩ := obj_cells hb1
 clear hb1 s0 s1 HB HR
 generalize w.heap.size = q at *
 go_wp2
 go_ret
 exact ⟨rfl, S1.out⟩
def boundI (wd cp op : Int) : Int := if op = 2 then wd + 2 else if op = 1 then cp * (wd + 2) else 0
theorem bound_yes (wd sl cp sa ow : Int) (ia ra : Option Addr) (il ic rl rc : Nat) (op : Int) (w : World) (hr : rightB wd sl cp sa il rl = true) (hsa : 0 ≤ sa ∧ sa < 4294967296 := by assumption) :
 Calls Tryz.prog 127 #[.agg #[.int .i64 4, .int .i64 wd, .int .i64 sl, .int .i64 cp, .int .u32 sa, .slice ia il ic, .int .i64 ow, .slice ra rl rc], .int .i64 op] w fun e w' => e = .returned (.int .i64 (boundI wd cp op)) ∧ Same w w' := by
 have hb := Blk.new w 43 #[.int .i64 4, .int .i64 wd, .int .i64 sl, .int .i64 cp, .int .u32 sa, .slice ia il ic, .int .i64 ow, .slice ra rl rc]
 have s0 := (Same.refl w).alloc (.cells #[.int .i64 4, .int .i64 wd, .int .i64 sl, .int .i64 cp, .int .u32 sa, .slice ia il ic, .int .i64 ow, .slice ra rl rc] 43)
 have HB := Lib.hid hb
 have HR := fun w' => right_any wd sl cp sa ow ia ra il ic rl rc w'
 rw [hr] at HR
 have hq := HQ hr
 obtain ⟨c1, c2⟩ := hq.2.2.2.2.1
 have m1 : 0 ≤ cp * (wd + 2) := Int.mul_nonneg (by omega) (by omega)
 have m2 : cp * (wd + 2) ≤ 160 := by
  have := Int.mul_le_mul c2 (show wd + 2 ≤ 10 by omega) (by omega) (by omega)
  omega
 have m3 : wrap64 (cp * (wd + 2)) = cp * (wd + 2) := by unfold wrap64; omega
 have m4 : IntKind.i64.wrap (cp * (wd + 2)) = cp * (wd + 2) := Go.IntWalk.i64_in _ (by omega)
 obtain ⟨h1, h2⟩ := hq.1
 have HQ2 := Lib.hid hq
 clear hb hq hr
 go_enter Tryz.func127, Tryz.ntmps127
 go_wp2_with fail
 refine (HR _).mono ?_
 rintro e w1 ⟨rfl, s1⟩
 have hb1 := HB.out.same s1
 have S1 := Lib.hid (s0.trans s1)
 have HB1 := Lib.hid hb1
 obtain ⟨d0, d1, d2, d3, d4, d5, d6, d7⟩ := obj_cells hb1
 clear hb1 s0 s1 HB HR
 generalize w.heap.size = q at *
 go_wp2
 all_goals
  go_ret
  exact ⟨ret_int (by unfold boundI; try simp only [beq_iff_eq, beq_eq_false_iff_ne, ne_eq] at *; repeat (split <;> try omega)), S1.out⟩
theorem bound_no (wd sl cp sa ow : Int) (ia ra : Option Addr) (il ic rl rc : Nat) (op : Int) (w : World) (hr : rightB wd sl cp sa il rl = false) (hsa : 0 ≤ sa ∧ sa < 4294967296 := by assumption) :
 Calls Tryz.prog 127 #[.agg #[.int .i64 4, .int .i64 wd, .int .i64 sl, .int .i64 cp, .int .u32 sa, .slice ia il ic, .int .i64 ow, .slice ra rl rc], .int .i64 op] w fun e w' => e = .returned (.int .i64 0) ∧ Same w w' := by
 have HR := fun w' => right_any wd sl cp sa ow ia ra il ic rl rc w'
 rw [hr] at HR
 clear hr
 go_enter Tryz.func127, Tryz.ntmps127
 go_wp2_with fail
 refine (HR _).mono ?_
 rintro e w1 ⟨rfl, s1⟩
 go_wp2_with fail
 go_ret
 exact ⟨rfl, Same.trans ((Same.refl _).alloc _) s1⟩
end Go.Proofs.YthhbhbfkbncegabGreatDoor.Rg
end
