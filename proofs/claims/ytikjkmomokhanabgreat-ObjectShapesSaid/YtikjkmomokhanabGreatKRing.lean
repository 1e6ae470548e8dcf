/-

  An object of the kind ring: all that it is, without its operations.
-/
import Derived.Test.YtikjkmomokhanabGreatKBase
import Derived.Deep.CutRange
set_option linter.unusedSimpArgs false
set_option linter.unusedVariables false
namespace Go.Proofs.YtikjkmomokhanabGreat.Krg
open Go.ChangeShapes Go.WideShapes Go.ChangeAt Go.RowKit Ws Km Kp
open Go.Proofs.YtikjkmomokhanabGreat.Kb

theorem modulus_any (n : Nat) (hn : 2 ≤ n ∧ n ≤ 16) (w : World) :
    Calls Tryz.prog 114 #[.int .i64 n] w fun e w' => e = .returned (.int .u32 ((n : Int) * 1048576)) ∧ w = w' := by
  have f1 := u32_in (n : Int) (by omega)
  have f2 := u32_in ((n : Int) * 1048576) (by omega)
  clear hn
  go_enter Tryz.func114, Tryz.ntmps114
  go_wp2
  go_ret
  exact ⟨rfl, rfl⟩

/-- whether an object of this kind may be -/
def rightB (wd sl cp sa : Int) (il rl : Nat) : Bool := decide ((1 ≤ wd ∧ wd ≤ 8) ∧ (il : Int) = wd ∧ (1 ≤ (rl : Int) ∧ (rl : Int) ≤ 4) ∧ (2 ≤ sl ∧ sl ≤ 16) ∧ (1 ≤ cp ∧ cp ≤ 16) ∧ sa < sl * 1048576)

theorem four_cells {w w' : World} {q : Nat} {T : TypeId} {k wd sl cp sa ow : Int} {ia ra : Option Addr} {il ic rl rc : Nat} (h : Blk w q T #[.int .i64 k, .int .i64 wd, .int .i64 sl, .int .i64 cp, .int .u32 sa, .slice ia il ic, .int .i64 ow, .slice ra rl rc]) (s : Same w w') :
    w'.cell? ⟨q, 0, none⟩ = some (.int .i64 k) ∧ w'.cell? ⟨q, 1, none⟩ = some (.int .i64 wd) ∧ w'.cell? ⟨q, 2, none⟩ = some (.int .i64 sl) ∧ w'.cell? ⟨q, 3, none⟩ = some (.int .i64 cp) ∧ w'.cell? ⟨q, 4, none⟩ = some (.int .u32 sa) ∧ w'.cell? ⟨q, 5, none⟩ = some (.slice ia il ic) ∧ w'.cell? ⟨q, 6, none⟩ = some (.int .i64 ow) ∧ w'.cell? ⟨q, 7, none⟩ = some (.slice ra rl rc) ∧ Same w w' := by
  obtain ⟨d0, d1, d2, d3, d4, d5, d6, d7⟩ := obj_cells (h.same s)
  exact ⟨d0, d1, d2, d3, d4, d5, d6, d7, s⟩
set_option maxHeartbeats 1000000 in
theorem right_all (k wd sl cp sa ow : Int) (ia ra : Option Addr) (il ic rl rc : Nat) (w : World) (hsa : 0 ≤ sa ∧ sa < 4294967296 := by assumption) :
    Calls Tryz.prog 75 #[.agg #[.int .i64 k, .int .i64 wd, .int .i64 sl, .int .i64 cp, .int .u32 sa, .slice ia il ic, .int .i64 ow, .slice ra rl rc]] w fun e w' => e = .returned (.bool (decide (regB k wd il rl 4 = true ∧ (2 ≤ sl ∧ sl ≤ 16) ∧ (1 ≤ cp ∧ cp ≤ 16) ∧ sa < sl * 1048576))) ∧ Same w w' := by
  have s0 := (Same.refl w).alloc (.cells #[.int .i64 k, .int .i64 wd, .int .i64 sl, .int .i64 cp, .int .u32 sa, .slice ia il ic, .int .i64 ow, .slice ra rl rc] 26)
  have hb := Blk.new w 26 #[.int .i64 k, .int .i64 wd, .int .i64 sl, .int .i64 cp, .int .u32 sa, .slice ia il ic, .int .i64 ow, .slice ra rl rc]
  have HB := Lib.hid hb
  clear hb
  have HR := fun w' => register_any 4 k wd sl cp sa ow ia ra il ic rl rc w'
  have WS := fun w' => within_any sl 2 16 w'
  have WC := fun w' => within_any cp 1 16 w'
  generalize hr : regB k wd il rl 4 = r at *
  clear hr
  generalize hG : decide (r = true ∧ (2 ≤ sl ∧ sl ≤ 16) ∧ (1 ≤ cp ∧ cp ≤ 16) ∧ sa < sl * 1048576) = G at *
  have HG := Lib.hid hG
  clear hG
  cases r with
  | false =>
    have E : Hid (false = G) := Lib.hid (by rw [← HG.out]; simp)
    clear HG
    go_enter Tryz.func75, Tryz.ntmps75
    go_wp2_with fail
    generalize w.alloc (.cells #[.int .i64 k, .int .i64 wd, .int .i64 sl, .int .i64 cp, .int .u32 sa, .slice ia il ic, .int .i64 ow, .slice ra rl rc] 26) = wa at *
    generalize w.heap.size = q at *
    refine wp_region_held_drew (S := fun w' => w'.cell? ⟨q, 0, none⟩ = some (.int .i64 k) ∧ w'.cell? ⟨q, 1, none⟩ = some (.int .i64 wd) ∧ w'.cell? ⟨q, 2, none⟩ = some (.int .i64 sl) ∧ w'.cell? ⟨q, 3, none⟩ = some (.int .i64 cp) ∧ w'.cell? ⟨q, 4, none⟩ = some (.int .u32 sa) ∧ w'.cell? ⟨q, 5, none⟩ = some (.slice ia il ic) ∧ w'.cell? ⟨q, 6, none⟩ = some (.int .i64 ow) ∧ w'.cell? ⟨q, 7, none⟩ = some (.slice ra rl rc) ∧ Same wa w') (by kernel_rfl) ?_ (fun hHeld => ?_)
    · exact four_cells HB.out (Same.refl _).drew
    first
      | (refine Ro.take_off (i := 0) rfl (by kernel_rfl) (by kernel_rfl) (by kernel_rfl) (fun _ _ _ h => h) (by rfl) (by assumption) ?_)
      | (refine Ro.take_on (i := 0) (v := ?_) rfl (by kernel_rfl) (by kernel_rfl) (by kernel_rfl) (fun _ _ _ h => h) (by rfl) (by assumption) ?_ ?_; rotate_left; · (intro wS hSw; (try dsimp only at hSw); go_simp; try with_reducible rfl))
    try simp only [Act.put, List.setIfInBounds_toArray, List.set_cons_zero, List.set_cons_succ]
    first
      | (refine Ro.take_off (i := 1) rfl (by kernel_rfl) (by kernel_rfl) (by kernel_rfl) (fun _ _ _ h => h) (by rfl) (by assumption) ?_)
      | (refine Ro.one_on (i := 1) rfl (by kernel_rfl) (by rfl) (fun K hK => ?_); go_simp; go_at_call 110; (with_reducible refine (HR _).mono ?_); rintro e w' ⟨rfl, hs9⟩; (first | refine hK.out _ _ ?_ (fun hNew => ?_) | (go_wp2_with fail; refine hK.out _ _ ?_ (fun hNew => ?_))); (· (exact four_cells HB.out (hHeld.2.2.2.2.2.2.2.2.trans hs9))); clear hK K hHeld; have hHeld := hNew; clear hNew)
    try simp only [Act.put, List.setIfInBounds_toArray, List.set_cons_zero, List.set_cons_succ]
    first
      | (refine Ro.take_off (i := 2) rfl (by kernel_rfl) (by kernel_rfl) (by kernel_rfl) (fun _ _ _ h => h) (by rfl) (by assumption) ?_)
      | (refine Ro.take_on (i := 2) (v := ?_) rfl (by kernel_rfl) (by kernel_rfl) (by kernel_rfl) (fun _ _ _ h => h) (by rfl) (by assumption) ?_ ?_; rotate_left; · (intro wS hSw; (try dsimp only at hSw); go_simp; try with_reducible rfl))
    try simp only [Act.put, List.setIfInBounds_toArray, List.set_cons_zero, List.set_cons_succ]
    first
      | (refine Ro.take_off (i := 3) rfl (by kernel_rfl) (by kernel_rfl) (by kernel_rfl) (fun _ _ _ h => h) (by rfl) (by assumption) ?_)
      | (refine Ro.take_on (i := 3) (v := ?_) rfl (by kernel_rfl) (by kernel_rfl) (by kernel_rfl) (fun _ _ _ h => h) (by rfl) (by assumption) ?_ ?_; rotate_left; · (intro wS hSw; (try dsimp only at hSw); go_simp; try with_reducible rfl))
    try simp only [Act.put, List.setIfInBounds_toArray, List.set_cons_zero, List.set_cons_succ]
    first
      | (refine Ro.take_off (i := 4) rfl (by kernel_rfl) (by kernel_rfl) (by kernel_rfl) (fun _ _ _ h => h) (by rfl) (by assumption) ?_)
      | (refine Ro.take_on (i := 4) (v := ?_) rfl (by kernel_rfl) (by kernel_rfl) (by kernel_rfl) (fun _ _ _ h => h) (by rfl) (by assumption) ?_ ?_; rotate_left; · (intro wS hSw; (try dsimp only at hSw); go_simp; try with_reducible rfl))
    try simp only [Act.put, List.setIfInBounds_toArray, List.set_cons_zero, List.set_cons_succ]
    first
      | (refine Ro.take_off (i := 5) rfl (by kernel_rfl) (by kernel_rfl) (by kernel_rfl) (fun _ _ _ h => h) (by rfl) (by assumption) ?_)
      | (refine Ro.one_on (i := 5) rfl (by kernel_rfl) (by rfl) (fun K hK => ?_); go_simp; go_at_call 42; (with_reducible refine (WS _).mono ?_); rintro e w' ⟨rfl, rfl⟩; (first | refine hK.out _ _ ?_ (fun hNew => ?_) | (go_wp2_with fail; refine hK.out _ _ ?_ (fun hNew => ?_))); (· (exact hHeld)); clear hK K hHeld; have hHeld := hNew; clear hNew)
    try simp only [Act.put, List.setIfInBounds_toArray, List.set_cons_zero, List.set_cons_succ]
    first
      | (refine Ro.take_off (i := 6) rfl (by kernel_rfl) (by kernel_rfl) (by kernel_rfl) (fun _ _ _ h => h) (by rfl) (by assumption) ?_)
      | (refine Ro.take_on (i := 6) (v := ?_) rfl (by kernel_rfl) (by kernel_rfl) (by kernel_rfl) (fun _ _ _ h => h) (by rfl) (by assumption) ?_ ?_; rotate_left; · (intro wS hSw; (try dsimp only at hSw); go_simp; try with_reducible rfl))
    try simp only [Act.put, List.setIfInBounds_toArray, List.set_cons_zero, List.set_cons_succ]
    first
      | (refine Ro.take_off (i := 7) rfl (by kernel_rfl) (by kernel_rfl) (by kernel_rfl) (fun _ _ _ h => h) (by rfl) (by assumption) ?_)
      | (refine Ro.take_on (i := 7) (v := ?_) rfl (by kernel_rfl) (by kernel_rfl) (by kernel_rfl) (fun _ _ _ h => h) (by rfl) (by assumption) ?_ ?_; rotate_left; · (intro wS hSw; (try dsimp only at hSw); go_simp; try with_reducible rfl))
    try simp only [Act.put, List.setIfInBounds_toArray, List.set_cons_zero, List.set_cons_succ]
    first
      | (refine Ro.take_off (i := 8) rfl (by kernel_rfl) (by kernel_rfl) (by kernel_rfl) (fun _ _ _ h => h) (by rfl) (by assumption) ?_)
      | (refine Ro.take_on (i := 8) (v := ?_) rfl (by kernel_rfl) (by kernel_rfl) (by kernel_rfl) (fun _ _ _ h => h) (by rfl) (by assumption) ?_ ?_; rotate_left; · (intro wS hSw; (try dsimp only at hSw); go_simp; try with_reducible rfl))
    try simp only [Act.put, List.setIfInBounds_toArray, List.set_cons_zero, List.set_cons_succ]
    first
      | (refine Ro.take_off (i := 9) rfl (by kernel_rfl) (by kernel_rfl) (by kernel_rfl) (fun _ _ _ h => h) (by rfl) (by assumption) ?_)
      | (refine Ro.take_on (i := 9) (v := ?_) rfl (by kernel_rfl) (by kernel_rfl) (by kernel_rfl) (fun _ _ _ h => h) (by rfl) (by assumption) ?_ ?_; rotate_left; · (intro wS hSw; (try dsimp only at hSw); go_simp; try with_reducible rfl))
    try simp only [Act.put, List.setIfInBounds_toArray, List.set_cons_zero, List.set_cons_succ]
    first
      | (refine Ro.take_off (i := 10) rfl (by kernel_rfl) (by kernel_rfl) (by kernel_rfl) (fun _ _ _ h => h) (by rfl) (by assumption) ?_)
      | (refine Ro.one_on (i := 10) rfl (by kernel_rfl) (by rfl) (fun K hK => ?_); go_simp; go_at_call 42; (with_reducible refine (WC _).mono ?_); rintro e w' ⟨rfl, rfl⟩; (first | refine hK.out _ _ ?_ (fun hNew => ?_) | (go_wp2_with fail; refine hK.out _ _ ?_ (fun hNew => ?_))); (· (exact hHeld)); clear hK K hHeld; have hHeld := hNew; clear hNew)
    try simp only [Act.put, List.setIfInBounds_toArray, List.set_cons_zero, List.set_cons_succ]
    first
      | (refine Ro.take_off (i := 11) rfl (by kernel_rfl) (by kernel_rfl) (by kernel_rfl) (fun _ _ _ h => h) (by rfl) (by assumption) ?_)
      | (refine Ro.take_on (i := 11) (v := ?_) rfl (by kernel_rfl) (by kernel_rfl) (by kernel_rfl) (fun _ _ _ h => h) (by rfl) (by assumption) ?_ ?_; rotate_left; · (intro wS hSw; (try dsimp only at hSw); go_simp; try with_reducible rfl))
    try simp only [Act.put, List.setIfInBounds_toArray, List.set_cons_zero, List.set_cons_succ]
    first
      | (refine Ro.take_off (i := 12) rfl (by kernel_rfl) (by kernel_rfl) (by kernel_rfl) (fun _ _ _ h => h) (by rfl) (by assumption) ?_)
      | (refine Ro.take_on (i := 12) (v := ?_) rfl (by kernel_rfl) (by kernel_rfl) (by kernel_rfl) (fun _ _ _ h => h) (by rfl) (by assumption) ?_ ?_; rotate_left; · (intro wS hSw; (try dsimp only at hSw); go_simp; try with_reducible rfl))
    try simp only [Act.put, List.setIfInBounds_toArray, List.set_cons_zero, List.set_cons_succ]
    first
      | (refine Ro.take_off (i := 13) rfl (by kernel_rfl) (by kernel_rfl) (by kernel_rfl) (fun _ _ _ h => h) (by rfl) (by assumption) ?_)
      | (refine Ro.take_on (i := 13) (v := ?_) rfl (by kernel_rfl) (by kernel_rfl) (by kernel_rfl) (fun _ _ _ h => h) (by rfl) (by assumption) ?_ ?_; rotate_left; · (intro wS hSw; (try dsimp only at hSw); go_simp; try with_reducible rfl))
    try simp only [Act.put, List.setIfInBounds_toArray, List.set_cons_zero, List.set_cons_succ]
    first
      | (refine Ro.take_off (i := 14) rfl (by kernel_rfl) (by kernel_rfl) (by kernel_rfl) (fun _ _ _ h => h) (by rfl) (by assumption) ?_)
      | (refine Ro.take_on (i := 14) (v := ?_) rfl (by kernel_rfl) (by kernel_rfl) (by kernel_rfl) (fun _ _ _ h => h) (by rfl) (by assumption) ?_ ?_; rotate_left; · (intro wS hSw; (try dsimp only at hSw); go_simp; try with_reducible rfl))
    try simp only [Act.put, List.setIfInBounds_toArray, List.set_cons_zero, List.set_cons_succ]
    first
      | (refine Ro.take_off (i := 15) rfl (by kernel_rfl) (by kernel_rfl) (by kernel_rfl) (fun _ _ _ h => h) (by rfl) (by assumption) ?_)
      | (refine Ro.take_on (i := 15) (v := ?_) rfl (by kernel_rfl) (by kernel_rfl) (by kernel_rfl) (fun _ _ _ h => h) (by rfl) (by assumption) ?_ ?_; rotate_left; · (intro wS hSw; (try dsimp only at hSw); go_simp; try with_reducible rfl))
    try simp only [Act.put, List.setIfInBounds_toArray, List.set_cons_zero, List.set_cons_succ]
    first
      | (refine Ro.take_off (i := 16) rfl (by kernel_rfl) (by kernel_rfl) (by kernel_rfl) (fun _ _ _ h => h) (by rfl) (by assumption) ?_)
      | (refine Ro.take_on (i := 16) (v := ?_) rfl (by kernel_rfl) (by kernel_rfl) (by kernel_rfl) (fun _ _ _ h => h) (by rfl) (by assumption) ?_ ?_; rotate_left; · (intro wS hSw; (try dsimp only at hSw); go_simp; try with_reducible rfl))
    try simp only [Act.put, List.setIfInBounds_toArray, List.set_cons_zero, List.set_cons_succ]
    first
      | (refine Ro.take_off (i := 17) rfl (by kernel_rfl) (by kernel_rfl) (by kernel_rfl) (fun _ _ _ h => h) (by rfl) (by assumption) ?_)
      | (refine Ro.one_on (i := 17) rfl (by kernel_rfl) (by rfl) (fun K hK => ?_); go_simp; go_at_call 114; (with_reducible refine (MD _).mono ?_); rintro e w' ⟨rfl, rfl⟩; (first | refine hK.out _ _ ?_ (fun hNew => ?_) | (go_wp2_with fail; refine hK.out _ _ ?_ (fun hNew => ?_))); (· (exact hHeld)); clear hK K hHeld; have hHeld := hNew; clear hNew)
    try simp only [Act.put, List.setIfInBounds_toArray, List.set_cons_zero, List.set_cons_succ]
    first
      | (refine Ro.take_off (i := 18) rfl (by kernel_rfl) (by kernel_rfl) (by kernel_rfl) (fun _ _ _ h => h) (by rfl) (by assumption) ?_)
      | (refine Ro.take_on (i := 18) (v := ?_) rfl (by kernel_rfl) (by kernel_rfl) (by kernel_rfl) (fun _ _ _ h => h) (by rfl) (by assumption) ?_ ?_; rotate_left; · (intro wS hSw; (try dsimp only at hSw); go_simp; try with_reducible rfl))
    try simp only [Act.put, List.setIfInBounds_toArray, List.set_cons_zero, List.set_cons_succ]
    first
      | (refine Ro.take_off (i := 19) rfl (by kernel_rfl) (by kernel_rfl) (by kernel_rfl) (fun _ _ _ h => h) (by rfl) (by assumption) ?_)
      | (refine Ro.take_on (i := 19) (v := ?_) rfl (by kernel_rfl) (by kernel_rfl) (by kernel_rfl) (fun _ _ _ h => h) (by rfl) (by assumption) ?_ ?_; rotate_left; · (intro wS hSw; (try dsimp only at hSw); go_simp; try with_reducible rfl))
    try simp only [Act.put, List.setIfInBounds_toArray, List.set_cons_zero, List.set_cons_succ]
    first
      | (refine Ro.take_off (i := 20) rfl (by kernel_rfl) (by kernel_rfl) (by kernel_rfl) (fun _ _ _ h => h) (by rfl) (by assumption) ?_)
      | (refine Ro.take_on (i := 20) (v := ?_) rfl (by kernel_rfl) (by kernel_rfl) (by kernel_rfl) (fun _ _ _ h => h) (by rfl) (by assumption) ?_ ?_; rotate_left; · (intro wS hSw; (try dsimp only at hSw); go_simp; try with_reducible rfl))
    try simp only [Act.put, List.setIfInBounds_toArray, List.set_cons_zero, List.set_cons_succ]
    refine wpAnyH_done (by kernel_rfl) ?_ _
    have x9 := hHeld.2.2.2.2.2.2.2.2
    clear hHeld
    go_wp2
    go_ret
    exact ⟨ret_bool E.out, s0.trans x9⟩
  | true =>
    by_cases hs : 2 ≤ sl ∧ sl ≤ 16
    · have MD := fun w' => modulus_any sl.toNat (by omega) w'
      rw [show ((sl.toNat : Nat) : Int) = sl by omega] at MD
      rw [decide_eq_true hs] at WS
      by_cases hc : 1 ≤ cp ∧ cp ≤ 16
      · rw [decide_eq_true hc] at WC
        have E : Hid (decide (sa < sl * 1048576) = G) := Lib.hid (by rw [← HG.out, decide_eq_decide]; simp [hs, hc])
        clear HG hs hc
        go_enter Tryz.func75, Tryz.ntmps75
        go_wp2_with fail
        generalize w.alloc (.cells #[.int .i64 k, .int .i64 wd, .int .i64 sl, .int .i64 cp, .int .u32 sa, .slice ia il ic, .int .i64 ow, .slice ra rl rc] 26) = wa at *
        generalize w.heap.size = q at *
        refine wp_region_held_drew (S := fun w' => w'.cell? ⟨q, 0, none⟩ = some (.int .i64 k) ∧ w'.cell? ⟨q, 1, none⟩ = some (.int .i64 wd) ∧ w'.cell? ⟨q, 2, none⟩ = some (.int .i64 sl) ∧ w'.cell? ⟨q, 3, none⟩ = some (.int .i64 cp) ∧ w'.cell? ⟨q, 4, none⟩ = some (.int .u32 sa) ∧ w'.cell? ⟨q, 5, none⟩ = some (.slice ia il ic) ∧ w'.cell? ⟨q, 6, none⟩ = some (.int .i64 ow) ∧ w'.cell? ⟨q, 7, none⟩ = some (.slice ra rl rc) ∧ Same wa w') (by kernel_rfl) ?_ (fun hHeld => ?_)
        · exact four_cells HB.out (Same.refl _).drew
        first
          | (refine Ro.take_off (i := 0) rfl (by kernel_rfl) (by kernel_rfl) (by kernel_rfl) (fun _ _ _ h => h) (by rfl) (by assumption) ?_)
          | (refine Ro.take_on (i := 0) (v := ?_) rfl (by kernel_rfl) (by kernel_rfl) (by kernel_rfl) (fun _ _ _ h => h) (by rfl) (by assumption) ?_ ?_; rotate_left; · (intro wS hSw; (try dsimp only at hSw); go_simp; try with_reducible rfl))
        try simp only [Act.put, List.setIfInBounds_toArray, List.set_cons_zero, List.set_cons_succ]
        first
          | (refine Ro.take_off (i := 1) rfl (by kernel_rfl) (by kernel_rfl) (by kernel_rfl) (fun _ _ _ h => h) (by rfl) (by assumption) ?_)
          | (refine Ro.one_on (i := 1) rfl (by kernel_rfl) (by rfl) (fun K hK => ?_); go_simp; go_at_call 110; (with_reducible refine (HR _).mono ?_); rintro e w' ⟨rfl, hs9⟩; (first | refine hK.out _ _ ?_ (fun hNew => ?_) | (go_wp2_with fail; refine hK.out _ _ ?_ (fun hNew => ?_))); (· (exact four_cells HB.out (hHeld.2.2.2.2.2.2.2.2.trans hs9))); clear hK K hHeld; have hHeld := hNew; clear hNew)
        try simp only [Act.put, List.setIfInBounds_toArray, List.set_cons_zero, List.set_cons_succ]
        first
          | (refine Ro.take_off (i := 2) rfl (by kernel_rfl) (by kernel_rfl) (by kernel_rfl) (fun _ _ _ h => h) (by rfl) (by assumption) ?_)
          | (refine Ro.take_on (i := 2) (v := ?_) rfl (by kernel_rfl) (by kernel_rfl) (by kernel_rfl) (fun _ _ _ h => h) (by rfl) (by assumption) ?_ ?_; rotate_left; · (intro wS hSw; (try dsimp only at hSw); go_simp; try with_reducible rfl))
        try simp only [Act.put, List.setIfInBounds_toArray, List.set_cons_zero, List.set_cons_succ]
        first
          | (refine Ro.take_off (i := 3) rfl (by kernel_rfl) (by kernel_rfl) (by kernel_rfl) (fun _ _ _ h => h) (by rfl) (by assumption) ?_)
          | (refine Ro.take_on (i := 3) (v := ?_) rfl (by kernel_rfl) (by kernel_rfl) (by kernel_rfl) (fun _ _ _ h => h) (by rfl) (by assumption) ?_ ?_; rotate_left; · (intro wS hSw; (try dsimp only at hSw); go_simp; try with_reducible rfl))
        try simp only [Act.put, List.setIfInBounds_toArray, List.set_cons_zero, List.set_cons_succ]
        first
          | (refine Ro.take_off (i := 4) rfl (by kernel_rfl) (by kernel_rfl) (by kernel_rfl) (fun _ _ _ h => h) (by rfl) (by assumption) ?_)
          | (refine Ro.take_on (i := 4) (v := ?_) rfl (by kernel_rfl) (by kernel_rfl) (by kernel_rfl) (fun _ _ _ h => h) (by rfl) (by assumption) ?_ ?_; rotate_left; · (intro wS hSw; (try dsimp only at hSw); go_simp; try with_reducible rfl))
        try simp only [Act.put, List.setIfInBounds_toArray, List.set_cons_zero, List.set_cons_succ]
        first
          | (refine Ro.take_off (i := 5) rfl (by kernel_rfl) (by kernel_rfl) (by kernel_rfl) (fun _ _ _ h => h) (by rfl) (by assumption) ?_)
          | (refine Ro.one_on (i := 5) rfl (by kernel_rfl) (by rfl) (fun K hK => ?_); go_simp; go_at_call 42; (with_reducible refine (WS _).mono ?_); rintro e w' ⟨rfl, rfl⟩; (first | refine hK.out _ _ ?_ (fun hNew => ?_) | (go_wp2_with fail; refine hK.out _ _ ?_ (fun hNew => ?_))); (· (exact hHeld)); clear hK K hHeld; have hHeld := hNew; clear hNew)
        try simp only [Act.put, List.setIfInBounds_toArray, List.set_cons_zero, List.set_cons_succ]
        first
          | (refine Ro.take_off (i := 6) rfl (by kernel_rfl) (by kernel_rfl) (by kernel_rfl) (fun _ _ _ h => h) (by rfl) (by assumption) ?_)
          | (refine Ro.take_on (i := 6) (v := ?_) rfl (by kernel_rfl) (by kernel_rfl) (by kernel_rfl) (fun _ _ _ h => h) (by rfl) (by assumption) ?_ ?_; rotate_left; · (intro wS hSw; (try dsimp only at hSw); go_simp; try with_reducible rfl))
        try simp only [Act.put, List.setIfInBounds_toArray, List.set_cons_zero, List.set_cons_succ]
        first
          | (refine Ro.take_off (i := 7) rfl (by kernel_rfl) (by kernel_rfl) (by kernel_rfl) (fun _ _ _ h => h) (by rfl) (by assumption) ?_)
          | (refine Ro.take_on (i := 7) (v := ?_) rfl (by kernel_rfl) (by kernel_rfl) (by kernel_rfl) (fun _ _ _ h => h) (by rfl) (by assumption) ?_ ?_; rotate_left; · (intro wS hSw; (try dsimp only at hSw); go_simp; try with_reducible rfl))
        try simp only [Act.put, List.setIfInBounds_toArray, List.set_cons_zero, List.set_cons_succ]
        first
          | (refine Ro.take_off (i := 8) rfl (by kernel_rfl) (by kernel_rfl) (by kernel_rfl) (fun _ _ _ h => h) (by rfl) (by assumption) ?_)
          | (refine Ro.take_on (i := 8) (v := ?_) rfl (by kernel_rfl) (by kernel_rfl) (by kernel_rfl) (fun _ _ _ h => h) (by rfl) (by assumption) ?_ ?_; rotate_left; · (intro wS hSw; (try dsimp only at hSw); go_simp; try with_reducible rfl))
        try simp only [Act.put, List.setIfInBounds_toArray, List.set_cons_zero, List.set_cons_succ]
        first
          | (refine Ro.take_off (i := 9) rfl (by kernel_rfl) (by kernel_rfl) (by kernel_rfl) (fun _ _ _ h => h) (by rfl) (by assumption) ?_)
          | (refine Ro.take_on (i := 9) (v := ?_) rfl (by kernel_rfl) (by kernel_rfl) (by kernel_rfl) (fun _ _ _ h => h) (by rfl) (by assumption) ?_ ?_; rotate_left; · (intro wS hSw; (try dsimp only at hSw); go_simp; try with_reducible rfl))
        try simp only [Act.put, List.setIfInBounds_toArray, List.set_cons_zero, List.set_cons_succ]
        first
          | (refine Ro.take_off (i := 10) rfl (by kernel_rfl) (by kernel_rfl) (by kernel_rfl) (fun _ _ _ h => h) (by rfl) (by assumption) ?_)
          | (refine Ro.one_on (i := 10) rfl (by kernel_rfl) (by rfl) (fun K hK => ?_); go_simp; go_at_call 42; (with_reducible refine (WC _).mono ?_); rintro e w' ⟨rfl, rfl⟩; (first | refine hK.out _ _ ?_ (fun hNew => ?_) | (go_wp2_with fail; refine hK.out _ _ ?_ (fun hNew => ?_))); (· (exact hHeld)); clear hK K hHeld; have hHeld := hNew; clear hNew)
        try simp only [Act.put, List.setIfInBounds_toArray, List.set_cons_zero, List.set_cons_succ]
        first
          | (refine Ro.take_off (i := 11) rfl (by kernel_rfl) (by kernel_rfl) (by kernel_rfl) (fun _ _ _ h => h) (by rfl) (by assumption) ?_)
          | (refine Ro.take_on (i := 11) (v := ?_) rfl (by kernel_rfl) (by kernel_rfl) (by kernel_rfl) (fun _ _ _ h => h) (by rfl) (by assumption) ?_ ?_; rotate_left; · (intro wS hSw; (try dsimp only at hSw); go_simp; try with_reducible rfl))
        try simp only [Act.put, List.setIfInBounds_toArray, List.set_cons_zero, List.set_cons_succ]
        first
          | (refine Ro.take_off (i := 12) rfl (by kernel_rfl) (by kernel_rfl) (by kernel_rfl) (fun _ _ _ h => h) (by rfl) (by assumption) ?_)
          | (refine Ro.take_on (i := 12) (v := ?_) rfl (by kernel_rfl) (by kernel_rfl) (by kernel_rfl) (fun _ _ _ h => h) (by rfl) (by assumption) ?_ ?_; rotate_left; · (intro wS hSw; (try dsimp only at hSw); go_simp; try with_reducible rfl))
        try simp only [Act.put, List.setIfInBounds_toArray, List.set_cons_zero, List.set_cons_succ]
        first
          | (refine Ro.take_off (i := 13) rfl (by kernel_rfl) (by kernel_rfl) (by kernel_rfl) (fun _ _ _ h => h) (by rfl) (by assumption) ?_)
          | (refine Ro.take_on (i := 13) (v := ?_) rfl (by kernel_rfl) (by kernel_rfl) (by kernel_rfl) (fun _ _ _ h => h) (by rfl) (by assumption) ?_ ?_; rotate_left; · (intro wS hSw; (try dsimp only at hSw); go_simp; try with_reducible rfl))
        try simp only [Act.put, List.setIfInBounds_toArray, List.set_cons_zero, List.set_cons_succ]
        first
          | (refine Ro.take_off (i := 14) rfl (by kernel_rfl) (by kernel_rfl) (by kernel_rfl) (fun _ _ _ h => h) (by rfl) (by assumption) ?_)
          | (refine Ro.take_on (i := 14) (v := ?_) rfl (by kernel_rfl) (by kernel_rfl) (by kernel_rfl) (fun _ _ _ h => h) (by rfl) (by assumption) ?_ ?_; rotate_left; · (intro wS hSw; (try dsimp only at hSw); go_simp; try with_reducible rfl))
        try simp only [Act.put, List.setIfInBounds_toArray, List.set_cons_zero, List.set_cons_succ]
        first
          | (refine Ro.take_off (i := 15) rfl (by kernel_rfl) (by kernel_rfl) (by kernel_rfl) (fun _ _ _ h => h) (by rfl) (by assumption) ?_)
          | (refine Ro.take_on (i := 15) (v := ?_) rfl (by kernel_rfl) (by kernel_rfl) (by kernel_rfl) (fun _ _ _ h => h) (by rfl) (by assumption) ?_ ?_; rotate_left; · (intro wS hSw; (try dsimp only at hSw); go_simp; try with_reducible rfl))
        try simp only [Act.put, List.setIfInBounds_toArray, List.set_cons_zero, List.set_cons_succ]
        first
          | (refine Ro.take_off (i := 16) rfl (by kernel_rfl) (by kernel_rfl) (by kernel_rfl) (fun _ _ _ h => h) (by rfl) (by assumption) ?_)
          | (refine Ro.take_on (i := 16) (v := ?_) rfl (by kernel_rfl) (by kernel_rfl) (by kernel_rfl) (fun _ _ _ h => h) (by rfl) (by assumption) ?_ ?_; rotate_left; · (intro wS hSw; (try dsimp only at hSw); go_simp; try with_reducible rfl))
        try simp only [Act.put, List.setIfInBounds_toArray, List.set_cons_zero, List.set_cons_succ]
        first
          | (refine Ro.take_off (i := 17) rfl (by kernel_rfl) (by kernel_rfl) (by kernel_rfl) (fun _ _ _ h => h) (by rfl) (by assumption) ?_)
          | (refine Ro.one_on (i := 17) rfl (by kernel_rfl) (by rfl) (fun K hK => ?_); go_simp; go_at_call 114; (with_reducible refine (MD _).mono ?_); rintro e w' ⟨rfl, rfl⟩; (first | refine hK.out _ _ ?_ (fun hNew => ?_) | (go_wp2_with fail; refine hK.out _ _ ?_ (fun hNew => ?_))); (· (exact hHeld)); clear hK K hHeld; have hHeld := hNew; clear hNew)
        try simp only [Act.put, List.setIfInBounds_toArray, List.set_cons_zero, List.set_cons_succ]
        first
          | (refine Ro.take_off (i := 18) rfl (by kernel_rfl) (by kernel_rfl) (by kernel_rfl) (fun _ _ _ h => h) (by rfl) (by assumption) ?_)
          | (refine Ro.take_on (i := 18) (v := ?_) rfl (by kernel_rfl) (by kernel_rfl) (by kernel_rfl) (fun _ _ _ h => h) (by rfl) (by assumption) ?_ ?_; rotate_left; · (intro wS hSw; (try dsimp only at hSw); go_simp; try with_reducible rfl))
        try simp only [Act.put, List.setIfInBounds_toArray, List.set_cons_zero, List.set_cons_succ]
        first
          | (refine Ro.take_off (i := 19) rfl (by kernel_rfl) (by kernel_rfl) (by kernel_rfl) (fun _ _ _ h => h) (by rfl) (by assumption) ?_)
          | (refine Ro.take_on (i := 19) (v := ?_) rfl (by kernel_rfl) (by kernel_rfl) (by kernel_rfl) (fun _ _ _ h => h) (by rfl) (by assumption) ?_ ?_; rotate_left; · (intro wS hSw; (try dsimp only at hSw); go_simp; try with_reducible rfl))
        try simp only [Act.put, List.setIfInBounds_toArray, List.set_cons_zero, List.set_cons_succ]
        first
          | (refine Ro.take_off (i := 20) rfl (by kernel_rfl) (by kernel_rfl) (by kernel_rfl) (fun _ _ _ h => h) (by rfl) (by assumption) ?_)
          | (refine Ro.take_on (i := 20) (v := ?_) rfl (by kernel_rfl) (by kernel_rfl) (by kernel_rfl) (fun _ _ _ h => h) (by rfl) (by assumption) ?_ ?_; rotate_left; · (intro wS hSw; (try dsimp only at hSw); go_simp; try with_reducible rfl))
        try simp only [Act.put, List.setIfInBounds_toArray, List.set_cons_zero, List.set_cons_succ]
        refine wpAnyH_done (by kernel_rfl) ?_ _
        have x9 := hHeld.2.2.2.2.2.2.2.2
        clear hHeld
        go_wp2
        go_ret
        exact ⟨ret_bool E.out, s0.trans x9⟩
      · rw [decide_eq_false hc] at WC
        have E : Hid (false = G) := Lib.hid (by rw [← HG.out]; simp [hc])
        clear HG hs hc
        go_enter Tryz.func75, Tryz.ntmps75
        go_wp2_with fail
        generalize w.alloc (.cells #[.int .i64 k, .int .i64 wd, .int .i64 sl, .int .i64 cp, .int .u32 sa, .slice ia il ic, .int .i64 ow, .slice ra rl rc] 26) = wa at *
        generalize w.heap.size = q at *
        refine wp_region_held_drew (S := fun w' => w'.cell? ⟨q, 0, none⟩ = some (.int .i64 k) ∧ w'.cell? ⟨q, 1, none⟩ = some (.int .i64 wd) ∧ w'.cell? ⟨q, 2, none⟩ = some (.int .i64 sl) ∧ w'.cell? ⟨q, 3, none⟩ = some (.int .i64 cp) ∧ w'.cell? ⟨q, 4, none⟩ = some (.int .u32 sa) ∧ w'.cell? ⟨q, 5, none⟩ = some (.slice ia il ic) ∧ w'.cell? ⟨q, 6, none⟩ = some (.int .i64 ow) ∧ w'.cell? ⟨q, 7, none⟩ = some (.slice ra rl rc) ∧ Same wa w') (by kernel_rfl) ?_ (fun hHeld => ?_)
        · exact four_cells HB.out (Same.refl _).drew
        first
          | (refine Ro.take_off (i := 0) rfl (by kernel_rfl) (by kernel_rfl) (by kernel_rfl) (fun _ _ _ h => h) (by rfl) (by assumption) ?_)
          | (refine Ro.take_on (i := 0) (v := ?_) rfl (by kernel_rfl) (by kernel_rfl) (by kernel_rfl) (fun _ _ _ h => h) (by rfl) (by assumption) ?_ ?_; rotate_left; · (intro wS hSw; (try dsimp only at hSw); go_simp; try with_reducible rfl))
        try simp only [Act.put, List.setIfInBounds_toArray, List.set_cons_zero, List.set_cons_succ]
        first
          | (refine Ro.take_off (i := 1) rfl (by kernel_rfl) (by kernel_rfl) (by kernel_rfl) (fun _ _ _ h => h) (by rfl) (by assumption) ?_)
          | (refine Ro.one_on (i := 1) rfl (by kernel_rfl) (by rfl) (fun K hK => ?_); go_simp; go_at_call 110; (with_reducible refine (HR _).mono ?_); rintro e w' ⟨rfl, hs9⟩; (first | refine hK.out _ _ ?_ (fun hNew => ?_) | (go_wp2_with fail; refine hK.out _ _ ?_ (fun hNew => ?_))); (· (exact four_cells HB.out (hHeld.2.2.2.2.2.2.2.2.trans hs9))); clear hK K hHeld; have hHeld := hNew; clear hNew)
        try simp only [Act.put, List.setIfInBounds_toArray, List.set_cons_zero, List.set_cons_succ]
        first
          | (refine Ro.take_off (i := 2) rfl (by kernel_rfl) (by kernel_rfl) (by kernel_rfl) (fun _ _ _ h => h) (by rfl) (by assumption) ?_)
          | (refine Ro.take_on (i := 2) (v := ?_) rfl (by kernel_rfl) (by kernel_rfl) (by kernel_rfl) (fun _ _ _ h => h) (by rfl) (by assumption) ?_ ?_; rotate_left; · (intro wS hSw; (try dsimp only at hSw); go_simp; try with_reducible rfl))
        try simp only [Act.put, List.setIfInBounds_toArray, List.set_cons_zero, List.set_cons_succ]
        first
          | (refine Ro.take_off (i := 3) rfl (by kernel_rfl) (by kernel_rfl) (by kernel_rfl) (fun _ _ _ h => h) (by rfl) (by assumption) ?_)
          | (refine Ro.take_on (i := 3) (v := ?_) rfl (by kernel_rfl) (by kernel_rfl) (by kernel_rfl) (fun _ _ _ h => h) (by rfl) (by assumption) ?_ ?_; rotate_left; · (intro wS hSw; (try dsimp only at hSw); go_simp; try with_reducible rfl))
        try simp only [Act.put, List.setIfInBounds_toArray, List.set_cons_zero, List.set_cons_succ]
        first
          | (refine Ro.take_off (i := 4) rfl (by kernel_rfl) (by kernel_rfl) (by kernel_rfl) (fun _ _ _ h => h) (by rfl) (by assumption) ?_)
          | (refine Ro.take_on (i := 4) (v := ?_) rfl (by kernel_rfl) (by kernel_rfl) (by kernel_rfl) (fun _ _ _ h => h) (by rfl) (by assumption) ?_ ?_; rotate_left; · (intro wS hSw; (try dsimp only at hSw); go_simp; try with_reducible rfl))
        try simp only [Act.put, List.setIfInBounds_toArray, List.set_cons_zero, List.set_cons_succ]
        first
          | (refine Ro.take_off (i := 5) rfl (by kernel_rfl) (by kernel_rfl) (by kernel_rfl) (fun _ _ _ h => h) (by rfl) (by assumption) ?_)
          | (refine Ro.one_on (i := 5) rfl (by kernel_rfl) (by rfl) (fun K hK => ?_); go_simp; go_at_call 42; (with_reducible refine (WS _).mono ?_); rintro e w' ⟨rfl, rfl⟩; (first | refine hK.out _ _ ?_ (fun hNew => ?_) | (go_wp2_with fail; refine hK.out _ _ ?_ (fun hNew => ?_))); (· (exact hHeld)); clear hK K hHeld; have hHeld := hNew; clear hNew)
        try simp only [Act.put, List.setIfInBounds_toArray, List.set_cons_zero, List.set_cons_succ]
        first
          | (refine Ro.take_off (i := 6) rfl (by kernel_rfl) (by kernel_rfl) (by kernel_rfl) (fun _ _ _ h => h) (by rfl) (by assumption) ?_)
          | (refine Ro.take_on (i := 6) (v := ?_) rfl (by kernel_rfl) (by kernel_rfl) (by kernel_rfl) (fun _ _ _ h => h) (by rfl) (by assumption) ?_ ?_; rotate_left; · (intro wS hSw; (try dsimp only at hSw); go_simp; try with_reducible rfl))
        try simp only [Act.put, List.setIfInBounds_toArray, List.set_cons_zero, List.set_cons_succ]
        first
          | (refine Ro.take_off (i := 7) rfl (by kernel_rfl) (by kernel_rfl) (by kernel_rfl) (fun _ _ _ h => h) (by rfl) (by assumption) ?_)
          | (refine Ro.take_on (i := 7) (v := ?_) rfl (by kernel_rfl) (by kernel_rfl) (by kernel_rfl) (fun _ _ _ h => h) (by rfl) (by assumption) ?_ ?_; rotate_left; · (intro wS hSw; (try dsimp only at hSw); go_simp; try with_reducible rfl))
        try simp only [Act.put, List.setIfInBounds_toArray, List.set_cons_zero, List.set_cons_succ]
        first
          | (refine Ro.take_off (i := 8) rfl (by kernel_rfl) (by kernel_rfl) (by kernel_rfl) (fun _ _ _ h => h) (by rfl) (by assumption) ?_)
          | (refine Ro.take_on (i := 8) (v := ?_) rfl (by kernel_rfl) (by kernel_rfl) (by kernel_rfl) (fun _ _ _ h => h) (by rfl) (by assumption) ?_ ?_; rotate_left; · (intro wS hSw; (try dsimp only at hSw); go_simp; try with_reducible rfl))
        try simp only [Act.put, List.setIfInBounds_toArray, List.set_cons_zero, List.set_cons_succ]
        first
          | (refine Ro.take_off (i := 9) rfl (by kernel_rfl) (by kernel_rfl) (by kernel_rfl) (fun _ _ _ h => h) (by rfl) (by assumption) ?_)
          | (refine Ro.take_on (i := 9) (v := ?_) rfl (by kernel_rfl) (by kernel_rfl) (by kernel_rfl) (fun _ _ _ h => h) (by rfl) (by assumption) ?_ ?_; rotate_left; · (intro wS hSw; (try dsimp only at hSw); go_simp; try with_reducible rfl))
        try simp only [Act.put, List.setIfInBounds_toArray, List.set_cons_zero, List.set_cons_succ]
        first
          | (refine Ro.take_off (i := 10) rfl (by kernel_rfl) (by kernel_rfl) (by kernel_rfl) (fun _ _ _ h => h) (by rfl) (by assumption) ?_)
          | (refine Ro.one_on (i := 10) rfl (by kernel_rfl) (by rfl) (fun K hK => ?_); go_simp; go_at_call 42; (with_reducible refine (WC _).mono ?_); rintro e w' ⟨rfl, rfl⟩; (first | refine hK.out _ _ ?_ (fun hNew => ?_) | (go_wp2_with fail; refine hK.out _ _ ?_ (fun hNew => ?_))); (· (exact hHeld)); clear hK K hHeld; have hHeld := hNew; clear hNew)
        try simp only [Act.put, List.setIfInBounds_toArray, List.set_cons_zero, List.set_cons_succ]
        first
          | (refine Ro.take_off (i := 11) rfl (by kernel_rfl) (by kernel_rfl) (by kernel_rfl) (fun _ _ _ h => h) (by rfl) (by assumption) ?_)
          | (refine Ro.take_on (i := 11) (v := ?_) rfl (by kernel_rfl) (by kernel_rfl) (by kernel_rfl) (fun _ _ _ h => h) (by rfl) (by assumption) ?_ ?_; rotate_left; · (intro wS hSw; (try dsimp only at hSw); go_simp; try with_reducible rfl))
        try simp only [Act.put, List.setIfInBounds_toArray, List.set_cons_zero, List.set_cons_succ]
        first
          | (refine Ro.take_off (i := 12) rfl (by kernel_rfl) (by kernel_rfl) (by kernel_rfl) (fun _ _ _ h => h) (by rfl) (by assumption) ?_)
          | (refine Ro.take_on (i := 12) (v := ?_) rfl (by kernel_rfl) (by kernel_rfl) (by kernel_rfl) (fun _ _ _ h => h) (by rfl) (by assumption) ?_ ?_; rotate_left; · (intro wS hSw; (try dsimp only at hSw); go_simp; try with_reducible rfl))
        try simp only [Act.put, List.setIfInBounds_toArray, List.set_cons_zero, List.set_cons_succ]
        first
          | (refine Ro.take_off (i := 13) rfl (by kernel_rfl) (by kernel_rfl) (by kernel_rfl) (fun _ _ _ h => h) (by rfl) (by assumption) ?_)
          | (refine Ro.take_on (i := 13) (v := ?_) rfl (by kernel_rfl) (by kernel_rfl) (by kernel_rfl) (fun _ _ _ h => h) (by rfl) (by assumption) ?_ ?_; rotate_left; · (intro wS hSw; (try dsimp only at hSw); go_simp; try with_reducible rfl))
        try simp only [Act.put, List.setIfInBounds_toArray, List.set_cons_zero, List.set_cons_succ]
        first
          | (refine Ro.take_off (i := 14) rfl (by kernel_rfl) (by kernel_rfl) (by kernel_rfl) (fun _ _ _ h => h) (by rfl) (by assumption) ?_)
          | (refine Ro.take_on (i := 14) (v := ?_) rfl (by kernel_rfl) (by kernel_rfl) (by kernel_rfl) (fun _ _ _ h => h) (by rfl) (by assumption) ?_ ?_; rotate_left; · (intro wS hSw; (try dsimp only at hSw); go_simp; try with_reducible rfl))
        try simp only [Act.put, List.setIfInBounds_toArray, List.set_cons_zero, List.set_cons_succ]
        first
          | (refine Ro.take_off (i := 15) rfl (by kernel_rfl) (by kernel_rfl) (by kernel_rfl) (fun _ _ _ h => h) (by rfl) (by assumption) ?_)
          | (refine Ro.take_on (i := 15) (v := ?_) rfl (by kernel_rfl) (by kernel_rfl) (by kernel_rfl) (fun _ _ _ h => h) (by rfl) (by assumption) ?_ ?_; rotate_left; · (intro wS hSw; (try dsimp only at hSw); go_simp; try with_reducible rfl))
        try simp only [Act.put, List.setIfInBounds_toArray, List.set_cons_zero, List.set_cons_succ]
        first
          | (refine Ro.take_off (i := 16) rfl (by kernel_rfl) (by kernel_rfl) (by kernel_rfl) (fun _ _ _ h => h) (by rfl) (by assumption) ?_)
          | (refine Ro.take_on (i := 16) (v := ?_) rfl (by kernel_rfl) (by kernel_rfl) (by kernel_rfl) (fun _ _ _ h => h) (by rfl) (by assumption) ?_ ?_; rotate_left; · (intro wS hSw; (try dsimp only at hSw); go_simp; try with_reducible rfl))
        try simp only [Act.put, List.setIfInBounds_toArray, List.set_cons_zero, List.set_cons_succ]
        first
          | (refine Ro.take_off (i := 17) rfl (by kernel_rfl) (by kernel_rfl) (by kernel_rfl) (fun _ _ _ h => h) (by rfl) (by assumption) ?_)
          | (refine Ro.one_on (i := 17) rfl (by kernel_rfl) (by rfl) (fun K hK => ?_); go_simp; go_at_call 114; (with_reducible refine (MD _).mono ?_); rintro e w' ⟨rfl, rfl⟩; (first | refine hK.out _ _ ?_ (fun hNew => ?_) | (go_wp2_with fail; refine hK.out _ _ ?_ (fun hNew => ?_))); (· (exact hHeld)); clear hK K hHeld; have hHeld := hNew; clear hNew)
        try simp only [Act.put, List.setIfInBounds_toArray, List.set_cons_zero, List.set_cons_succ]
        first
          | (refine Ro.take_off (i := 18) rfl (by kernel_rfl) (by kernel_rfl) (by kernel_rfl) (fun _ _ _ h => h) (by rfl) (by assumption) ?_)
          | (refine Ro.take_on (i := 18) (v := ?_) rfl (by kernel_rfl) (by kernel_rfl) (by kernel_rfl) (fun _ _ _ h => h) (by rfl) (by assumption) ?_ ?_; rotate_left; · (intro wS hSw; (try dsimp only at hSw); go_simp; try with_reducible rfl))
        try simp only [Act.put, List.setIfInBounds_toArray, List.set_cons_zero, List.set_cons_succ]
        first
          | (refine Ro.take_off (i := 19) rfl (by kernel_rfl) (by kernel_rfl) (by kernel_rfl) (fun _ _ _ h => h) (by rfl) (by assumption) ?_)
          | (refine Ro.take_on (i := 19) (v := ?_) rfl (by kernel_rfl) (by kernel_rfl) (by kernel_rfl) (fun _ _ _ h => h) (by rfl) (by assumption) ?_ ?_; rotate_left; · (intro wS hSw; (try dsimp only at hSw); go_simp; try with_reducible rfl))
        try simp only [Act.put, List.setIfInBounds_toArray, List.set_cons_zero, List.set_cons_succ]
        first
          | (refine Ro.take_off (i := 20) rfl (by kernel_rfl) (by kernel_rfl) (by kernel_rfl) (fun _ _ _ h => h) (by rfl) (by assumption) ?_)
          | (refine Ro.take_on (i := 20) (v := ?_) rfl (by kernel_rfl) (by kernel_rfl) (by kernel_rfl) (fun _ _ _ h => h) (by rfl) (by assumption) ?_ ?_; rotate_left; · (intro wS hSw; (try dsimp only at hSw); go_simp; try with_reducible rfl))
        try simp only [Act.put, List.setIfInBounds_toArray, List.set_cons_zero, List.set_cons_succ]
        refine wpAnyH_done (by kernel_rfl) ?_ _
        have x9 := hHeld.2.2.2.2.2.2.2.2
        clear hHeld
        go_wp2
        go_ret
        exact ⟨ret_bool E.out, s0.trans x9⟩
    · rw [decide_eq_false hs] at WS
      have E : Hid (false = G) := Lib.hid (by rw [← HG.out]; simp [hs])
      clear HG hs
      go_enter Tryz.func75, Tryz.ntmps75
      go_wp2_with fail
      generalize w.alloc (.cells #[.int .i64 k, .int .i64 wd, .int .i64 sl, .int .i64 cp, .int .u32 sa, .slice ia il ic, .int .i64 ow, .slice ra rl rc] 26) = wa at *
      generalize w.heap.size = q at *
      refine wp_region_held_drew (S := fun w' => w'.cell? ⟨q, 0, none⟩ = some (.int .i64 k) ∧ w'.cell? ⟨q, 1, none⟩ = some (.int .i64 wd) ∧ w'.cell? ⟨q, 2, none⟩ = some (.int .i64 sl) ∧ w'.cell? ⟨q, 3, none⟩ = some (.int .i64 cp) ∧ w'.cell? ⟨q, 4, none⟩ = some (.int .u32 sa) ∧ w'.cell? ⟨q, 5, none⟩ = some (.slice ia il ic) ∧ w'.cell? ⟨q, 6, none⟩ = some (.int .i64 ow) ∧ w'.cell? ⟨q, 7, none⟩ = some (.slice ra rl rc) ∧ Same wa w') (by kernel_rfl) ?_ (fun hHeld => ?_)
      · exact four_cells HB.out (Same.refl _).drew
      first
        | (refine Ro.take_off (i := 0) rfl (by kernel_rfl) (by kernel_rfl) (by kernel_rfl) (fun _ _ _ h => h) (by rfl) (by assumption) ?_)
        | (refine Ro.take_on (i := 0) (v := ?_) rfl (by kernel_rfl) (by kernel_rfl) (by kernel_rfl) (fun _ _ _ h => h) (by rfl) (by assumption) ?_ ?_; rotate_left; · (intro wS hSw; (try dsimp only at hSw); go_simp; try with_reducible rfl))
      try simp only [Act.put, List.setIfInBounds_toArray, List.set_cons_zero, List.set_cons_succ]
      first
        | (refine Ro.take_off (i := 1) rfl (by kernel_rfl) (by kernel_rfl) (by kernel_rfl) (fun _ _ _ h => h) (by rfl) (by assumption) ?_)
        | (refine Ro.one_on (i := 1) rfl (by kernel_rfl) (by rfl) (fun K hK => ?_); go_simp; go_at_call 110; (with_reducible refine (HR _).mono ?_); rintro e w' ⟨rfl, hs9⟩; (first | refine hK.out _ _ ?_ (fun hNew => ?_) | (go_wp2_with fail; refine hK.out _ _ ?_ (fun hNew => ?_))); (· (exact four_cells HB.out (hHeld.2.2.2.2.2.2.2.2.trans hs9))); clear hK K hHeld; have hHeld := hNew; clear hNew)
      try simp only [Act.put, List.setIfInBounds_toArray, List.set_cons_zero, List.set_cons_succ]
      first
        | (refine Ro.take_off (i := 2) rfl (by kernel_rfl) (by kernel_rfl) (by kernel_rfl) (fun _ _ _ h => h) (by rfl) (by assumption) ?_)
        | (refine Ro.take_on (i := 2) (v := ?_) rfl (by kernel_rfl) (by kernel_rfl) (by kernel_rfl) (fun _ _ _ h => h) (by rfl) (by assumption) ?_ ?_; rotate_left; · (intro wS hSw; (try dsimp only at hSw); go_simp; try with_reducible rfl))
      try simp only [Act.put, List.setIfInBounds_toArray, List.set_cons_zero, List.set_cons_succ]
      first
        | (refine Ro.take_off (i := 3) rfl (by kernel_rfl) (by kernel_rfl) (by kernel_rfl) (fun _ _ _ h => h) (by rfl) (by assumption) ?_)
        | (refine Ro.take_on (i := 3) (v := ?_) rfl (by kernel_rfl) (by kernel_rfl) (by kernel_rfl) (fun _ _ _ h => h) (by rfl) (by assumption) ?_ ?_; rotate_left; · (intro wS hSw; (try dsimp only at hSw); go_simp; try with_reducible rfl))
      try simp only [Act.put, List.setIfInBounds_toArray, List.set_cons_zero, List.set_cons_succ]
      first
        | (refine Ro.take_off (i := 4) rfl (by kernel_rfl) (by kernel_rfl) (by kernel_rfl) (fun _ _ _ h => h) (by rfl) (by assumption) ?_)
        | (refine Ro.take_on (i := 4) (v := ?_) rfl (by kernel_rfl) (by kernel_rfl) (by kernel_rfl) (fun _ _ _ h => h) (by rfl) (by assumption) ?_ ?_; rotate_left; · (intro wS hSw; (try dsimp only at hSw); go_simp; try with_reducible rfl))
      try simp only [Act.put, List.setIfInBounds_toArray, List.set_cons_zero, List.set_cons_succ]
      first
        | (refine Ro.take_off (i := 5) rfl (by kernel_rfl) (by kernel_rfl) (by kernel_rfl) (fun _ _ _ h => h) (by rfl) (by assumption) ?_)
        | (refine Ro.one_on (i := 5) rfl (by kernel_rfl) (by rfl) (fun K hK => ?_); go_simp; go_at_call 42; (with_reducible refine (WS _).mono ?_); rintro e w' ⟨rfl, rfl⟩; (first | refine hK.out _ _ ?_ (fun hNew => ?_) | (go_wp2_with fail; refine hK.out _ _ ?_ (fun hNew => ?_))); (· (exact hHeld)); clear hK K hHeld; have hHeld := hNew; clear hNew)
      try simp only [Act.put, List.setIfInBounds_toArray, List.set_cons_zero, List.set_cons_succ]
      first
        | (refine Ro.take_off (i := 6) rfl (by kernel_rfl) (by kernel_rfl) (by kernel_rfl) (fun _ _ _ h => h) (by rfl) (by assumption) ?_)
        | (refine Ro.take_on (i := 6) (v := ?_) rfl (by kernel_rfl) (by kernel_rfl) (by kernel_rfl) (fun _ _ _ h => h) (by rfl) (by assumption) ?_ ?_; rotate_left; · (intro wS hSw; (try dsimp only at hSw); go_simp; try with_reducible rfl))
      try simp only [Act.put, List.setIfInBounds_toArray, List.set_cons_zero, List.set_cons_succ]
      first
        | (refine Ro.take_off (i := 7) rfl (by kernel_rfl) (by kernel_rfl) (by kernel_rfl) (fun _ _ _ h => h) (by rfl) (by assumption) ?_)
        | (refine Ro.take_on (i := 7) (v := ?_) rfl (by kernel_rfl) (by kernel_rfl) (by kernel_rfl) (fun _ _ _ h => h) (by rfl) (by assumption) ?_ ?_; rotate_left; · (intro wS hSw; (try dsimp only at hSw); go_simp; try with_reducible rfl))
      try simp only [Act.put, List.setIfInBounds_toArray, List.set_cons_zero, List.set_cons_succ]
      first
        | (refine Ro.take_off (i := 8) rfl (by kernel_rfl) (by kernel_rfl) (by kernel_rfl) (fun _ _ _ h => h) (by rfl) (by assumption) ?_)
        | (refine Ro.take_on (i := 8) (v := ?_) rfl (by kernel_rfl) (by kernel_rfl) (by kernel_rfl) (fun _ _ _ h => h) (by rfl) (by assumption) ?_ ?_; rotate_left; · (intro wS hSw; (try dsimp only at hSw); go_simp; try with_reducible rfl))
      try simp only [Act.put, List.setIfInBounds_toArray, List.set_cons_zero, List.set_cons_succ]
      first
        | (refine Ro.take_off (i := 9) rfl (by kernel_rfl) (by kernel_rfl) (by kernel_rfl) (fun _ _ _ h => h) (by rfl) (by assumption) ?_)
        | (refine Ro.take_on (i := 9) (v := ?_) rfl (by kernel_rfl) (by kernel_rfl) (by kernel_rfl) (fun _ _ _ h => h) (by rfl) (by assumption) ?_ ?_; rotate_left; · (intro wS hSw; (try dsimp only at hSw); go_simp; try with_reducible rfl))
      try simp only [Act.put, List.setIfInBounds_toArray, List.set_cons_zero, List.set_cons_succ]
      first
        | (refine Ro.take_off (i := 10) rfl (by kernel_rfl) (by kernel_rfl) (by kernel_rfl) (fun _ _ _ h => h) (by rfl) (by assumption) ?_)
        | (refine Ro.one_on (i := 10) rfl (by kernel_rfl) (by rfl) (fun K hK => ?_); go_simp; go_at_call 42; (with_reducible refine (WC _).mono ?_); rintro e w' ⟨rfl, rfl⟩; (first | refine hK.out _ _ ?_ (fun hNew => ?_) | (go_wp2_with fail; refine hK.out _ _ ?_ (fun hNew => ?_))); (· (exact hHeld)); clear hK K hHeld; have hHeld := hNew; clear hNew)
      try simp only [Act.put, List.setIfInBounds_toArray, List.set_cons_zero, List.set_cons_succ]
      first
        | (refine Ro.take_off (i := 11) rfl (by kernel_rfl) (by kernel_rfl) (by kernel_rfl) (fun _ _ _ h => h) (by rfl) (by assumption) ?_)
        | (refine Ro.take_on (i := 11) (v := ?_) rfl (by kernel_rfl) (by kernel_rfl) (by kernel_rfl) (fun _ _ _ h => h) (by rfl) (by assumption) ?_ ?_; rotate_left; · (intro wS hSw; (try dsimp only at hSw); go_simp; try with_reducible rfl))
      try simp only [Act.put, List.setIfInBounds_toArray, List.set_cons_zero, List.set_cons_succ]
      first
        | (refine Ro.take_off (i := 12) rfl (by kernel_rfl) (by kernel_rfl) (by kernel_rfl) (fun _ _ _ h => h) (by rfl) (by assumption) ?_)
        | (refine Ro.take_on (i := 12) (v := ?_) rfl (by kernel_rfl) (by kernel_rfl) (by kernel_rfl) (fun _ _ _ h => h) (by rfl) (by assumption) ?_ ?_; rotate_left; · (intro wS hSw; (try dsimp only at hSw); go_simp; try with_reducible rfl))
      try simp only [Act.put, List.setIfInBounds_toArray, List.set_cons_zero, List.set_cons_succ]
      first
        | (refine Ro.take_off (i := 13) rfl (by kernel_rfl) (by kernel_rfl) (by kernel_rfl) (fun _ _ _ h => h) (by rfl) (by assumption) ?_)
        | (refine Ro.take_on (i := 13) (v := ?_) rfl (by kernel_rfl) (by kernel_rfl) (by kernel_rfl) (fun _ _ _ h => h) (by rfl) (by assumption) ?_ ?_; rotate_left; · (intro wS hSw; (try dsimp only at hSw); go_simp; try with_reducible rfl))
      try simp only [Act.put, List.setIfInBounds_toArray, List.set_cons_zero, List.set_cons_succ]
      first
        | (refine Ro.take_off (i := 14) rfl (by kernel_rfl) (by kernel_rfl) (by kernel_rfl) (fun _ _ _ h => h) (by rfl) (by assumption) ?_)
        | (refine Ro.take_on (i := 14) (v := ?_) rfl (by kernel_rfl) (by kernel_rfl) (by kernel_rfl) (fun _ _ _ h => h) (by rfl) (by assumption) ?_ ?_; rotate_left; · (intro wS hSw; (try dsimp only at hSw); go_simp; try with_reducible rfl))
      try simp only [Act.put, List.setIfInBounds_toArray, List.set_cons_zero, List.set_cons_succ]
      first
        | (refine Ro.take_off (i := 15) rfl (by kernel_rfl) (by kernel_rfl) (by kernel_rfl) (fun _ _ _ h => h) (by rfl) (by assumption) ?_)
        | (refine Ro.take_on (i := 15) (v := ?_) rfl (by kernel_rfl) (by kernel_rfl) (by kernel_rfl) (fun _ _ _ h => h) (by rfl) (by assumption) ?_ ?_; rotate_left; · (intro wS hSw; (try dsimp only at hSw); go_simp; try with_reducible rfl))
      try simp only [Act.put, List.setIfInBounds_toArray, List.set_cons_zero, List.set_cons_succ]
      first
        | (refine Ro.take_off (i := 16) rfl (by kernel_rfl) (by kernel_rfl) (by kernel_rfl) (fun _ _ _ h => h) (by rfl) (by assumption) ?_)
        | (refine Ro.take_on (i := 16) (v := ?_) rfl (by kernel_rfl) (by kernel_rfl) (by kernel_rfl) (fun _ _ _ h => h) (by rfl) (by assumption) ?_ ?_; rotate_left; · (intro wS hSw; (try dsimp only at hSw); go_simp; try with_reducible rfl))
      try simp only [Act.put, List.setIfInBounds_toArray, List.set_cons_zero, List.set_cons_succ]
      first
        | (refine Ro.take_off (i := 17) rfl (by kernel_rfl) (by kernel_rfl) (by kernel_rfl) (fun _ _ _ h => h) (by rfl) (by assumption) ?_)
        | (refine Ro.one_on (i := 17) rfl (by kernel_rfl) (by rfl) (fun K hK => ?_); go_simp; go_at_call 114; (with_reducible refine (MD _).mono ?_); rintro e w' ⟨rfl, rfl⟩; (first | refine hK.out _ _ ?_ (fun hNew => ?_) | (go_wp2_with fail; refine hK.out _ _ ?_ (fun hNew => ?_))); (· (exact hHeld)); clear hK K hHeld; have hHeld := hNew; clear hNew)
      try simp only [Act.put, List.setIfInBounds_toArray, List.set_cons_zero, List.set_cons_succ]
      first
        | (refine Ro.take_off (i := 18) rfl (by kernel_rfl) (by kernel_rfl) (by kernel_rfl) (fun _ _ _ h => h) (by rfl) (by assumption) ?_)
        | (refine Ro.take_on (i := 18) (v := ?_) rfl (by kernel_rfl) (by kernel_rfl) (by kernel_rfl) (fun _ _ _ h => h) (by rfl) (by assumption) ?_ ?_; rotate_left; · (intro wS hSw; (try dsimp only at hSw); go_simp; try with_reducible rfl))
      try simp only [Act.put, List.setIfInBounds_toArray, List.set_cons_zero, List.set_cons_succ]
      first
        | (refine Ro.take_off (i := 19) rfl (by kernel_rfl) (by kernel_rfl) (by kernel_rfl) (fun _ _ _ h => h) (by rfl) (by assumption) ?_)
        | (refine Ro.take_on (i := 19) (v := ?_) rfl (by kernel_rfl) (by kernel_rfl) (by kernel_rfl) (fun _ _ _ h => h) (by rfl) (by assumption) ?_ ?_; rotate_left; · (intro wS hSw; (try dsimp only at hSw); go_simp; try with_reducible rfl))
      try simp only [Act.put, List.setIfInBounds_toArray, List.set_cons_zero, List.set_cons_succ]
      first
        | (refine Ro.take_off (i := 20) rfl (by kernel_rfl) (by kernel_rfl) (by kernel_rfl) (fun _ _ _ h => h) (by rfl) (by assumption) ?_)
        | (refine Ro.take_on (i := 20) (v := ?_) rfl (by kernel_rfl) (by kernel_rfl) (by kernel_rfl) (fun _ _ _ h => h) (by rfl) (by assumption) ?_ ?_; rotate_left; · (intro wS hSw; (try dsimp only at hSw); go_simp; try with_reducible rfl))
      try simp only [Act.put, List.setIfInBounds_toArray, List.set_cons_zero, List.set_cons_succ]
      refine wpAnyH_done (by kernel_rfl) ?_ _
      have x9 := hHeld.2.2.2.2.2.2.2.2
      clear hHeld
      go_wp2
      go_ret
      exact ⟨ret_bool E.out, s0.trans x9⟩

theorem right_not (k wd sl cp sa ow : Int) (ia ra : Option Addr) (il ic rl rc : Nat) (hk : k ≠ 4) (w : World) (hsa : 0 ≤ sa ∧ sa < 4294967296 := by assumption) :
    Calls Tryz.prog 75 #[.agg #[.int .i64 k, .int .i64 wd, .int .i64 sl, .int .i64 cp, .int .u32 sa, .slice ia il ic, .int .i64 ow, .slice ra rl rc]] w fun e w' => e = .returned (.bool false) ∧ Same w w' := by
  have h := right_all k wd sl cp sa ow ia ra il ic rl rc w hsa
  have hb : regB k wd il rl 4 = false := by unfold regB; rw [decide_eq_false (by omega)]
  rw [hb] at h
  simpa using h
theorem right_any (wd sl cp sa ow : Int) (ia ra : Option Addr) (il ic rl rc : Nat) (w : World) (hsa : 0 ≤ sa ∧ sa < 4294967296 := by assumption) :
    Calls Tryz.prog 75 #[.agg #[.int .i64 4, .int .i64 wd, .int .i64 sl, .int .i64 cp, .int .u32 sa, .slice ia il ic, .int .i64 ow, .slice ra rl rc]] w fun e w' => e = .returned (.bool (rightB wd sl cp sa il rl)) ∧ Same w w' := by
  have h := right_all 4 wd sl cp sa ow ia ra il ic rl rc w hsa
  have e : decide (regB 4 wd il rl 4 = true ∧ (2 ≤ sl ∧ sl ≤ 16) ∧ (1 ≤ cp ∧ cp ≤ 16) ∧ sa < sl * 1048576) = rightB wd sl cp sa il rl := by
    unfold rightB regB
    rw [decide_eq_decide, decide_eq_true_eq]
    omega
  rw [e] at h
  exact h

set_option maxHeartbeats 2000000 in
set_option maxRecDepth 100000 in
theorem rright_any (wd sl cp sa ow : Int) (ia ra : Option Addr) (il ic rl rc : Nat) (w : World) (hsa : 0 ≤ sa ∧ sa < 4294967296 := by assumption) :
    Calls Tryz.prog 12 #[.agg #[.int .i64 4, .int .i64 wd, .int .i64 sl, .int .i64 cp, .int .u32 sa, .slice ia il ic, .int .i64 ow, .slice ra rl rc]] w fun e w' => e = .returned (.bool (rightB wd sl cp sa il rl)) ∧ Same w w' := by
  go_enter Tryz.func12, Tryz.ntmps12
  go_wp2
  all_goals
    go_ret
    refine ⟨ret_bool ?_, (Same.refl _).alloc _⟩
    unfold rightB
    first
      | (rw [Bool.eq_iff_iff, decide_eq_true_eq, decide_eq_true_eq]; omega)
      | (rw [Bool.eq_iff_iff]; simp only [Bool.not_eq_true', Bool.not_eq_eq_eq_not, Bool.not_true, Bool.not_false, beq_iff_eq, bne_iff_ne, ne_eq, beq_eq_false_iff_ne, bne_eq_false_iff_eq, decide_eq_true_eq, Bool.false_eq_true, true_iff, false_iff, and_true, true_and, and_false, false_and] at *; omega)

end Go.Proofs.YtikjkmomokhanabGreat.Krg

set_option linter.unusedVariables false
namespace Go.Proofs.YtikjkmomokhanabGreat.Krg
open Go.ChangeShapes Go.WideShapes Go.ChangeAt Go.RowKit Ws Km Kp
open Go.Proofs.YtikjkmomokhanabGreat.Kb

theorem HQ {wd sl cp sa : Int} {il rl : Nat} (h : rightB wd sl cp sa il rl = true) : (1 ≤ wd ∧ wd ≤ 8) ∧ (il : Int) = wd ∧ (1 ≤ (rl : Int) ∧ (rl : Int) ≤ 4) ∧ (2 ≤ sl ∧ sl ≤ 16) ∧ (1 ≤ cp ∧ cp ≤ 16) ∧ sa < sl * 1048576 := by
  unfold rightB at h
  exact of_decide_eq_true h
theorem objS {w w' : World} {q : Nat} {T : TypeId} {wd sl cp sa ow : Int} {ia ra : Option Addr} {il ic rl rc : Nat} (h : Blk w q T #[.int .i64 4, .int .i64 wd, .int .i64 sl, .int .i64 cp, .int .u32 sa, .slice ia il ic, .int .i64 ow, .slice ra rl rc]) (s : Same w w') : w'.cell? ⟨q, 0, none⟩ = some (.int .i64 4) ∧ w'.cell? ⟨q, 1, none⟩ = some (.int .i64 wd) ∧ w'.cell? ⟨q, 2, none⟩ = some (.int .i64 sl) ∧ w'.cell? ⟨q, 3, none⟩ = some (.int .i64 cp) ∧ w'.cell? ⟨q, 4, none⟩ = some (.int .u32 sa) ∧ w'.cell? ⟨q, 5, none⟩ = some (.slice ia il ic) ∧ w'.cell? ⟨q, 6, none⟩ = some (.int .i64 ow) ∧ w'.cell? ⟨q, 7, none⟩ = some (.slice ra rl rc) ∧ Same w w' := by
  obtain ⟨a, b, c, d, e, f, g, i⟩ := obj_cells (h.same s)
  exact ⟨a, b, c, d, e, f, g, i, s⟩

theorem size_yes (wd sl cp sa ow : Int) (ia ra : Option Addr) (il ic rl rc : Nat) (w : World) (hr : rightB wd sl cp sa il rl = true) (hsa : 0 ≤ sa ∧ sa < 4294967296 := by assumption) :
    Calls Tryz.prog 76 #[.agg #[.int .i64 4, .int .i64 wd, .int .i64 sl, .int .i64 cp, .int .u32 sa, .slice ia il ic, .int .i64 ow, .slice ra rl rc]] w fun e w' => e = .returned (.int .i64 (1 + sl * wd)) ∧ Same w w' := by
  have hb := Blk.new w 26 #[.int .i64 4, .int .i64 wd, .int .i64 sl, .int .i64 cp, .int .u32 sa, .slice ia il ic, .int .i64 ow, .slice ra rl rc]
  have s0 := (Same.refl w).alloc (.cells #[.int .i64 4, .int .i64 wd, .int .i64 sl, .int .i64 cp, .int .u32 sa, .slice ia il ic, .int .i64 ow, .slice ra rl rc] 26)
  have HB := Lib.hid hb
  have HR := fun w' => right_any wd sl cp sa ow ia ra il ic rl rc w'
  rw [hr] at HR
  have hq := HQ hr
  obtain ⟨h1, h2⟩ := hq.1
  obtain ⟨e1, e2⟩ := hq.2.2.2.1
  have k1 : 0 ≤ sl * wd := Int.mul_nonneg (by omega) (by omega)
  have k2 : sl * wd ≤ 128 := by
    have := Int.mul_le_mul e2 (show wd ≤ 8 by omega) (by omega) (by omega)
    omega
  have k3 : wrap64 (sl * wd) = sl * wd := by unfold wrap64; omega
  have k4 : IntKind.i64.wrap (sl * wd) = sl * wd := Go.IntWalk.i64_in _ (by omega)
  have k5 : wrap64 (1 + sl * wd) = 1 + sl * wd := by unfold wrap64; omega
  have k6 : IntKind.i64.wrap (1 + sl * wd) = 1 + sl * wd := Go.IntWalk.i64_in _ (by omega)
  have HQ2 := Lib.hid hq
  clear hb hq hr
  go_enter Tryz.func76, Tryz.ntmps76
  go_wp2_with fail
  refine (HR _).mono ?_
  rintro e w1 ⟨rfl, s1⟩
  have hb1 := HB.out.same s1
  have S1 := Lib.hid (s0.trans s1)
  have HB1 := Lib.hid hb1
  obtain ⟨d0, d1, d2, d3, d4, d5, d6, d7⟩ := obj_cells hb1
  clear hb1 s0 s1 HB HR
  generalize w.heap.size = q at *
  go_wp2
  go_ret
  exact ⟨rfl, S1.out⟩
theorem size_no (wd sl cp sa ow : Int) (ia ra : Option Addr) (il ic rl rc : Nat) (w : World) (hr : rightB wd sl cp sa il rl = false) (hsa : 0 ≤ sa ∧ sa < 4294967296 := by assumption) :
    Calls Tryz.prog 76 #[.agg #[.int .i64 4, .int .i64 wd, .int .i64 sl, .int .i64 cp, .int .u32 sa, .slice ia il ic, .int .i64 ow, .slice ra rl rc]] w fun e w' => e = .returned (.int .i64 0) ∧ Same w w' := by
  have HR := fun w' => right_any wd sl cp sa ow ia ra il ic rl rc w'
  rw [hr] at HR
  clear hr
  go_enter Tryz.func76, Tryz.ntmps76
  go_wp2_with fail
  refine (HR _).mono ?_
  rintro e w1 ⟨rfl, s1⟩
  go_wp2_with fail
  go_ret
  exact ⟨rfl, Same.trans ((Same.refl _).alloc _) s1⟩
def boundI (wd cp op : Int) : Int := if op = 2 then wd + 2 else if op = 1 then cp * (wd + 2) else 0
theorem bound_yes (wd sl cp sa ow : Int) (ia ra : Option Addr) (il ic rl rc : Nat) (op : Int) (w : World) (hr : rightB wd sl cp sa il rl = true) (hsa : 0 ≤ sa ∧ sa < 4294967296 := by assumption) :
    Calls Tryz.prog 78 #[.agg #[.int .i64 4, .int .i64 wd, .int .i64 sl, .int .i64 cp, .int .u32 sa, .slice ia il ic, .int .i64 ow, .slice ra rl rc], .int .i64 op] w fun e w' => e = .returned (.int .i64 (boundI wd cp op)) ∧ Same w w' := by
  have hb := Blk.new w 26 #[.int .i64 4, .int .i64 wd, .int .i64 sl, .int .i64 cp, .int .u32 sa, .slice ia il ic, .int .i64 ow, .slice ra rl rc]
  have s0 := (Same.refl w).alloc (.cells #[.int .i64 4, .int .i64 wd, .int .i64 sl, .int .i64 cp, .int .u32 sa, .slice ia il ic, .int .i64 ow, .slice ra rl rc] 26)
  have HB := Lib.hid hb
  have HR := fun w' => right_any wd sl cp sa ow ia ra il ic rl rc w'
  rw [hr] at HR
  have hq := HQ hr
  obtain ⟨c1, c2⟩ := hq.2.2.2.2.1
  have m1 : 0 ≤ cp * (wd + 2) := Int.mul_nonneg (by omega) (by omega)
  have m2 : cp * (wd + 2) ≤ 160 := by
    have := Int.mul_le_mul c2 (show wd + 2 ≤ 10 by omega) (by omega) (by omega)
    omega
  have m3 : wrap64 (cp * (wd + 2)) = cp * (wd + 2) := by unfold wrap64; omega
  have m4 : IntKind.i64.wrap (cp * (wd + 2)) = cp * (wd + 2) := Go.IntWalk.i64_in _ (by omega)
  obtain ⟨h1, h2⟩ := hq.1
  have HQ2 := Lib.hid hq
  clear hb hq hr
  go_enter Tryz.func78, Tryz.ntmps78
  go_wp2_with fail
  refine (HR _).mono ?_
  rintro e w1 ⟨rfl, s1⟩
  have hb1 := HB.out.same s1
  have S1 := Lib.hid (s0.trans s1)
  have HB1 := Lib.hid hb1
  obtain ⟨d0, d1, d2, d3, d4, d5, d6, d7⟩ := obj_cells hb1
  clear hb1 s0 s1 HB HR
  generalize w.heap.size = q at *
  go_wp2
  all_goals
    go_ret
    exact ⟨ret_int (by unfold boundI; try simp only [beq_iff_eq, beq_eq_false_iff_ne, ne_eq] at *; repeat (split <;> try omega)), S1.out⟩
theorem bound_no (wd sl cp sa ow : Int) (ia ra : Option Addr) (il ic rl rc : Nat) (op : Int) (w : World) (hr : rightB wd sl cp sa il rl = false) (hsa : 0 ≤ sa ∧ sa < 4294967296 := by assumption) :
    Calls Tryz.prog 78 #[.agg #[.int .i64 4, .int .i64 wd, .int .i64 sl, .int .i64 cp, .int .u32 sa, .slice ia il ic, .int .i64 ow, .slice ra rl rc], .int .i64 op] w fun e w' => e = .returned (.int .i64 0) ∧ Same w w' := by
  have HR := fun w' => right_any wd sl cp sa ow ia ra il ic rl rc w'
  rw [hr] at HR
  clear hr
  go_enter Tryz.func78, Tryz.ntmps78
  go_wp2_with fail
  refine (HR _).mono ?_
  rintro e w1 ⟨rfl, s1⟩
  go_wp2_with fail
  go_ret
  exact ⟨rfl, Same.trans ((Same.refl _).alloc _) s1⟩
theorem rhead_any (wd sl cp sa ow : Int) (ia ra : Option Addr) (il ic rl rc : Nat) (w : World) (hsa : 0 ≤ sa ∧ sa < 4294967296 := by assumption) : Calls Tryz.prog 43 #[.agg #[.int .i64 4, .int .i64 wd, .int .i64 sl, .int .i64 cp, .int .u32 sa, .slice ia il ic, .int .i64 ow, .slice ra rl rc]] w fun e w' => e = .returned (.int .i64 1) ∧ Same w w' := by
  go_enter Tryz.func43, Tryz.ntmps43
  go_wp2
  go_ret
  exact ⟨rfl, (Same.refl _).alloc _⟩
theorem rrecords_any (wd sl cp sa ow : Int) (ia ra : Option Addr) (il ic rl rc : Nat) (w : World) (hsa : 0 ≤ sa ∧ sa < 4294967296 := by assumption) : Calls Tryz.prog 44 #[.agg #[.int .i64 4, .int .i64 wd, .int .i64 sl, .int .i64 cp, .int .u32 sa, .slice ia il ic, .int .i64 ow, .slice ra rl rc]] w fun e w' => e = .returned (.int .i64 sl) ∧ Same w w' := by
  go_enter Tryz.func44, Tryz.ntmps44
  go_wp2
  go_ret
  exact ⟨rfl, (Same.refl _).alloc _⟩
set_option maxHeartbeats 400000 in
theorem rsize_yes (wd sl cp sa ow : Int) (ia ra : Option Addr) (il ic rl rc : Nat) (w : World) (hr : rightB wd sl cp sa il rl = true) (hsa : 0 ≤ sa ∧ sa < 4294967296 := by assumption) :
    Calls Tryz.prog 16 #[.agg #[.int .i64 4, .int .i64 wd, .int .i64 sl, .int .i64 cp, .int .u32 sa, .slice ia il ic, .int .i64 ow, .slice ra rl rc]] w fun e w' => e = .returned (.int .i64 (1 + sl * wd)) ∧ Same w w' := by
  have hb := Blk.new w 26 #[.int .i64 4, .int .i64 wd, .int .i64 sl, .int .i64 cp, .int .u32 sa, .slice ia il ic, .int .i64 ow, .slice ra rl rc]
  have s0 := (Same.refl w).alloc (.cells #[.int .i64 4, .int .i64 wd, .int .i64 sl, .int .i64 cp, .int .u32 sa, .slice ia il ic, .int .i64 ow, .slice ra rl rc] 26)
  have HB := Lib.hid hb
  have HR := fun w' => rright_any wd sl cp sa ow ia ra il ic rl rc w'
  rw [hr] at HR
  have hq := HQ hr
  obtain ⟨h1, h2⟩ := hq.1
  obtain ⟨e1, e2⟩ := hq.2.2.2.1
  have k1 : 0 ≤ sl * wd := Int.mul_nonneg (by omega) (by omega)
  have k2 : sl * wd ≤ 128 := by
    have := Int.mul_le_mul e2 (show wd ≤ 8 by omega) (by omega) (by omega)
    omega
  have k3 : wrap64 (sl * wd) = sl * wd := by unfold wrap64; omega
  have k4 : IntKind.i64.wrap (sl * wd) = sl * wd := Go.IntWalk.i64_in _ (by omega)
  have k5 : wrap64 (1 + sl * wd) = 1 + sl * wd := by unfold wrap64; omega
  have k6 : IntKind.i64.wrap (1 + sl * wd) = 1 + sl * wd := Go.IntWalk.i64_in _ (by omega)
  have HQ2 := Lib.hid hq
  clear hb hq hr
  go_enter Tryz.func16, Tryz.ntmps16
  go_wp2_with fail
  refine (HR _).mono ?_
  rintro e w1 ⟨rfl, s1⟩
  have hb1 := HB.out.same s1
  have S1 := Lib.hid (s0.trans s1)
  have HB1 := Lib.hid hb1
  obtain ⟨d0, d1, d2, d3, d4, d5, d6, d7⟩ := obj_cells hb1
  clear hb1 s0 s1 HB HR
  generalize w.heap.size = q at *
  go_wp2_with fail
  go_region_held3 (fun w' => w'.cell? ⟨q, 0, none⟩ = some (.int .i64 4) ∧ w'.cell? ⟨q, 1, none⟩ = some (.int .i64 wd) ∧ w'.cell? ⟨q, 2, none⟩ = some (.int .i64 sl) ∧ w'.cell? ⟨q, 3, none⟩ = some (.int .i64 cp) ∧ w'.cell? ⟨q, 4, none⟩ = some (.int .u32 sa) ∧ w'.cell? ⟨q, 5, none⟩ = some (.slice ia il ic) ∧ w'.cell? ⟨q, 6, none⟩ = some (.int .i64 ow) ∧ w'.cell? ⟨q, 7, none⟩ = some (.slice ra rl rc) ∧ Same w1 w')
    (first | assumption | exact objS HB1.out (Same.refl _).drew | (rcases ‹_ ∧ _ ∧ _ ∧ _ ∧ _ ∧ _ ∧ _ ∧ _ ∧ Same w1 _› with ⟨_, _, _, _, _, _, _, _, x9⟩; exact objS HB1.out (x9.trans hs)))
    (first | (go_at_call 43; ((with_reducible refine (rhead_any wd sl cp sa ow ia ra il ic rl rc _).mono ?_); rintro e w' ⟨rfl, hs⟩)) | (go_at_call 44; ((with_reducible refine (rrecords_any wd sl cp sa ow ia ra il ic rl rc _).mono ?_); rintro e w' ⟨rfl, hs⟩)))
  rcases ‹_ ∧ _ ∧ _ ∧ _ ∧ _ ∧ _ ∧ _ ∧ _ ∧ Same w1 _› with ⟨_, _, _, _, _, _, _, _, x9⟩
  go_wp2
  go_ret
  exact ⟨rfl, S1.out.trans x9⟩
theorem rsize_no (wd sl cp sa ow : Int) (ia ra : Option Addr) (il ic rl rc : Nat) (w : World) (hr : rightB wd sl cp sa il rl = false) (hsa : 0 ≤ sa ∧ sa < 4294967296 := by assumption) :
    Calls Tryz.prog 16 #[.agg #[.int .i64 4, .int .i64 wd, .int .i64 sl, .int .i64 cp, .int .u32 sa, .slice ia il ic, .int .i64 ow, .slice ra rl rc]] w fun e w' => e = .returned (.int .i64 0) ∧ Same w w' := by
  have HR := fun w' => rright_any wd sl cp sa ow ia ra il ic rl rc w'
  rw [hr] at HR
  clear hr
  go_enter Tryz.func16, Tryz.ntmps16
  go_wp2_with fail
  refine (HR _).mono ?_
  rintro e w1 ⟨rfl, s1⟩
  go_wp2_with fail
  go_ret
  exact ⟨rfl, Same.trans ((Same.refl _).alloc _) s1⟩

set_option maxHeartbeats 400000 in
theorem rbound_yes (wd sl cp sa ow : Int) (ia ra : Option Addr) (il ic rl rc : Nat) (op : Int) (w : World) (hr : rightB wd sl cp sa il rl = true) (hsa : 0 ≤ sa ∧ sa < 4294967296 := by assumption) :
    Calls Tryz.prog 21 #[.agg #[.int .i64 4, .int .i64 wd, .int .i64 sl, .int .i64 cp, .int .u32 sa, .slice ia il ic, .int .i64 ow, .slice ra rl rc], .int .i64 op] w fun e w' => e = .returned (.int .i64 (boundI wd cp op)) ∧ Same w w' := by
  have hb := Blk.new w 26 #[.int .i64 4, .int .i64 wd, .int .i64 sl, .int .i64 cp, .int .u32 sa, .slice ia il ic, .int .i64 ow, .slice ra rl rc]
  have s0 := (Same.refl w).alloc (.cells #[.int .i64 4, .int .i64 wd, .int .i64 sl, .int .i64 cp, .int .u32 sa, .slice ia il ic, .int .i64 ow, .slice ra rl rc] 26)
  have HB := Lib.hid hb
  have HR := fun w' => rright_any wd sl cp sa ow ia ra il ic rl rc w'
  rw [hr] at HR
  have hq := HQ hr
  obtain ⟨c1, c2⟩ := hq.2.2.2.2.1
  have m1 : 0 ≤ cp * (wd + 2) := Int.mul_nonneg (by omega) (by omega)
  have m2 : cp * (wd + 2) ≤ 160 := by
    have := Int.mul_le_mul c2 (show wd + 2 ≤ 10 by omega) (by omega) (by omega)
    omega
  have m3 : wrap64 (cp * (wd + 2)) = cp * (wd + 2) := by unfold wrap64; omega
  have m4 : IntKind.i64.wrap (cp * (wd + 2)) = cp * (wd + 2) := Go.IntWalk.i64_in _ (by omega)
  obtain ⟨h1, h2⟩ := hq.1
  have HQ2 := Lib.hid hq
  clear hb hq hr
  go_enter Tryz.func21, Tryz.ntmps21
  go_wp2_with fail
  refine (HR _).mono ?_
  rintro e w1 ⟨rfl, s1⟩
  have hb1 := HB.out.same s1
  have S1 := Lib.hid (s0.trans s1)
  have HB1 := Lib.hid hb1
  obtain ⟨d0, d1, d2, d3, d4, d5, d6, d7⟩ := obj_cells hb1
  clear hb1 s0 s1 HB HR
  generalize w.heap.size = q at *
  go_wp2_with (first | (go_at_call 23; ((with_reducible refine (rwrites_reg 4 (by decide) _).mono ?_); rintro e w' ⟨rfl, rfl⟩)) | (go_at_call 24; ((with_reducible refine (rreads_reg 4 (by decide) _).mono ?_); rintro e w' ⟨rfl, rfl⟩)))
  all_goals
    go_ret
    refine ⟨ret_int ?_, S1.out⟩
    by_cases h2 : op = 2
    · rw [boundI, if_pos h2]
      all_goals first | rfl | (exfalso; simp_all)
    · rw [boundI, if_neg h2]
      by_cases h1 : op = 1
      · rw [if_pos h1]
        all_goals first | rfl | (exfalso; simp_all)
      · rw [if_neg h1]
        all_goals first | rfl | (exfalso; simp_all)
theorem rbound_no (wd sl cp sa ow : Int) (ia ra : Option Addr) (il ic rl rc : Nat) (op : Int) (w : World) (hr : rightB wd sl cp sa il rl = false) (hsa : 0 ≤ sa ∧ sa < 4294967296 := by assumption) :
    Calls Tryz.prog 21 #[.agg #[.int .i64 4, .int .i64 wd, .int .i64 sl, .int .i64 cp, .int .u32 sa, .slice ia il ic, .int .i64 ow, .slice ra rl rc], .int .i64 op] w fun e w' => e = .returned (.int .i64 0) ∧ Same w w' := by
  have HR := fun w' => rright_any wd sl cp sa ow ia ra il ic rl rc w'
  rw [hr] at HR
  clear hr
  go_enter Tryz.func21, Tryz.ntmps21
  go_wp2_with fail
  refine (HR _).mono ?_
  rintro e w1 ⟨rfl, s1⟩
  go_wp2_with fail
  go_ret
  exact ⟨rfl, Same.trans ((Same.refl _).alloc _) s1⟩

end Go.Proofs.YtikjkmomokhanabGreat.Krg

set_option linter.unusedVariables false
namespace Go.Proofs.YtikjkmomokhanabGreat.Krg
open Go.ChangeShapes Go.WideShapes Go.ChangeAt Go.RowKit Ws Km Kp
open Go.Proofs.YtikjkmomokhanabGreat.Kb

theorem rplace_any (b : Int) (n W : Nat) (hb : 0 ≤ b ∧ b < 4294967296) (hn : 2 ≤ n ∧ n ≤ 16) (hW : W ≤ 8) (w : World) :
    Calls Tryz.prog 115 #[.int .u32 b, .int .i64 n, .int .i64 W] w fun e w' => e = .returned (.int .i64 ((1 + (b % (n : Int)).toNat * W : Nat) : Int)) ∧ w = w' := by
  have h0 := Int.emod_nonneg b (show (n : Int) ≠ 0 by omega)
  have h1 := Int.emod_lt_of_pos b (show (0 : Int) < n by omega)
  have f1 := u32_in (n : Int) (by omega)
  have f7 : b.tmod (n : Int) = b % (n : Int) := Int.tmod_eq_emod_of_nonneg (by omega)
  obtain ⟨k, hk⟩ := Int.eq_ofNat_of_zero_le h0
  have hkn : k < n := by omega
  have hm : k * W ≤ 16 * 8 := Nat.mul_le_mul (by omega) hW
  have hmi : ((k : Int) * (W : Int)) = ((k * W : Nat) : Int) := by rw [Int.natCast_mul]
  have f2 := u32_in (k : Int) (by omega)
  have f3 : IntKind.i64.wrap (k : Int) = k := Go.IntWalk.i64_in _ (by omega)
  have f8 : ((n : Int) == 0) = false := by simp; omega
  rw [hk] at f7
  rw [hk, Int.toNat_natCast]
  have n1 : (0 : Int) < n := by omega
  have f0 : ¬ (n : Int) = 0 := by omega
  obtain ⟨y, hy⟩ : ∃ y : Int, y = (k : Int) * (W : Int) := ⟨_, rfl⟩
  rw [← hy] at hmi
  have f4 : IntKind.i64.wrap y = y := Go.IntWalk.i64_in _ (by omega)
  have f5 : IntKind.i64.wrap (1 + y) = 1 + y := Go.IntWalk.i64_in _ (by omega)
  have g4 : wrap64 y = y := by unfold wrap64; omega
  have g5 : wrap64 (1 + y) = 1 + y := by unfold wrap64; omega
  have E : Hid ((1 : Int) + y = ((1 + k * W : Nat) : Int)) := Lib.hid (by omega)
  have HYE := Lib.hid hy.symm
  obtain ⟨kk, hkk⟩ : ∃ kk : Int, kk = (k : Int) := ⟨_, rfl⟩
  obtain ⟨ww, hww⟩ : ∃ ww : Int, ww = (W : Int) := ⟨_, rfl⟩
  rw [← hkk] at f7 f2 f3 HYE
  rw [← hww] at HYE ⊢
  have hprod := HYE.out
  obtain ⟨nn, hnn⟩ : ∃ nn : Int, nn = (n : Int) := ⟨_, rfl⟩
  rw [← hnn] at f1 f7 f8 f0 n1 ⊢
  have hb0 := hb.1
  clear h0 h1 hk hb hn hW hkn hm hmi hy hkk hww hnn
  generalize ((1 + k * W : Nat) : Int) = Z at *
  go_enter Tryz.func115, Tryz.ntmps115
  go_wp2
  go_ret
  exact ⟨ret_int E.out, rfl⟩

theorem add_plain (b o j : Nat) : (⟨b, o, none⟩ : Addr).add j = ⟨b, o + j, none⟩ := by
  cases j with
  | zero => rfl
  | succ j => rfl
theorem own_blk {w : World} {g B c : Nat} {e : TypeId} {l : List Value} (h : w.heap[g]? = some (.cells l.toArray e (0, 0))) (hc : l.length = c) (hm : c ≤ maxLen) (hB : B ≤ g) : Own w B e (some ⟨g, 0, none⟩) c l := by
  refine ⟨by omega, .inr ⟨g, c, l.toArray, rfl, hB, h, by omega, hm, by simpa using hc, ?_⟩⟩
  simp
/-- the words at the beginning -/
def lay0 (W sl : Nat) (sa : Int) (init : List Int) : List Int := Op.lay ((List.replicate (1 + sl * W) 0).set 0 sa) (1 + (sa % (sl : Int)).toNat * W) init
theorem lay_len (W sl : Nat) (sa : Int) (init : List Int) : (lay0 W sl sa init).length = 1 + sl * W := by
  unfold lay0
  rw [Op.lay_length, List.length_set, List.length_replicate]
theorem lay_eq (ws : List Int) : ∀ (l : List Int) (k : Nat), k + ws.length ≤ l.length → Op.lay l k ws = l.take k ++ (ws ++ l.drop (k + ws.length)) := by
  induction ws with
  | nil => intro l k h; simp [Op.lay]
  | cons v ws ih =>
    intro l k h
    rw [List.length_cons] at h
    rw [Op.lay, ih _ _ (by rw [List.length_set]; omega), List.length_cons]
    have e1 : (l.set k v).take (k + 1) = l.take k ++ [v] := by
      rw [List.take_succ_eq_append_getElem (by rw [List.length_set]; omega), List.take_set_of_le (Nat.le_refl _), List.getElem_set_self]
    have e2 : (l.set k v).drop (k + 1 + ws.length) = l.drop (k + (ws.length + 1)) := by
      rw [List.drop_set_of_lt (by omega)]
      congr 1
      omega
    rw [e1, e2]
    simp

set_option maxHeartbeats 400000 in
set_option maxRecDepth 100000 in
theorem place_in (W sl : Nat) (sa : Int) (h1 : 1 ≤ sl) (h2 : 1 ≤ W) : 1 ≤ (1 + (sa % (sl : Int)).toNat * W) ∧ (1 + (sa % (sl : Int)).toNat * W) + W ≤ 1 + sl * W := by
  have h0 := Int.emod_nonneg sa (show (sl : Int) ≠ 0 by omega)
  have h1 := Int.emod_lt_of_pos sa (show (0 : Int) < sl by omega)
  have := Nat.mul_le_mul_right W (show (sa % (sl : Int)).toNat + 1 ≤ sl by omega)
  rw [Nat.add_mul] at this
  omega
set_option maxHeartbeats 400000 in
set_option maxRecDepth 100000 in
theorem lay_yes (W sl : Nat) (cp sa ow : Int) (ia ra : Option Addr) (il ic rl rc : Nat) (init : List Int) (w : World) (hr : rightB W sl cp sa il rl = true) (hi : Row w ia (init.map (Value.int .u32))) (hl : init.length = il) (hsa : 0 ≤ sa ∧ sa < 4294967296 := by assumption) :
    Calls Tryz.prog 77 #[.agg #[.int .i64 4, .int .i64 W, .int .i64 sl, .int .i64 cp, .int .u32 sa, .slice ia il ic, .int .i64 ow, .slice ra rl rc]] w fun e w' => ∃ g, e = .returned (.slice (some ⟨g, 0, none⟩) (1 + sl * W) (1 + sl * W)) ∧ Same w w' ∧ Own w' w.heap.size 22 (some ⟨g, 0, none⟩) (1 + sl * W) ((lay0 W sl sa init).map (Value.int .u32)) := by
  have hq := HQ hr
  have hpl := place_in W sl sa (by omega) (by omega)
  obtain ⟨n, hn⟩ : ∃ n, n = 1 + sl * W := ⟨_, rfl⟩
  rw [← hn] at hpl
  have hn128 : sl * W ≤ 16 * 8 := Nat.mul_le_mul (by omega) (by omega)
  have PL := fun w' => rplace_any sa sl W hsa (by omega) (by omega) w'
  have hmk := make_any n (by omega)
  have HZ := fun w' => size_yes W sl cp sa ow ia ra il ic rl rc w' hr
  rw [show (1 : Int) + (sl : Int) * (W : Int) = (n : Int) by rw [← Int.natCast_mul]; omega] at HZ
  have hb := Blk.new w 26 #[.int .i64 4, .int .i64 W, .int .i64 sl, .int .i64 cp, .int .u32 sa, .slice ia il ic, .int .i64 ow, .slice ra rl rc]
  have s0 := (Same.refl w).alloc (.cells #[.int .i64 4, .int .i64 W, .int .i64 sl, .int .i64 cp, .int .u32 sa, .slice ia il ic, .int .i64 ow, .slice ra rl rc] 26)
  have HB := Lib.hid hb
  have HR := fun w' => right_any W sl cp sa ow ia ra il ic rl rc w'
  rw [hr] at HR
  have HQ2 := Lib.hid hq
  have HN := Lib.hid hn
  obtain ⟨K, hK⟩ : ∃ K : Nat, K = (1 + (sa % (sl : Int)).toNat * W) := ⟨_, rfl⟩
  rw [← hK] at hpl PL
  have HK := Lib.hid hK
  have HPL := Lib.hid hpl
  have HN1 := Lib.hid hn128
  have HL := Lib.hid hl
  rw [← hn]
  clear hb hq hr hn hl hK hpl hn128
  go_enter Tryz.func77, Tryz.ntmps77
  go_wp2_with fail
  refine (HR _).mono ?_
  rintro e w1 ⟨rfl, s1⟩
  have hb1 := HB.out.same s1
  have S1 := Lib.hid (s0.trans s1)
  have HB1 := Lib.hid hb1
  obtain ⟨d0, d1, d2, d3, d4, d5, d6, d7⟩ := obj_cells hb1
  clear hb1 s0 s1 HB HR
  generalize w.heap.size = q at *
  clear d0 d1 d2 d3 d4 d5 d6 d7
  have hb1 := HB1.out
  obtain ⟨d0, d1, d2, d3, d4, d5, d6, d7⟩ := obj_cells hb1
  clear hb1
  go_wp2_with fail
  refine (HZ _).mono ?_
  rintro e w2 ⟨rfl, s2⟩
  have S2 := Lib.hid (S1.out.trans s2)
  have HB2 := Lib.hid (HB1.out.same s2)
  clear d0 d1 d2 d3 d4 d5 d6 d7 HB1 S1 s2 HZ
  have S3 := Lib.hid (S2.out.alloc (.cells (zeros n) 22))
  have HB3 := Lib.hid (HB2.out.same ((Same.refl w2).alloc (.cells (zeros n) 22)))
  have BN := Lib.hid (Blk.new w2 22 (zeros n))
  obtain ⟨d0, d1, d2, d3, d4, d5, d6, d7⟩ := obj_cells HB3.out
  have f1 : 1 ≤ n := by have := HPL.out; omega
  have f2 : (1 : Int) ≤ n := by omega
  have f3 : ¬ n = 1 := by have := HPL.out; have := HQ2.out; omega
  have f0 : (0 : Int) < n := by omega
  have f0' : 0 < n := by omega
  have z0 : (w2.alloc (.cells (zeros n) 22)).cell? ⟨w2.heap.size, 0, none⟩ = some (.int .u32 0) := by
    have h := BN.out.cell 0
    rw [h, ← Array.getElem?_toList, zeros_list, List.getElem?_map, List.getElem?_replicate, if_pos f0']
    rfl
  have t0 := BN.out.thaw 0
  go_upto_region 4 with fail
  have hq2 := HB2.out.lt
  have hsz : w.heap.size ≤ w2.heap.size := S2.out.size
  generalize w2.alloc (.cells (zeros n) 22) = w3 at *
  generalize w2.heap.size = q2 at *
  go_wp2_with fail
  have C4 : Chg (fun i => i = q2) w3 (w3.setCell ⟨q2, 0, none⟩ (.int .u32 sa)) := (Chg.refl (fun i => i = q2) w3).set (p := ⟨q2, 0, none⟩) (.inl rfl) _
  have S3' := Lib.hid (S3.out.more C4 (fun i hi => by omega))
  have HB3' := Lib.hid (HB3.out.chg C4 (by show ¬ q = q2; omega))
  have BN' := Lib.hid (BN.out.put 0 (.int .u32 sa))
  clear d0 d1 d2 d3 d4 d5 d6 d7 z0 t0 C4 S3 HB3 BN
  generalize w3.setCell ⟨q2, 0, none⟩ (.int .u32 sa) = w3b at *
  obtain ⟨d0, d1, d2, d3, d4, d5, d6, d7⟩ := obj_cells HB3'.out
  have S4 := Lib.hid S3'.out.drew
  have BN2 : w3b.drew.heap[q2]? = some (.cells ((zeros n).setIfInBounds 0 (.int .u32 sa)).toList.toArray 22 (0, 0)) := BN'.out
  have HBD := Lib.hid (HB3'.out.same (Same.refl w3b).drew)
  have hr4 := Lib.hid (hi.same S4.out)
  have HB4 := Lib.hid BN2
  have hW : W = il := by have := HQ2.out; omega
  have HW := Lib.hid hW
  have D8 := obj_cells HBD.out
  have g0 : (0 : Int) ≤ K := by omega
  have g1 : (K : Int) ≤ n := by have := HPL.out; omega
  have g2 : K ≤ n := by have := HPL.out; omega
  have g5 : ¬ n = K := by have := HPL.out; have := HQ2.out; omega
  have g3 : ¬ n - K = 0 := by have := HPL.out; have := HQ2.out; omega
  have g4 : ¬ (n : Int) - K = 0 := by omega
  have gqq : q < q2 := hq2
  clear d0 d1 d2 d3 d4 d5 d6 d7 S3' HB3' BN' HB2 S2 hi BN2 hW
  have c1 : (init.map (Value.int .u32)).length = Nat.min il (n - K) := by
    have := HL.out
    have := HN.out
    have := HW.out
    have := HPL.out
    rw [List.length_map]
    show _ = min il (n - K)
    omega
  have c2 : 0 < (init.map (Value.int .u32)).length → (some ⟨q2, K, none⟩ : Option Addr) = some ⟨q2, K, none⟩ ∧ ∃ ad, ia = some ad ∧ ∀ j v, (init.map (Value.int .u32))[j]? = some v → w3b.drew.cell? (ad.add j) = some v := by
    intro hp
    have hp' : 0 < (init.map (Value.int .u32)).length := by simpa using hp
    obtain ⟨b, o, hA, _⟩ := hr4.out.at_ hp'
    refine ⟨rfl, _, hA, fun j v hj => ?_⟩
    obtain ⟨b', o', hA', hc⟩ := hr4.out j v hj
    rw [hA] at hA'
    injection hA' with hA'
    injection hA' with e1 e2
    subst e1
    subst e2
    rw [Krg.add_plain]
    exact hc
  have c3 : K + (init.map (Value.int .u32)).length ≤ ((zeros n).setIfInBounds 0 (.int .u32 sa)).toList.length := by
    have h1 := HL.out
    have h2 := HN.out
    have h3 := HW.out
    have h4 := HPL.out
    have e1 : ((zeros n).setIfInBounds 0 (.int .u32 sa)).toList.length = n := by rw [Array.length_toList, Array.size_setIfInBounds, zeros_size]
    rw [e1, List.length_map]
    omega
  have C1 := Lib.hid c1
  have C2 := Lib.hid c2
  have C3 := Lib.hid c3
  clear c1 c2 c3
  go_region_held3 (fun w' => w'.cell? ⟨q, 0, none⟩ = some (.int .i64 4) ∧ w'.cell? ⟨q, 1, none⟩ = some (.int .i64 W) ∧ w'.cell? ⟨q, 2, none⟩ = some (.int .i64 sl) ∧ w'.cell? ⟨q, 3, none⟩ = some (.int .i64 cp) ∧ w'.cell? ⟨q, 4, none⟩ = some (.int .u32 sa) ∧ w'.cell? ⟨q, 5, none⟩ = some (.slice ia il ic) ∧ w'.cell? ⟨q, 6, none⟩ = some (.int .i64 ow) ∧ w'.cell? ⟨q, 7, none⟩ = some (.slice ra rl rc))
    (first | assumption | exact D8 | exact obj_cells (HBD.out.chg (Chg.of_below hbel) (by omega)))
    (first | (go_at_call 115; ((with_reducible refine (PL _).mono ?_); rintro e w' ⟨rfl, rfl⟩)) | (refine step_copy_splice rfl (.tmp 22) (.tmp 24) 23 23 rfl 22 Tryz.underlying23 u32_one (some ⟨q2, K, none⟩) ia (n - K) (n - K) il ic rfl rfl q2 K ((zeros n).setIfInBounds 0 (.int .u32 sa)).toList 22 HB4.out (init.map (Value.int .u32)) C1.out (fun hp => ⟨rfl, (C2.out hp).2⟩) C3.out (words_one _) q2 w3b.drew (Below.refl _ _) (Nat.le_refl _) ?_; intro w5 hw5 hbel))
  go_wp2
  go_ret
  have hn := HN.out
  have hsplice : splice ((zeros n).setIfInBounds 0 (.int .u32 sa)).toList K (init.map (Value.int .u32)) = (lay0 W sl sa init).map (Value.int .u32) := by
    have h4 := HPL.out
    have hl := HL.out
    have hW := HW.out
    unfold lay0 splice
    have ez : ((zeros n).setIfInBounds 0 (.int .u32 sa)).toList = ((List.replicate n (0 : Int)).set 0 sa).map (Value.int .u32) := by
      rw [Array.toList_setIfInBounds, zeros_list, List.map_set]
    rw [← HK.out, lay_eq _ _ _ (by rw [List.length_set, List.length_replicate]; omega), ← hn, ez, List.map_append, List.map_append, List.map_take, List.map_drop, List.length_map]
  refine ⟨q2, rfl, Same.more S4.out (Chg.of_below hbel) (fun i hi => by omega), own_blk (l := (lay0 W sl sa init).map (Value.int .u32)) (by rw [← hsplice]; exact hw5.out) ?_ (by unfold maxLen; have := HN1.out; have := HN.out; omega) hsz⟩
  have := lay_len W sl sa init
  rw [List.length_map, this]
  exact hn.symm

end Go.Proofs.YtikjkmomokhanabGreat.Krg

set_option linter.unusedVariables false
namespace Go.Proofs.YtikjkmomokhanabGreat.Krg
open Go.ChangeShapes Go.WideShapes Go.ChangeAt Go.RowKit Ws Km Kp
open Go.Proofs.YtikjkmomokhanabGreat.Kb

theorem lay_no (k wd sl cp sa ow : Int) (ia ra : Option Addr) (il ic rl rc : Nat) (w : World) (hr : k ≠ 4 ∨ rightB wd sl cp sa il rl = false) (hsa : 0 ≤ sa ∧ sa < 4294967296 := by assumption) :
    Calls Tryz.prog 77 #[.agg #[.int .i64 k, .int .i64 wd, .int .i64 sl, .int .i64 cp, .int .u32 sa, .slice ia il ic, .int .i64 ow, .slice ra rl rc]] w fun e w' => e = .returned (.slice none 0 0) ∧ Same w w' := by
  have HR : ∀ w', Calls Tryz.prog 75 #[.agg #[.int .i64 k, .int .i64 wd, .int .i64 sl, .int .i64 cp, .int .u32 sa, .slice ia il ic, .int .i64 ow, .slice ra rl rc]] w' fun e w'' => e = .returned (.bool false) ∧ Same w' w'' := by
    intro w'
    by_cases hk : k = 4
    · subst hk
      have := right_any wd sl cp sa ow ia ra il ic rl rc w'
      rcases hr with hr | hr
      · exact absurd rfl hr
      · rw [hr] at this
        exact this
    · exact right_not k wd sl cp sa ow ia ra il ic rl rc hk w'
  clear hr
  go_enter Tryz.func77, Tryz.ntmps77
  go_wp2_with fail
  refine (HR _).mono ?_
  rintro e w1 ⟨rfl, s1⟩
  go_wp2_with fail
  go_ret
  exact ⟨rfl, Same.trans ((Same.refl _).alloc _) s1⟩

theorem own_cell {w : World} {B g c : Nat} {e : TypeId} {l : List Int} (h : Own w B e (some ⟨g, 0, none⟩) c (l.map (Value.int .u32))) (j : Nat) (hj : j < l.length) :
    w.cell? ⟨g, j, none⟩ = some (.int .u32 (Op.gd l j)) ∧ w.frozen? ⟨g, j, none⟩ = false := by
  obtain ⟨g', hg', _, _, hf⟩ := h.thaw (by simp; omega)
  injection hg' with hg'
  injection hg' with hg'
  subst hg'
  obtain ⟨b, o, hA, hc⟩ := h.row j (.int .u32 l[j]) (by simp [hj])
  injection hA with hA
  injection hA with e1 e2
  subst e1
  subst e2
  rw [Nat.zero_add] at hc
  refine ⟨?_, hf j⟩
  rw [hc]
  unfold Op.gd
  rw [List.getD_eq_getElem?_getD, List.getElem?_eq_getElem hj]
  rfl
theorem objZ {w w' : World} {q : Nat} {T : TypeId} {W sl : Nat} {cp sa ow : Int} {ia ra : Option Addr} {il ic rl rc : Nat} {S : Nat → Prop} (h : Blk w q T #[.int .i64 4, .int .i64 W, .int .i64 sl, .int .i64 cp, .int .u32 sa, .slice ia il ic, .int .i64 ow, .slice ra rl rc]) (s : Chg S w w') (hn : ¬ S q) : w'.cell? ⟨q, 0, none⟩ = some (.int .i64 4) ∧ w'.cell? ⟨q, 1, none⟩ = some (.int .i64 W) ∧ w'.cell? ⟨q, 2, none⟩ = some (.int .i64 sl) ∧ w'.cell? ⟨q, 3, none⟩ = some (.int .i64 cp) ∧ w'.cell? ⟨q, 4, none⟩ = some (.int .u32 sa) ∧ w'.cell? ⟨q, 5, none⟩ = some (.slice ia il ic) ∧ w'.cell? ⟨q, 6, none⟩ = some (.int .i64 ow) ∧ w'.cell? ⟨q, 7, none⟩ = some (.slice ra rl rc) ∧ Chg S w w' := by
  obtain ⟨a, b, c, d, e, f, g, i⟩ := obj_cells (h.chg s hn)
  exact ⟨a, b, c, d, e, f, g, i, s⟩

set_option maxHeartbeats 1000000 in
set_option maxRecDepth 100000 in
theorem rlay_yes (W sl : Nat) (cp sa ow : Int) (ia ra : Option Addr) (il ic rl rc : Nat) (init : List Int) (w : World) (hr : rightB W sl cp sa il rl = true) (hi : Row w ia (init.map (Value.int .u32))) (hl : init.length = il) (hsa : 0 ≤ sa ∧ sa < 4294967296 := by assumption) :
    Calls Tryz.prog 19 #[.agg #[.int .i64 4, .int .i64 W, .int .i64 sl, .int .i64 cp, .int .u32 sa, .slice ia il ic, .int .i64 ow, .slice ra rl rc]] w fun e w' => ∃ g, e = .returned (.slice (some ⟨g, 0, none⟩) (1 + sl * W) (1 + sl * W)) ∧ Same w w' ∧ Own w' w.heap.size 22 (some ⟨g, 0, none⟩) (1 + sl * W) ((lay0 W sl sa init).map (Value.int .u32)) := by
  have hq := HQ hr
  have hpl := place_in W sl sa (by omega) (by omega)
  obtain ⟨n, hn⟩ : ∃ n, n = 1 + sl * W := ⟨_, rfl⟩
  rw [← hn] at hpl
  have hn128 : sl * W ≤ 16 * 8 := Nat.mul_le_mul (by omega) (by omega)
  have hm0 := Int.emod_nonneg sa (show (sl : Int) ≠ 0 by omega)
  have hm1 := Int.emod_lt_of_pos sa (show (0 : Int) < sl by omega)
  obtain ⟨mm, hmm⟩ : ∃ mm : Nat, mm = (sa % (sl : Int)).toNat := ⟨_, rfl⟩
  have emm : sa.tmod (sl : Int) = (mm : Int) := by rw [Int.tmod_eq_emod_of_nonneg hsa.1, hmm]; omega
  have hms : mm < sl := by omega
  have hmw : mm * W ≤ 16 * 8 := Nat.mul_le_mul (by omega) (by omega)
  obtain ⟨y, hy⟩ : ∃ y : Nat, y = mm * W := ⟨_, rfl⟩
  have hyi : (mm : Int) * (W : Int) = (y : Int) := by rw [hy, Int.natCast_mul]
  obtain ⟨K, hK⟩ : ∃ K : Nat, K = 1 + (sa % (sl : Int)).toNat * W := ⟨_, rfl⟩
  have hKy : K = 1 + y := by rw [hK, hy, hmm]
  rw [← hK] at hpl
  have HK := Lib.hid hK
  have HKY := Lib.hid hKy
  have HPL := Lib.hid hpl
  have HN1 := Lib.hid hn128
  have HYI := Lib.hid hyi
  have HEM := Lib.hid emm
  have HMS := Lib.hid (And.intro hms hmw)
  have HY := Lib.hid hy
  have hmk := make_any n (by omega)
  have HZ := fun w' => rsize_yes W sl cp sa ow ia ra il ic rl rc w' hr
  rw [show (1 : Int) + (sl : Int) * (W : Int) = (n : Int) by rw [← Int.natCast_mul]; omega] at HZ
  have hb := Blk.new w 26 #[.int .i64 4, .int .i64 W, .int .i64 sl, .int .i64 cp, .int .u32 sa, .slice ia il ic, .int .i64 ow, .slice ra rl rc]
  have s0 := (Same.refl w).alloc (.cells #[.int .i64 4, .int .i64 W, .int .i64 sl, .int .i64 cp, .int .u32 sa, .slice ia il ic, .int .i64 ow, .slice ra rl rc] 26)
  have HB := Lib.hid hb
  have HR := fun w' => rright_any W sl cp sa ow ia ra il ic rl rc w'
  rw [hr] at HR
  have HQ2 := Lib.hid hq
  have HN := Lib.hid hn
  have HL := Lib.hid hl
  rw [← hn]
  clear hb hq hr hn hl hpl hn128 hm0 hm1 hmm emm hms hmw hy hyi hK hKy
  go_enter Tryz.func19, Tryz.ntmps19
  go_wp2_with fail
  refine (HZ _).mono ?_
  rintro e w1 ⟨rfl, s1⟩
  have S1 := Lib.hid (s0.trans s1)
  have HB1 := Lib.hid (HB.out.same s1)
  clear s0 s1 HB HZ
  have hqs := HB1.out.lt
  have hqw := Nat.le_refl w.heap.size
  have HIB : Hid (∀ (b o : Nat), ia = some ⟨b, o, none⟩ → init.map (Value.int .u32) ≠ [] → b < w.heap.size) := Lib.hid (fun b o hA hne => by
    obtain ⟨b', o', hA', hc⟩ := hi.at_ (k := 0) (by rcases h : init.map (Value.int .u32) with _ | ⟨x, r⟩; exact absurd h hne; simp)
    rw [hA] at hA'
    injection hA' with hA'
    injection hA' with e1 e2
    subst e1
    exact World.block_lt_of_cell? w _ hc)
  generalize hqe : w.heap.size = q at *
  have S2 := Lib.hid (S1.out.alloc (.cells (zeros n) 22))
  have HB2 := Lib.hid (HB1.out.same ((Same.refl w1).alloc (.cells (zeros n) 22)))
  have BN := Lib.hid (Blk.new w1 22 (zeros n))
  obtain ⟨d0, d1, d2, d3, d4, d5, d6, d7⟩ := obj_cells HB2.out
  clear S1 HB1
  go_wp2_with fail
  generalize w1.alloc (.cells (zeros n) 22) = w2 at *
  generalize w1.heap.size = g at *
  refine (HR _).mono ?_
  rintro e w3 ⟨rfl, s3⟩
  have S3 := Lib.hid (S2.out.trans s3)
  have HB3 := Lib.hid (HB2.out.same s3)
  have BN3 := Lib.hid (BN.out.same s3)
  obtain ⟨d0, d1, d2, d3, d4, d5, d6, d7⟩ := obj_cells HB3.out
  clear S2 HB2 BN HR
  have f0 : (0 : Int) < n := by have := HPL.out; omega
  have f0' : 0 < n := by omega
  have z0 : w3.cell? ⟨g, 0, none⟩ = some (.int .u32 0) := by
    have h := BN3.out.cell 0
    rw [h, ← Array.getElem?_toList, zeros_list, List.getElem?_map, List.getElem?_replicate, if_pos f0']
    rfl
  have t0 := BN3.out.thaw 0
  have q3 := HEM.out
  have q0 : (0 : Int) < sl := by have := HQ2.out; omega
  generalize hsx : (sl : Int) = sx at *
  have q1 : ¬ sx = 0 := by omega
  have q2 : (sx == 0) = false := by simp; omega
  have q4 : IntKind.i64.wrap sa = sa := Go.IntWalk.i64_in _ (by omega)
  have q5 : IntKind.i64.wrap (mm : Int) = mm := Go.IntWalk.i64_in _ (by have := HMS.out; have := HQ2.out; omega)
  have q6 : wrap64 sa = sa := by unfold wrap64; omega
  have q7 : wrap64 (mm : Int) = mm := by have := HMS.out; have := HQ2.out; unfold wrap64; omega
  go_wp2_with fail
  clear q0 q1 q2 q3 q4 q5 q6 q7
  subst hsx
  have z1 : (zeros n).setIfInBounds 0 (.int .u32 sa) = (((List.replicate n (0 : Int)).set 0 sa).map (Value.int .u32)).toArray := by
    apply Array.ext'
    rw [Array.toList_setIfInBounds, zeros_list]
    show (List.map (Value.int .u32) (List.replicate n 0)).set 0 (Value.int .u32 sa) = List.map (Value.int .u32) ((List.replicate n 0).set 0 sa)
    rw [List.map_set]
  have O4 : Own (w3.setCell ⟨g, 0, none⟩ (.int .u32 sa)) g 22 (some ⟨g, 0, none⟩) n ((Op.lay ((List.replicate n 0).set 0 sa) K (init.take 0)).map (Value.int .u32)) := by
    refine own_blk ?_ (by simp [Op.lay]) (by unfold maxLen; have := HN.out; have := HN1.out; omega) (Nat.le_refl _)
    have := BN3.out.put 0 (.int .u32 sa)
    rw [z1] at this
    exact this
  have C4 : Chg (fun i => i = g) w3 (w3.setCell ⟨g, 0, none⟩ (.int .u32 sa)) := (Chg.refl (fun i => i = g) w3).set (p := ⟨g, 0, none⟩) (.inl rfl) _
  have HO4 := Lib.hid O4
  have HC4 := Lib.hid C4
  have hi3 := Lib.hid (hi.same S3.out)
  clear O4 C4 z0 z1 t0 hi s3
  have HB4 := Lib.hid (HB3.out.chg HC4.out (by show ¬ q = g; omega))
  obtain ⟨d0, d1, d2, d3, d4, d5, d6, d7⟩ := obj_cells HB4.out
  generalize w3.setCell ⟨g, 0, none⟩ (.int .u32 sa) = w4 at *
  have g1 : W = il := by have := HQ2.out; omega
  have HW := Lib.hid g1
  have g2 : il ≤ 8 := by have := HQ2.out; omega
  clear g1
  go_wp2_with fail
  go_loopg [37] il (fun gk i wx => ∃ k : Nat, k + gk = il ∧ i = .int .i64 k ∧ Chg (fun b => b = g) w4 wx ∧ Own wx g 22 (some ⟨g, 0, none⟩) n ((Op.lay ((List.replicate n 0).set 0 sa) K (init.take k)).map (Value.int .u32)))
  case atStart => exact ⟨0, by omega, rfl, Chg.refl _ _, HO4.out⟩
  case round =>
    obtain ⟨k, hk, rfl, hC, hO⟩ := hrel
    have HC := Lib.hid hC
    have HO := Lib.hid hO
    clear hC hO d0 d1 d2 d3 d4 d5 d6 d7
    have b0 : (0 : Int) ≤ k := by omega
    cases gk with
    | zero =>
      have hkl : k = il := by omega
      have hge : ¬ (k : Int) < il := by omega
      have HKK := Lib.hid hkl
      clear hkl
      go_wp2_with fail
      go_ret
      have e : (Op.lay ((List.replicate n 0).set 0 sa) K (init.take k)) = lay0 W sl sa init := by
        rw [HKK.out, List.take_of_length_le (by have := HL.out; omega), HN.out, HK.out]
        rfl
      rw [e] at HO
      refine ⟨g, rfl, S3.out.more (HC4.out.trans HC.out) (fun i hi => by omega), HO.out.base (by omega)⟩
    | succ gk =>
      have hlt : (k : Int) < il := by omega
      have hkl : k < init.length := by have := HL.out; omega
      have hrow := hi3.out.chg (HC4.out.trans HC.out) (fun b o hA hne he => by
        have := HIB.out b o hA hne
        omega)
      obtain ⟨b, off, hA, hcell⟩ := hrow k _ (by rw [List.getElem?_map, List.getElem?_eq_getElem hkl]; rfl)
      obtain ⟨v, hv⟩ : ∃ v, v = init[k] := ⟨_, rfl⟩
      rw [← hv] at hcell
      have HV := Lib.hid hv
      have HB5 := Lib.hid (HB4.out.chg HC.out (by show ¬ q = g; omega))
      obtain ⟨d0, d1, d2, d3, d4, d5, d6, d7⟩ := obj_cells HB5.out
      have hAA := hA
      subst hA
      clear hv hrow
      have yb : (y : Int) ≤ 128 := by have := HMS.out; have := HY.out; omega
      have e1 := HYI.out
      have e2 : IntKind.i64.wrap (y : Int) = y := Go.IntWalk.i64_in _ (by omega)
      have e3 : IntKind.i64.wrap (1 + (y : Int)) = K := by rw [Go.IntWalk.i64_in _ (by omega)]; have := HKY.out; omega
      have e4 : IntKind.i64.wrap (K : Int) = K := Go.IntWalk.i64_in _ (by have := HKY.out; omega)
      have kb : (K : Int) ≤ 129 := by have := HKY.out; omega
      have f3 : IntKind.i64.wrap ((K : Int) + (k : Int)) = K + k := Go.IntWalk.i64_in _ (by omega)
      have f4 : ((K : Int) + (k : Int)).toNat = K + k := by omega
      have f5 : (0 : Int) ≤ (K : Int) + k := by omega
      have f6 : (K : Int) + (k : Int) < n := by have := HPL.out; have := HW.out; omega
      go_wp2_with fail
      have hll : K + k < (Op.lay ((List.replicate n 0).set 0 sa) K (init.take k)).length := by rw [Op.lay_length, List.length_set, List.length_replicate]; omega
      have HLL := Lib.hid hll
      clear hll
      go_region_held3 (fun w' => w'.cell? ⟨q, 0, none⟩ = some (.int .i64 4) ∧ w'.cell? ⟨q, 1, none⟩ = some (.int .i64 W) ∧ w'.cell? ⟨q, 2, none⟩ = some (.int .i64 sl) ∧ w'.cell? ⟨q, 3, none⟩ = some (.int .i64 cp) ∧ w'.cell? ⟨q, 4, none⟩ = some (.int .u32 sa) ∧ w'.cell? ⟨q, 5, none⟩ = some (.slice (some ⟨b, off, none⟩) il ic) ∧ w'.cell? ⟨q, 6, none⟩ = some (.int .i64 ow) ∧ w'.cell? ⟨q, 7, none⟩ = some (.slice ra rl rc) ∧ Chg (fun b => b = g) wr w')
        (first | assumption | exact objZ HB5.out (Chg.refl (fun b => b = g) wr).drew (show ¬ q = g by omega) | (rcases ‹_ ∧ _ ∧ _ ∧ _ ∧ _ ∧ _ ∧ _ ∧ _ ∧ Chg (fun b => b = g) wr _› with ⟨_, _, _, _, _, _, _, _, x9⟩; first | exact objZ HB5.out (x9.trans (hs.chg _)) (show ¬ q = g by omega) | exact objZ HB5.out (x9.set (p := ⟨g, K + k, none⟩) (.inl rfl) _) (show ¬ q = g by omega)))
        (first | (go_at_call 43; ((with_reducible refine (rhead_any W sl cp sa _ _ ra il ic rl rc _).mono ?_); rintro e w' ⟨rfl, hs⟩; have O6 := HO.out.same (Same.trans (Same.refl wr).drew hs); have HO6 := Lib.hid O6; have z6 := (own_cell O6 (K + k) HLL.out).1; have t6 := (own_cell O6 (K + k) HLL.out).2; clear O6)))
      rcases ‹_ ∧ _ ∧ _ ∧ _ ∧ _ ∧ _ ∧ _ ∧ _ ∧ Chg (fun b => b = g) wr _› with ⟨_, _, _, _, _, _, _, _, x9⟩
      have O7 := HO6.out.put (K + k) (.int .u32 v)
      have eL : ((Op.lay ((List.replicate n 0).set 0 sa) K (init.take k)).map (Value.int .u32)).set (K + k) (.int .u32 v) = (Op.lay ((List.replicate n 0).set 0 sa) K (init.take (k + 1))).map (Value.int .u32) := by
        rw [← List.map_set, HV.out, List.take_succ_eq_append_getElem hkl, Op.lay_snoc, List.length_take, Nat.min_eq_left (by omega)]
      rw [eL] at O7
      have HO7 := Lib.hid O7
      have HX9 := Lib.hid x9
      clear O7 eL x9 z6 t6 d0 d1 d2 d3 d4 d5 d6 d7 e1 e2 e3 e4 f3 f4 f5 f6 hcell
      generalize w'.setCell ⟨g, K + k, none⟩ (.int .u32 v) = w7 at *
      go_wp2
      go_roundg gk
      case rel => exact ⟨k + 1, by omega, by go_num, HC.out.trans HX9.out, HO7.out⟩
      case measure => omega

end Go.Proofs.YtikjkmomokhanabGreat.Krg

