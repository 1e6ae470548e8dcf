/-

 Package spoil: what a job takes, of so many ticks.
-/
import Derived.Test.YthhbhbfkbncegaaGreatDoorSplPure
import Derived.Test.YthhbhbfkbncegaaGreatDoorImgIn
import Derived.Test.YthhbhbfkbncegaaGreatDoorRegionOff
import Derived.WalkKit
import Derived.Deep.LoopGhost
import Derived.Deep.RegionHeld3
import Derived.BigQuiet
import Derived.Deep.Cut
import Derived.Lib.Hide
import Derived.ProofKit
section
set_option linter.unusedVariables false
set_option linter.unusedSimpArgs false
namespace Go.Proofs.YthhbhbfkbncegaaGreatDoor.Sl
open Go.ChangeShapes Go.WideShapes Go.ChangeAt Go.RowKit Ws
open Go.Proofs.YthhbhbfkbncegaaGreatDoor.Wd (ret_bool ret_int mulv ceilv addv)

set_option maxRecDepth 100000 in
theorem writes_sp (x : SR) (r : Int) (br : -9223372036854775808 ≤ r ∧ r ≤ 9223372036854775807) (w : World) : Calls Tryz.prog 37 #[.agg (rcells x).toArray, .int .i64 r] w fun e w' => e = .returned (.int .i64 (wrR x r)) ∧ Same w w' := by
 obtain ⟨k, sl, fl, ah, wr, pr⟩ := x
 obtain ⟨w0, hw0⟩ : ∃ w0, w0 = w.alloc (.cells #[.int .i64 k, .int .i64 sl, .int .i64 fl, .bool ah, .int .i64 wr, .int .i64 pr] 59) := ⟨_, rfl⟩
 obtain ⟨g, hg⟩ : ∃ g, g = w.heap.size := ⟨_, rfl⟩
 have s0 : Same w w0 := hw0 ▸ (Same.refl w).alloc _
 have b0 : Blk w0 g 59 #[.int .i64 k, .int .i64 sl, .int .i64 fl, .bool ah, .int .i64 wr, .int .i64 pr] := by rw [hw0, hg]; exact Blk.new w _ _
 have HE0 := Lib.hid hw0
 have HG := Lib.hid hg
 have S0 := Lib.hid s0
 have B0 := Lib.hid b0
 obtain ⟨c0, c1, c2, c3, c4, c5⟩ := (⟨b0.cell 0, b0.cell 1, b0.cell 2, b0.cell 3, b0.cell 4, b0.cell 5⟩ : _ ∧ _ ∧ _ ∧ _ ∧ _ ∧ _)
 simp only [Ws.q_] at c0 c1 c2 c3 c4 c5
 clear hw0 hg s0 b0
 have WC := Lib.hid (fun W => Wd.wceil r pr br W)
 have WM := Lib.hid (fun W => Wd.wmul wr (ceilv r pr) W)
 have HD := Lib.hid (show wrR ⟨k, sl, fl, ah, wr, pr⟩ r = mulv wr (ceilv r pr) from rfl)
 show Calls Tryz.prog 37 #[.agg #[.int .i64 k, .int .i64 sl, .int .i64 fl, .bool ah, .int .i64 wr, .int .i64 pr], .int .i64 r] w _
 go_enter Tryz.func37, Tryz.ntmps37
 go_upto_region 1 with fail
 rw [← HE0.out, ← HG.out]
 clear HE0 HG
 generalize ceilv r pr = cv at *
 go_quiet (first | (go_at_call 65; exact Calls.quiet_of_same ((WC.out _).mono fun _ _ ⟨he, hw⟩ => ⟨he, hw.symm⟩)) | (go_at_call 64; exact Calls.quiet_of_same ((WM.out _).mono fun _ _ ⟨he, hw⟩ => ⟨he, hw.symm⟩)))
 go_wp2_with fail
 go_ret
 exact ⟨ret_int HD.out.symm, S0.out.drewN _⟩
set_option maxRecDepth 100000 in
set_option maxHeartbeats 2000000 in
theorem fails_sp (x : SR) (r : Int) (bs : x.sl ≤ 9223372036854775807) (br : -9223372036854775808 ≤ r ∧ r ≤ 9223372036854775807) (w : World) : Calls Tryz.prog 40 #[.agg (rcells x).toArray, .int .i64 r] w fun e w' => e = .returned (.int .i64 (flR x r)) ∧ Same w w' := by
 have WS := Lib.hid (fun W => writes_sp x r br W)
 have HB := Lib.hid (wr_bd x r)
 have HD := Lib.hid (show flR x r = if x.k = 3 ∨ x.k = 5 then wrR x r else if x.k = 4 then wrR x r / (max x.sl 2 - 1) else 0 from rfl)
 obtain ⟨k, sl, fl, ah, wr, pr⟩ := x
 obtain ⟨w0, hw0⟩ : ∃ w0, w0 = w.alloc (.cells #[.int .i64 k, .int .i64 sl, .int .i64 fl, .bool ah, .int .i64 wr, .int .i64 pr] 59) := ⟨_, rfl⟩
 obtain ⟨g, hg⟩ : ∃ g, g = w.heap.size := ⟨_, rfl⟩
 have s0 : Same w w0 := hw0 ▸ (Same.refl w).alloc _
 have b0 : Blk w0 g 59 #[.int .i64 k, .int .i64 sl, .int .i64 fl, .bool ah, .int .i64 wr, .int .i64 pr] := by rw [hw0, hg]; exact Blk.new w _ _
 have HE0 := Lib.hid hw0
 have HG := Lib.hid hg
 have S0 := Lib.hid s0
 have B0 := Lib.hid b0
 obtain ⟨c0, c1, c2, c3, c4, c5⟩ := (⟨b0.cell 0, b0.cell 1, b0.cell 2, b0.cell 3, b0.cell 4, b0.cell 5⟩ : _ ∧ _ ∧ _ ∧ _ ∧ _ ∧ _)
 simp only [Ws.q_] at c0 c1 c2 c3 c4 c5
 clear hw0 hg s0 b0
 replace WS := Lib.hid (fun W => (show Calls Tryz.prog 37 #[.agg #[.int .i64 k, .int .i64 sl, .int .i64 fl, .bool ah, .int .i64 wr, .int .i64 pr], .int .i64 r] W fun e w' => e = .returned (.int .i64 (wrR ⟨k, sl, fl, ah, wr, pr⟩ r)) ∧ Same W w' from WS.out W))
 dsimp only at HD bs
 show Calls Tryz.prog 40 #[.agg #[.int .i64 k, .int .i64 sl, .int .i64 fl, .bool ah, .int .i64 wr, .int .i64 pr], .int .i64 r] w _
 go_enter Tryz.func40, Tryz.ntmps40
 go_upto_region 1 with fail
 rw [← HE0.out, ← HG.out]
 clear HE0 HG
 generalize wrR ⟨k, sl, fl, ah, wr, pr⟩ r = n at *
 by_cases h1 : k = 3
 ·subst h1
  go_wp2_with fail
  refine (WS.out _).mono ?_
  rintro e w1 ⟨rfl, s1⟩
  go_wp2_with fail
  go_ret
  exact ⟨ret_int (by rw [HD.out, if_pos (.inl trivial)]), S0.out.trans s1⟩
 ·by_cases h2 : k = 5
  ·subst h2
   go_wp2_with fail
   refine (WS.out _).mono ?_
   rintro e w1 ⟨rfl, s1⟩
   go_wp2_with fail
   go_ret
   exact ⟨ret_int (by rw [HD.out, if_pos (.inr trivial)]), S0.out.trans s1⟩
  ·have e1 : (k == 3) = false := by simpa using h1
   have e2 : (k == 5) = false := by simpa using h2
   by_cases h3 : k = 4
   ·subst h3
    have HV := Lib.hid (show flR ⟨4, sl, fl, ah, wr, pr⟩ r = n / (max sl 2 - 1) by rw [HD.out, if_neg (by omega), if_pos rfl])
    clear h1 h2 e1 e2 HD
    go_wp2_with fail
    obtain ⟨q, hq⟩ : ∃ q, q = max sl 2 := ⟨_, rfl⟩
    have HQ := Lib.hid hq
    have hqm : (if sl < 2 then 2 else sl) = q := by rw [hq]; split <;> omega
    have hbn : 0 ≤ n ∧ n ≤ 1099511627776 := HB.out
    obtain ⟨p, hp⟩ : ∃ p, p = q - 1 := ⟨_, rfl⟩
    have HPQ := Lib.hid hp
    have hp0 : ¬ p = 0 := by omega
    have hpw : IntKind.i64.wrap (q - 1) = p := by rw [hp]; exact Go.IntWalk.i64_in _ (by omega)
    have hdb : 0 ≤ n / p ∧ n / p ≤ n := ⟨Int.ediv_nonneg hbn.1 (by omega), Int.ediv_le_self _ hbn.1⟩
    have hdw : IntKind.i64.wrap (n.tdiv p) = n / p := by rw [Int.tdiv_eq_ediv_of_nonneg hbn.1]; exact Go.IntWalk.i64_in _ (by omega)
    clear hp hdb hbn
    have hq1 : 2 ≤ q ∧ q ≤ 9223372036854775807 := by omega
    clear hq
    refine wp_region_held_drew (S := fun w' => Same w0 w') (by kernel_rfl) ?_ (fun hHeld => ?_)
    ·exact (Same.refl w0).drew
    refine Ro.tn 0 ?_ ?_ ?_
    rotate_left
    ·intro wS hSw; (try dsimp only at hSw); obtain ⟨v0, v1, v2, v3, v4, v5⟩ := (⟨(B0.out.same hSw).cell 0, (B0.out.same hSw).cell 1, (B0.out.same hSw).cell 2, (B0.out.same hSw).cell 3, (B0.out.same hSw).cell 4, (B0.out.same hSw).cell 5⟩ : _ ∧ _ ∧ _ ∧ _ ∧ _ ∧ _); simp only [Ws.q_] at v0 v1 v2 v3 v4 v5; go_simp; try with_reducible rfl
    try simp only [Ro.p]
    refine Ro.tn 1 ?_ ?_ ?_
    rotate_left
    ·intro wS hSw; (try dsimp only at hSw); go_simp; try with_reducible rfl
    try simp only [Ro.p]
    refine Ro.tn 3 ?_ ?_ ?_
    rotate_left
    ·intro wS hSw; (try dsimp only at hSw); go_simp; try with_reducible rfl
    try simp only [Ro.p]
    refine Ro.tn 4 ?_ ?_ ?_
    rotate_left
    ·intro wS hSw; (try dsimp only at hSw); obtain ⟨v0, v1, v2, v3, v4, v5⟩ := (⟨(B0.out.same hSw).cell 0, (B0.out.same hSw).cell 1, (B0.out.same hSw).cell 2, (B0.out.same hSw).cell 3, (B0.out.same hSw).cell 4, (B0.out.same hSw).cell 5⟩ : _ ∧ _ ∧ _ ∧ _ ∧ _ ∧ _); simp only [Ws.q_] at v0 v1 v2 v3 v4 v5; go_simp; try with_reducible rfl
    try simp only [Ro.p]
    refine Ro.tn 5 ?_ ?_ ?_
    rotate_left
    ·intro wS hSw; (try dsimp only at hSw); go_simp; try with_reducible rfl
    try simp only [Ro.p]
    refine Ro.tn 6 ?_ ?_ ?_
    rotate_left
    ·intro wS hSw; (try dsimp only at hSw); go_simp; try with_reducible rfl
    try simp only [Ro.p]
    refine Ro.one_on (i := 2) rfl (by kernel_rfl) (by rfl) (fun K hK => ?_)
    go_simp
    go_at_call 37
    refine (WS.out _).mono ?_
    rintro e w1 ⟨rfl, s1⟩
    refine hK.out _ _ ?_ (fun hNew => ?_)
    ·exact hHeld.trans s1
    clear hK K hHeld; have hHeld := hNew; clear hNew
    try simp only [Ro.p]
    refine Ro.tn 7 ?_ ?_ ?_
    rotate_left
    ·intro wS hSw; (try dsimp only at hSw); go_simp; try with_reducible rfl
    try simp only [Ro.p]
    refine Ro.tn 8 ?_ ?_ ?_
    rotate_left
    ·intro wS hSw; (try dsimp only at hSw); go_simp; try with_reducible rfl
    try simp only [Ro.p]
    refine wpAnyH_done (by kernel_rfl) ?_ _
    go_wp2_with fail
    go_ret
    exact ⟨ret_int (by rw [HV.out, ← HQ.out, ← HPQ.out]), S0.out.trans hHeld⟩
   ·have e3 : (k == 4) = false := by simpa using h3
    have HV := Lib.hid (show flR ⟨k, sl, fl, ah, wr, pr⟩ r = 0 by rw [HD.out, if_neg (by omega), if_neg h3])
    clear h1 h2 h3
    go_wp2_with fail
    go_ret
    exact ⟨ret_int HV.out.symm, S0.out⟩
end Go.Proofs.YthhbhbfkbncegaaGreatDoor.Sl
end
section
set_option linter.unusedVariables false
set_option linter.unusedSimpArgs false
namespace Go.Proofs.YthhbhbfkbncegaaGreatDoor.Sl
open Go.ChangeShapes Go.WideShapes Go.ChangeAt Go.RowKit Ws
open Go.Proofs.YthhbhbfkbncegaaGreatDoor.Wd (ret_bool ret_int mulv ceilv addv)
theorem rcells_len (x : SR) : (rcells x).length = 6 := rfl
theorem flat_get : ∀ (l : List SR) (k j : Nat) (x : SR), l[k]? = some x → j < 6 → (l.flatMap rcells)[k * 6 + j]? = (rcells x)[j]?
 | [], k, j, x, h, _ => by cases h
 | y :: l, 0, j, x, h, hj => by
  obtain rfl : y = x := Option.some.inj h
  rw [List.flatMap_cons, Nat.zero_mul, Nat.zero_add, List.getElem?_append_left (by rw [rcells_len]; exact hj)]
 | y :: l, k + 1, j, x, h, hj => by
  rw [List.flatMap_cons, List.getElem?_append_right (by rw [rcells_len]; omega), rcells_len, show (k + 1) * 6 + j - 6 = k * 6 + j by omega]
  exact flat_get l k j x h hj
theorem rs_at {w : World} {A : Option Addr} {l : List SR} (h : Row w A (l.flatMap rcells)) {k : Nat} {x : SR} (hk : l[k]? = some x) :
 ∃ b o, A = some ⟨b, o, none⟩ ∧ w.cell? ⟨b, o + k * 6, none⟩ = some (.int .i64 x.k) ∧ w.cell? ⟨b, o + k * 6 + 1, none⟩ = some (.int .i64 x.sl) ∧ w.cell? ⟨b, o + k * 6 + 2, none⟩ = some (.int .i64 x.fl) ∧ w.cell? ⟨b, o + k * 6 + 3, none⟩ = some (.bool x.ah) ∧ w.cell? ⟨b, o + k * 6 + 4, none⟩ = some (.int .i64 x.wr) ∧ w.cell? ⟨b, o + k * 6 + 5, none⟩ = some (.int .i64 x.pr) := by
 obtain ⟨b, o, hA, _⟩ := h (k * 6 + 0) _ ((flat_get l k 0 x hk (by omega)).trans rfl)
 have key : ∀ j v, j < 6 → (rcells x)[j]? = some v → w.cell? ⟨b, o + k * 6 + j, none⟩ = some v := fun j v hj hv => by
  obtain ⟨b', o', hA', hc⟩ := h (k * 6 + j) v ((flat_get l k j x hk hj).trans hv)
  rw [hA] at hA'
  injection hA' with hA'
  injection hA' with h1 h2
  subst h1 h2
  rw [Nat.add_assoc]
  exact hc
 exact ⟨b, o, hA, key 0 _ (by omega) rfl, key 1 _ (by omega) rfl, key 2 _ (by omega) rfl, key 3 _ (by omega) rfl, key 4 _ (by omega) rfl, key 5 _ (by omega) rfl⟩
theorem steps_take {n : Int} {l : List SR} {k : Nat} {x : SR} {r : Int} (h : l[k]? = some x) : stepsR n (l.take (k + 1)) r = addv (stepsR n (l.take k) r) (mulv (flR x r) x.fl) := by
 rw [List.take_add_one, h]
 exact steps_snoc n (l.take k) x r
set_option maxRecDepth 100000 in
set_option maxHeartbeats 4000000 in
theorem steps_any (cl : Int) (A : Option Addr) (n c : Nat) (l : List SR) (r : Int) (br : -9223372036854775808 ≤ r ∧ r ≤ 9223372036854775807) (bs : ∀ x ∈ l, x.sl ≤ 9223372036854775807) (w : World) (hl : l.length = n) (hn : (n : Int) ≤ 9223372036854775807) (hr : Row w A (l.flatMap rcells)) :
 Calls Tryz.prog 42 #[.agg #[.int .i64 cl, .slice A n c], .int .i64 r] w fun e w' => e = .returned (.int .i64 (stepsR cl l r)) ∧ Same w w' := by
 obtain ⟨w0, hw0⟩ : ∃ w0, w0 = w.alloc (.cells #[.int .i64 cl, .slice A n c] 65) := ⟨_, rfl⟩
 obtain ⟨g, hg⟩ : ∃ g, g = w.heap.size := ⟨_, rfl⟩
 have s0 : Same w w0 := hw0 ▸ (Same.refl w).alloc _
 have b0 : Blk w0 g 65 #[.int .i64 cl, .slice A n c] := by rw [hw0, hg]; exact Blk.new w _ _
 have HE0 := Lib.hid hw0
 have HG := Lib.hid hg
 have S0 := Lib.hid s0
 have HR := Lib.hid (hr.same s0)
 have HL := Lib.hid hl
 have HBS := Lib.hid bs
 obtain ⟨c0, c1⟩ := (⟨b0.cell 0, b0.cell 1⟩ : _ ∧ _)
 simp only [Ws.q_] at c0 c1
 clear hw0 hg s0 b0 hr hl bs
 go_enter Tryz.func42, Tryz.ntmps42
 go_upto_region 1 with fail
 rw [← HE0.out, ← HG.out]
 clear HE0 HG
 go_wp2_with fail
 go_loopg [5, 13] n (fun gk nv iv wx => ∃ k : Nat, k + gk = n ∧ iv = .int .i64 k ∧ nv = .int .i64 (stepsR cl (l.take k) r) ∧ Same w0 wx)
 case atStart => exact ⟨0, by omega, rfl, rfl, Same.refl _⟩
 case round =>
  obtain ⟨k, hk, rfl, rfl, sx⟩ := hrel
  have HSX := Lib.hid sx
  clear sx c0 c1
  cases gk with
  | zero =>
   obtain rfl : k = n := by omega
   have hge : ¬ (k : Int) < (k : Int) := by omega
   have HT := Lib.hid (show l.take k = l from List.take_of_length_le (by have := HL.out; omega))
   go_wp2_with fail
   go_ret
   exact ⟨ret_int (by rw [HT.out]), S0.out.trans HSX.out⟩
  | succ GK =>
   have hlt : (k : Int) < n := by omega
   have hk0 : (0 : Int) ≤ k := by omega
   have HKK := Lib.hid hk
   clear hk
   obtain ⟨x, hx⟩ : ∃ x, l[k]? = some x := ⟨l[k]'(by have := HL.out; omega), List.getElem?_eq_getElem _⟩
   obtain ⟨b, o, rfl, y0, y1, y2, y3, y4, y5⟩ := rs_at (HR.out.same HSX.out) hx
   have HST := Lib.hid (steps_take (n := cl) (r := r) hx)
   have FS := Lib.hid (fun W => fails_sp x r (HBS.out x (List.mem_of_getElem? hx)) br W)
   clear hx
   generalize stepsR cl (l.take k) r = v at *
   obtain ⟨xk, xs, xf, xa, xw, xp⟩ := x
   replace FS := Lib.hid (fun W => (show Calls Tryz.prog 40 #[.agg #[.int .i64 xk, .int .i64 xs, .int .i64 xf, .bool xa, .int .i64 xw, .int .i64 xp], .int .i64 r] W fun e w' => e = .returned (.int .i64 (flR ⟨xk, xs, xf, xa, xw, xp⟩ r)) ∧ Same W w' from FS.out W))
   dsimp only at y0 y1 y2 y3 y4 y5 HST
   have HX := Lib.hid (Blk.new wr 59 #[.int .i64 xk, .int .i64 xs, .int .i64 xf, .bool xa, .int .i64 xw, .int .i64 xp])
   have HS5 := Lib.hid (HSX.out.alloc (.cells #[.int .i64 xk, .int .i64 xs, .int .i64 xf, .bool xa, .int .i64 xw, .int .i64 xp] 59))
   go_upto_region 5 with fail
   generalize wr.alloc (.cells #[.int .i64 xk, .int .i64 xs, .int .i64 xf, .bool xa, .int .i64 xw, .int .i64 xp] 59) = w5 at *
   generalize wr.heap.size = q5 at *
   clear y0 y1 y2 y3 y4 y5
   refine wp_region_held_drew (S := fun w' => Same w5 w') (by kernel_rfl) ?_ (fun hHeld => ?_)
   ·exact (Same.refl w5).drew
   refine Ro.tn 0 ?_ ?_ ?_
   rotate_left
   ·intro wS hSw; (try dsimp only at hSw); go_simp; try with_reducible rfl
   try simp only [Ro.p]
   refine Ro.tn 1 ?_ ?_ ?_
   rotate_left
   ·intro wS hSw; (try dsimp only at hSw); obtain ⟨v0, v1, v2, v3, v4, v5⟩ := (⟨(HX.out.same hSw).cell 0, (HX.out.same hSw).cell 1, (HX.out.same hSw).cell 2, (HX.out.same hSw).cell 3, (HX.out.same hSw).cell 4, (HX.out.same hSw).cell 5⟩ : _ ∧ _ ∧ _ ∧ _ ∧ _ ∧ _); simp only [Ws.q_] at v0 v1 v2 v3 v4 v5; go_simp; try with_reducible rfl
   try simp only [Ro.p]
   refine Ro.tn 2 ?_ ?_ ?_
   rotate_left
   ·intro wS hSw; (try dsimp only at hSw); go_simp; try with_reducible rfl
   try simp only [Ro.p]
   refine Ro.tn 4 ?_ ?_ ?_
   rotate_left
   ·intro wS hSw; (try dsimp only at hSw); go_simp; try with_reducible rfl
   try simp only [Ro.p]
   refine Ro.tn 5 ?_ ?_ ?_
   rotate_left
   ·intro wS hSw; (try dsimp only at hSw); obtain ⟨v0, v1, v2, v3, v4, v5⟩ := (⟨(HX.out.same hSw).cell 0, (HX.out.same hSw).cell 1, (HX.out.same hSw).cell 2, (HX.out.same hSw).cell 3, (HX.out.same hSw).cell 4, (HX.out.same hSw).cell 5⟩ : _ ∧ _ ∧ _ ∧ _ ∧ _ ∧ _); simp only [Ws.q_] at v0 v1 v2 v3 v4 v5; go_simp; try with_reducible rfl
   try simp only [Ro.p]
   refine Ro.one_on (i := 3) rfl (by kernel_rfl) (by rfl) (fun K hK => ?_)
   go_simp
   go_at_call 40
   refine (FS.out _).mono ?_
   rintro e w6 ⟨rfl, s6⟩
   refine hK.out _ _ ?_ (fun hNew => ?_)
   ·exact hHeld.trans s6
   clear hK K hHeld; have hHeld := hNew; clear hNew
   try simp only [Ro.p]
   refine Ro.one_on (i := 6) rfl (by kernel_rfl) (by rfl) (fun K hK => ?_)
   go_simp
   go_at_call 64
   refine (Wd.wmul _ _ _).mono ?_
   rintro e w7 ⟨rfl, rfl⟩
   refine hK.out _ _ ?_ (fun hNew => ?_)
   ·exact hHeld
   clear hK K hHeld; have hHeld := hNew; clear hNew
   try simp only [Ro.p]
   refine Ro.one_on (i := 7) rfl (by kernel_rfl) (by rfl) (fun K hK => ?_)
   go_simp
   go_at_call 67
   refine (Wd.wadd _ _ _).mono ?_
   rintro e w8 ⟨rfl, rfl⟩
   refine hK.out _ _ ?_ (fun hNew => ?_)
   ·exact hHeld
   clear hK K hHeld; have hHeld := hNew; clear hNew
   try simp only [Ro.p]
   refine Ro.tn 8 ?_ ?_ ?_
   rotate_left
   ·intro wS hSw; (try dsimp only at hSw); go_simp; try with_reducible rfl
   try simp only [Ro.p]
   refine wpAnyH_done (by kernel_rfl) ?_ _
   go_wp2_with fail
   go_roundg GK
   case rel => exact ⟨k + 1, by have := HKK.out; omega, by go_num, by rw [HST.out], HS5.out.trans hHeld⟩
   case measure => omega
end Go.Proofs.YthhbhbfkbncegaaGreatDoor.Sl
end
