/-

 Package rta: load and Load of any system's task.
-/
import Derived.Test.YthhbhbfkbncegaaGreatDoorSplPure
import Derived.Test.YthhbhbfkbncegaaGreatDoorImgIn
import Derived.Test.YthhbhbfkbncegaaGreatDoorRegionOff
import Derived.WalkKit
import Derived.Deep.LoopGhost
import Derived.Deep.RegionHeld3
import Derived.BigQuiet
import Derived.Deep.Cut
import Derived.Lib.Hide
import Derived.ProofKit
import Derived.Test.YthhbhbfkbncegaaGreatDoorSplOf
import Derived.Test.YthhbhbfkbncegaaGreatDoorDmdMost
import Derived.Test.YthhbhbfkbncegaaGreatDoorOperApp
import Derived.Test.YthhbhbfkbncegaaGreatDoorHeldB
import Derived.Test.YthhbhbfkbncegaaGreatDoorCstWeigh
import Derived.Test.YthhbhbfkbncegaaGreatDoorDmdRow
import Derived.Test.YthhbhbfkbncegaaGreatDoorRtaAbove
section
section
section
set_option linter.unusedVariables false
set_option linter.unusedSimpArgs false
namespace Go.Proofs.YthhbhbfkbncegaaGreatDoor.Sl
open Go.ChangeShapes Go.WideShapes Go.ChangeAt Go.RowKit Ws
open Go.Proofs.YthhbhbfkbncegaaGreatDoor.Wd (ret_bool ret_int mulv ceilv addv)

set_option maxRecDepth 100000 in
theorem writes_sp (x : SR) (r : Int) (br : -9223372036854775808 ≤ r ∧ r ≤ 9223372036854775807) (w : World) : Calls Tryz.prog 37 #[.agg (rcells x).toArray, .int .i64 r] w fun e w' => e = .returned (.int .i64 (wrR x r)) ∧ Same w w' := by
 obtain ⟨k, sl, fl, ah, wr, pr⟩ := x
 obtain ⟨w0, hw0⟩ : ∃ w0, w0 = w.alloc (.cells #[.int .i64 k, .int .i64 sl, .int .i64 fl, .bool ah, .int .i64 wr, .int .i64 pr] 59) := ⟨_, rfl⟩
 obtain ⟨g, hg⟩ : ∃ g, g = w.heap.size := ⟨_, rfl⟩
 have s0 : Same w w0 := hw0 ▸ (Same.refl w).alloc _
 have b0 : Blk w0 g 59 #[.int .i64 k, .int .i64 sl, .int .i64 fl, .bool ah, .int .i64 wr, .int .i64 pr] := by rw [hw0, hg]; exact Blk.new w _ _
 have HE0 := Lib.hid hw0
 have HG := Lib.hid hg
 have S0 := Lib.hid s0
 have B0 := Lib.hid b0
 obtain ⟨c0, c1, c2, c3, c4, c5⟩ := (⟨b0.cell 0, b0.cell 1, b0.cell 2, b0.cell 3, b0.cell 4, b0.cell 5⟩ : _ ∧ _ ∧ _ ∧ _ ∧ _ ∧ _)
 simp only [Ws.q_] at c0 c1 c2 c3 c4 c5
 clear hw0 hg s0 b0
 have WC := Lib.hid (fun W => Wd.wceil r pr br W)
 have WM := Lib.hid (fun W => Wd.wmul wr (ceilv r pr) W)
 have HD := Lib.hid (show wrR ⟨k, sl, fl, ah, wr, pr⟩ r = mulv wr (ceilv r pr) from rfl)
 show Calls Tryz.prog 37 #[.agg #[.int .i64 k, .int .i64 sl, .int .i64 fl, .bool ah, .int .i64 wr, .int .i64 pr], .int .i64 r] w _
 go_enter Tryz.func37, Tryz.ntmps37
 go_upto_region 1 with fail
 rw [← HE0.out, ← HG.out]
 clear HE0 HG
 generalize ceilv r pr = cv at *
 go_quiet (first | (go_at_call 65; exact Calls.quiet_of_same ((WC.out _).mono fun _ _ ⟨he, hw⟩ => ⟨he, hw.symm⟩)) | (go_at_call 64; exact Calls.quiet_of_same ((WM.out _).mono fun _ _ ⟨he, hw⟩ => ⟨he, hw.symm⟩)))
 go_wp2_with fail
 go_ret
 exact ⟨ret_int HD.out.symm, S0.out.drewN _⟩
set_option maxRecDepth 100000 in
set_option maxHeartbeats 2000000 in
theorem fails_sp (x : SR) (r : Int) (bs : x.sl ≤ 9223372036854775807) (br : -9223372036854775808 ≤ r ∧ r ≤ 9223372036854775807) (w : World) : Calls Tryz.prog 40 #[.agg (rcells x).toArray, .int .i64 r] w fun e w' => e = .returned (.int .i64 (flR x r)) ∧ Same w w' := by
 have WS := Lib.hid (fun W => writes_sp x r br W)
 have HB := Lib.hid (wr_bd x r)
 have HD := Lib.hid (show flR x r = if x.k = 3 ∨ x.k = 5 then wrR x r else if x.k = 4 then wrR x r / (max x.sl 2 - 1) else 0 from rfl)
 obtain ⟨k, sl, fl, ah, wr, pr⟩ := x
 obtain ⟨w0, hw0⟩ : ∃ w0, w0 = w.alloc (.cells #[.int .i64 k, .int .i64 sl, .int .i64 fl, .bool ah, .int .i64 wr, .int .i64 pr] 59) := ⟨_, rfl⟩
 obtain ⟨g, hg⟩ : ∃ g, g = w.heap.size := ⟨_, rfl⟩
 have s0 : Same w w0 := hw0 ▸ (Same.refl w).alloc _
 have b0 : Blk w0 g 59 #[.int .i64 k, .int .i64 sl, .int .i64 fl, .bool ah, .int .i64 wr, .int .i64 pr] := by rw [hw0, hg]; exact Blk.new w _ _
 have HE0 := Lib.hid hw0
 have HG := Lib.hid hg
 have S0 := Lib.hid s0
 have B0 := Lib.hid b0
 obtain ⟨c0, c1, c2, c3, c4, c5⟩ := (⟨b0.cell 0, b0.cell 1, b0.cell 2, b0.cell 3, b0.cell 4, b0.cell 5⟩ : _ ∧ _ ∧ _ ∧ _ ∧ _ ∧ _)
 simp only [Ws.q_] at c0 c1 c2 c3 c4 c5
 clear hw0 hg s0 b0
 replace WS := Lib.hid (fun W => (show Calls Tryz.prog 37 #[.agg #[.int .i64 k, .int .i64 sl, .int .i64 fl, .bool ah, .int .i64 wr, .int .i64 pr], .int .i64 r] W fun e w' => e = .returned (.int .i64 (wrR ⟨k, sl, fl, ah, wr, pr⟩ r)) ∧ Same W w' from WS.out W))
 dsimp only at HD bs
 show Calls Tryz.prog 40 #[.agg #[.int .i64 k, .int .i64 sl, .int .i64 fl, .bool ah, .int .i64 wr, .int .i64 pr], .int .i64 r] w _
 go_enter Tryz.func40, Tryz.ntmps40
 go_upto_region 1 with fail
 rw [← HE0.out, ← HG.out]
 clear HE0 HG
 generalize wrR ⟨k, sl, fl, ah, wr, pr⟩ r = n at *
 by_cases h1 : k = 3
 ·subst h1
  go_wp2_with fail
  refine (WS.out _).mono ?_
  rintro e w1 ⟨rfl, s1⟩
  go_wp2_with fail
  go_ret
  exact ⟨ret_int (by rw [HD.out, if_pos (.inl trivial)]), S0.out.trans s1⟩
 ·by_cases h2 : k = 5
  ·subst h2
   go_wp2_with fail
   refine (WS.out _).mono ?_
   rintro e w1 ⟨rfl, s1⟩
   go_wp2_with fail
   go_ret
   exact ⟨ret_int (by rw [HD.out, if_pos (.inr trivial)]), S0.out.trans s1⟩
  ·have e1 : (k == 3) = false := by simpa using h1
   have e2 : (k == 5) = false := by simpa using h2
   by_cases h3 : k = 4
   ·subst h3
    have HV := Lib.hid (show flR ⟨4, sl, fl, ah, wr, pr⟩ r = n / (max sl 2 - 1) by rw [HD.out, if_neg (by omega), if_pos rfl])
    clear h1 h2 e1 e2 HD
    go_wp2_with fail
    obtain ⟨q, hq⟩ : ∃ q, q = max sl 2 := ⟨_, rfl⟩
    have HQ := Lib.hid hq
    have hqm : (if sl < 2 then 2 else sl) = q := by rw [hq]; split <;> omega
    have hbn : 0 ≤ n ∧ n ≤ 1099511627776 := HB.out
    obtain ⟨p, hp⟩ : ∃ p, p = q - 1 := ⟨_, rfl⟩
    have HPQ := Lib.hid hp
    have hp0 : ¬ p = 0 := by omega
    have hpw : IntKind.i64.wrap (q - 1) = p := by rw [hp]; exact Go.IntWalk.i64_in _ (by omega)
    have hdb : 0 ≤ n / p ∧ n / p ≤ n := ⟨Int.ediv_nonneg hbn.1 (by omega), Int.ediv_le_self _ hbn.1⟩
    have hdw : IntKind.i64.wrap (n.tdiv p) = n / p := by rw [Int.tdiv_eq_ediv_of_nonneg hbn.1]; exact Go.IntWalk.i64_in _ (by omega)
    clear hp hdb hbn
    have hq1 : 2 ≤ q ∧ q ≤ 9223372036854775807 := by omega
    clear hq
    refine wp_region_held_drew (S := fun w' => Same w0 w') (by kernel_rfl) ?_ (fun hHeld => ?_)
    ·exact (Same.refl w0).drew
    refine Ro.tn 0 ?_ ?_ ?_
    rotate_left
    ·intro wS hSw; (try dsimp only at hSw); obtain ⟨v0, v1, v2, v3, v4, v5⟩ := (⟨(B0.out.same hSw).cell 0, (B0.out.same hSw).cell 1, (B0.out.same hSw).cell 2, (B0.out.same hSw).cell 3, (B0.out.same hSw).cell 4, (B0.out.same hSw).cell 5⟩ : _ ∧ _ ∧ _ ∧ _ ∧ _ ∧ _); simp only [Ws.q_] at v0 v1 v2 v3 v4 v5; go_simp; try with_reducible rfl
    try simp only [Ro.p]
    refine Ro.tn 1 ?_ ?_ ?_
    rotate_left
    ·intro wS hSw; (try dsimp only at hSw); go_simp; try with_reducible rfl
    try simp only [Ro.p]
    refine Ro.tn 3 ?_ ?_ ?_
    rotate_left
    ·intro wS hSw; (try dsimp only at hSw); go_simp; try with_reducible rfl
    try simp only [Ro.p]
    refine Ro.tn 4 ?_ ?_ ?_
    rotate_left
    ·intro wS hSw; (try dsimp only at hSw); obtain ⟨v0, v1, v2, v3, v4, v5⟩ := (⟨(B0.out.same hSw).cell 0, (B0.out.same hSw).cell 1, (B0.out.same hSw).cell 2, (B0.out.same hSw).cell 3, (B0.out.same hSw).cell 4, (B0.out.same hSw).cell 5⟩ : _ ∧ _ ∧ _ ∧ _ ∧ _ ∧ _); simp only [Ws.q_] at v0 v1 v2 v3 v4 v5; go_simp; try with_reducible rfl
    try simp only [Ro.p]
    refine Ro.tn 5 ?_ ?_ ?_
    rotate_left
    ·intro wS hSw; (try dsimp only at hSw); go_simp; try with_reducible rfl
    try simp only [Ro.p]
    refine Ro.tn 6 ?_ ?_ ?_
    rotate_left
    ·intro wS hSw; (try dsimp only at hSw); go_simp; try with_reducible rfl
    try simp only [Ro.p]
    refine Ro.one_on (i := 2) rfl (by kernel_rfl) (by rfl) (fun K hK => ?_)
    go_simp
    go_at_call 37
    refine (WS.out _).mono ?_
    rintro e w1 ⟨rfl, s1⟩
    refine hK.out _ _ ?_ (fun hNew => ?_)
    ·exact hHeld.trans s1
    clear hK K hHeld; have hHeld := hNew; clear hNew
    try simp only [Ro.p]
    refine Ro.tn 7 ?_ ?_ ?_
    rotate_left
    ·intro wS hSw; (try dsimp only at hSw); go_simp; try with_reducible rfl
    try simp only [Ro.p]
    refine Ro.tn 8 ?_ ?_ ?_
    rotate_left
    ·intro wS hSw; (try dsimp only at hSw); go_simp; try with_reducible rfl
    try simp only [Ro.p]
    refine wpAnyH_done (by kernel_rfl) ?_ _
    go_wp2_with fail
    go_ret
    exact ⟨ret_int (by rw [HV.out, ← HQ.out, ← HPQ.out]), S0.out.trans hHeld⟩
   ·have e3 : (k == 4) = false := by simpa using h3
    have HV := Lib.hid (show flR ⟨k, sl, fl, ah, wr, pr⟩ r = 0 by rw [HD.out, if_neg (by omega), if_neg h3])
    clear h1 h2 h3
    go_wp2_with fail
    go_ret
    exact ⟨ret_int HV.out.symm, S0.out⟩
end Go.Proofs.YthhbhbfkbncegaaGreatDoor.Sl
end
section
set_option linter.unusedVariables false
set_option linter.unusedSimpArgs false
namespace Go.Proofs.YthhbhbfkbncegaaGreatDoor.Sl
open Go.ChangeShapes Go.WideShapes Go.ChangeAt Go.RowKit Ws
open Go.Proofs.YthhbhbfkbncegaaGreatDoor.Wd (ret_bool ret_int mulv ceilv addv)
theorem rcells_len (x : SR) : (rcells x).length = 6 := rfl
theorem flat_get : ∀ (l : List SR) (k j : Nat) (x : SR), l[k]? = some x → j < 6 → (l.flatMap rcells)[k * 6 + j]? = (rcells x)[j]?
 | [], k, j, x, h, _ => by cases h
 | y :: l, 0, j, x, h, hj => by
  obtain rfl : y = x := Option.some.inj h
  rw [List.flatMap_cons, Nat.zero_mul, Nat.zero_add, List.getElem?_append_left (by rw [rcells_len]; exact hj)]
 | y :: l, k + 1, j, x, h, hj => by
  rw [List.flatMap_cons, List.getElem?_append_right (by rw [rcells_len]; omega), rcells_len, show (k + 1) * 6 + j - 6 = k * 6 + j by omega]
  exact flat_get l k j x h hj
theorem rs_at {w : World} {A : Option Addr} {l : List SR} (h : Row w A (l.flatMap rcells)) {k : Nat} {x : SR} (hk : l[k]? = some x) :
  ∃ b o, A = some ⟨b, o, none⟩ ∧ w.cell? ⟨b, o + k * 6, none⟩ = some (.int .i64 x.k) ∧ w.cell? ⟨b, o + k * 6 + 1, none⟩ = some (.int .i64 x.sl) ∧ w.cell? ⟨b, o + k * 6 + 2, none⟩ = some (.int .i64 x.fl) ∧ w.cell? ⟨b, o + k * 6 + 3, none⟩ = some (.bool x.ah) ∧ w.cell? ⟨b, o + k * 6 + 4, none⟩ = some (.int .i64 x.wr) ∧ w.cell? ⟨b, o + k * 6 + 5, none⟩ = some (.int .i64 x.pr) := by
 obtain ⟨b, o, hA, _⟩ := h (k * 6 + 0) _ ((flat_get l k 0 x hk (by omega)).trans rfl)
 have key : ∀ j v, j < 6 → (rcells x)[j]? = some v → w.cell? ⟨b, o + k * 6 + j, none⟩ = some v := fun j v hj hv => by
  obtain ⟨b', o', hA', hc⟩ := h (k * 6 + j) v ((flat_get l k j x hk hj).trans hv)
  rw [hA] at hA'
  injection hA' with hA'
  injection hA' with h1 h2
  subst h1 h2
  rw [Nat.add_assoc]
  exact hc
 exact ⟨b, o, hA, key 0 _ (by omega) rfl, key 1 _ (by omega) rfl, key 2 _ (by omega) rfl, key 3 _ (by omega) rfl, key 4 _ (by omega) rfl, key 5 _ (by omega) rfl⟩
theorem steps_take {n : Int} {l : List SR} {k : Nat} {x : SR} {r : Int} (h : l[k]? = some x) : stepsR n (l.take (k + 1)) r = addv (stepsR n (l.take k) r) (mulv (flR x r) x.fl) := by
 rw [List.take_add_one, h]
 exact steps_snoc n (l.take k) x r
set_option maxRecDepth 100000 in
set_option maxHeartbeats 4000000 in
theorem steps_any (cl : Int) (A : Option Addr) (n c : Nat) (l : List SR) (r : Int) (br : -9223372036854775808 ≤ r ∧ r ≤ 9223372036854775807) (bs : ∀ x ∈ l, x.sl ≤ 9223372036854775807) (w : World) (hl : l.length = n) (hn : (n : Int) ≤ 9223372036854775807) (hr : Row w A (l.flatMap rcells)) :
  Calls Tryz.prog 42 #[.agg #[.int .i64 cl, .slice A n c], .int .i64 r] w fun e w' => e = .returned (.int .i64 (stepsR cl l r)) ∧ Same w w' := by
 obtain ⟨w0, hw0⟩ : ∃ w0, w0 = w.alloc (.cells #[.int .i64 cl, .slice A n c] 65) := ⟨_, rfl⟩
 obtain ⟨g, hg⟩ : ∃ g, g = w.heap.size := ⟨_, rfl⟩
 have s0 : Same w w0 := hw0 ▸ (Same.refl w).alloc _
 have b0 : Blk w0 g 65 #[.int .i64 cl, .slice A n c] := by rw [hw0, hg]; exact Blk.new w _ _
 have HE0 := Lib.hid hw0
 have HG := Lib.hid hg
 have S0 := Lib.hid s0
 have HR := Lib.hid (hr.same s0)
 have HL := Lib.hid hl
 have HBS := Lib.hid bs
 obtain ⟨c0, c1⟩ := (⟨b0.cell 0, b0.cell 1⟩ : _ ∧ _)
 simp only [Ws.q_] at c0 c1
 clear hw0 hg s0 b0 hr hl bs
 go_enter Tryz.func42, Tryz.ntmps42
 go_upto_region 1 with fail
 rw [← HE0.out, ← HG.out]
 clear HE0 HG
 go_wp2_with fail
 go_loopg [5, 13] n (fun gk nv iv wx => ∃ k : Nat, k + gk = n ∧ iv = .int .i64 k ∧ nv = .int .i64 (stepsR cl (l.take k) r) ∧ Same w0 wx)
 case atStart => exact ⟨0, by omega, rfl, rfl, Same.refl _⟩
 case round =>
  obtain ⟨k, hk, rfl, rfl, sx⟩ := hrel
  have HSX := Lib.hid sx
  clear sx c0 c1
  cases gk with
  | zero =>
   obtain rfl : k = n := by omega
   have hge : ¬ (k : Int) < (k : Int) := by omega
   have HT := Lib.hid (show l.take k = l from List.take_of_length_le (by have := HL.out; omega))
   go_wp2_with fail
   go_ret
   exact ⟨ret_int (by rw [HT.out]), S0.out.trans HSX.out⟩
  | succ GK =>
   have hlt : (k : Int) < n := by omega
   have hk0 : (0 : Int) ≤ k := by omega
   have HKK := Lib.hid hk
   clear hk
   obtain ⟨x, hx⟩ : ∃ x, l[k]? = some x := ⟨l[k]'(by have := HL.out; omega), List.getElem?_eq_getElem _⟩
   obtain ⟨b, o, rfl, y0, y1, y2, y3, y4, y5⟩ := rs_at (HR.out.same HSX.out) hx
   have HST := Lib.hid (steps_take (n := cl) (r := r) hx)
   have FS := Lib.hid (fun W => fails_sp x r (HBS.out x (List.mem_of_getElem? hx)) br W)
   clear hx
   generalize stepsR cl (l.take k) r = v at *
   obtain ⟨xk, xs, xf, xa, xw, xp⟩ := x
   replace FS := Lib.hid (fun W => (show Calls Tryz.prog 40 #[.agg #[.int .i64 xk, .int .i64 xs, .int .i64 xf, .bool xa, .int .i64 xw, .int .i64 xp], .int .i64 r] W fun e w' => e = .returned (.int .i64 (flR ⟨xk, xs, xf, xa, xw, xp⟩ r)) ∧ Same W w' from FS.out W))
   dsimp only at y0 y1 y2 y3 y4 y5 HST
   have HX := Lib.hid (Blk.new wr 59 #[.int .i64 xk, .int .i64 xs, .int .i64 xf, .bool xa, .int .i64 xw, .int .i64 xp])
   have HS5 := Lib.hid (HSX.out.alloc (.cells #[.int .i64 xk, .int .i64 xs, .int .i64 xf, .bool xa, .int .i64 xw, .int .i64 xp] 59))
   go_upto_region 5 with fail
   generalize wr.alloc (.cells #[.int .i64 xk, .int .i64 xs, .int .i64 xf, .bool xa, .int .i64 xw, .int .i64 xp] 59) = w5 at *
   generalize wr.heap.size = q5 at *
   clear y0 y1 y2 y3 y4 y5
   refine wp_region_held_drew (S := fun w' => Same w5 w') (by kernel_rfl) ?_ (fun hHeld => ?_)
   ·exact (Same.refl w5).drew
   refine Ro.tn 0 ?_ ?_ ?_
   rotate_left
   ·intro wS hSw; (try dsimp only at hSw); go_simp; try with_reducible rfl
   try simp only [Ro.p]
   refine Ro.tn 1 ?_ ?_ ?_
   rotate_left
   ·intro wS hSw; (try dsimp only at hSw); obtain ⟨v0, v1, v2, v3, v4, v5⟩ := (⟨(HX.out.same hSw).cell 0, (HX.out.same hSw).cell 1, (HX.out.same hSw).cell 2, (HX.out.same hSw).cell 3, (HX.out.same hSw).cell 4, (HX.out.same hSw).cell 5⟩ : _ ∧ _ ∧ _ ∧ _ ∧ _ ∧ _); simp only [Ws.q_] at v0 v1 v2 v3 v4 v5; go_simp; try with_reducible rfl
   try simp only [Ro.p]
   refine Ro.tn 2 ?_ ?_ ?_
   rotate_left
   ·intro wS hSw; (try dsimp only at hSw); go_simp; try with_reducible rfl
   try simp only [Ro.p]
   refine Ro.tn 4 ?_ ?_ ?_
   rotate_left
   ·intro wS hSw; (try dsimp only at hSw); go_simp; try with_reducible rfl
   try simp only [Ro.p]
   refine Ro.tn 5 ?_ ?_ ?_
   rotate_left
   ·intro wS hSw; (try dsimp only at hSw); obtain ⟨v0, v1, v2, v3, v4, v5⟩ := (⟨(HX.out.same hSw).cell 0, (HX.out.same hSw).cell 1, (HX.out.same hSw).cell 2, (HX.out.same hSw).cell 3, (HX.out.same hSw).cell 4, (HX.out.same hSw).cell 5⟩ : _ ∧ _ ∧ _ ∧ _ ∧ _ ∧ _); simp only [Ws.q_] at v0 v1 v2 v3 v4 v5; go_simp; try with_reducible rfl
   try simp only [Ro.p]
   refine Ro.one_on (i := 3) rfl (by kernel_rfl) (by rfl) (fun K hK => ?_)
   go_simp
   go_at_call 40
   refine (FS.out _).mono ?_
   rintro e w6 ⟨rfl, s6⟩
   refine hK.out _ _ ?_ (fun hNew => ?_)
   ·exact hHeld.trans s6
   clear hK K hHeld; have hHeld := hNew; clear hNew
   try simp only [Ro.p]
   refine Ro.one_on (i := 6) rfl (by kernel_rfl) (by rfl) (fun K hK => ?_)
   go_simp
   go_at_call 64
   refine (Wd.wmul _ _ _).mono ?_
   rintro e w7 ⟨rfl, rfl⟩
   refine hK.out _ _ ?_ (fun hNew => ?_)
   ·exact hHeld
   clear hK K hHeld; have hHeld := hNew; clear hNew
   try simp only [Ro.p]
   refine Ro.one_on (i := 7) rfl (by kernel_rfl) (by rfl) (fun K hK => ?_)
   go_simp
   go_at_call 67
   refine (Wd.wadd _ _ _).mono ?_
   rintro e w8 ⟨rfl, rfl⟩
   refine hK.out _ _ ?_ (fun hNew => ?_)
   ·exact hHeld
   clear hK K hHeld; have hHeld := hNew; clear hNew
   try simp only [Ro.p]
   refine Ro.tn 8 ?_ ?_ ?_
   rotate_left
   ·intro wS hSw; (try dsimp only at hSw); go_simp; try with_reducible rfl
   try simp only [Ro.p]
   refine wpAnyH_done (by kernel_rfl) ?_ _
   go_wp2_with fail
   go_roundg GK
   case rel => exact ⟨k + 1, by have := HKK.out; omega, by go_num, by rw [HST.out], HS5.out.trans hHeld⟩
   case measure => omega
end Go.Proofs.YthhbhbfkbncegaaGreatDoor.Sl
end
end
section
section
set_option linter.unusedVariables false
set_option linter.unusedSimpArgs false
namespace Go.Proofs.YthhbhbfkbncegaaGreatDoor.Sl
open Go.ChangeShapes Go.WideShapes Go.ChangeAt Go.RowKit Ws
open Im (PT PO PS TsAt OsAt SysAt tcells ocells)
open Dm (demI dearI dearE)
theorem reads_info3 : (Tryz.prog.info? 59).map (fun i => (i.zero, i.size, i.bytes)) = some (some (.agg #[.int .i64 0, .int .i64 0, .int .i64 0, .bool false, .int .i64 0, .int .i64 0]), 6, 48) := by kernel_rfl
theorem rcells_one (x : SR) : ∀ u ∈ rcells x, u.oneCell' = true := by
 intro u hu
 simp only [rcells, List.mem_cons, List.not_mem_nil, or_false] at hu
 rcases hu with rfl | rfl | rfl | rfl | rfl | rfl <;> rfl
noncomputable def jobC (s : PS) (i : Int) : Int := if dearE s i 0 = 0 then dearI s i 0 else 0
noncomputable def jobR (s : PS) (i : Int) : List SR := if dearE s i 0 = 0 then jobL s i s.os.length else []
theorem job_is (s : PS) (i r : Int) : stepsR (jobC s i) (jobR s i) r = jobI s i r := by
 unfold jobC jobR jobI
 split <;> rfl
theorem job_no' {s : PS} {i : Int} (h : ¬ dearE s i 0 = 0) : jobC s i = 0 ∧ jobR s i = [] := ⟨if_neg h, if_neg h⟩
theorem job_yes' {s : PS} {i : Int} (h : dearE s i 0 = 0) : jobC s i = dearI s i 0 ∧ jobR s i = jobL s i s.os.length := ⟨if_pos h, if_pos h⟩
def JobP (w : World) (s : PS) (i : Int) (e : Ending) (w' : World) : Prop := ∃ RA rc, e = .returned (.agg #[.int .i64 (jobC s i), .slice RA (jobR s i).length rc]) ∧ Row w' RA ((jobR s i).flatMap rcells) ∧ Same w w'
theorem jobP_mk {w w' : World} {s : PS} {i cl : Int} {RA : Option Addr} {k rc : Nat} (h1 : cl = jobC s i) (h2 : k = (jobR s i).length) (h3 : Row w' RA ((jobR s i).flatMap rcells)) (h4 : Same w w') : JobP w s i (.returned (.agg #[.int .i64 cl, .slice RA k rc])) w' := by
 subst h1 h2
 exact ⟨RA, rc, rfl, h3, h4⟩
theorem of_sl' {s : PS} {i k : Int} (h : ∀ o ∈ s.os, o.sl ≤ 9223372036854775807) : (ofR s i k).sl ≤ 9223372036854775807 := by
 cases g : readsP s i k with
 | false => rw [of_no g]; decide
 | true =>
  rw [(of_k g).2.1]
  unfold obj
  rw [List.getD_eq_getElem?_getD]
  cases e : s.os[k.toNat]? with
  | none => decide
  | some o => exact h o (List.mem_of_getElem? e)
theorem job_sl {s : PS} {i : Int} (h : ∀ o ∈ s.os, o.sl ≤ 9223372036854775807) : ∀ x ∈ jobR s i, x.sl ≤ 9223372036854775807 := by
 intro x hx
 unfold jobR at hx
 split at hx
 ·unfold jobL at hx
  obtain ⟨k, _, rfl⟩ := List.mem_map.1 hx
  exact of_sl' h
 ·cases hx
theorem job_len {s : PS} {i : Int} {m : Nat} (hm : s.os.length = m) (ho : Sy.OFew s.os 5000) : ((jobR s i).length : Int) ≤ 9223372036854775807 := by
 have := ho.1
 unfold jobR
 split
 ·rw [jobL_len]; omega
 ·simp
theorem row_set {w : World} {B : Nat} {e : TypeId} {s : Nat} {A : Option Addr} {n c : Nat} {l : List Value} (h : OwnK w B e s A n c l) {g : Nat} (hg : g < B) (cs : Array Value) : Row (World.setRow w g cs) A l := by
 have hc : Chg (fun i => i = g) w (World.setRow w g cs) := Dm.chgRow (S := fun i => i = g) (Chg.refl _ w) (.inl rfl) cs
 exact (h.chg hc (fun g' e' f => by subst f; have := h.base_ge _ e'; omega)).row
/-- what stands between two objects -/
structure JI (w1 : World) (gj gB : Nat) (s : PS) (i cl : Int) (RA : Option Addr) (k rc : Nat) (W : World) : Prop where
 b : Blk W gj 65 #[.int .i64 cl, .slice RA k rc]
 o : OwnK W gB 59 6 RA k rc ((jobL s i k).flatMap rcells)
 same : Same w1 W
 sz : gB ≤ W.heap.size
set_option maxRecDepth 100000 in
set_option maxHeartbeats 4000000 in
theorem jobof_any (A B : Option Addr) (n c m d : Nat) (s : PS) (i : Int) (w : World) (hs : SysAt w A n B m s) (hnm : n ≤ maxLen ∧ m ≤ maxLen) (hf : ∀ p ∈ s.ts, p.code.length ≤ 200) (ho : Sy.OFew s.os 5000) (hT : Is.Tabs w) :
  Calls Tryz.prog 41 #[.agg #[.slice A n c, .slice B m d], .int .i64 i] w (JobP w s i) := by
 obtain ⟨i0, hi, hz0, hz1, hz2⟩ := info_parts reads_info3
 have hmb : m ≤ 5000 := by have := ho.1; rw [hs.hm] at this; omega
 obtain ⟨w0, hw0⟩ : ∃ w0, w0 = w.alloc (.cells #[.slice A n c, .slice B m d] 25) := ⟨_, rfl⟩
 obtain ⟨q0, hq0⟩ : ∃ q0, q0 = w.heap.size := ⟨_, rfl⟩
 obtain ⟨g, hg⟩ : ∃ g, g = w0.heap.size := ⟨_, rfl⟩
 obtain ⟨w1, hw1⟩ : ∃ w1, w1 = w0.alloc (.cells #[.int .i64 0, .slice none 0 0] 65) := ⟨_, rfl⟩
 have s0 : Same w w0 := hw0 ▸ (Same.refl w).alloc _
 have s1 : Same w0 w1 := hw1 ▸ (Same.refl w0).alloc _
 have b0 : Blk w0 q0 25 #[.slice A n c, .slice B m d] := by rw [hw0, hq0]; exact Blk.new w _ _
 have b1 : Blk w1 g 65 #[.int .i64 0, .slice none 0 0] := by rw [hw1, hg]; exact Blk.new w0 _ _
 have HE0 := Lib.hid hw0
 have HE1 := Lib.hid hw1
 have HQ0 := Lib.hid hq0
 have HG := Lib.hid (show q0 + 1 = g by rw [hg, hw0, hq0]; show _ = (w.heap.push _).size; rw [Array.size_push])
 have S1 := Lib.hid (s0.trans s1)
 have HGW := Lib.hid (show w.heap.size ≤ g by rw [hg]; exact s0.size)
 have HM := Lib.hid hs.hm
 have B0 := Lib.hid (b0.same s1)
 have B1 := Lib.hid b1
 have B1o := Lib.hid b1
 have HQ1 := Lib.hid (show q0 < w1.heap.size from (b0.same s1).lt)
 have CL := Lib.hid (Dm.clean36_any A B n c m d s i w1 (hs.same (s0.trans s1)) hf (hT.same (s0.trans s1)))
 have OF := Lib.hid (fun (k : Int) W (h : Same w1 W) => of_any A B n c m d s i k W (hs.same ((s0.trans s1).trans h)) hnm hf ho (hT.same ((s0.trans s1).trans h)))
 obtain ⟨c0, c1⟩ := (⟨(b0.same s1).cell 0, (b0.same s1).cell 1⟩ : _ ∧ _)
 simp only [Ws.q_] at c0 c1
 have HIF := Lib.hid (show (Tryz.prog.info? 65).map (·.size) = some (#[.int .i64 0, .slice none 0 0] : Array Value).size by kernel_rfl)
 have HG1 := Lib.hid (show g < w1.heap.size from b1.lt)
 clear hw0 hw1 hg hq0 s0 s1 b0 b1 hs hT hf ho
 go_enter Tryz.func41, Tryz.ntmps41
 go_upto_region 1 with fail
 rw [← HQ0.out, HG.out, ← HE0.out, ← HE1.out]
 clear HE0 HE1
 go_wp2_with fail
 refine CL.out.mono ?_
 rintro e w2 ⟨rfl, s2⟩
 clear CL
 have HS2 := Lib.hid s2
 have c0 := s2.cell c0
 have c1 := s2.cell c1
 have B1 := Lib.hid (B1.out.same s2)
 clear s2
 by_cases he : dearE s i 0 = 0
 ·have HJ := Lib.hid (job_yes' he)
  have ee : (dearE s i 0 != 0) = false := by simpa using he
  clear he
  generalize dearE s i 0 = de at *
  generalize dearI s i 0 = cl at *
  have BN := Lib.hid (Blk.new w2 65 #[.int .i64 0, .slice none 0 0])
  have HX := Lib.hid ((Same.refl w2).alloc (.cells #[.int .i64 0, .slice none 0 0] 65))
  obtain ⟨gj, hgj⟩ : ∃ gj, gj = w2.heap.size := ⟨_, rfl⟩
  have HGJ := Lib.hid hgj
  clear hgj
  go_upto_region 5 with (first | (refine wpList_store_row rfl 65 (.tmp 7) (.tmp 19) rfl w2.heap.size #[.int .i64 cl, .slice none 0 0] rfl rfl 65 #[.int .i64 0, .slice none 0 0] BN.out HIF.out rfl (by simp [Value.oneCell']) ?_))
  obtain ⟨wJ, hwJ⟩ : ∃ x, x = World.setRow (w2.alloc (.cells #[.int .i64 0, .slice none 0 0] 65)) w2.heap.size #[.int .i64 cl, .slice none 0 0] := ⟨_, rfl⟩
  have BJ := Lib.hid (show Blk wJ gj 65 #[.int .i64 cl, .slice none 0 0] by rw [hwJ, HGJ.out]; exact Dm.rowb BN.out)
  have SJ := Lib.hid (show Same w2 wJ by rw [hwJ]; exact Dm.chgRow HX.out (.inr (Nat.le_refl _)) _)
  rw [← hwJ, ← HGJ.out]
  have c0 := SJ.out.cell c0
  have c1 := SJ.out.cell c1
  have HGB := Lib.hid (show w1.heap.size ≤ gj from by rw [HGJ.out]; exact HS2.out.size)
  clear hwJ HX BN
  obtain ⟨gB, hgB⟩ : ∃ gB, gB = wJ.heap.size := ⟨_, rfl⟩
  have W0 := Lib.hid (show JI w1 gj gB s i cl none 0 0 wJ from ⟨BJ.out, OwnK.none _ _ _ _, HS2.out.trans SJ.out, by rw [hgB]; exact Nat.le_refl _⟩)
  have HLT := Lib.hid (show gj < gB from by rw [hgB]; exact BJ.out.lt)
  clear hgB BJ
  go_wp2_with fail
  go_loopg [23] m (fun gk iv wx => ∃ (k : Nat) (RA : Option Addr) (rc : Nat), k + gk = m ∧ iv = .int .i64 (k : Int) ∧ Hid (JI w1 gj gB s i cl RA k rc wx))
  case atStart => exact ⟨0, none, 0, by omega, rfl, W0⟩
  case round =>
   obtain ⟨k, RA, rc, hk, rfl, HW⟩ := hrel
   clear W0 c0 c1 SJ
   cases gk with
   | zero =>
    obtain rfl : k = m := by omega
    have hge : ¬ (k : Int) < k := by omega
    have BQ := Lib.hid (HW.out.b)
    obtain ⟨z0, z1⟩ := (⟨BQ.out.cell 0, BQ.out.cell 1⟩ : _ ∧ _)
    simp only [Ws.q_] at z0 z1
    have BR := Lib.hid (show Blk wr g 65 #[.int .i64 0, .slice none 0 0] from B1o.out.same HW.out.same)
    go_wp2_with (first | (refine wpList_store_row rfl 65 (.tmp 4) (.tmp 36) rfl g #[.int .i64 cl, .slice RA k rc] rfl rfl 65 #[.int .i64 0, .slice none 0 0] BR.out HIF.out rfl (by simp [Value.oneCell']) ?_))
    refine bodyPost_ret (v := .agg #[.int .i64 cl, .slice RA k rc]) (res_cell1 Tryz.results41 _ _ g 65 #[.int .i64 cl, .slice RA k rc] (0, 0) _ rfl (Dm.rowb BR.out) Tryz.underlying65 rfl HIF.out) rfl ?_
    have hc : Same w1 wr := HW.out.same
    refine jobP_mk HJ.out.1.symm (by rw [HJ.out.2, jobL_len, HM.out]) ?_ (Dm.chgRow (S1.out.trans hc) (.inr HGW.out) _)
    ·rw [HJ.out.2, HM.out]
     exact row_set HW.out.o (by have := HG1.out; have := HGB.out; have := HLT.out; omega) _
   | succ GK =>
    have hlt : (k : Int) < m := by omega
    have hk0 : (0 : Int) ≤ k := by omega
    have HKK := Lib.hid hk
    have hgg := HGB.out
    have hgl := HLT.out
    have hq1 := HQ1.out
    have hkb : k ≤ 5000 := by omega
    clear hk
    obtain ⟨x, hx⟩ : ∃ x, x = ofR s i (k : Int) := ⟨_, rfl⟩
    have OFK := Lib.hid (OF.out (k : Int))
    rw [← hx] at OFK
    have HX := Lib.hid hx
    clear hx
    obtain ⟨xk, xs, xf, xa, xw, xp⟩ := x
    replace OFK := Lib.hid (show ∀ W, Same w1 W → Calls Tryz.prog 35 #[.agg #[.slice A n c, .slice B m d], .int .i64 i, .int .i64 (k : Int)] W fun e w' => e = .returned (.agg #[.int .i64 xk, .int .i64 xs, .int .i64 xf, .bool xa, .int .i64 xw, .int .i64 xp]) ∧ Same W w' from OFK.out)
    go_wp2_with fail
    refine Hb.region_b (S := fun w' => w'.cell? ⟨q0, 0, none⟩ = some (.slice A n c) ∧ w'.cell? ⟨q0, 1, none⟩ = some (.slice B m d)) (T := fun w' => w'.cell? ⟨gj, 1, none⟩ = some (.slice RA k rc)) (Hd := fun i => decide (i < 9)) (by kernel_rfl) ?_
    have hs : Same wr wr.drew := (Same.refl _).drew
    have BJ := Lib.hid (HW.out.b.same hs)
    have OR := Lib.hid (HW.out.o.same hs)
    have SM := Lib.hid (HW.out.same.trans hs)
    have SZ := Lib.hid (Nat.le_trans HW.out.sz hs.size)
    have B0 := Lib.hid (B0.out.same (HW.out.same.trans hs))
    clear hs HW
    obtain ⟨wd, hwd⟩ : ∃ wd, wd = wr.drew := ⟨_, rfl⟩
    rw [← hwd] at BJ OR SM SZ B0
    rw [← hwd]
    clear hwd
    have hHeld' := (show wd.cell? ⟨q0, 0, none⟩ = some (.slice A n c) ∧ wd.cell? ⟨q0, 1, none⟩ = some (.slice B m d) from ⟨B0.out.cell 0, B0.out.cell 1⟩)
    have hTop' := (show wd.cell? ⟨gj, 1, none⟩ = some (.slice RA k rc) from BJ.out.cell 1)
    have hHeld := hHeld'
    have hTop := hTop'
    clear hHeld' hTop'
    refine Hb.b_take (i := 0) (v := ?_) rfl (by kernel_rfl) (by kernel_rfl) (by kernel_rfl) (fun _ _ _ h => h) (by rfl) hHeld ?_ ?_
    rotate_left
    ·intro wS hSw; (try dsimp only at hSw); go_simp; try with_reducible rfl
    try simp only [Ro.p]
    refine Hb.b_take (i := 2) (v := ?_) rfl (by kernel_rfl) (by kernel_rfl) (by kernel_rfl) (fun _ _ _ h => h) (by rfl) hHeld ?_ ?_
    rotate_left
    ·intro wS hSw; (try dsimp only at hSw); go_simp; try with_reducible rfl
    try simp only [Ro.p]
    refine Hb.b_take (i := 3) (v := ?_) rfl (by kernel_rfl) (by kernel_rfl) (by kernel_rfl) (fun _ _ _ h => h) (by rfl) hHeld ?_ ?_
    rotate_left
    ·intro wS hSw; (try dsimp only at hSw); go_simp; try with_reducible rfl
    try simp only [Ro.p]
    refine Hb.b_take (i := 4) (v := ?_) rfl (by kernel_rfl) (by kernel_rfl) (by kernel_rfl) (fun _ _ _ h => h) (by rfl) hHeld ?_ ?_
    rotate_left
    ·intro wS hSw; (try dsimp only at hSw); go_simp; try with_reducible rfl
    try simp only [Ro.p]
    refine Hb.b_take_t (i := 1) (v := ?_) (by kernel_rfl) rfl (by kernel_rfl) (by kernel_rfl) (by kernel_rfl) (fun _ _ _ h => h) (by rfl) hHeld hTop ?_ ?_
    rotate_left
    ·intro wS hSw hTw; (try dsimp only at hSw hTw); go_simp; try with_reducible rfl
    try simp only [Ro.p]
    refine Hb.b_one (i := 5) rfl (by kernel_rfl) (by rfl) (fun K hK => ?_)
    go_simp
    go_at_call 35
    refine (OFK.out _ SM.out).mono ?_
    rintro e wo ⟨rfl, so⟩
    have BJ := Lib.hid (BJ.out.same so)
    have OR := Lib.hid (OR.out.same so)
    have B0 := Lib.hid (B0.out.same so)
    have SM := Lib.hid (SM.out.trans so)
    have SZ := Lib.hid (Nat.le_trans SZ.out so.size)
    clear so
    have hHeld' := (show wo.cell? ⟨q0, 0, none⟩ = some (.slice A n c) ∧ wo.cell? ⟨q0, 1, none⟩ = some (.slice B m d) from ⟨B0.out.cell 0, B0.out.cell 1⟩)
    have hTop' := (show wo.cell? ⟨gj, 1, none⟩ = some (.slice RA k rc) from BJ.out.cell 1)
    refine hK.out _ _ hHeld' (fun _ _ => hTop') ?_
    clear hK K hHeld hTop
    have hHeld := hHeld'
    have hTop := hTop'
    clear hHeld' hTop'
    try simp only [Ro.p]
    refine Hb.b_one (i := 6) rfl (by kernel_rfl) (by rfl) (fun K hK => ?_)
    go_simp
    obtain ⟨wb, hn⟩ : ∃ x, x = wo.alloc (.cells #[.int .i64 xk, .int .i64 xs, .int .i64 xf, .bool xa, .int .i64 xw, .int .i64 xp] 59) := ⟨_, rfl⟩
    obtain ⟨gb, hg⟩ : ∃ g, g = wo.heap.size := ⟨_, rfl⟩
    have hs : Same wo wb := by rw [hn]; exact (Same.refl _).alloc _
    have RB := Lib.hid (show Blk wb gb 59 #[.int .i64 xk, .int .i64 xs, .int .i64 xf, .bool xa, .int .i64 xw, .int .i64 xp] from by rw [hn, hg]; exact Blk.new wo _ _)
    rw [← hn, ← hg]
    clear hn hg
    have BJ := Lib.hid (BJ.out.same hs)
    have OR := Lib.hid (OR.out.same hs)
    have B0 := Lib.hid (B0.out.same hs)
    have SM := Lib.hid (SM.out.trans hs)
    have SZ := Lib.hid (Nat.le_trans SZ.out hs.size)
    clear hs
    have hHeld' := (show wb.cell? ⟨q0, 0, none⟩ = some (.slice A n c) ∧ wb.cell? ⟨q0, 1, none⟩ = some (.slice B m d) from ⟨B0.out.cell 0, B0.out.cell 1⟩)
    have hTop' := (show wb.cell? ⟨gj, 1, none⟩ = some (.slice RA k rc) from BJ.out.cell 1)
    refine hK.out _ _ hHeld' (fun _ _ => hTop') ?_
    clear hK K hHeld hTop
    have hHeld := hHeld'
    have hTop := hTop'
    clear hHeld' hTop'
    try simp only [Ro.p]
    refine Hb.b_one (i := 7) rfl (by kernel_rfl) (by rfl) (fun K hK => ?_)
    refine Ra.oper_app (.tmp 27) (.tmp 32) 63 rfl gB 59 i0 _ 6 48 Tryz.underlying63 hi hz0 hz1 hz2 rfl (by omega) RA k rc _ rfl OR.out (some ⟨gb, 0, none⟩) 1 1 [.int .i64 xk, .int .i64 xs, .int .i64 xf, .bool xa, .int .i64 xw, .int .i64 xp] rfl rfl (Cs.blk_row RB.out) (rcells_one ⟨xk, xs, xf, xa, xw, xp⟩) (by omega) (by omega) SZ.out (k + 1) rfl ?_
    intro R1 r1 wa ho hc
    try simp only [Ro.p]
    have BJ := Lib.hid (BJ.out.chg hc (fun h => by have := OR.out.base_ge gj h; omega))
    have B0 := Lib.hid (B0.out.chg hc (fun h => by have := OR.out.base_ge q0 h; omega))
    have SM := Lib.hid (Same.more SM.out hc (fun g h => by have := OR.out.base_ge g h; omega))
    have SZ := Lib.hid (Nat.le_trans SZ.out hc.size)
    have OR := Lib.hid ho
    clear ho hc
    have hHeld' := (show wa.cell? ⟨q0, 0, none⟩ = some (.slice A n c) ∧ wa.cell? ⟨q0, 1, none⟩ = some (.slice B m d) from ⟨B0.out.cell 0, B0.out.cell 1⟩)
    have hTop' := (show wa.cell? ⟨gj, 1, none⟩ = some (.slice RA k rc) from BJ.out.cell 1)
    refine hK.out _ _ hHeld' (fun _ _ => hTop') ?_
    clear hK K hHeld hTop
    have hHeld := hHeld'
    have hTop := hTop'
    clear hHeld' hTop'
    try simp only [Ro.p]
    refine Hb.b_take (i := 8) (v := ?_) rfl (by kernel_rfl) (by kernel_rfl) (by kernel_rfl) (fun _ _ _ h => h) (by rfl) hHeld ?_ ?_
    rotate_left
    ·intro wS hSw; (try dsimp only at hSw); go_simp; try with_reducible rfl
    try simp only [Ro.p]
    refine Hb.b_one (i := 9) rfl (by kernel_rfl) (by rfl) (fun K hK => ?_)
    have z1 := BJ.out.cell 1
    simp only [Ws.q_] at z1
    have f1 := BJ.out.thaw 1
    go_simp
    obtain ⟨we, hn⟩ : ∃ x, x = wa.setCell ⟨gj, 1, none⟩ (.slice R1 (k + 1) r1) := ⟨_, rfl⟩
    have hc : Chg (fun i => i = gj) wa we := by rw [hn]; exact (Chg.refl (fun i => i = gj) wa).set (p := ⟨gj, 1, none⟩) (.inl rfl) _
    have BJ := Lib.hid (show Blk we gj 65 _ from by rw [hn]; exact BJ.out.put 1 _)
    rw [← hn]
    clear hn z1 f1
    have B0 := Lib.hid (B0.out.chg hc (by omega))
    have OR := Lib.hid (OR.out.chg hc (fun g h e => by have := OR.out.base_ge g h; omega))
    have SM := Lib.hid (Same.more SM.out hc (fun g h => by omega))
    have SZ := Lib.hid (Nat.le_trans SZ.out hc.size)
    clear hc
    have hHeld' := (show we.cell? ⟨q0, 0, none⟩ = some (.slice A n c) ∧ we.cell? ⟨q0, 1, none⟩ = some (.slice B m d) from ⟨B0.out.cell 0, B0.out.cell 1⟩)
    refine hK.out _ _ hHeld' (fun h => by simp at h) ?_
    clear hK K hHeld hTop
    try simp only [Ro.p]
    refine Hb.anyB_done (by kernel_rfl) ?_ _
    clear hHeld'
    go_wp2_with fail
    go_roundg GK
    case measure => omega
    case rel =>
     refine ⟨k + 1, R1, r1, by have := HKK.out; omega, by go_num, Lib.hid ⟨BJ.out, ?_, SM.out, SZ.out⟩⟩
     have h := OR.out
     rw [jobL_succ, List.flatMap_append, ← HX.out]
     simpa [rcells] using h
 ·have HJ := Lib.hid (job_no' he)
  have ee : (dearE s i 0 != 0) = true := by simpa using he
  clear he
  generalize dearE s i 0 = de at *
  generalize dearI s i 0 = cl at *
  go_wp2_with (first | (refine wpList_store_row rfl 65 (.tmp 4) (.tmp 17) rfl g #[.int .i64 0, .slice none 0 0] rfl rfl 65 #[.int .i64 0, .slice none 0 0] B1.out HIF.out rfl (by simp [Value.oneCell']) ?_))
  refine bodyPost_ret (v := .agg #[.int .i64 0, .slice none 0 0]) (res_cell1 Tryz.results41 _ _ g 65 #[.int .i64 0, .slice none 0 0] (0, 0) _ rfl (Dm.rowb B1.out) Tryz.underlying65 rfl HIF.out) rfl ?_
  exact jobP_mk HJ.out.1.symm (by rw [HJ.out.2]; rfl) (by rw [HJ.out.2]; intro j u hj; cases hj) (Dm.chgRow (S1.out.trans HS2.out) (.inr HGW.out) _)

set_option maxRecDepth 100000 in
theorem ijob_any (A B : Option Addr) (n c m d : Nat) (s : PS) (i : Int) (r : Int) (br : -9223372036854775808 ≤ r ∧ r ≤ 9223372036854775807) (hsl : ∀ o ∈ s.os, o.sl ≤ 9223372036854775807) (w : World) (hs : SysAt w A n B m s) (hnm : n ≤ maxLen ∧ m ≤ maxLen) (hf : ∀ p ∈ s.ts, p.code.length ≤ 200) (ho : Sy.OFew s.os 5000) (hT : Is.Tabs w) :
  Calls Tryz.prog 18 #[.agg #[.slice A n c, .slice B m d], .int .i64 i, .int .i64 r] w fun e w' => e = .returned (.int .i64 (jobI s i r)) ∧ Same w w' := by
 obtain ⟨w0, hw0⟩ : ∃ w0, w0 = w.alloc (.cells #[.slice A n c, .slice B m d] 25) := ⟨_, rfl⟩
 obtain ⟨g, hg⟩ : ∃ g, g = w.heap.size := ⟨_, rfl⟩
 have s0 : Same w w0 := hw0 ▸ (Same.refl w).alloc _
 have b0 : Blk w0 g 25 #[.slice A n c, .slice B m d] := by rw [hw0, hg]; exact Blk.new w _ _
 have HE0 := Lib.hid hw0
 have HG := Lib.hid hg
 have S0 := Lib.hid s0
 obtain ⟨c0, c1⟩ := (⟨b0.cell 0, b0.cell 1⟩ : _ ∧ _)
 simp only [Ws.q_] at c0 c1
 have JO := Lib.hid (jobof_any A B n c m d s i w0 (hs.same s0) hnm hf ho (hT.same s0))
 have LM := Lib.hid (fun RA rc W (h : Row W RA ((jobR s i).flatMap rcells)) => steps_any (jobC s i) RA (jobR s i).length rc (jobR s i) r br (job_sl hsl) W rfl (job_len hs.hm ho) h)
 have HJ := Lib.hid (job_is s i r)
 clear hw0 hg s0 b0 hs hT hf ho
 unfold JobP at JO
 generalize jobC s i = cl at *
 generalize jobR s i = l at *
 go_enter Tryz.func18, Tryz.ntmps18
 go_upto_region 1 with fail
 rw [← HE0.out, ← HG.out]
 clear HE0 HG
 go_wp2_with fail
 refine JO.out.mono ?_
 rintro e w1 ⟨RA, rc, rfl, hr, s1⟩
 have LR := Lib.hid (LM.out RA rc w1 hr)
 clear hr
 go_wp2_with fail
 refine LR.out.mono ?_
 rintro e w2 ⟨rfl, s2⟩
 go_wp2_with fail
 go_ret
 exact ⟨Wd.ret_int HJ.out, S0.out.trans (s1.trans s2)⟩
end Go.Proofs.YthhbhbfkbncegaaGreatDoor.Sl
end
section
section
set_option linter.unusedVariables false
set_option linter.unusedSimpArgs false
namespace Go.Proofs.YthhbhbfkbncegaaGreatDoor.Sz
open Go.ChangeShapes Go.WideShapes Go.ChangeAt Go.RowKit Ws
open Im (PT PO PS TsAt OsAt SysAt tcells ocells)
open Go.Proofs.YthhbhbfkbncegaaGreatDoor.Wd (ret_bool ret_int)
/-- the number at a place; 0 where there is none -/
def gI (l : List Int) (i : Int) : Int := if 0 ≤ i then l.getD i.toNat 0 else 0
theorem gI_no {l : List Int} {i : Int} (h : i < 0 ∨ (l.length : Int) ≤ i) : gI l i = 0 := by
 unfold gI
 split
 ·rw [List.getD_eq_getElem?_getD, List.getElem?_eq_none (by omega)]
  rfl
 ·rfl
theorem gI_at {l : List Int} {k : Nat} {v : Int} (h : l[k]? = some v) : gI l k = v := by
 unfold gI
 rw [if_pos (by omega), Int.toNat_natCast, List.getD_eq_getElem?_getD, h]
 rfl
theorem rowi_any (A : Option Addr) (n c : Nat) (l : List Int) (i : Int) (w : World) (hl : l.length = n) (hr : Row w A (l.map (Value.int .i64))) :
  Calls Tryz.prog 74 #[.slice A n c, .int .i64 i] w fun e w' => (∃ b, e = .returned (.tuple #[.int .i64 (gI l i), .bool b])) ∧ Same w w' := by
 rcases (show i < 0 ∨ (¬ i < 0 ∧ (n : Int) ≤ i) ∨ (¬ i < 0 ∧ ¬ (n : Int) ≤ i) by omega) with h0 | ⟨h1, h2⟩ | ⟨h1, h2⟩
 ·have d0 : decide (i < 0) = true := decide_eq_true h0
  have HG := Lib.hid (gI_no (l := l) (.inl h0))
  clear h0 hr
  go_enter Tryz.func74, Tryz.ntmps74
  go_wp2_with fail
  go_ret2
  exact ⟨⟨false, by rw [HG.out]; rfl⟩, Same.refl _⟩
 ·have d0 : decide (i < 0) = false := decide_eq_false h1
  have d1 : decide ((n : Int) ≤ i) = true := decide_eq_true h2
  have HG := Lib.hid (gI_no (l := l) (.inr (by rw [hl]; exact h2)))
  clear h1 h2 hr
  go_enter Tryz.func74, Tryz.ntmps74
  go_wp2_with fail
  go_ret2
  exact ⟨⟨false, by rw [HG.out]; rfl⟩, Same.refl _⟩
 ·have d0 : decide (i < 0) = false := decide_eq_false h1
  have d1 : decide ((n : Int) ≤ i) = false := decide_eq_false h2
  obtain ⟨k, rfl⟩ : ∃ k : Nat, i = k := ⟨i.toNat, by omega⟩
  obtain ⟨v, hk⟩ : ∃ v, l[k]? = some v := ⟨l[k]'(by omega), List.getElem?_eq_getElem _⟩
  obtain ⟨b, o, rfl, c0⟩ := hr k (.int .i64 v) (by rw [List.getElem?_map, hk]; rfl)
  have HG := Lib.hid (gI_at hk)
  have hlt : (k : Int) < n := by omega
  have hk0 : (0 : Int) ≤ k := by omega
  clear hr hk h1 h2
  go_enter Tryz.func74, Tryz.ntmps74
  go_wp2_with fail
  try go_quiet (fail)
  try go_wp2_with fail
  go_ret2
  exact ⟨⟨true, by rw [HG.out]; rfl⟩, by first | exact Same.refl _ | exact (Same.refl _).drewN _⟩
end Go.Proofs.YthhbhbfkbncegaaGreatDoor.Sz
end
section
set_option linter.unusedVariables false
set_option linter.unusedSimpArgs false
namespace Go.Proofs.YthhbhbfkbncegaaGreatDoor.Rt
open Go.ChangeShapes Go.WideShapes Go.ChangeAt Go.RowKit Ws
open Im (PT PO PS TsAt OsAt SysAt tcells ocells)
open Go.Proofs.YthhbhbfkbncegaaGreatDoor.Wd (ret_bool ret_int addv mulv ceilv)
open Sl (jobC jobR jobI rcells)
/-- what the closure of load stands on -/
structure LdAt (W : World) (s : PS) (i : Int) (costs : List Int) (A B C : Option Addr) (n c m d cl cc g7 g8 q5 q3 : Nat) (RA AA : Option Addr) (rc al ac : Nat) : Prop where
 b7 : Blk W g7 65 #[.int .i64 (jobC s i), .slice RA (jobR s i).length rc]
 r7 : Row W RA ((jobR s i).flatMap rcells)
 b8 : Blk W g8 32 #[.slice AA al ac]
 l8 : (aboveI s.ts i s.ts.length).length = al
 r8 : Row W AA ((aboveI s.ts i s.ts.length).map (Value.int .i64))
 b5 : Blk W q5 32 #[.slice C cl cc]
 l5 : costs.length = cl
 r5 : Row W C (costs.map (Value.int .i64))
 b3 : Blk W q3 25 #[.slice A n c, .slice B m d]
 hs : SysAt W A n B m s
theorem LdAt.same {W W' : World} {s : PS} {i : Int} {costs : List Int} {A B C : Option Addr} {n c m d cl cc g7 g8 q5 q3 : Nat} {RA AA : Option Addr} {rc al ac : Nat} (h : LdAt W s i costs A B C n c m d cl cc g7 g8 q5 q3 RA AA rc al ac) (hs : Same W W') : LdAt W' s i costs A B C n c m d cl cc g7 g8 q5 q3 RA AA rc al ac :=
 ⟨h.b7.same hs, h.r7.same hs, h.b8.same hs, h.l8, h.r8.same hs, h.b5.same hs, h.l5, h.r5.same hs, h.b3.same hs, h.hs.same hs⟩
theorem gI_nat (l : List Int) (k : Nat) : Sz.gI l k = l.getD k 0 := by
 unfold Sz.gI
 rw [if_pos (by omega), Int.toNat_natCast]
set_option maxRecDepth 100000 in
set_option maxHeartbeats 4000000 in
theorem load1_any (s : PS) (i : Int) (costs : List Int) (A B C : Option Addr) (n c m d cl cc g7 g8 q5 q3 : Nat) (RA AA : Option Addr) (rc al ac : Nat) (r : Int) (br : -9223372036854775808 ≤ r ∧ r ≤ 9223372036854775807) (hsl : ∀ o ∈ s.os, o.sl ≤ 9223372036854775807) (ho : Sy.OFew s.os 5000) (hn5 : n ≤ 5000) (w : World) (h : LdAt w s i costs A B C n c m d cl cc g7 g8 q5 q3 RA AA rc al ac) :
  Calls Tryz.prog 73 #[.int .i64 r, .pointer (some ⟨g7, 0, none⟩), .pointer (some ⟨g8, 0, none⟩), .pointer (some ⟨q5, 0, none⟩), .pointer (some ⟨q3, 0, none⟩)] w fun e w' => e = .returned (.int .i64 (loadI s i costs r)) ∧ Same w w' := by
 have HD := Lib.hid h
 have HJ := Lib.hid (Sl.job_is s i r)
 have ST := Lib.hid (Sl.steps_any (jobC s i) RA (jobR s i).length rc (jobR s i) r br (Sl.job_sl hsl) w rfl (Sl.job_len h.hs.hm ho) h.r7)
 have HL := Lib.hid (show loadL s costs r ((aboveI s.ts i s.ts.length).take al) (jobI s i r) = loadI s i costs r by
  rw [List.take_of_length_le (by rw [h.l8]; exact Nat.le_refl _), load_above]
  rfl)
 have HIN := Lib.hid (above_in (ts := s.ts) (y := i) s.ts.length (Nat.le_refl _))
 have hal : al ≤ 5000 := by
  have h1 := aboveI_len s.ts i s.ts.length
  rw [h.l8, h.hs.hn] at h1
  omega
 have hnn := h.hs.hn
 have HTA := Lib.hid (fun (j : Nat) (a : Int) (g : (aboveI s.ts i s.ts.length)[j]? = some a) => loadL_take (s := s) (costs := costs) (r := r) (x := jobI s i r) g)
 obtain ⟨j0, j1⟩ := (⟨h.b7.cell 0, h.b7.cell 1⟩ : _ ∧ _)
 have a0 := h.b8.cell 0
 simp only [Ws.q_] at j0 j1 a0
 clear h
 rw [HJ.out] at ST
 generalize jobC s i = jc at *
 generalize (jobR s i).length = jl at *
 go_enter Tryz.func73, Tryz.ntmps73
 go_wp2_with fail
 refine ST.out.mono ?_
 rintro e w1 ⟨rfl, s1⟩
 have HS1 := Lib.hid s1
 have a0 := s1.cell a0
 clear s1 ST j0 j1
 go_wp2_with fail
 go_loopg [17, 7] al (fun gk iv nv wx => ∃ j : Nat, j + gk = al ∧ iv = .int .i64 (j : Int) ∧ nv = .int .i64 (loadL s costs r ((aboveI s.ts i s.ts.length).take j) (jobI s i r)) ∧ Same w wx)
 case atStart => exact ⟨0, by omega, rfl, rfl, HS1.out⟩
 case round =>
  obtain ⟨j, hk, rfl, rfl, sx⟩ := hrel
  have HSX := Lib.hid sx
  clear a0
  cases gk with
  | zero =>
   obtain rfl : j = al := by omega
   have hge : ¬ (j : Int) < (j : Int) := by omega
   rw [HL.out]
   clear sx
   go_wp2_with fail
   go_ret
   exact ⟨rfl, HSX.out⟩
  | succ GK =>
   have hlt : (j : Int) < al := by omega
   have hj0 : (0 : Int) ≤ j := by omega
   have HKK := Lib.hid hk
   obtain ⟨a, ha⟩ : ∃ a, (aboveI s.ts i s.ts.length)[j]? = some a := ⟨(aboveI s.ts i s.ts.length)[j]'(by rw [HD.out.l8]; omega), List.getElem?_eq_getElem _⟩
   have hin := HIN.out a (List.mem_of_getElem? ha)
   obtain ⟨ka, rfl⟩ : ∃ ka : Nat, a = ka := ⟨a.toNat, by omega⟩
   obtain ⟨bY, oY, rfl, y0⟩ := (HD.out.r8.same sx) j (.int .i64 (ka : Int)) (by rw [List.getElem?_map, ha]; rfl)
   have HTJ := Lib.hid (HTA.out j ka ha)
   have RI := Lib.hid (fun W (h : Same w W) => Sz.rowi_any C cl cc costs ka W HD.out.l5 (HD.out.r5.same h))
   rw [gI_nat] at RI
   obtain ⟨p, hp⟩ : ∃ p, s.ts[ka]? = some p := ⟨s.ts[ka]'(by omega), List.getElem?_eq_getElem _⟩
   have HPT := Lib.hid (show (Ah.pt s.ts ka).per = p.per by unfold Ah.pt; rw [List.getD_eq_getElem?_getD, hp]; rfl)
   have WC := Lib.hid (fun W => Wd.wceil r p.per br W)
   have d5 := (HD.out.b5.same sx).cell 0
   simp only [List.getElem?_toArray, List.getElem?_cons_zero] at d5
   have hka : (ka : Int) < n := by omega
   have hka0 : (0 : Int) ≤ ka := by omega
   have HTS := Lib.hid (fun W (h : Same w W) => (HD.out.hs.ht.same h).at_ hp)
   rw [Int.toNat_natCast] at HTJ
   rw [HPT.out] at HTJ
   clear hk ha hin hp HIN sx
   generalize loadL s costs r ((aboveI s.ts i s.ts.length).take j) (jobI s i r) = v at *
   generalize costs.getD ka 0 = cv at *
   go_wp2_with fail
   refine (RI.out _ HSX.out).mono ?_
   rintro e w2 ⟨⟨b, rfl⟩, s2⟩
   have HS2 := Lib.hid (HSX.out.trans s2)
   obtain ⟨bA, oA, rfl, X, cX, _, _, t2, _⟩ := HTS.out _ HS2.out
   have d3 := (HD.out.b3.same HS2.out).cell 0
   simp only [List.getElem?_toArray, List.getElem?_cons_zero] at d3
   clear s2 RI y0 d5 HTS
   go_wp2_with fail
   refine (WC.out _).mono ?_
   rintro e w3 ⟨rfl, rfl⟩
   go_wp2_with fail
   refine (Wd.wmul _ _ _).mono ?_
   rintro e w4 ⟨rfl, rfl⟩
   go_wp2_with fail
   refine (Wd.wadd _ _ _).mono ?_
   rintro e w5 ⟨rfl, rfl⟩
   go_wp2_with fail
   go_roundg GK
   case rel => exact ⟨j + 1, by have := HKK.out; omega, by go_num, by rw [HTJ.out], HS2.out⟩
   case measure => omega
end Go.Proofs.YthhbhbfkbncegaaGreatDoor.Rt
end
end
end
end
section
set_option linter.unusedVariables false
set_option linter.unusedSimpArgs false
namespace Go.Proofs.YthhbhbfkbncegaaGreatDoor.Rt
open Go.ChangeShapes Go.WideShapes Go.ChangeAt Go.RowKit Ws
open Im (PT PO PS TsAt OsAt SysAt tcells ocells)
open Go.Proofs.YthhbhbfkbncegaaGreatDoor.Wd (ret_bool ret_int addv mulv ceilv)
open Sl (jobC jobR jobI rcells)
theorem three_on {P : Program} {l : List Oper} {Q : Exit → Act → World → Prop} {md : Region.Mode} {S : World → Prop} {i j k : Nat} {oi oj ok : Oper} {ri rj rk : List Oper} {fuel : Nat} {listed : Array Bool} {a : Act} {w : World} (hi : l.drop i = oi :: ri) (hj : l.drop j = oj :: rj) (hk : l.drop k = ok :: rk)
  (hr : Region.ready md l.toArray listed = [i, j, k]) (hwi : Region.wanted oi (yielded l.toArray a.tmps) = true) (hwj : Region.wanted oj (yielded l.toArray a.tmps) = true) (hwk : Region.wanted ok (yielded l.toArray a.tmps) = true)
  (h1 : ∀ K' : Act → World → Prop, Shut (∀ a w, S w → (S w → wpAnyH P md l.toArray Q S fuel (listed.setIfInBounds i true) a w) → K' a w) → Oper.wp P oi a w K' Q)
  (h2 : ∀ K' : Act → World → Prop, Shut (∀ a w, S w → (S w → wpAnyH P md l.toArray Q S fuel (listed.setIfInBounds j true) a w) → K' a w) → Oper.wp P oj a w K' Q)
  (h3 : ∀ K' : Act → World → Prop, Shut (∀ a w, S w → (S w → wpAnyH P md l.toArray Q S fuel (listed.setIfInBounds k true) a w) → K' a w) → Oper.wp P ok a w K' Q) : wpAnyH P md l.toArray Q S (fuel + 1) listed a w :=
 wpAnyH_ready hr (by simp) (AllReadyH.cons (Ro.at_drop hi) (fun K' hK => by rw [if_pos hwi]; exact h1 K' hK) (AllReadyH.cons (Ro.at_drop hj) (fun K' hK => by rw [if_pos hwj]; exact h2 K' hK) (AllReadyH.cons (Ro.at_drop hk) (fun K' hK => by rw [if_pos hwk]; exact h3 K' hK) AllReadyH.nil)))
theorem row_chg {w w' : World} {g : Nat} {A : Option Addr} {l : List Value} (h : Row w A l) (hc : Chg (fun i => i = g) w w') (hne : ∀ b o, A = some ⟨b, o, none⟩ → l ≠ [] → ¬ b = g) : Row w' A l := by
 intro j u hj
 obtain ⟨b, o, hA, hcell⟩ := h j u hj
 exact ⟨b, o, hA, hc.cell hcell (hne b o hA (fun e => by subst e; cases hj))⟩
theorem row6_ne {w : World} {g : Nat} {T : TypeId} {cs : Array Value} {A : Option Addr} {l : List Sl.SR} (h : Row w A (l.flatMap rcells)) (hb : Blk w g T cs) (hs : cs.size ≤ 2) (b o : Nat) (hA : A = some ⟨b, o, none⟩) (hne : l.flatMap rcells ≠ []) : ¬ b = g := by
 rintro rfl
 cases l with
 | nil => exact hne rfl
 | cons x l =>
  obtain ⟨b', o', hA', hcell⟩ := h 5 (.int .i64 x.pr) rfl
  rw [hA] at hA'
  injection hA' with hA'
  injection hA' with e1 e2
  subst e1 e2
  have h2 := hb.cell (o + 5)
  rw [h2, Array.getElem?_eq_none (by omega)] at hcell
  cases hcell
def LoadP (w : World) (s : PS) (i : Int) (costs : List Int) (A B C : Option Addr) (n c m d cl cc : Nat) (e : Ending) (w' : World) : Prop := ∃ g7 g8 q5 q3 RA AA rc al ac, e = .returned (.func (.func 73) #[] #[.pointer (some ⟨g7, 0, none⟩), .pointer (some ⟨g8, 0, none⟩), .pointer (some ⟨q5, 0, none⟩), .pointer (some ⟨q3, 0, none⟩)]) ∧ LdAt w' s i costs A B C n c m d cl cc g7 g8 q5 q3 RA AA rc al ac ∧ Same w w'
theorem loadP_mk {w w' : World} {s : PS} {i : Int} {costs : List Int} {A B C : Option Addr} {n c m d cl cc g7 g8 q5 q3 : Nat} {RA AA : Option Addr} {rc al ac : Nat} (h : LdAt w' s i costs A B C n c m d cl cc g7 g8 q5 q3 RA AA rc al ac) (hs : Same w w') : LoadP w s i costs A B C n c m d cl cc (.returned (.func (.func 73) #[] #[.pointer (some ⟨g7, 0, none⟩), .pointer (some ⟨g8, 0, none⟩), .pointer (some ⟨q5, 0, none⟩), .pointer (some ⟨q3, 0, none⟩)])) w' := ⟨_, _, _, _, _, _, _, _, _, rfl, h, hs⟩
set_option maxRecDepth 100000 in
set_option maxHeartbeats 8000000 in
theorem load_any (A B C : Option Addr) (n c m d cl cc : Nat) (s : PS) (i : Int) (costs : List Int) (w : World) (hs : SysAt w A n B m s) (hnm : n ≤ 1000 ∧ m ≤ maxLen) (hf : ∀ p ∈ s.ts, p.code.length ≤ 200) (ho : Sy.OFew s.os 5000) (hT : Is.Tabs w) (hcl : costs.length = cl) (hr : Row w C (costs.map (Value.int .i64))) :
  Calls Tryz.prog 49 #[.agg #[.slice A n c, .slice B m d], .int .i64 i, .slice C cl cc] w (LoadP w s i costs A B C n c m d cl cc) := by
 have hnm' : n ≤ maxLen ∧ m ≤ maxLen := ⟨by unfold maxLen; omega, hnm.2⟩
 obtain ⟨w0, hw0⟩ : ∃ w0, w0 = w.alloc (.cells #[.slice A n c, .slice B m d] 25) := ⟨_, rfl⟩
 obtain ⟨q3, hq3⟩ : ∃ q3, q3 = w.heap.size := ⟨_, rfl⟩
 obtain ⟨q5, hq5⟩ : ∃ g, g = w0.heap.size := ⟨_, rfl⟩
 obtain ⟨w1, hw1⟩ : ∃ w1, w1 = w0.alloc (.cells #[.slice C cl cc] 32) := ⟨_, rfl⟩
 have s0 : Same w w0 := hw0 ▸ (Same.refl w).alloc _
 have s1 : Same w0 w1 := hw1 ▸ (Same.refl w0).alloc _
 have b3 : Blk w0 q3 25 #[.slice A n c, .slice B m d] := by rw [hw0, hq3]; exact Blk.new w _ _
 have b5 : Blk w1 q5 32 #[.slice C cl cc] := by rw [hw1, hq5]; exact Blk.new w0 _ _
 have HE0 := Lib.hid hw0
 have HE1 := Lib.hid hw1
 have HQ3 := Lib.hid hq3
 have HQ5 := Lib.hid (show q3 + 1 = q5 by rw [hq5, hw0, hq3]; show _ = (w.heap.push _).size; rw [Array.size_push])
 have S1 := Lib.hid (s0.trans s1)
 have HB3 := Lib.hid (b3.same s1)
 have HB5 := Lib.hid b5
 have HS := Lib.hid (hs.same (s0.trans s1))
 have HCL := Lib.hid hcl
 have HRC := Lib.hid (hr.same (s0.trans s1))
 have HIF := Lib.hid (show (Tryz.prog.info? 65).map (·.size) = some (#[.int .i64 0, .slice none 0 0] : Array Value).size by kernel_rfl)
 have JO := Lib.hid (fun W (h : Same w1 W) => Sl.jobof_any A B n c m d s i W (hs.same ((s0.trans s1).trans h)) hnm' hf ho (hT.same ((s0.trans s1).trans h)))
 have AB := Lib.hid (fun W (h : Same w1 W) => above_gen A n c s.ts i W hs.hn hnm.1 (hs.ht.same ((s0.trans s1).trans h)))
 clear hw0 hw1 hq3 hq5 s0 s1 b3 b5 hs hT hf ho hr hcl
 go_enter Tryz.func49, Tryz.ntmps49
 go_upto_region 1 with fail
 rw [← HQ3.out, HQ5.out, ← HE0.out, ← HE1.out]
 clear HE0 HE1 HQ3 HQ5
 refine wp_region_held_drew (S := fun w' => Same w1 w') (by kernel_rfl) ?_ (fun hHeld => ?_)
 ·exact (Same.refl w1).drew
 refine Ro.tn 0 ?_ ?_ ?_
 rotate_left
 ·intro wS hSw; (try dsimp only at hSw); obtain ⟨v0, v1⟩ := (⟨(HB3.out.same hSw).cell 0, (HB3.out.same hSw).cell 1⟩ : _ ∧ _); simp only [Ws.q_] at v0 v1; go_simp; try with_reducible rfl
 try simp only [Ro.p]
 refine Ro.tn 1 ?_ ?_ ?_
 rotate_left
 ·intro wS hSw; (try dsimp only at hSw); go_simp; try with_reducible rfl
 try simp only [Ro.p]
 refine Ro.tn 3 ?_ ?_ ?_
 rotate_left
 ·intro wS hSw; (try dsimp only at hSw); go_simp; try with_reducible rfl
 try simp only [Ro.p]
 refine Ro.tn 4 ?_ ?_ ?_
 rotate_left
 ·intro wS hSw; (try dsimp only at hSw); obtain ⟨v0, v1⟩ := (⟨(HB3.out.same hSw).cell 0, (HB3.out.same hSw).cell 1⟩ : _ ∧ _); simp only [Ws.q_] at v0 v1; go_simp; try with_reducible rfl
 try simp only [Ro.p]
 refine Ro.tn 5 ?_ ?_ ?_
 rotate_left
 ·intro wS hSw; (try dsimp only at hSw); go_simp; try with_reducible rfl
 try simp only [Ro.p]
 obtain ⟨wd, hwd⟩ : ∃ x, x = w1.drew := ⟨_, rfl⟩
 rw [← hwd] at hHeld
 rw [← hwd]
 clear hwd
 refine three_on (i := 2) (j := 7) (k := 8) rfl rfl rfl (by kernel_rfl) (by rfl) (by rfl) (by rfl) ?g1_2 ?g1_7 ?g1_8
 case' g1_2 =>
  intro K hK
  go_simp
  go_at_call 41
  refine (JO.out _ hHeld).mono ?_
  rintro e y2 ⟨RA, rc, rfl, hj, hs⟩
  have RJ := Lib.hid hj
  refine hK.out _ _ ?_ (fun hNew => ?_)
  ·exact hHeld.trans hs
  clear hj hs
  clear hK K hHeld; have hHeld := hNew; clear hNew
  try simp only [Ro.p]
  refine three_on (i := 6) (j := 7) (k := 8) rfl rfl rfl (by kernel_rfl) (by rfl) (by rfl) (by rfl) ?g3_6 ?g3_7 ?g3_8
  case' g3_6 =>
   intro K hK
   go_simp
   go_at_call 72
   refine (AB.out _ hHeld).mono ?_
   rintro e y4 ⟨AA, ac, rfl, ha, hs, hf⟩
   have RJ := Lib.hid (RJ.out.same hs)
   have RA_ := Lib.hid ha
   have HL6 := Lib.hid (fun b o e => (hf b o e).2)
   refine hK.out _ _ ?_ (fun hNew => ?_)
   ·exact hHeld.trans hs
   clear ha hs hf
   clear hK K hHeld; have hHeld := hNew; clear hNew
   try simp only [Ro.p]
   refine Ra.two_on (i := 7) (j := 8) rfl rfl (by kernel_rfl) (by rfl) (by rfl) ?g5_7 ?g5_8
   case' g5_7 =>
    intro K hK
    go_simp
    obtain ⟨y6, hn⟩ : ∃ x, x = y4.alloc (.cells #[.int .i64 0, .slice none 0 0] 65) := ⟨_, rfl⟩
    obtain ⟨g7, hg⟩ : ∃ g, g = y4.heap.size := ⟨_, rfl⟩
    have hs : Same y4 y6 := by rw [hn]; exact (Same.refl _).alloc _
    have hge : w1.heap.size ≤ g7 := by rw [hg]; exact hHeld.size
    have F7 := Lib.hid (fun b o e => by have := HL6.out b o e; omega : ∀ b o, AA = some ⟨b, o, none⟩ → ¬ b = g7)
    have RJ := Lib.hid (RJ.out.same hs)
    have RA_ := Lib.hid (RA_.out.same hs)
    have HL6 := Lib.hid (fun b o e => Nat.lt_of_lt_of_le (HL6.out b o e) hs.size)
    have B7 := Lib.hid (show Blk y6 g7 65 #[.int .i64 0, .slice none 0 0] by rw [hn, hg]; exact Blk.new _ _ _)
    have Hg7 := Lib.hid hge
    rw [← hn, ← hg]
    refine hK.out _ _ ?_ (fun hNew => ?_)
    ·exact hHeld.trans hs
    clear hn hg hs hge
    clear hK K hHeld; have hHeld := hNew; clear hNew
    try simp only [Ro.p]
    refine Ro.one_on (i := 8) rfl (by kernel_rfl) (by rfl) (fun K hK => ?_)
    go_simp
    obtain ⟨wz, hn⟩ : ∃ x, x = y6.alloc (.cells #[.slice none 0 0] 32) := ⟨_, rfl⟩
    obtain ⟨g8, hg⟩ : ∃ g, g = y6.heap.size := ⟨_, rfl⟩
    have hs : Same y6 wz := by rw [hn]; exact (Same.refl _).alloc _
    have hge : w1.heap.size ≤ g8 := by rw [hg]; exact hHeld.size
    have F8 := Lib.hid (fun b o e => by have := HL6.out b o e; omega : ∀ b o, AA = some ⟨b, o, none⟩ → ¬ b = g8)
    have B7 := Lib.hid (B7.out.same hs)
    have RJ := Lib.hid (RJ.out.same hs)
    have RA_ := Lib.hid (RA_.out.same hs)
    have HL6 := Lib.hid (fun b o e => Nat.lt_of_lt_of_le (HL6.out b o e) hs.size)
    have B8 := Lib.hid (show Blk wz g8 32 #[.slice none 0 0] by rw [hn, hg]; exact Blk.new _ _ _)
    have Hg8 := Lib.hid hge
    rw [← hn, ← hg]
    refine hK.out _ _ ?_ (fun hNew => ?_)
    ·exact hHeld.trans hs
    clear hn hg hs hge
    clear hK K hHeld; have hHeld := hNew; clear hNew
    try simp only [Ro.p]
   case' g5_8 =>
    intro K hK
    go_simp
    obtain ⟨y8, hn⟩ : ∃ x, x = y4.alloc (.cells #[.slice none 0 0] 32) := ⟨_, rfl⟩
    obtain ⟨g8, hg⟩ : ∃ g, g = y4.heap.size := ⟨_, rfl⟩
    have hs : Same y4 y8 := by rw [hn]; exact (Same.refl _).alloc _
    have hge : w1.heap.size ≤ g8 := by rw [hg]; exact hHeld.size
    have F8 := Lib.hid (fun b o e => by have := HL6.out b o e; omega : ∀ b o, AA = some ⟨b, o, none⟩ → ¬ b = g8)
    have RJ := Lib.hid (RJ.out.same hs)
    have RA_ := Lib.hid (RA_.out.same hs)
    have HL6 := Lib.hid (fun b o e => Nat.lt_of_lt_of_le (HL6.out b o e) hs.size)
    have B8 := Lib.hid (show Blk y8 g8 32 #[.slice none 0 0] by rw [hn, hg]; exact Blk.new _ _ _)
    have Hg8 := Lib.hid hge
    rw [← hn, ← hg]
    refine hK.out _ _ ?_ (fun hNew => ?_)
    ·exact hHeld.trans hs
    clear hn hg hs hge
    clear hK K hHeld; have hHeld := hNew; clear hNew
    try simp only [Ro.p]
    refine Ro.one_on (i := 7) rfl (by kernel_rfl) (by rfl) (fun K hK => ?_)
    go_simp
    obtain ⟨wz, hn⟩ : ∃ x, x = y8.alloc (.cells #[.int .i64 0, .slice none 0 0] 65) := ⟨_, rfl⟩
    obtain ⟨g7, hg⟩ : ∃ g, g = y8.heap.size := ⟨_, rfl⟩
    have hs : Same y8 wz := by rw [hn]; exact (Same.refl _).alloc _
    have hge : w1.heap.size ≤ g7 := by rw [hg]; exact hHeld.size
    have F7 := Lib.hid (fun b o e => by have := HL6.out b o e; omega : ∀ b o, AA = some ⟨b, o, none⟩ → ¬ b = g7)
    have B8 := Lib.hid (B8.out.same hs)
    have RJ := Lib.hid (RJ.out.same hs)
    have RA_ := Lib.hid (RA_.out.same hs)
    have HL6 := Lib.hid (fun b o e => Nat.lt_of_lt_of_le (HL6.out b o e) hs.size)
    have B7 := Lib.hid (show Blk wz g7 65 #[.int .i64 0, .slice none 0 0] by rw [hn, hg]; exact Blk.new _ _ _)
    have Hg7 := Lib.hid hge
    rw [← hn, ← hg]
    refine hK.out _ _ ?_ (fun hNew => ?_)
    ·exact hHeld.trans hs
    clear hn hg hs hge
    clear hK K hHeld; have hHeld := hNew; clear hNew
    try simp only [Ro.p]
  case' g3_7 =>
   intro K hK
   go_simp
   obtain ⟨y10, hn⟩ : ∃ x, x = y2.alloc (.cells #[.int .i64 0, .slice none 0 0] 65) := ⟨_, rfl⟩
   obtain ⟨g7, hg⟩ : ∃ g, g = y2.heap.size := ⟨_, rfl⟩
   have hs : Same y2 y10 := by rw [hn]; exact (Same.refl _).alloc _
   have hge : w1.heap.size ≤ g7 := by rw [hg]; exact hHeld.size
   have RJ := Lib.hid (RJ.out.same hs)
   have B7 := Lib.hid (show Blk y10 g7 65 #[.int .i64 0, .slice none 0 0] by rw [hn, hg]; exact Blk.new _ _ _)
   have Hg7 := Lib.hid hge
   rw [← hn, ← hg]
   refine hK.out _ _ ?_ (fun hNew => ?_)
   ·exact hHeld.trans hs
   clear hn hg hs hge
   clear hK K hHeld; have hHeld := hNew; clear hNew
   try simp only [Ro.p]
   refine Ra.two_on (i := 6) (j := 8) rfl rfl (by kernel_rfl) (by rfl) (by rfl) ?g11_6 ?g11_8
   case' g11_6 =>
    intro K hK
    go_simp
    go_at_call 72
    refine (AB.out _ hHeld).mono ?_
    rintro e y12 ⟨AA, ac, rfl, ha, hs, hf⟩
    have F7 := Lib.hid (fun b o e => by have := (hf b o e).1; have := B7.out.lt; omega : ∀ b o, AA = some ⟨b, o, none⟩ → ¬ b = g7)
    have B7 := Lib.hid (B7.out.same hs)
    have RJ := Lib.hid (RJ.out.same hs)
    have RA_ := Lib.hid ha
    have HL6 := Lib.hid (fun b o e => (hf b o e).2)
    refine hK.out _ _ ?_ (fun hNew => ?_)
    ·exact hHeld.trans hs
    clear ha hs hf
    clear hK K hHeld; have hHeld := hNew; clear hNew
    try simp only [Ro.p]
    refine Ro.one_on (i := 8) rfl (by kernel_rfl) (by rfl) (fun K hK => ?_)
    go_simp
    obtain ⟨wz, hn⟩ : ∃ x, x = y12.alloc (.cells #[.slice none 0 0] 32) := ⟨_, rfl⟩
    obtain ⟨g8, hg⟩ : ∃ g, g = y12.heap.size := ⟨_, rfl⟩
    have hs : Same y12 wz := by rw [hn]; exact (Same.refl _).alloc _
    have hge : w1.heap.size ≤ g8 := by rw [hg]; exact hHeld.size
    have F8 := Lib.hid (fun b o e => by have := HL6.out b o e; omega : ∀ b o, AA = some ⟨b, o, none⟩ → ¬ b = g8)
    have B7 := Lib.hid (B7.out.same hs)
    have RJ := Lib.hid (RJ.out.same hs)
    have RA_ := Lib.hid (RA_.out.same hs)
    have HL6 := Lib.hid (fun b o e => Nat.lt_of_lt_of_le (HL6.out b o e) hs.size)
    have B8 := Lib.hid (show Blk wz g8 32 #[.slice none 0 0] by rw [hn, hg]; exact Blk.new _ _ _)
    have Hg8 := Lib.hid hge
    rw [← hn, ← hg]
    refine hK.out _ _ ?_ (fun hNew => ?_)
    ·exact hHeld.trans hs
    clear hn hg hs hge
    clear hK K hHeld; have hHeld := hNew; clear hNew
    try simp only [Ro.p]
   case' g11_8 =>
    intro K hK
    go_simp
    obtain ⟨y14, hn⟩ : ∃ x, x = y10.alloc (.cells #[.slice none 0 0] 32) := ⟨_, rfl⟩
    obtain ⟨g8, hg⟩ : ∃ g, g = y10.heap.size := ⟨_, rfl⟩
    have hs : Same y10 y14 := by rw [hn]; exact (Same.refl _).alloc _
    have hge : w1.heap.size ≤ g8 := by rw [hg]; exact hHeld.size
    have B7 := Lib.hid (B7.out.same hs)
    have RJ := Lib.hid (RJ.out.same hs)
    have B8 := Lib.hid (show Blk y14 g8 32 #[.slice none 0 0] by rw [hn, hg]; exact Blk.new _ _ _)
    have Hg8 := Lib.hid hge
    rw [← hn, ← hg]
    refine hK.out _ _ ?_ (fun hNew => ?_)
    ·exact hHeld.trans hs
    clear hn hg hs hge
    clear hK K hHeld; have hHeld := hNew; clear hNew
    try simp only [Ro.p]
    refine Ro.one_on (i := 6) rfl (by kernel_rfl) (by rfl) (fun K hK => ?_)
    go_simp
    go_at_call 72
    refine (AB.out _ hHeld).mono ?_
    rintro e wz ⟨AA, ac, rfl, ha, hs, hf⟩
    have F7 := Lib.hid (fun b o e => by have := (hf b o e).1; have := B7.out.lt; omega : ∀ b o, AA = some ⟨b, o, none⟩ → ¬ b = g7)
    have F8 := Lib.hid (fun b o e => by have := (hf b o e).1; have := B8.out.lt; omega : ∀ b o, AA = some ⟨b, o, none⟩ → ¬ b = g8)
    have B7 := Lib.hid (B7.out.same hs)
    have B8 := Lib.hid (B8.out.same hs)
    have RJ := Lib.hid (RJ.out.same hs)
    have RA_ := Lib.hid ha
    have HL6 := Lib.hid (fun b o e => (hf b o e).2)
    refine hK.out _ _ ?_ (fun hNew => ?_)
    ·exact hHeld.trans hs
    clear ha hs hf
    clear hK K hHeld; have hHeld := hNew; clear hNew
    try simp only [Ro.p]
  case' g3_8 =>
   intro K hK
   go_simp
   obtain ⟨y16, hn⟩ : ∃ x, x = y2.alloc (.cells #[.slice none 0 0] 32) := ⟨_, rfl⟩
   obtain ⟨g8, hg⟩ : ∃ g, g = y2.heap.size := ⟨_, rfl⟩
   have hs : Same y2 y16 := by rw [hn]; exact (Same.refl _).alloc _
   have hge : w1.heap.size ≤ g8 := by rw [hg]; exact hHeld.size
   have RJ := Lib.hid (RJ.out.same hs)
   have B8 := Lib.hid (show Blk y16 g8 32 #[.slice none 0 0] by rw [hn, hg]; exact Blk.new _ _ _)
   have Hg8 := Lib.hid hge
   rw [← hn, ← hg]
   refine hK.out _ _ ?_ (fun hNew => ?_)
   ·exact hHeld.trans hs
   clear hn hg hs hge
   clear hK K hHeld; have hHeld := hNew; clear hNew
   try simp only [Ro.p]
   refine Ra.two_on (i := 6) (j := 7) rfl rfl (by kernel_rfl) (by rfl) (by rfl) ?g17_6 ?g17_7
   case' g17_6 =>
    intro K hK
    go_simp
    go_at_call 72
    refine (AB.out _ hHeld).mono ?_
    rintro e y18 ⟨AA, ac, rfl, ha, hs, hf⟩
    have F8 := Lib.hid (fun b o e => by have := (hf b o e).1; have := B8.out.lt; omega : ∀ b o, AA = some ⟨b, o, none⟩ → ¬ b = g8)
    have B8 := Lib.hid (B8.out.same hs)
    have RJ := Lib.hid (RJ.out.same hs)
    have RA_ := Lib.hid ha
    have HL6 := Lib.hid (fun b o e => (hf b o e).2)
    refine hK.out _ _ ?_ (fun hNew => ?_)
    ·exact hHeld.trans hs
    clear ha hs hf
    clear hK K hHeld; have hHeld := hNew; clear hNew
    try simp only [Ro.p]
    refine Ro.one_on (i := 7) rfl (by kernel_rfl) (by rfl) (fun K hK => ?_)
    go_simp
    obtain ⟨wz, hn⟩ : ∃ x, x = y18.alloc (.cells #[.int .i64 0, .slice none 0 0] 65) := ⟨_, rfl⟩
    obtain ⟨g7, hg⟩ : ∃ g, g = y18.heap.size := ⟨_, rfl⟩
    have hs : Same y18 wz := by rw [hn]; exact (Same.refl _).alloc _
    have hge : w1.heap.size ≤ g7 := by rw [hg]; exact hHeld.size
    have F7 := Lib.hid (fun b o e => by have := HL6.out b o e; omega : ∀ b o, AA = some ⟨b, o, none⟩ → ¬ b = g7)
    have B8 := Lib.hid (B8.out.same hs)
    have RJ := Lib.hid (RJ.out.same hs)
    have RA_ := Lib.hid (RA_.out.same hs)
    have HL6 := Lib.hid (fun b o e => Nat.lt_of_lt_of_le (HL6.out b o e) hs.size)
    have B7 := Lib.hid (show Blk wz g7 65 #[.int .i64 0, .slice none 0 0] by rw [hn, hg]; exact Blk.new _ _ _)
    have Hg7 := Lib.hid hge
    rw [← hn, ← hg]
    refine hK.out _ _ ?_ (fun hNew => ?_)
    ·exact hHeld.trans hs
    clear hn hg hs hge
    clear hK K hHeld; have hHeld := hNew; clear hNew
    try simp only [Ro.p]
   case' g17_7 =>
    intro K hK
    go_simp
    obtain ⟨y20, hn⟩ : ∃ x, x = y16.alloc (.cells #[.int .i64 0, .slice none 0 0] 65) := ⟨_, rfl⟩
    obtain ⟨g7, hg⟩ : ∃ g, g = y16.heap.size := ⟨_, rfl⟩
    have hs : Same y16 y20 := by rw [hn]; exact (Same.refl _).alloc _
    have hge : w1.heap.size ≤ g7 := by rw [hg]; exact hHeld.size
    have B8 := Lib.hid (B8.out.same hs)
    have RJ := Lib.hid (RJ.out.same hs)
    have B7 := Lib.hid (show Blk y20 g7 65 #[.int .i64 0, .slice none 0 0] by rw [hn, hg]; exact Blk.new _ _ _)
    have Hg7 := Lib.hid hge
    rw [← hn, ← hg]
    refine hK.out _ _ ?_ (fun hNew => ?_)
    ·exact hHeld.trans hs
    clear hn hg hs hge
    clear hK K hHeld; have hHeld := hNew; clear hNew
    try simp only [Ro.p]
    refine Ro.one_on (i := 6) rfl (by kernel_rfl) (by rfl) (fun K hK => ?_)
    go_simp
    go_at_call 72
    refine (AB.out _ hHeld).mono ?_
    rintro e wz ⟨AA, ac, rfl, ha, hs, hf⟩
    have F7 := Lib.hid (fun b o e => by have := (hf b o e).1; have := B7.out.lt; omega : ∀ b o, AA = some ⟨b, o, none⟩ → ¬ b = g7)
    have F8 := Lib.hid (fun b o e => by have := (hf b o e).1; have := B8.out.lt; omega : ∀ b o, AA = some ⟨b, o, none⟩ → ¬ b = g8)
    have B7 := Lib.hid (B7.out.same hs)
    have B8 := Lib.hid (B8.out.same hs)
    have RJ := Lib.hid (RJ.out.same hs)
    have RA_ := Lib.hid ha
    have HL6 := Lib.hid (fun b o e => (hf b o e).2)
    refine hK.out _ _ ?_ (fun hNew => ?_)
    ·exact hHeld.trans hs
    clear ha hs hf
    clear hK K hHeld; have hHeld := hNew; clear hNew
    try simp only [Ro.p]
 case' g1_7 =>
  intro K hK
  go_simp
  obtain ⟨y22, hn⟩ : ∃ x, x = wd.alloc (.cells #[.int .i64 0, .slice none 0 0] 65) := ⟨_, rfl⟩
  obtain ⟨g7, hg⟩ : ∃ g, g = wd.heap.size := ⟨_, rfl⟩
  have hs : Same wd y22 := by rw [hn]; exact (Same.refl _).alloc _
  have hge : w1.heap.size ≤ g7 := by rw [hg]; exact hHeld.size
  have B7 := Lib.hid (show Blk y22 g7 65 #[.int .i64 0, .slice none 0 0] by rw [hn, hg]; exact Blk.new _ _ _)
  have Hg7 := Lib.hid hge
  rw [← hn, ← hg]
  refine hK.out _ _ ?_ (fun hNew => ?_)
  ·exact hHeld.trans hs
  clear hn hg hs hge
  clear hK K hHeld; have hHeld := hNew; clear hNew
  try simp only [Ro.p]
  refine Ra.two_on (i := 2) (j := 8) rfl rfl (by kernel_rfl) (by rfl) (by rfl) ?g23_2 ?g23_8
  case' g23_2 =>
   intro K hK
   go_simp
   go_at_call 41
   refine (JO.out _ hHeld).mono ?_
   rintro e y24 ⟨RA, rc, rfl, hj, hs⟩
   have B7 := Lib.hid (B7.out.same hs)
   have RJ := Lib.hid hj
   refine hK.out _ _ ?_ (fun hNew => ?_)
   ·exact hHeld.trans hs
   clear hj hs
   clear hK K hHeld; have hHeld := hNew; clear hNew
   try simp only [Ro.p]
   refine Ra.two_on (i := 6) (j := 8) rfl rfl (by kernel_rfl) (by rfl) (by rfl) ?g25_6 ?g25_8
   case' g25_6 =>
    intro K hK
    go_simp
    go_at_call 72
    refine (AB.out _ hHeld).mono ?_
    rintro e y26 ⟨AA, ac, rfl, ha, hs, hf⟩
    have F7 := Lib.hid (fun b o e => by have := (hf b o e).1; have := B7.out.lt; omega : ∀ b o, AA = some ⟨b, o, none⟩ → ¬ b = g7)
    have B7 := Lib.hid (B7.out.same hs)
    have RJ := Lib.hid (RJ.out.same hs)
    have RA_ := Lib.hid ha
    have HL6 := Lib.hid (fun b o e => (hf b o e).2)
    refine hK.out _ _ ?_ (fun hNew => ?_)
    ·exact hHeld.trans hs
    clear ha hs hf
    clear hK K hHeld; have hHeld := hNew; clear hNew
    try simp only [Ro.p]
    refine Ro.one_on (i := 8) rfl (by kernel_rfl) (by rfl) (fun K hK => ?_)
    go_simp
    obtain ⟨wz, hn⟩ : ∃ x, x = y26.alloc (.cells #[.slice none 0 0] 32) := ⟨_, rfl⟩
    obtain ⟨g8, hg⟩ : ∃ g, g = y26.heap.size := ⟨_, rfl⟩
    have hs : Same y26 wz := by rw [hn]; exact (Same.refl _).alloc _
    have hge : w1.heap.size ≤ g8 := by rw [hg]; exact hHeld.size
    have F8 := Lib.hid (fun b o e => by have := HL6.out b o e; omega : ∀ b o, AA = some ⟨b, o, none⟩ → ¬ b = g8)
    have B7 := Lib.hid (B7.out.same hs)
    have RJ := Lib.hid (RJ.out.same hs)
    have RA_ := Lib.hid (RA_.out.same hs)
    have HL6 := Lib.hid (fun b o e => Nat.lt_of_lt_of_le (HL6.out b o e) hs.size)
    have B8 := Lib.hid (show Blk wz g8 32 #[.slice none 0 0] by rw [hn, hg]; exact Blk.new _ _ _)
    have Hg8 := Lib.hid hge
    rw [← hn, ← hg]
    refine hK.out _ _ ?_ (fun hNew => ?_)
    ·exact hHeld.trans hs
    clear hn hg hs hge
    clear hK K hHeld; have hHeld := hNew; clear hNew
    try simp only [Ro.p]
   case' g25_8 =>
    intro K hK
    go_simp
    obtain ⟨y28, hn⟩ : ∃ x, x = y24.alloc (.cells #[.slice none 0 0] 32) := ⟨_, rfl⟩
    obtain ⟨g8, hg⟩ : ∃ g, g = y24.heap.size := ⟨_, rfl⟩
    have hs : Same y24 y28 := by rw [hn]; exact (Same.refl _).alloc _
    have hge : w1.heap.size ≤ g8 := by rw [hg]; exact hHeld.size
    have B7 := Lib.hid (B7.out.same hs)
    have RJ := Lib.hid (RJ.out.same hs)
    have B8 := Lib.hid (show Blk y28 g8 32 #[.slice none 0 0] by rw [hn, hg]; exact Blk.new _ _ _)
    have Hg8 := Lib.hid hge
    rw [← hn, ← hg]
    refine hK.out _ _ ?_ (fun hNew => ?_)
    ·exact hHeld.trans hs
    clear hn hg hs hge
    clear hK K hHeld; have hHeld := hNew; clear hNew
    try simp only [Ro.p]
    refine Ro.one_on (i := 6) rfl (by kernel_rfl) (by rfl) (fun K hK => ?_)
    go_simp
    go_at_call 72
    refine (AB.out _ hHeld).mono ?_
    rintro e wz ⟨AA, ac, rfl, ha, hs, hf⟩
    have F7 := Lib.hid (fun b o e => by have := (hf b o e).1; have := B7.out.lt; omega : ∀ b o, AA = some ⟨b, o, none⟩ → ¬ b = g7)
    have F8 := Lib.hid (fun b o e => by have := (hf b o e).1; have := B8.out.lt; omega : ∀ b o, AA = some ⟨b, o, none⟩ → ¬ b = g8)
    have B7 := Lib.hid (B7.out.same hs)
    have B8 := Lib.hid (B8.out.same hs)
    have RJ := Lib.hid (RJ.out.same hs)
    have RA_ := Lib.hid ha
    have HL6 := Lib.hid (fun b o e => (hf b o e).2)
    refine hK.out _ _ ?_ (fun hNew => ?_)
    ·exact hHeld.trans hs
    clear ha hs hf
    clear hK K hHeld; have hHeld := hNew; clear hNew
    try simp only [Ro.p]
  case' g23_8 =>
   intro K hK
   go_simp
   obtain ⟨y30, hn⟩ : ∃ x, x = y22.alloc (.cells #[.slice none 0 0] 32) := ⟨_, rfl⟩
   obtain ⟨g8, hg⟩ : ∃ g, g = y22.heap.size := ⟨_, rfl⟩
   have hs : Same y22 y30 := by rw [hn]; exact (Same.refl _).alloc _
   have hge : w1.heap.size ≤ g8 := by rw [hg]; exact hHeld.size
   have B7 := Lib.hid (B7.out.same hs)
   have B8 := Lib.hid (show Blk y30 g8 32 #[.slice none 0 0] by rw [hn, hg]; exact Blk.new _ _ _)
   have Hg8 := Lib.hid hge
   rw [← hn, ← hg]
   refine hK.out _ _ ?_ (fun hNew => ?_)
   ·exact hHeld.trans hs
   clear hn hg hs hge
   clear hK K hHeld; have hHeld := hNew; clear hNew
   try simp only [Ro.p]
   refine Ro.one_on (i := 2) rfl (by kernel_rfl) (by rfl) (fun K hK => ?_)
   go_simp
   go_at_call 41
   refine (JO.out _ hHeld).mono ?_
   rintro e y31 ⟨RA, rc, rfl, hj, hs⟩
   have B7 := Lib.hid (B7.out.same hs)
   have B8 := Lib.hid (B8.out.same hs)
   have RJ := Lib.hid hj
   refine hK.out _ _ ?_ (fun hNew => ?_)
   ·exact hHeld.trans hs
   clear hj hs
   clear hK K hHeld; have hHeld := hNew; clear hNew
   try simp only [Ro.p]
   refine Ro.one_on (i := 6) rfl (by kernel_rfl) (by rfl) (fun K hK => ?_)
   go_simp
   go_at_call 72
   refine (AB.out _ hHeld).mono ?_
   rintro e wz ⟨AA, ac, rfl, ha, hs, hf⟩
   have F7 := Lib.hid (fun b o e => by have := (hf b o e).1; have := B7.out.lt; omega : ∀ b o, AA = some ⟨b, o, none⟩ → ¬ b = g7)
   have F8 := Lib.hid (fun b o e => by have := (hf b o e).1; have := B8.out.lt; omega : ∀ b o, AA = some ⟨b, o, none⟩ → ¬ b = g8)
   have B7 := Lib.hid (B7.out.same hs)
   have B8 := Lib.hid (B8.out.same hs)
   have RJ := Lib.hid (RJ.out.same hs)
   have RA_ := Lib.hid ha
   have HL6 := Lib.hid (fun b o e => (hf b o e).2)
   refine hK.out _ _ ?_ (fun hNew => ?_)
   ·exact hHeld.trans hs
   clear ha hs hf
   clear hK K hHeld; have hHeld := hNew; clear hNew
   try simp only [Ro.p]
 case' g1_8 =>
  intro K hK
  go_simp
  obtain ⟨y33, hn⟩ : ∃ x, x = wd.alloc (.cells #[.slice none 0 0] 32) := ⟨_, rfl⟩
  obtain ⟨g8, hg⟩ : ∃ g, g = wd.heap.size := ⟨_, rfl⟩
  have hs : Same wd y33 := by rw [hn]; exact (Same.refl _).alloc _
  have hge : w1.heap.size ≤ g8 := by rw [hg]; exact hHeld.size
  have B8 := Lib.hid (show Blk y33 g8 32 #[.slice none 0 0] by rw [hn, hg]; exact Blk.new _ _ _)
  have Hg8 := Lib.hid hge
  rw [← hn, ← hg]
  refine hK.out _ _ ?_ (fun hNew => ?_)
  ·exact hHeld.trans hs
  clear hn hg hs hge
  clear hK K hHeld; have hHeld := hNew; clear hNew
  try simp only [Ro.p]
  refine Ra.two_on (i := 2) (j := 7) rfl rfl (by kernel_rfl) (by rfl) (by rfl) ?g34_2 ?g34_7
  case' g34_2 =>
   intro K hK
   go_simp
   go_at_call 41
   refine (JO.out _ hHeld).mono ?_
   rintro e y35 ⟨RA, rc, rfl, hj, hs⟩
   have B8 := Lib.hid (B8.out.same hs)
   have RJ := Lib.hid hj
   refine hK.out _ _ ?_ (fun hNew => ?_)
   ·exact hHeld.trans hs
   clear hj hs
   clear hK K hHeld; have hHeld := hNew; clear hNew
   try simp only [Ro.p]
   refine Ra.two_on (i := 6) (j := 7) rfl rfl (by kernel_rfl) (by rfl) (by rfl) ?g36_6 ?g36_7
   case' g36_6 =>
    intro K hK
    go_simp
    go_at_call 72
    refine (AB.out _ hHeld).mono ?_
    rintro e y37 ⟨AA, ac, rfl, ha, hs, hf⟩
    have F8 := Lib.hid (fun b o e => by have := (hf b o e).1; have := B8.out.lt; omega : ∀ b o, AA = some ⟨b, o, none⟩ → ¬ b = g8)
    have B8 := Lib.hid (B8.out.same hs)
    have RJ := Lib.hid (RJ.out.same hs)
    have RA_ := Lib.hid ha
    have HL6 := Lib.hid (fun b o e => (hf b o e).2)
    refine hK.out _ _ ?_ (fun hNew => ?_)
    ·exact hHeld.trans hs
    clear ha hs hf
    clear hK K hHeld; have hHeld := hNew; clear hNew
    try simp only [Ro.p]
    refine Ro.one_on (i := 7) rfl (by kernel_rfl) (by rfl) (fun K hK => ?_)
    go_simp
    obtain ⟨wz, hn⟩ : ∃ x, x = y37.alloc (.cells #[.int .i64 0, .slice none 0 0] 65) := ⟨_, rfl⟩
    obtain ⟨g7, hg⟩ : ∃ g, g = y37.heap.size := ⟨_, rfl⟩
    have hs : Same y37 wz := by rw [hn]; exact (Same.refl _).alloc _
    have hge : w1.heap.size ≤ g7 := by rw [hg]; exact hHeld.size
    have F7 := Lib.hid (fun b o e => by have := HL6.out b o e; omega : ∀ b o, AA = some ⟨b, o, none⟩ → ¬ b = g7)
    have B8 := Lib.hid (B8.out.same hs)
    have RJ := Lib.hid (RJ.out.same hs)
    have RA_ := Lib.hid (RA_.out.same hs)
    have HL6 := Lib.hid (fun b o e => Nat.lt_of_lt_of_le (HL6.out b o e) hs.size)
    have B7 := Lib.hid (show Blk wz g7 65 #[.int .i64 0, .slice none 0 0] by rw [hn, hg]; exact Blk.new _ _ _)
    have Hg7 := Lib.hid hge
    rw [← hn, ← hg]
    refine hK.out _ _ ?_ (fun hNew => ?_)
    ·exact hHeld.trans hs
    clear hn hg hs hge
    clear hK K hHeld; have hHeld := hNew; clear hNew
    try simp only [Ro.p]
   case' g36_7 =>
    intro K hK
    go_simp
    obtain ⟨y39, hn⟩ : ∃ x, x = y35.alloc (.cells #[.int .i64 0, .slice none 0 0] 65) := ⟨_, rfl⟩
    obtain ⟨g7, hg⟩ : ∃ g, g = y35.heap.size := ⟨_, rfl⟩
    have hs : Same y35 y39 := by rw [hn]; exact (Same.refl _).alloc _
    have hge : w1.heap.size ≤ g7 := by rw [hg]; exact hHeld.size
    have B8 := Lib.hid (B8.out.same hs)
    have RJ := Lib.hid (RJ.out.same hs)
    have B7 := Lib.hid (show Blk y39 g7 65 #[.int .i64 0, .slice none 0 0] by rw [hn, hg]; exact Blk.new _ _ _)
    have Hg7 := Lib.hid hge
    rw [← hn, ← hg]
    refine hK.out _ _ ?_ (fun hNew => ?_)
    ·exact hHeld.trans hs
    clear hn hg hs hge
    clear hK K hHeld; have hHeld := hNew; clear hNew
    try simp only [Ro.p]
    refine Ro.one_on (i := 6) rfl (by kernel_rfl) (by rfl) (fun K hK => ?_)
    go_simp
    go_at_call 72
    refine (AB.out _ hHeld).mono ?_
    rintro e wz ⟨AA, ac, rfl, ha, hs, hf⟩
    have F7 := Lib.hid (fun b o e => by have := (hf b o e).1; have := B7.out.lt; omega : ∀ b o, AA = some ⟨b, o, none⟩ → ¬ b = g7)
    have F8 := Lib.hid (fun b o e => by have := (hf b o e).1; have := B8.out.lt; omega : ∀ b o, AA = some ⟨b, o, none⟩ → ¬ b = g8)
    have B7 := Lib.hid (B7.out.same hs)
    have B8 := Lib.hid (B8.out.same hs)
    have RJ := Lib.hid (RJ.out.same hs)
    have RA_ := Lib.hid ha
    have HL6 := Lib.hid (fun b o e => (hf b o e).2)
    refine hK.out _ _ ?_ (fun hNew => ?_)
    ·exact hHeld.trans hs
    clear ha hs hf
    clear hK K hHeld; have hHeld := hNew; clear hNew
    try simp only [Ro.p]
  case' g34_7 =>
   intro K hK
   go_simp
   obtain ⟨y41, hn⟩ : ∃ x, x = y33.alloc (.cells #[.int .i64 0, .slice none 0 0] 65) := ⟨_, rfl⟩
   obtain ⟨g7, hg⟩ : ∃ g, g = y33.heap.size := ⟨_, rfl⟩
   have hs : Same y33 y41 := by rw [hn]; exact (Same.refl _).alloc _
   have hge : w1.heap.size ≤ g7 := by rw [hg]; exact hHeld.size
   have B8 := Lib.hid (B8.out.same hs)
   have B7 := Lib.hid (show Blk y41 g7 65 #[.int .i64 0, .slice none 0 0] by rw [hn, hg]; exact Blk.new _ _ _)
   have Hg7 := Lib.hid hge
   rw [← hn, ← hg]
   refine hK.out _ _ ?_ (fun hNew => ?_)
   ·exact hHeld.trans hs
   clear hn hg hs hge
   clear hK K hHeld; have hHeld := hNew; clear hNew
   try simp only [Ro.p]
   refine Ro.one_on (i := 2) rfl (by kernel_rfl) (by rfl) (fun K hK => ?_)
   go_simp
   go_at_call 41
   refine (JO.out _ hHeld).mono ?_
   rintro e y42 ⟨RA, rc, rfl, hj, hs⟩
   have B7 := Lib.hid (B7.out.same hs)
   have B8 := Lib.hid (B8.out.same hs)
   have RJ := Lib.hid hj
   refine hK.out _ _ ?_ (fun hNew => ?_)
   ·exact hHeld.trans hs
   clear hj hs
   clear hK K hHeld; have hHeld := hNew; clear hNew
   try simp only [Ro.p]
   refine Ro.one_on (i := 6) rfl (by kernel_rfl) (by rfl) (fun K hK => ?_)
   go_simp
   go_at_call 72
   refine (AB.out _ hHeld).mono ?_
   rintro e wz ⟨AA, ac, rfl, ha, hs, hf⟩
   have F7 := Lib.hid (fun b o e => by have := (hf b o e).1; have := B7.out.lt; omega : ∀ b o, AA = some ⟨b, o, none⟩ → ¬ b = g7)
   have F8 := Lib.hid (fun b o e => by have := (hf b o e).1; have := B8.out.lt; omega : ∀ b o, AA = some ⟨b, o, none⟩ → ¬ b = g8)
   have B7 := Lib.hid (B7.out.same hs)
   have B8 := Lib.hid (B8.out.same hs)
   have RJ := Lib.hid (RJ.out.same hs)
   have RA_ := Lib.hid ha
   have HL6 := Lib.hid (fun b o e => (hf b o e).2)
   refine hK.out _ _ ?_ (fun hNew => ?_)
   ·exact hHeld.trans hs
   clear ha hs hf
   clear hK K hHeld; have hHeld := hNew; clear hNew
   try simp only [Ro.p]
 all_goals
  refine Ro.one_on (i := 9) rfl (by kernel_rfl) (by rfl) (fun K hK => ?_)
  refine wp_store_row 65 (.tmp 7) (.tmp 11) rfl g7 #[.int .i64 (jobC s i), .slice RA (jobR s i).length rc] rfl rfl 65 #[.int .i64 0, .slice none 0 0] B7.out HIF.out rfl (by simp [Value.oneCell']) ?_
  obtain ⟨w8, hn⟩ : ∃ x, x = World.setRow wz g7 #[.int .i64 (jobC s i), .slice RA (jobR s i).length rc] := ⟨_, rfl⟩
  have hc : Chg (fun i => i = g7) wz w8 := by rw [hn]; exact Dm.chgRow (S := fun i => i = g7) (Chg.refl _ _) (.inl rfl) _
  have B8 := Lib.hid (B8.out.chg hc (B8.out.ne B7.out (by decide)))
  have RJ := Lib.hid (row_chg RJ.out hc (fun b o e h => row6_ne RJ.out B7.out (by simp) b o e h))
  have RA_ := Lib.hid (row_chg RA_.out hc (fun b o e _ => F7.out b o e))
  have B7 := Lib.hid (show Blk w8 g7 65 #[.int .i64 (jobC s i), .slice RA (jobR s i).length rc] by rw [hn]; exact Dm.rowb B7.out)
  have hs8 : Same w1 w8 := Same.more hHeld hc (fun i hi => by have := Hg7.out; omega)
  rw [← hn]
  refine hK.out _ _ hs8 (fun hNew => ?_)
  clear hn hc hs8
  clear hK K hHeld; have hHeld := hNew; clear hNew
  try simp only [Ro.p]
  refine Ro.one_on (i := 10) rfl (by kernel_rfl) (by rfl) (fun K hK => ?_)
  have z8 := B8.out.cell 0
  simp only [List.getElem?_toArray, List.getElem?_cons_zero] at z8
  have f8 := B8.out.thaw 0
  go_simp
  obtain ⟨w9, hn⟩ : ∃ x, x = w8.setCell ⟨g8, 0, none⟩ (.slice AA (aboveI s.ts i n).length ac) := ⟨_, rfl⟩
  have hc : Chg (fun i => i = g8) w8 w9 := by rw [hn]; exact (Chg.refl (fun i => i = g8) w8).set (p := ⟨g8, 0, none⟩) (.inl rfl) _
  have B7 := Lib.hid (B7.out.chg hc (B7.out.ne B8.out (by decide)))
  have RJ := Lib.hid (row_chg RJ.out hc (fun b o e h => row6_ne RJ.out B8.out (by simp) b o e h))
  have RA_ := Lib.hid (row_chg RA_.out hc (fun b o e _ => F8.out b o e))
  have B8 := Lib.hid (show Blk w9 g8 32 #[.slice AA (aboveI s.ts i n).length ac] by rw [hn]; exact B8.out.put 0 _)
  have hs9 : Same w1 w9 := Same.more hHeld hc (fun i hi => by have := Hg8.out; omega)
  rw [← hn]
  refine hK.out _ _ hs9 (fun hNew => ?_)
  clear hn hc z8 f8
  clear hK K hHeld hNew
  try simp only [Ro.p]
  refine wpAnyH_done (by kernel_rfl) ?_ _
  have HLD := Lib.hid (show LdAt w9 s i costs A B C n c m d cl cc g7 g8 q5 q3 RA AA rc (aboveI s.ts i n).length ac from ⟨B7.out, RJ.out, B8.out, by rw [HS.out.hn], by rw [HS.out.hn]; exact RA_.out, HB5.out.same hs9, HCL.out, HRC.out.same hs9, HB3.out.same hs9, HS.out.same hs9⟩)
  have HSF := Lib.hid hs9
  clear hs9 B7 B8 RJ RA_ HS
  go_wp2_with fail
  go_ret
  exact loadP_mk HLD.out (S1.out.trans HSF.out)
end Go.Proofs.YthhbhbfkbncegaaGreatDoor.Rt
end
