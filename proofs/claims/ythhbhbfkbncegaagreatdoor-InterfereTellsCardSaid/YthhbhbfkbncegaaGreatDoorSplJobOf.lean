/-

  Package spoil: JobOf: what a job takes, and all its reads; package interfere: Job.
-/
import Derived.Test.YthhbhbfkbncegaaGreatDoorSplUse
import Derived.Test.YthhbhbfkbncegaaGreatDoorSplOf
import Derived.Test.YthhbhbfkbncegaaGreatDoorDmdMost
import Derived.Test.YthhbhbfkbncegaaGreatDoorOperApp
import Derived.Test.YthhbhbfkbncegaaGreatDoorHeldB
import Derived.Test.YthhbhbfkbncegaaGreatDoorCstWeigh
section
set_option linter.unusedVariables false
set_option linter.unusedSimpArgs false
namespace Go.Proofs.YthhbhbfkbncegaaGreatDoor.Sl
open Go.ChangeShapes Go.WideShapes Go.ChangeAt Go.RowKit Ws
open Go.Proofs.YthhbhbfkbncegaaGreatDoor.Wd (ret_bool ret_int mulv ceilv addv)
theorem rcells_len (x : SR) : (rcells x).length = 6 := rfl
theorem flat_get : ∀ (l : List SR) (k j : Nat) (x : SR), l[k]? = some x → j < 6 → (l.flatMap rcells)[k * 6 + j]? = (rcells x)[j]?
  | [], k, j, x, h, _ => by cases h
  | y :: l, 0, j, x, h, hj => by
    obtain rfl : y = x := Option.some.inj h
    rw [List.flatMap_cons, Nat.zero_mul, Nat.zero_add, List.getElem?_append_left (by rw [rcells_len]; exact hj)]
  | y :: l, k + 1, j, x, h, hj => by
    rw [List.flatMap_cons, List.getElem?_append_right (by rw [rcells_len]; omega), rcells_len, show (k + 1) * 6 + j - 6 = k * 6 + j by omega]
    exact flat_get l k j x h hj
theorem rs_at {w : World} {A : Option Addr} {l : List SR} (h : Row w A (l.flatMap rcells)) {k : Nat} {x : SR} (hk : l[k]? = some x) :
    ∃ b o, A = some ⟨b, o, none⟩ ∧ w.cell? ⟨b, o + k * 6, none⟩ = some (.int .i64 x.k) ∧ w.cell? ⟨b, o + k * 6 + 1, none⟩ = some (.int .i64 x.sl) ∧ w.cell? ⟨b, o + k * 6 + 2, none⟩ = some (.int .i64 x.fl) ∧ w.cell? ⟨b, o + k * 6 + 3, none⟩ = some (.bool x.ah) ∧ w.cell? ⟨b, o + k * 6 + 4, none⟩ = some (.int .i64 x.wr) ∧ w.cell? ⟨b, o + k * 6 + 5, none⟩ = some (.int .i64 x.pr) := by
  obtain ⟨b, o, hA, _⟩ := h (k * 6 + 0) _ ((flat_get l k 0 x hk (by omega)).trans rfl)
  have key : ∀ j v, j < 6 → (rcells x)[j]? = some v → w.cell? ⟨b, o + k * 6 + j, none⟩ = some v := fun j v hj hv => by
    obtain ⟨b', o', hA', hc⟩ := h (k * 6 + j) v ((flat_get l k j x hk hj).trans hv)
    rw [hA] at hA'
    injection hA' with hA'
    injection hA' with h1 h2
    subst h1 h2
    rw [Nat.add_assoc]
    exact hc
  exact ⟨b, o, hA, key 0 _ (by omega) rfl, key 1 _ (by omega) rfl, key 2 _ (by omega) rfl, key 3 _ (by omega) rfl, key 4 _ (by omega) rfl, key 5 _ (by omega) rfl⟩
theorem steps_take {n : Int} {l : List SR} {k : Nat} {x : SR} {r : Int} (h : l[k]? = some x) : stepsR n (l.take (k + 1)) r = addv (stepsR n (l.take k) r) (mulv (flR x r) x.fl) := by
  rw [List.take_add_one, h]
  exact steps_snoc n (l.take k) x r
set_option maxRecDepth 100000 in
set_option maxHeartbeats 4000000 in
theorem steps_any (cl : Int) (A : Option Addr) (n c : Nat) (l : List SR) (r : Int) (br : -9223372036854775808 ≤ r ∧ r ≤ 9223372036854775807) (bs : ∀ x ∈ l, x.sl ≤ 9223372036854775807) (w : World) (hl : l.length = n) (hn : (n : Int) ≤ 9223372036854775807) (hr : Row w A (l.flatMap rcells)) :
    Calls Tryz.prog 42 #[.agg #[.int .i64 cl, .slice A n c], .int .i64 r] w fun e w' => e = .returned (.int .i64 (stepsR cl l r)) ∧ Same w w' := by
  obtain ⟨w0, hw0⟩ : ∃ w0, w0 = w.alloc (.cells #[.int .i64 cl, .slice A n c] 65) := ⟨_, rfl⟩
  obtain ⟨g, hg⟩ : ∃ g, g = w.heap.size := ⟨_, rfl⟩
  have s0 : Same w w0 := hw0 ▸ (Same.refl w).alloc _
  have b0 : Blk w0 g 65 #[.int .i64 cl, .slice A n c] := by rw [hw0, hg]; exact Blk.new w _ _
  have HE0 := Lib.hid hw0
  have HG := Lib.hid hg
  have S0 := Lib.hid s0
  have HR := Lib.hid (hr.same s0)
  have HL := Lib.hid hl
  have HBS := Lib.hid bs
  obtain ⟨c0, c1⟩ := (⟨b0.cell 0, b0.cell 1⟩ : _ ∧ _)
  simp only [List.getElem?_toArray, List.getElem?_cons_zero, List.getElem?_cons_succ] at c0 c1
  clear hw0 hg s0 b0 hr hl bs
  go_enter Tryz.func42, Tryz.ntmps42
  go_upto_region 1 with fail
  rw [← HE0.out, ← HG.out]
  clear HE0 HG
  go_wp2_with fail
  go_loopg [5, 13] n (fun gk nv iv wx => ∃ k : Nat, k + gk = n ∧ iv = .int .i64 k ∧ nv = .int .i64 (stepsR cl (l.take k) r) ∧ Same w0 wx)
  case atStart => exact ⟨0, by omega, rfl, rfl, Same.refl _⟩
  case round =>
    obtain ⟨k, hk, rfl, rfl, sx⟩ := hrel
    have HSX := Lib.hid sx
    clear sx c0 c1
    cases gk with
    | zero =>
      obtain rfl : k = n := by omega
      have hge : ¬ (k : Int) < (k : Int) := by omega
      have HT := Lib.hid (show l.take k = l from List.take_of_length_le (by have := HL.out; omega))
      go_wp2_with fail
      go_ret
      exact ⟨ret_int (by rw [HT.out]), S0.out.trans HSX.out⟩
    | succ GK =>
      have hlt : (k : Int) < n := by omega
      have hk0 : (0 : Int) ≤ k := by omega
      have HKK := Lib.hid hk
      clear hk
      obtain ⟨x, hx⟩ : ∃ x, l[k]? = some x := ⟨l[k]'(by have := HL.out; omega), List.getElem?_eq_getElem _⟩
      obtain ⟨b, o, rfl, y0, y1, y2, y3, y4, y5⟩ := rs_at (HR.out.same HSX.out) hx
      have HST := Lib.hid (steps_take (n := cl) (r := r) hx)
      have FS := Lib.hid (fun W => fails_sp x r (HBS.out x (List.mem_of_getElem? hx)) br W)
      clear hx
      generalize stepsR cl (l.take k) r = v at *
      obtain ⟨xk, xs, xf, xa, xw, xp⟩ := x
      replace FS := Lib.hid (fun W => (show Calls Tryz.prog 40 #[.agg #[.int .i64 xk, .int .i64 xs, .int .i64 xf, .bool xa, .int .i64 xw, .int .i64 xp], .int .i64 r] W fun e w' => e = .returned (.int .i64 (flR ⟨xk, xs, xf, xa, xw, xp⟩ r)) ∧ Same W w' from FS.out W))
      dsimp only at y0 y1 y2 y3 y4 y5 HST
      have HX := Lib.hid (Blk.new wr 59 #[.int .i64 xk, .int .i64 xs, .int .i64 xf, .bool xa, .int .i64 xw, .int .i64 xp])
      have HS5 := Lib.hid (HSX.out.alloc (.cells #[.int .i64 xk, .int .i64 xs, .int .i64 xf, .bool xa, .int .i64 xw, .int .i64 xp] 59))
      go_upto_region 5 with fail
      generalize wr.alloc (.cells #[.int .i64 xk, .int .i64 xs, .int .i64 xf, .bool xa, .int .i64 xw, .int .i64 xp] 59) = w5 at *
      generalize wr.heap.size = q5 at *
      clear y0 y1 y2 y3 y4 y5
      refine wp_region_held_drew (S := fun w' => Same w5 w') (by kernel_rfl) ?_ (fun hHeld => ?_)
      · exact (Same.refl w5).drew
      refine Ro.tn 0 ?_ ?_ ?_
      rotate_left
      · intro wS hSw; (try dsimp only at hSw); go_simp; try with_reducible rfl
      try simp only [Ro.p]
      refine Ro.tn 1 ?_ ?_ ?_
      rotate_left
      · intro wS hSw; (try dsimp only at hSw); obtain ⟨v0, v1, v2, v3, v4, v5⟩ := (⟨(HX.out.same hSw).cell 0, (HX.out.same hSw).cell 1, (HX.out.same hSw).cell 2, (HX.out.same hSw).cell 3, (HX.out.same hSw).cell 4, (HX.out.same hSw).cell 5⟩ : _ ∧ _ ∧ _ ∧ _ ∧ _ ∧ _); simp only [List.getElem?_toArray, List.getElem?_cons_zero, List.getElem?_cons_succ] at v0 v1 v2 v3 v4 v5; go_simp; try with_reducible rfl
      try simp only [Ro.p]
      refine Ro.tn 2 ?_ ?_ ?_
      rotate_left
      · intro wS hSw; (try dsimp only at hSw); go_simp; try with_reducible rfl
      try simp only [Ro.p]
      refine Ro.tn 4 ?_ ?_ ?_
      rotate_left
      · intro wS hSw; (try dsimp only at hSw); go_simp; try with_reducible rfl
      try simp only [Ro.p]
      refine Ro.tn 5 ?_ ?_ ?_
      rotate_left
      · intro wS hSw; (try dsimp only at hSw); obtain ⟨v0, v1, v2, v3, v4, v5⟩ := (⟨(HX.out.same hSw).cell 0, (HX.out.same hSw).cell 1, (HX.out.same hSw).cell 2, (HX.out.same hSw).cell 3, (HX.out.same hSw).cell 4, (HX.out.same hSw).cell 5⟩ : _ ∧ _ ∧ _ ∧ _ ∧ _ ∧ _); simp only [List.getElem?_toArray, List.getElem?_cons_zero, List.getElem?_cons_succ] at v0 v1 v2 v3 v4 v5; go_simp; try with_reducible rfl
      try simp only [Ro.p]
      refine Ro.one_on (i := 3) rfl (by kernel_rfl) (by rfl) (fun K hK => ?_)
      go_simp
      go_at_call 40
      refine (FS.out _).mono ?_
      rintro e w6 ⟨rfl, s6⟩
      refine hK.out _ _ ?_ (fun hNew => ?_)
      · exact hHeld.trans s6
      clear hK K hHeld; have hHeld := hNew; clear hNew
      try simp only [Ro.p]
      refine Ro.one_on (i := 6) rfl (by kernel_rfl) (by rfl) (fun K hK => ?_)
      go_simp
      go_at_call 64
      refine (Wd.wmul _ _ _).mono ?_
      rintro e w7 ⟨rfl, rfl⟩
      refine hK.out _ _ ?_ (fun hNew => ?_)
      · exact hHeld
      clear hK K hHeld; have hHeld := hNew; clear hNew
      try simp only [Ro.p]
      refine Ro.one_on (i := 7) rfl (by kernel_rfl) (by rfl) (fun K hK => ?_)
      go_simp
      go_at_call 67
      refine (Wd.wadd _ _ _).mono ?_
      rintro e w8 ⟨rfl, rfl⟩
      refine hK.out _ _ ?_ (fun hNew => ?_)
      · exact hHeld
      clear hK K hHeld; have hHeld := hNew; clear hNew
      try simp only [Ro.p]
      refine Ro.tn 8 ?_ ?_ ?_
      rotate_left
      · intro wS hSw; (try dsimp only at hSw); go_simp; try with_reducible rfl
      try simp only [Ro.p]
      refine wpAnyH_done (by kernel_rfl) ?_ _
      go_wp2_with fail
      go_roundg GK
      case rel => exact ⟨k + 1, by have := HKK.out; omega, by go_num, by rw [HST.out], HS5.out.trans hHeld⟩
      case measure => omega
end Go.Proofs.YthhbhbfkbncegaaGreatDoor.Sl
end
section
set_option linter.unusedVariables false
set_option linter.unusedSimpArgs false
namespace Go.Proofs.YthhbhbfkbncegaaGreatDoor.Sl
open Go.ChangeShapes Go.WideShapes Go.ChangeAt Go.RowKit Ws
open Im (PT PO PS TsAt OsAt SysAt tcells ocells)
open Dm (demI dearI dearE)
theorem job_info : (Tryz.prog.info? 65).map (·.size) = some 2 := by kernel_rfl
theorem reads_info3 : (Tryz.prog.info? 59).map (fun i => (i.zero, i.size, i.bytes)) = some (some (.agg #[.int .i64 0, .int .i64 0, .int .i64 0, .bool false, .int .i64 0, .int .i64 0]), 6, 48) := by kernel_rfl
theorem rcells_one (x : SR) : ∀ u ∈ rcells x, u.oneCell' = true := by
  intro u hu
  simp only [rcells, List.mem_cons, List.not_mem_nil, or_false] at hu
  rcases hu with rfl | rfl | rfl | rfl | rfl | rfl <;> rfl
noncomputable def jobC (s : PS) (i : Int) : Int := if dearE s i 0 = 0 then dearI s i 0 else 0
noncomputable def jobR (s : PS) (i : Int) : List SR := if dearE s i 0 = 0 then jobL s i s.os.length else []
theorem job_is (s : PS) (i r : Int) : stepsR (jobC s i) (jobR s i) r = jobI s i r := by
  unfold jobC jobR jobI
  split <;> rfl
theorem job_no' {s : PS} {i : Int} (h : ¬ dearE s i 0 = 0) : jobC s i = 0 ∧ jobR s i = [] := ⟨if_neg h, if_neg h⟩
theorem job_yes' {s : PS} {i : Int} (h : dearE s i 0 = 0) : jobC s i = dearI s i 0 ∧ jobR s i = jobL s i s.os.length := ⟨if_pos h, if_pos h⟩
def JobP (w : World) (s : PS) (i : Int) (e : Ending) (w' : World) : Prop := ∃ RA rc, e = .returned (.agg #[.int .i64 (jobC s i), .slice RA (jobR s i).length rc]) ∧ Row w' RA ((jobR s i).flatMap rcells) ∧ Same w w'
theorem jobP_mk {w w' : World} {s : PS} {i cl : Int} {RA : Option Addr} {k rc : Nat} (h1 : cl = jobC s i) (h2 : k = (jobR s i).length) (h3 : Row w' RA ((jobR s i).flatMap rcells)) (h4 : Same w w') : JobP w s i (.returned (.agg #[.int .i64 cl, .slice RA k rc])) w' := by
  subst h1 h2
  exact ⟨RA, rc, rfl, h3, h4⟩
theorem of_sl' {s : PS} {i k : Int} (h : ∀ o ∈ s.os, o.sl ≤ 9223372036854775807) : (ofR s i k).sl ≤ 9223372036854775807 := by
  cases g : readsP s i k with
  | false => rw [of_no g]; decide
  | true =>
    rw [(of_k g).2.1]
    unfold obj
    rw [List.getD_eq_getElem?_getD]
    cases e : s.os[k.toNat]? with
    | none => decide
    | some o => exact h o (List.mem_of_getElem? e)
theorem job_sl {s : PS} {i : Int} (h : ∀ o ∈ s.os, o.sl ≤ 9223372036854775807) : ∀ x ∈ jobR s i, x.sl ≤ 9223372036854775807 := by
  intro x hx
  unfold jobR at hx
  split at hx
  · unfold jobL at hx
    obtain ⟨k, _, rfl⟩ := List.mem_map.1 hx
    exact of_sl' h
  · cases hx
theorem job_len {s : PS} {i : Int} {m : Nat} (hm : s.os.length = m) (ho : Sy.OFew s.os 5000) : ((jobR s i).length : Int) ≤ 9223372036854775807 := by
  have := ho.1
  unfold jobR
  split
  · rw [jobL_len]; omega
  · simp
theorem row_set {w : World} {B : Nat} {e : TypeId} {s : Nat} {A : Option Addr} {n c : Nat} {l : List Value} (h : OwnK w B e s A n c l) {g : Nat} (hg : g < B) (cs : Array Value) : Row (World.setRow w g cs) A l := by
  have hc : Chg (fun i => i = g) w (World.setRow w g cs) := Dm.chgRow (S := fun i => i = g) (Chg.refl _ w) (.inl rfl) cs
  exact (h.chg hc (fun g' e' f => by subst f; have := h.base_ge _ e'; omega)).row
/-- what stands between two objects -/
structure JI (w1 : World) (gj gB : Nat) (s : PS) (i cl : Int) (RA : Option Addr) (k rc : Nat) (W : World) : Prop where
  b : Blk W gj 65 #[.int .i64 cl, .slice RA k rc]
  o : OwnK W gB 59 6 RA k rc ((jobL s i k).flatMap rcells)
  same : Same w1 W
  sz : gB ≤ W.heap.size
set_option maxRecDepth 100000 in
set_option maxHeartbeats 4000000 in
theorem jobof_any (A B : Option Addr) (n c m d : Nat) (s : PS) (i : Int) (w : World) (hs : SysAt w A n B m s) (hnm : n ≤ maxLen ∧ m ≤ maxLen) (hf : ∀ p ∈ s.ts, p.code.length ≤ 200) (ho : Sy.OFew s.os 5000) (hT : Is.Tabs w) :
    Calls Tryz.prog 41 #[.agg #[.slice A n c, .slice B m d], .int .i64 i] w (JobP w s i) := by
  obtain ⟨i0, hi, hz0, hz1, hz2⟩ := info_parts reads_info3
  have hmb : m ≤ 5000 := by have := ho.1; rw [hs.hm] at this; omega
  obtain ⟨w0, hw0⟩ : ∃ w0, w0 = w.alloc (.cells #[.slice A n c, .slice B m d] 25) := ⟨_, rfl⟩
  obtain ⟨q0, hq0⟩ : ∃ q0, q0 = w.heap.size := ⟨_, rfl⟩
  obtain ⟨g, hg⟩ : ∃ g, g = w0.heap.size := ⟨_, rfl⟩
  obtain ⟨w1, hw1⟩ : ∃ w1, w1 = w0.alloc (.cells #[.int .i64 0, .slice none 0 0] 65) := ⟨_, rfl⟩
  have s0 : Same w w0 := hw0 ▸ (Same.refl w).alloc _
  have s1 : Same w0 w1 := hw1 ▸ (Same.refl w0).alloc _
  have b0 : Blk w0 q0 25 #[.slice A n c, .slice B m d] := by rw [hw0, hq0]; exact Blk.new w _ _
  have b1 : Blk w1 g 65 #[.int .i64 0, .slice none 0 0] := by rw [hw1, hg]; exact Blk.new w0 _ _
  have HE0 := Lib.hid hw0
  have HE1 := Lib.hid hw1
  have HQ0 := Lib.hid hq0
  have HG := Lib.hid (show q0 + 1 = g by rw [hg, hw0, hq0]; show _ = (w.heap.push _).size; rw [Array.size_push])
  have S1 := Lib.hid (s0.trans s1)
  have HGW := Lib.hid (show w.heap.size ≤ g by rw [hg]; exact s0.size)
  have HM := Lib.hid hs.hm
  have B0 := Lib.hid (b0.same s1)
  have B1 := Lib.hid b1
  have B1o := Lib.hid b1
  have HQ1 := Lib.hid (show q0 < w1.heap.size from (b0.same s1).lt)
  have CL := Lib.hid (Dm.clean36_any A B n c m d s i w1 (hs.same (s0.trans s1)) hf (hT.same (s0.trans s1)))
  have OF := Lib.hid (fun (k : Int) W (h : Same w1 W) => of_any A B n c m d s i k W (hs.same ((s0.trans s1).trans h)) hnm hf ho (hT.same ((s0.trans s1).trans h)))
  obtain ⟨c0, c1⟩ := (⟨(b0.same s1).cell 0, (b0.same s1).cell 1⟩ : _ ∧ _)
  simp only [List.getElem?_toArray, List.getElem?_cons_zero, List.getElem?_cons_succ] at c0 c1
  have HIF := Lib.hid (show (Tryz.prog.info? 65).map (·.size) = some (#[.int .i64 0, .slice none 0 0] : Array Value).size by kernel_rfl)
  have HG1 := Lib.hid (show g < w1.heap.size from b1.lt)
  clear hw0 hw1 hg hq0 s0 s1 b0 b1 hs hT hf ho
  go_enter Tryz.func41, Tryz.ntmps41
  go_upto_region 1 with fail
  rw [← HQ0.out, HG.out, ← HE0.out, ← HE1.out]
  clear HE0 HE1
  go_wp2_with fail
  refine CL.out.mono ?_
  rintro e w2 ⟨rfl, s2⟩
  clear CL
  have HS2 := Lib.hid s2
  have c0 := s2.cell c0
  have c1 := s2.cell c1
  have B1 := Lib.hid (B1.out.same s2)
  clear s2
  by_cases he : dearE s i 0 = 0
  · have HJ := Lib.hid (job_yes' he)
    have ee : (dearE s i 0 != 0) = false := by simpa using he
    clear he
    generalize dearE s i 0 = de at *
    generalize dearI s i 0 = cl at *
    have BN := Lib.hid (Blk.new w2 65 #[.int .i64 0, .slice none 0 0])
    have HX := Lib.hid ((Same.refl w2).alloc (.cells #[.int .i64 0, .slice none 0 0] 65))
    obtain ⟨gj, hgj⟩ : ∃ gj, gj = w2.heap.size := ⟨_, rfl⟩
    have HGJ := Lib.hid hgj
    clear hgj
    go_upto_region 5 with (first | (refine wpList_store_row rfl 65 (.tmp 7) (.tmp 19) rfl w2.heap.size #[.int .i64 cl, .slice none 0 0] rfl rfl 65 #[.int .i64 0, .slice none 0 0] BN.out HIF.out rfl (by simp [Value.oneCell']) ?_))
    obtain ⟨wJ, hwJ⟩ : ∃ x, x = World.setRow (w2.alloc (.cells #[.int .i64 0, .slice none 0 0] 65)) w2.heap.size #[.int .i64 cl, .slice none 0 0] := ⟨_, rfl⟩
    have BJ := Lib.hid (show Blk wJ gj 65 #[.int .i64 cl, .slice none 0 0] by rw [hwJ, HGJ.out]; exact Dm.rowb BN.out)
    have SJ := Lib.hid (show Same w2 wJ by rw [hwJ]; exact Dm.chgRow HX.out (.inr (Nat.le_refl _)) _)
    rw [← hwJ, ← HGJ.out]
    have c0 := SJ.out.cell c0
    have c1 := SJ.out.cell c1
    have HGB := Lib.hid (show w1.heap.size ≤ gj from by rw [HGJ.out]; exact HS2.out.size)
    clear hwJ HX BN
    obtain ⟨gB, hgB⟩ : ∃ gB, gB = wJ.heap.size := ⟨_, rfl⟩
    have W0 := Lib.hid (show JI w1 gj gB s i cl none 0 0 wJ from ⟨BJ.out, OwnK.none _ _ _ _, HS2.out.trans SJ.out, by rw [hgB]; exact Nat.le_refl _⟩)
    have HLT := Lib.hid (show gj < gB from by rw [hgB]; exact BJ.out.lt)
    clear hgB BJ
    go_wp2_with fail
    go_loopg [23] m (fun gk iv wx => ∃ (k : Nat) (RA : Option Addr) (rc : Nat), k + gk = m ∧ iv = .int .i64 (k : Int) ∧ Hid (JI w1 gj gB s i cl RA k rc wx))
    case atStart => exact ⟨0, none, 0, by omega, rfl, W0⟩
    case round =>
      obtain ⟨k, RA, rc, hk, rfl, HW⟩ := hrel
      clear W0 c0 c1 SJ
      cases gk with
      | zero =>
        obtain rfl : k = m := by omega
        have hge : ¬ (k : Int) < k := by omega
        have BQ := Lib.hid (HW.out.b)
        obtain ⟨z0, z1⟩ := (⟨BQ.out.cell 0, BQ.out.cell 1⟩ : _ ∧ _)
        simp only [List.getElem?_toArray, List.getElem?_cons_zero, List.getElem?_cons_succ] at z0 z1
        have BR := Lib.hid (show Blk wr g 65 #[.int .i64 0, .slice none 0 0] from B1o.out.same HW.out.same)
        go_wp2_with (first | (refine wpList_store_row rfl 65 (.tmp 4) (.tmp 36) rfl g #[.int .i64 cl, .slice RA k rc] rfl rfl 65 #[.int .i64 0, .slice none 0 0] BR.out HIF.out rfl (by simp [Value.oneCell']) ?_))
        refine bodyPost_ret (v := .agg #[.int .i64 cl, .slice RA k rc]) (res_cell1 Tryz.results41 _ _ g 65 #[.int .i64 cl, .slice RA k rc] (0, 0) _ rfl (Dm.rowb BR.out) Tryz.underlying65 rfl HIF.out) rfl ?_
        have hc : Same w1 wr := HW.out.same
        refine jobP_mk HJ.out.1.symm (by rw [HJ.out.2, jobL_len, HM.out]) ?_ (Dm.chgRow (S1.out.trans hc) (.inr HGW.out) _)
        · rw [HJ.out.2, HM.out]
          exact row_set HW.out.o (by have := HG1.out; have := HGB.out; have := HLT.out; omega) _
      | succ GK =>
        have hlt : (k : Int) < m := by omega
        have hk0 : (0 : Int) ≤ k := by omega
        have HKK := Lib.hid hk
        have hgg := HGB.out
        have hgl := HLT.out
        have hq1 := HQ1.out
        have hkb : k ≤ 5000 := by omega
        clear hk
        obtain ⟨x, hx⟩ : ∃ x, x = ofR s i (k : Int) := ⟨_, rfl⟩
        have OFK := Lib.hid (OF.out (k : Int))
        rw [← hx] at OFK
        have HX := Lib.hid hx
        clear hx
        obtain ⟨xk, xs, xf, xa, xw, xp⟩ := x
        replace OFK := Lib.hid (show ∀ W, Same w1 W → Calls Tryz.prog 35 #[.agg #[.slice A n c, .slice B m d], .int .i64 i, .int .i64 (k : Int)] W fun e w' => e = .returned (.agg #[.int .i64 xk, .int .i64 xs, .int .i64 xf, .bool xa, .int .i64 xw, .int .i64 xp]) ∧ Same W w' from OFK.out)
        go_wp2_with fail
        refine Hb.region_b (S := fun w' => w'.cell? ⟨q0, 0, none⟩ = some (.slice A n c) ∧ w'.cell? ⟨q0, 1, none⟩ = some (.slice B m d)) (T := fun w' => w'.cell? ⟨gj, 1, none⟩ = some (.slice RA k rc)) (Hd := fun i => decide (i < 9)) (by kernel_rfl) ?_
        have hs : Same wr wr.drew := (Same.refl _).drew
        have BJ := Lib.hid (HW.out.b.same hs)
        have OR := Lib.hid (HW.out.o.same hs)
        have SM := Lib.hid (HW.out.same.trans hs)
        have SZ := Lib.hid (Nat.le_trans HW.out.sz hs.size)
        have B0 := Lib.hid (B0.out.same (HW.out.same.trans hs))
        clear hs HW
        obtain ⟨wd, hwd⟩ : ∃ wd, wd = wr.drew := ⟨_, rfl⟩
        rw [← hwd] at BJ OR SM SZ B0
        rw [← hwd]
        clear hwd
        have hHeld' := (show wd.cell? ⟨q0, 0, none⟩ = some (.slice A n c) ∧ wd.cell? ⟨q0, 1, none⟩ = some (.slice B m d) from ⟨B0.out.cell 0, B0.out.cell 1⟩)
        have hTop' := (show wd.cell? ⟨gj, 1, none⟩ = some (.slice RA k rc) from BJ.out.cell 1)
        have hHeld := hHeld'
        have hTop := hTop'
        clear hHeld' hTop'
        refine Hb.b_take (i := 0) (v := ?_) rfl (by kernel_rfl) (by kernel_rfl) (by kernel_rfl) (fun _ _ _ h => h) (by rfl) hHeld ?_ ?_
        rotate_left
        · intro wS hSw; (try dsimp only at hSw); go_simp; try with_reducible rfl
        try simp only [Ro.p]
        refine Hb.b_take (i := 2) (v := ?_) rfl (by kernel_rfl) (by kernel_rfl) (by kernel_rfl) (fun _ _ _ h => h) (by rfl) hHeld ?_ ?_
        rotate_left
        · intro wS hSw; (try dsimp only at hSw); go_simp; try with_reducible rfl
        try simp only [Ro.p]
        refine Hb.b_take (i := 3) (v := ?_) rfl (by kernel_rfl) (by kernel_rfl) (by kernel_rfl) (fun _ _ _ h => h) (by rfl) hHeld ?_ ?_
        rotate_left
        · intro wS hSw; (try dsimp only at hSw); go_simp; try with_reducible rfl
        try simp only [Ro.p]
        refine Hb.b_take (i := 4) (v := ?_) rfl (by kernel_rfl) (by kernel_rfl) (by kernel_rfl) (fun _ _ _ h => h) (by rfl) hHeld ?_ ?_
        rotate_left
        · intro wS hSw; (try dsimp only at hSw); go_simp; try with_reducible rfl
        try simp only [Ro.p]
        refine Hb.b_take_t (i := 1) (v := ?_) (by kernel_rfl) rfl (by kernel_rfl) (by kernel_rfl) (by kernel_rfl) (fun _ _ _ h => h) (by rfl) hHeld hTop ?_ ?_
        rotate_left
        · intro wS hSw hTw; (try dsimp only at hSw hTw); go_simp; try with_reducible rfl
        try simp only [Ro.p]
        refine Hb.b_one (i := 5) rfl (by kernel_rfl) (by rfl) (fun K hK => ?_)
        go_simp
        go_at_call 35
        refine (OFK.out _ SM.out).mono ?_
        rintro e wo ⟨rfl, so⟩
        have BJ := Lib.hid (BJ.out.same so)
        have OR := Lib.hid (OR.out.same so)
        have B0 := Lib.hid (B0.out.same so)
        have SM := Lib.hid (SM.out.trans so)
        have SZ := Lib.hid (Nat.le_trans SZ.out so.size)
        clear so
        have hHeld' := (show wo.cell? ⟨q0, 0, none⟩ = some (.slice A n c) ∧ wo.cell? ⟨q0, 1, none⟩ = some (.slice B m d) from ⟨B0.out.cell 0, B0.out.cell 1⟩)
        have hTop' := (show wo.cell? ⟨gj, 1, none⟩ = some (.slice RA k rc) from BJ.out.cell 1)
        refine hK.out _ _ hHeld' (fun _ _ => hTop') ?_
        clear hK K hHeld hTop
        have hHeld := hHeld'
        have hTop := hTop'
        clear hHeld' hTop'
        try simp only [Ro.p]
        refine Hb.b_one (i := 6) rfl (by kernel_rfl) (by rfl) (fun K hK => ?_)
        go_simp
        obtain ⟨wb, hn⟩ : ∃ x, x = wo.alloc (.cells #[.int .i64 xk, .int .i64 xs, .int .i64 xf, .bool xa, .int .i64 xw, .int .i64 xp] 59) := ⟨_, rfl⟩
        obtain ⟨gb, hg⟩ : ∃ g, g = wo.heap.size := ⟨_, rfl⟩
        have hs : Same wo wb := by rw [hn]; exact (Same.refl _).alloc _
        have RB := Lib.hid (show Blk wb gb 59 #[.int .i64 xk, .int .i64 xs, .int .i64 xf, .bool xa, .int .i64 xw, .int .i64 xp] from by rw [hn, hg]; exact Blk.new wo _ _)
        rw [← hn, ← hg]
        clear hn hg
        have BJ := Lib.hid (BJ.out.same hs)
        have OR := Lib.hid (OR.out.same hs)
        have B0 := Lib.hid (B0.out.same hs)
        have SM := Lib.hid (SM.out.trans hs)
        have SZ := Lib.hid (Nat.le_trans SZ.out hs.size)
        clear hs
        have hHeld' := (show wb.cell? ⟨q0, 0, none⟩ = some (.slice A n c) ∧ wb.cell? ⟨q0, 1, none⟩ = some (.slice B m d) from ⟨B0.out.cell 0, B0.out.cell 1⟩)
        have hTop' := (show wb.cell? ⟨gj, 1, none⟩ = some (.slice RA k rc) from BJ.out.cell 1)
        refine hK.out _ _ hHeld' (fun _ _ => hTop') ?_
        clear hK K hHeld hTop
        have hHeld := hHeld'
        have hTop := hTop'
        clear hHeld' hTop'
        try simp only [Ro.p]
        refine Hb.b_one (i := 7) rfl (by kernel_rfl) (by rfl) (fun K hK => ?_)
        refine Ra.oper_app (.tmp 27) (.tmp 32) 63 rfl gB 59 i0 _ 6 48 Tryz.underlying63 hi hz0 hz1 hz2 rfl (by omega) RA k rc _ rfl OR.out (some ⟨gb, 0, none⟩) 1 1 [.int .i64 xk, .int .i64 xs, .int .i64 xf, .bool xa, .int .i64 xw, .int .i64 xp] rfl rfl (Cs.blk_row RB.out) (rcells_one ⟨xk, xs, xf, xa, xw, xp⟩) (by omega) (by omega) SZ.out (k + 1) rfl ?_
        intro R1 r1 wa ho hc
        try simp only [Ro.p]
        have BJ := Lib.hid (BJ.out.chg hc (fun h => by have := OR.out.base_ge gj h; omega))
        have B0 := Lib.hid (B0.out.chg hc (fun h => by have := OR.out.base_ge q0 h; omega))
        have SM := Lib.hid (Same.more SM.out hc (fun g h => by have := OR.out.base_ge g h; omega))
        have SZ := Lib.hid (Nat.le_trans SZ.out hc.size)
        have OR := Lib.hid ho
        clear ho hc
        have hHeld' := (show wa.cell? ⟨q0, 0, none⟩ = some (.slice A n c) ∧ wa.cell? ⟨q0, 1, none⟩ = some (.slice B m d) from ⟨B0.out.cell 0, B0.out.cell 1⟩)
        have hTop' := (show wa.cell? ⟨gj, 1, none⟩ = some (.slice RA k rc) from BJ.out.cell 1)
        refine hK.out _ _ hHeld' (fun _ _ => hTop') ?_
        clear hK K hHeld hTop
        have hHeld := hHeld'
        have hTop := hTop'
        clear hHeld' hTop'
        try simp only [Ro.p]
        refine Hb.b_take (i := 8) (v := ?_) rfl (by kernel_rfl) (by kernel_rfl) (by kernel_rfl) (fun _ _ _ h => h) (by rfl) hHeld ?_ ?_
        rotate_left
        · intro wS hSw; (try dsimp only at hSw); go_simp; try with_reducible rfl
        try simp only [Ro.p]
        refine Hb.b_one (i := 9) rfl (by kernel_rfl) (by rfl) (fun K hK => ?_)
        have z1 := BJ.out.cell 1
        simp only [List.getElem?_toArray, List.getElem?_cons_zero, List.getElem?_cons_succ] at z1
        have f1 := BJ.out.thaw 1
        go_simp
        obtain ⟨we, hn⟩ : ∃ x, x = wa.setCell ⟨gj, 1, none⟩ (.slice R1 (k + 1) r1) := ⟨_, rfl⟩
        have hc : Chg (fun i => i = gj) wa we := by rw [hn]; exact (Chg.refl (fun i => i = gj) wa).set (p := ⟨gj, 1, none⟩) (.inl rfl) _
        have BJ := Lib.hid (show Blk we gj 65 _ from by rw [hn]; exact BJ.out.put 1 _)
        rw [← hn]
        clear hn z1 f1
        have B0 := Lib.hid (B0.out.chg hc (by omega))
        have OR := Lib.hid (OR.out.chg hc (fun g h e => by have := OR.out.base_ge g h; omega))
        have SM := Lib.hid (Same.more SM.out hc (fun g h => by omega))
        have SZ := Lib.hid (Nat.le_trans SZ.out hc.size)
        clear hc
        have hHeld' := (show we.cell? ⟨q0, 0, none⟩ = some (.slice A n c) ∧ we.cell? ⟨q0, 1, none⟩ = some (.slice B m d) from ⟨B0.out.cell 0, B0.out.cell 1⟩)
        refine hK.out _ _ hHeld' (fun h => by simp at h) ?_
        clear hK K hHeld hTop
        try simp only [Ro.p]
        refine Hb.anyB_done (by kernel_rfl) ?_ _
        clear hHeld'
        go_wp2_with fail
        go_roundg GK
        case measure => omega
        case rel =>
          refine ⟨k + 1, R1, r1, by have := HKK.out; omega, by go_num, Lib.hid ⟨BJ.out, ?_, SM.out, SZ.out⟩⟩
          have h := OR.out
          rw [jobL_succ, List.flatMap_append, ← HX.out]
          simpa [rcells] using h
  · have HJ := Lib.hid (job_no' he)
    have ee : (dearE s i 0 != 0) = true := by simpa using he
    clear he
    generalize dearE s i 0 = de at *
    generalize dearI s i 0 = cl at *
    go_wp2_with (first | (refine wpList_store_row rfl 65 (.tmp 4) (.tmp 17) rfl g #[.int .i64 0, .slice none 0 0] rfl rfl 65 #[.int .i64 0, .slice none 0 0] B1.out HIF.out rfl (by simp [Value.oneCell']) ?_))
    refine bodyPost_ret (v := .agg #[.int .i64 0, .slice none 0 0]) (res_cell1 Tryz.results41 _ _ g 65 #[.int .i64 0, .slice none 0 0] (0, 0) _ rfl (Dm.rowb B1.out) Tryz.underlying65 rfl HIF.out) rfl ?_
    exact jobP_mk HJ.out.1.symm (by rw [HJ.out.2]; rfl) (by rw [HJ.out.2]; intro j u hj; cases hj) (Dm.chgRow (S1.out.trans HS2.out) (.inr HGW.out) _)

set_option maxRecDepth 100000 in
theorem ijob_any (A B : Option Addr) (n c m d : Nat) (s : PS) (i : Int) (r : Int) (br : -9223372036854775808 ≤ r ∧ r ≤ 9223372036854775807) (hsl : ∀ o ∈ s.os, o.sl ≤ 9223372036854775807) (w : World) (hs : SysAt w A n B m s) (hnm : n ≤ maxLen ∧ m ≤ maxLen) (hf : ∀ p ∈ s.ts, p.code.length ≤ 200) (ho : Sy.OFew s.os 5000) (hT : Is.Tabs w) :
    Calls Tryz.prog 18 #[.agg #[.slice A n c, .slice B m d], .int .i64 i, .int .i64 r] w fun e w' => e = .returned (.int .i64 (jobI s i r)) ∧ Same w w' := by
  obtain ⟨w0, hw0⟩ : ∃ w0, w0 = w.alloc (.cells #[.slice A n c, .slice B m d] 25) := ⟨_, rfl⟩
  obtain ⟨g, hg⟩ : ∃ g, g = w.heap.size := ⟨_, rfl⟩
  have s0 : Same w w0 := hw0 ▸ (Same.refl w).alloc _
  have b0 : Blk w0 g 25 #[.slice A n c, .slice B m d] := by rw [hw0, hg]; exact Blk.new w _ _
  have HE0 := Lib.hid hw0
  have HG := Lib.hid hg
  have S0 := Lib.hid s0
  obtain ⟨c0, c1⟩ := (⟨b0.cell 0, b0.cell 1⟩ : _ ∧ _)
  simp only [List.getElem?_toArray, List.getElem?_cons_zero, List.getElem?_cons_succ] at c0 c1
  have JO := Lib.hid (jobof_any A B n c m d s i w0 (hs.same s0) hnm hf ho (hT.same s0))
  have LM := Lib.hid (fun RA rc W (h : Row W RA ((jobR s i).flatMap rcells)) => steps_any (jobC s i) RA (jobR s i).length rc (jobR s i) r br (job_sl hsl) W rfl (job_len hs.hm ho) h)
  have HJ := Lib.hid (job_is s i r)
  clear hw0 hg s0 b0 hs hT hf ho
  unfold JobP at JO
  generalize jobC s i = cl at *
  generalize jobR s i = l at *
  go_enter Tryz.func18, Tryz.ntmps18
  go_upto_region 1 with fail
  rw [← HE0.out, ← HG.out]
  clear HE0 HG
  go_wp2_with fail
  refine JO.out.mono ?_
  rintro e w1 ⟨RA, rc, rfl, hr, s1⟩
  have LR := Lib.hid (LM.out RA rc w1 hr)
  clear hr
  go_wp2_with fail
  refine LR.out.mono ?_
  rintro e w2 ⟨rfl, s2⟩
  go_wp2_with fail
  go_ret
  exact ⟨Wd.ret_int HJ.out, S0.out.trans (s1.trans s2)⟩
end Go.Proofs.YthhbhbfkbncegaaGreatDoor.Sl
end
