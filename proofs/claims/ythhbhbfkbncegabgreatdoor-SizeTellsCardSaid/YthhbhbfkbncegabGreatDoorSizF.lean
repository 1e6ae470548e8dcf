/-

  Package size: Slots and Caps of any system's object.
-/
import Derived.Test.YthhbhbfkbncegabGreatDoorSplPure
import Derived.Test.YthhbhbfkbncegabGreatDoorImgIn
import Derived.Test.YthhbhbfkbncegabGreatDoorRegionOff
import Derived.WalkKit
import Derived.Deep.LoopGhost
import Derived.Deep.RegionHeld3
import Derived.BigQuiet
import Derived.Deep.Cut
import Derived.Lib.Hide
import Derived.ProofKit
import Derived.Test.YthhbhbfkbncegabGreatDoorSplOf
import Derived.Test.YthhbhbfkbncegabGreatDoorSizPure
section
section
set_option linter.unusedVariables false
set_option linter.unusedSimpArgs false
namespace Go.Proofs.YthhbhbfkbncegabGreatDoor.Sl
open Go.ChangeShapes Go.WideShapes Go.ChangeAt Go.RowKit Ws
open Go.Proofs.YthhbhbfkbncegabGreatDoor.Wd (ret_bool ret_int mulv ceilv addv)

set_option maxRecDepth 100000 in
theorem writes_sp (x : SR) (r : Int) (br : -9223372036854775808 ≤ r ∧ r ≤ 9223372036854775807) (w : World) : Calls Tryz.prog 48 #[.agg (rcells x).toArray, .int .i64 r] w fun e w' => e = .returned (.int .i64 (wrR x r)) ∧ Same w w' := by
  obtain ⟨k, sl, fl, ah, wr, pr⟩ := x
  obtain ⟨w0, hw0⟩ : ∃ w0, w0 = w.alloc (.cells #[.int .i64 k, .int .i64 sl, .int .i64 fl, .bool ah, .int .i64 wr, .int .i64 pr] 71) := ⟨_, rfl⟩
  obtain ⟨g, hg⟩ : ∃ g, g = w.heap.size := ⟨_, rfl⟩
  have s0 : Same w w0 := hw0 ▸ (Same.refl w).alloc _
  have b0 : Blk w0 g 71 #[.int .i64 k, .int .i64 sl, .int .i64 fl, .bool ah, .int .i64 wr, .int .i64 pr] := by rw [hw0, hg]; exact Blk.new w _ _
  have HE0 := Lib.hid hw0
  have HG := Lib.hid hg
  have S0 := Lib.hid s0
  have B0 := Lib.hid b0
  obtain ⟨c0, c1, c2, c3, c4, c5⟩ := (⟨b0.cell 0, b0.cell 1, b0.cell 2, b0.cell 3, b0.cell 4, b0.cell 5⟩ : _ ∧ _ ∧ _ ∧ _ ∧ _ ∧ _)
  simp only [List.getElem?_toArray, List.getElem?_cons_zero, List.getElem?_cons_succ] at c0 c1 c2 c3 c4 c5
  clear hw0 hg s0 b0
  have WC := Lib.hid (fun W => Wd.wceil r pr br W)
  have WM := Lib.hid (fun W => Wd.wmul wr (ceilv r pr) W)
  have HD := Lib.hid (show wrR ⟨k, sl, fl, ah, wr, pr⟩ r = mulv wr (ceilv r pr) from rfl)
  show Calls Tryz.prog 48 #[.agg #[.int .i64 k, .int .i64 sl, .int .i64 fl, .bool ah, .int .i64 wr, .int .i64 pr], .int .i64 r] w _
  go_enter Tryz.func48, Tryz.ntmps48
  go_upto_region 1 with fail
  rw [← HE0.out, ← HG.out]
  clear HE0 HG
  generalize ceilv r pr = cv at *
  go_quiet (first | (go_at_call 45; exact Calls.quiet_of_same ((WC.out _).mono fun _ _ ⟨he, hw⟩ => ⟨he, hw.symm⟩)) | (go_at_call 44; exact Calls.quiet_of_same ((WM.out _).mono fun _ _ ⟨he, hw⟩ => ⟨he, hw.symm⟩)))
  go_wp2_with fail
  go_ret
  exact ⟨ret_int HD.out.symm, S0.out.drewN _⟩
set_option maxRecDepth 100000 in
set_option maxHeartbeats 2000000 in
theorem fails_sp (x : SR) (r : Int) (bs : x.sl ≤ 9223372036854775807) (br : -9223372036854775808 ≤ r ∧ r ≤ 9223372036854775807) (w : World) : Calls Tryz.prog 37 #[.agg (rcells x).toArray, .int .i64 r] w fun e w' => e = .returned (.int .i64 (flR x r)) ∧ Same w w' := by
  have WS := Lib.hid (fun W => writes_sp x r br W)
  have HB := Lib.hid (wr_bd x r)
  have HD := Lib.hid (show flR x r = if x.k = 3 ∨ x.k = 5 then wrR x r else if x.k = 4 then wrR x r / (max x.sl 2 - 1) else 0 from rfl)
  obtain ⟨k, sl, fl, ah, wr, pr⟩ := x
  obtain ⟨w0, hw0⟩ : ∃ w0, w0 = w.alloc (.cells #[.int .i64 k, .int .i64 sl, .int .i64 fl, .bool ah, .int .i64 wr, .int .i64 pr] 71) := ⟨_, rfl⟩
  obtain ⟨g, hg⟩ : ∃ g, g = w.heap.size := ⟨_, rfl⟩
  have s0 : Same w w0 := hw0 ▸ (Same.refl w).alloc _
  have b0 : Blk w0 g 71 #[.int .i64 k, .int .i64 sl, .int .i64 fl, .bool ah, .int .i64 wr, .int .i64 pr] := by rw [hw0, hg]; exact Blk.new w _ _
  have HE0 := Lib.hid hw0
  have HG := Lib.hid hg
  have S0 := Lib.hid s0
  have B0 := Lib.hid b0
  obtain ⟨c0, c1, c2, c3, c4, c5⟩ := (⟨b0.cell 0, b0.cell 1, b0.cell 2, b0.cell 3, b0.cell 4, b0.cell 5⟩ : _ ∧ _ ∧ _ ∧ _ ∧ _ ∧ _)
  simp only [List.getElem?_toArray, List.getElem?_cons_zero, List.getElem?_cons_succ] at c0 c1 c2 c3 c4 c5
  clear hw0 hg s0 b0
  replace WS := Lib.hid (fun W => (show Calls Tryz.prog 48 #[.agg #[.int .i64 k, .int .i64 sl, .int .i64 fl, .bool ah, .int .i64 wr, .int .i64 pr], .int .i64 r] W fun e w' => e = .returned (.int .i64 (wrR ⟨k, sl, fl, ah, wr, pr⟩ r)) ∧ Same W w' from WS.out W))
  dsimp only at HD bs
  show Calls Tryz.prog 37 #[.agg #[.int .i64 k, .int .i64 sl, .int .i64 fl, .bool ah, .int .i64 wr, .int .i64 pr], .int .i64 r] w _
  go_enter Tryz.func37, Tryz.ntmps37
  go_upto_region 1 with fail
  rw [← HE0.out, ← HG.out]
  clear HE0 HG
  generalize wrR ⟨k, sl, fl, ah, wr, pr⟩ r = n at *
  by_cases h1 : k = 3
  · subst h1
    go_wp2_with fail
    refine (WS.out _).mono ?_
    rintro e w1 ⟨rfl, s1⟩
    go_wp2_with fail
    go_ret
    exact ⟨ret_int (by rw [HD.out, if_pos (.inl trivial)]), S0.out.trans s1⟩
  · by_cases h2 : k = 5
    · subst h2
      go_wp2_with fail
      refine (WS.out _).mono ?_
      rintro e w1 ⟨rfl, s1⟩
      go_wp2_with fail
      go_ret
      exact ⟨ret_int (by rw [HD.out, if_pos (.inr trivial)]), S0.out.trans s1⟩
    · have e1 : (k == 3) = false := by simpa using h1
      have e2 : (k == 5) = false := by simpa using h2
      by_cases h3 : k = 4
      · subst h3
        have HV := Lib.hid (show flR ⟨4, sl, fl, ah, wr, pr⟩ r = n / (max sl 2 - 1) by rw [HD.out, if_neg (by omega), if_pos rfl])
        clear h1 h2 e1 e2 HD
        go_wp2_with fail
        obtain ⟨q, hq⟩ : ∃ q, q = max sl 2 := ⟨_, rfl⟩
        have HQ := Lib.hid hq
        have hqm : (if sl < 2 then 2 else sl) = q := by rw [hq]; split <;> omega
        have hbn : 0 ≤ n ∧ n ≤ 1099511627776 := HB.out
        obtain ⟨p, hp⟩ : ∃ p, p = q - 1 := ⟨_, rfl⟩
        have HPQ := Lib.hid hp
        have hp0 : ¬ p = 0 := by omega
        have hpw : IntKind.i64.wrap (q - 1) = p := by rw [hp]; exact Go.IntWalk.i64_in _ (by omega)
        have hdb : 0 ≤ n / p ∧ n / p ≤ n := ⟨Int.ediv_nonneg hbn.1 (by omega), Int.ediv_le_self _ hbn.1⟩
        have hdw : IntKind.i64.wrap (n.tdiv p) = n / p := by rw [Int.tdiv_eq_ediv_of_nonneg hbn.1]; exact Go.IntWalk.i64_in _ (by omega)
        clear hp hdb hbn
        have hq1 : 2 ≤ q ∧ q ≤ 9223372036854775807 := by omega
        clear hq
        refine wp_region_held_drew (S := fun w' => Same w0 w') (by kernel_rfl) ?_ (fun hHeld => ?_)
        · exact (Same.refl w0).drew
        refine Ro.tn 0 ?_ ?_ ?_
        rotate_left
        · intro wS hSw; (try dsimp only at hSw); obtain ⟨v0, v1, v2, v3, v4, v5⟩ := (⟨(B0.out.same hSw).cell 0, (B0.out.same hSw).cell 1, (B0.out.same hSw).cell 2, (B0.out.same hSw).cell 3, (B0.out.same hSw).cell 4, (B0.out.same hSw).cell 5⟩ : _ ∧ _ ∧ _ ∧ _ ∧ _ ∧ _); simp only [List.getElem?_toArray, List.getElem?_cons_zero, List.getElem?_cons_succ] at v0 v1 v2 v3 v4 v5; go_simp; try with_reducible rfl
        try simp only [Ro.p]
        refine Ro.tn 1 ?_ ?_ ?_
        rotate_left
        · intro wS hSw; (try dsimp only at hSw); go_simp; try with_reducible rfl
        try simp only [Ro.p]
        refine Ro.tn 3 ?_ ?_ ?_
        rotate_left
        · intro wS hSw; (try dsimp only at hSw); go_simp; try with_reducible rfl
        try simp only [Ro.p]
        refine Ro.tn 4 ?_ ?_ ?_
        rotate_left
        · intro wS hSw; (try dsimp only at hSw); obtain ⟨v0, v1, v2, v3, v4, v5⟩ := (⟨(B0.out.same hSw).cell 0, (B0.out.same hSw).cell 1, (B0.out.same hSw).cell 2, (B0.out.same hSw).cell 3, (B0.out.same hSw).cell 4, (B0.out.same hSw).cell 5⟩ : _ ∧ _ ∧ _ ∧ _ ∧ _ ∧ _); simp only [List.getElem?_toArray, List.getElem?_cons_zero, List.getElem?_cons_succ] at v0 v1 v2 v3 v4 v5; go_simp; try with_reducible rfl
        try simp only [Ro.p]
        refine Ro.tn 5 ?_ ?_ ?_
        rotate_left
        · intro wS hSw; (try dsimp only at hSw); go_simp; try with_reducible rfl
        try simp only [Ro.p]
        refine Ro.tn 6 ?_ ?_ ?_
        rotate_left
        · intro wS hSw; (try dsimp only at hSw); go_simp; try with_reducible rfl
        try simp only [Ro.p]
        refine Ro.one_on (i := 2) rfl (by kernel_rfl) (by rfl) (fun K hK => ?_)
        go_simp
        go_at_call 48
        refine (WS.out _).mono ?_
        rintro e w1 ⟨rfl, s1⟩
        refine hK.out _ _ ?_ (fun hNew => ?_)
        · exact hHeld.trans s1
        clear hK K hHeld; have hHeld := hNew; clear hNew
        try simp only [Ro.p]
        refine Ro.tn 7 ?_ ?_ ?_
        rotate_left
        · intro wS hSw; (try dsimp only at hSw); go_simp; try with_reducible rfl
        try simp only [Ro.p]
        refine Ro.tn 8 ?_ ?_ ?_
        rotate_left
        · intro wS hSw; (try dsimp only at hSw); go_simp; try with_reducible rfl
        try simp only [Ro.p]
        refine wpAnyH_done (by kernel_rfl) ?_ _
        go_wp2_with fail
        go_ret
        exact ⟨ret_int (by rw [HV.out, ← HQ.out, ← HPQ.out]), S0.out.trans hHeld⟩
      · have e3 : (k == 4) = false := by simpa using h3
        have HV := Lib.hid (show flR ⟨k, sl, fl, ah, wr, pr⟩ r = 0 by rw [HD.out, if_neg (by omega), if_neg h3])
        clear h1 h2 h3
        go_wp2_with fail
        go_ret
        exact ⟨ret_int HV.out.symm, S0.out⟩
end Go.Proofs.YthhbhbfkbncegabGreatDoor.Sl
end
section
set_option linter.unusedVariables false
set_option linter.unusedSimpArgs false
namespace Go.Proofs.YthhbhbfkbncegabGreatDoor.Sl
open Go.ChangeShapes Go.WideShapes Go.ChangeAt Go.RowKit Ws
open Im (PT PO PS TsAt OsAt SysAt tcells ocells)
theorem of_sl {s : PS} {i k : Int} (h : ∀ o ∈ s.os, o.sl ≤ 9223372036854775807) : (ofR s i k).sl ≤ 9223372036854775807 := by
  cases g : readsP s i k with
  | false => rw [of_no g]; decide
  | true =>
    rw [(of_k g).2.1]
    unfold obj
    rw [List.getD_eq_getElem?_getD]
    cases e : s.os[k.toNat]? with
    | none => decide
    | some o => exact h o (List.mem_of_getElem? e)
set_option maxRecDepth 100000 in
theorem iwrites_any (A B : Option Addr) (n c m d : Nat) (s : PS) (i k : Int) (r : Int) (br : -9223372036854775808 ≤ r ∧ r ≤ 9223372036854775807) (w : World) (hs : SysAt w A n B m s) (hnm : n ≤ maxLen ∧ m ≤ maxLen) (hf : ∀ p ∈ s.ts, p.code.length ≤ 200) (ho : Sy.OFew s.os 5000) (hT : Is.Tabs w) :
    Calls Tryz.prog 33 #[.agg #[.slice A n c, .slice B m d], .int .i64 i, .int .i64 k, .int .i64 r] w fun e w' => e = .returned (.int .i64 (wrR (ofR s i k) r)) ∧ Same w w' := by
  obtain ⟨w0, hw0⟩ : ∃ w0, w0 = w.alloc (.cells #[.slice A n c, .slice B m d] 25) := ⟨_, rfl⟩
  obtain ⟨g, hg⟩ : ∃ g, g = w.heap.size := ⟨_, rfl⟩
  have s0 : Same w w0 := hw0 ▸ (Same.refl w).alloc _
  have b0 : Blk w0 g 25 #[.slice A n c, .slice B m d] := by rw [hw0, hg]; exact Blk.new w _ _
  have HE0 := Lib.hid hw0
  have HG := Lib.hid hg
  have S0 := Lib.hid s0
  obtain ⟨c0, c1⟩ := (⟨b0.cell 0, b0.cell 1⟩ : _ ∧ _)
  simp only [List.getElem?_toArray, List.getElem?_cons_zero, List.getElem?_cons_succ] at c0 c1
  have OF := Lib.hid (of_any A B n c m d s i k w0 (hs.same s0) hnm hf ho (hT.same s0))
  have LM := Lib.hid (fun W => writes_sp (ofR s i k) r br W)
  clear hw0 hg s0 b0 hs hT hf ho
  generalize (rcells (ofR s i k)).toArray = rc at *
  go_enter Tryz.func33, Tryz.ntmps33
  go_upto_region 1 with fail
  rw [← HE0.out, ← HG.out]
  clear HE0 HG
  go_wp2_with fail
  refine OF.out.mono ?_
  rintro e w1 ⟨rfl, s1⟩
  go_wp2_with fail
  refine (LM.out _).mono ?_
  rintro e w2 ⟨rfl, s2⟩
  go_wp2_with fail
  go_ret
  exact ⟨rfl, S0.out.trans (s1.trans s2)⟩
set_option maxRecDepth 100000 in
theorem ifails_any (A B : Option Addr) (n c m d : Nat) (s : PS) (i k : Int) (r : Int) (br : -9223372036854775808 ≤ r ∧ r ≤ 9223372036854775807) (hsl : ∀ o ∈ s.os, o.sl ≤ 9223372036854775807) (w : World) (hs : SysAt w A n B m s) (hnm : n ≤ maxLen ∧ m ≤ maxLen) (hf : ∀ p ∈ s.ts, p.code.length ≤ 200) (ho : Sy.OFew s.os 5000) (hT : Is.Tabs w) :
    Calls Tryz.prog 18 #[.agg #[.slice A n c, .slice B m d], .int .i64 i, .int .i64 k, .int .i64 r] w fun e w' => e = .returned (.int .i64 (flR (ofR s i k) r)) ∧ Same w w' := by
  obtain ⟨w0, hw0⟩ : ∃ w0, w0 = w.alloc (.cells #[.slice A n c, .slice B m d] 25) := ⟨_, rfl⟩
  obtain ⟨g, hg⟩ : ∃ g, g = w.heap.size := ⟨_, rfl⟩
  have s0 : Same w w0 := hw0 ▸ (Same.refl w).alloc _
  have b0 : Blk w0 g 25 #[.slice A n c, .slice B m d] := by rw [hw0, hg]; exact Blk.new w _ _
  have HE0 := Lib.hid hw0
  have HG := Lib.hid hg
  have S0 := Lib.hid s0
  obtain ⟨c0, c1⟩ := (⟨b0.cell 0, b0.cell 1⟩ : _ ∧ _)
  simp only [List.getElem?_toArray, List.getElem?_cons_zero, List.getElem?_cons_succ] at c0 c1
  have OF := Lib.hid (of_any A B n c m d s i k w0 (hs.same s0) hnm hf ho (hT.same s0))
  have LM := Lib.hid (fun W => fails_sp (ofR s i k) r (of_sl hsl) br W)
  clear hw0 hg s0 b0 hs hT hf ho
  generalize (rcells (ofR s i k)).toArray = rc at *
  go_enter Tryz.func18, Tryz.ntmps18
  go_upto_region 1 with fail
  rw [← HE0.out, ← HG.out]
  clear HE0 HG
  go_wp2_with fail
  refine OF.out.mono ?_
  rintro e w1 ⟨rfl, s1⟩
  go_wp2_with fail
  refine (LM.out _).mono ?_
  rintro e w2 ⟨rfl, s2⟩
  go_wp2_with fail
  go_ret
  exact ⟨rfl, S0.out.trans (s1.trans s2)⟩
end Go.Proofs.YthhbhbfkbncegabGreatDoor.Sl
end
end
section
section
set_option linter.unusedVariables false
set_option linter.unusedSimpArgs false
namespace Go.Proofs.YthhbhbfkbncegabGreatDoor.Sz
open Go.ChangeShapes Go.WideShapes Go.ChangeAt Go.RowKit Ws
open Im (PT PO PS TsAt OsAt SysAt tcells ocells)
open Go.Proofs.YthhbhbfkbncegabGreatDoor.Wd (ret_bool ret_int)
open Sl (ofR wrR flR obj)
set_option maxRecDepth 100000 in
set_option maxHeartbeats 4000000 in
theorem mostw_any (A B : Option Addr) (n c m d : Nat) (s : PS) (k : Nat) (o : PO) (C : Option Addr) (cl cc : Nat) (rs : List Int) (hrs : ∀ y ∈ rs, (Lit.int .i64 y).wf = true) (w : World) (hs : SysAt w A n B m s) (hnm : n ≤ maxLen ∧ m ≤ maxLen) (hf : ∀ p ∈ s.ts, p.code.length ≤ 200) (ho : Sy.OFew s.os 5000) (hT : Is.Tabs w) (hox : s.os[k]? = some o) (hcl : rs.length = cl) (hr : Row w C (rs.map (Value.int .i64))) :
    Calls Tryz.prog 32 #[.agg #[.slice A n c, .slice B m d], .int .i64 (k : Int), .slice C cl cc, .func (.func 33) #[] #[]] w fun e w' => e = .returned (.int .i64 (wrM s k rs)) ∧ Same w w' := by
  obtain ⟨w0, hw0⟩ : ∃ w0, w0 = w.alloc (.cells #[.slice A n c, .slice B m d] 25) := ⟨_, rfl⟩
  obtain ⟨g, hg⟩ : ∃ g, g = w.heap.size := ⟨_, rfl⟩
  have s0 : Same w w0 := hw0 ▸ (Same.refl w).alloc _
  have b0 : Blk w0 g 25 #[.slice A n c, .slice B m d] := by rw [hw0, hg]; exact Blk.new w _ _
  have HE0 := Lib.hid hw0
  have HG := Lib.hid hg
  have S0 := Lib.hid s0
  have HOB := Lib.hid (obj_in hox)
  have k2 : (k : Int) < m := by have := (List.getElem?_eq_some_iff.1 hox).1; have := hs.hm; omega
  have k0 : (0 : Int) ≤ k := by omega
  have OO := (hs.ho.same s0).at_ hox
  obtain ⟨bB, oB, rfl, Xo, co, Yo, do_, o0, o1, o2, o3, o4, o5, o6, o7, hsa, _, _, hrd, _, hrl⟩ := OO
  have hdb : (o.rd.length : Int) ≤ 9223372036854775807 := by unfold maxLen at hrl; omega
  obtain ⟨c0, c1⟩ := (⟨b0.cell 0, b0.cell 1⟩ : _ ∧ _)
  simp only [List.getElem?_toArray, List.getElem?_cons_zero, List.getElem?_cons_succ] at c0 c1
  have B0 := Lib.hid b0
  have RI := Lib.hid (fun (i : Int) W (h : Same w0 W) => rowi_any C cl cc rs i W hcl (hr.same (s0.trans h)))
  have CT := Lib.hid (fun (i r : Int) (br : -9223372036854775808 ≤ r ∧ r ≤ 9223372036854775807) W (h : Same w0 W) => Sl.iwrites_any A (some ⟨bB, oB, none⟩) n c m d s i k r br W (hs.same (s0.trans h)) hnm hf ho (hT.same (s0.trans h)))
  have HRD := Lib.hid hrd
  have HRS := Lib.hid hrs
  have HM := Lib.hid (show wrM s k rs = mostL (fun i => wrR (ofR s i k) (gI rs i)) o.rd from by unfold wrM; rw [HOB.out])
  have HT := Lib.hid (fun (j : Nat) (x : Int) (h : o.rd[j]? = some x) => mostL_take (f := fun i => wrR (ofR s i k) (gI rs i)) h)
  have HTK := Lib.hid (show mostL (fun i => wrR (ofR s i k) (gI rs i)) (o.rd.take o.rd.length) = mostL (fun i => wrR (ofR s i k) (gI rs i)) o.rd from by rw [List.take_length])
  clear hw0 hg s0 b0 hs hT hf ho hox hcl hr hrd hrs o0 o1 o2 o3 o4 o5 o6
  go_enter Tryz.func32, Tryz.ntmps32
  go_upto_region 1 with fail
  rw [← HE0.out, ← HG.out]
  clear HE0 HG
  go_wp2_with fail
  go_loopg [21, 9] o.rd.length (fun gk iv nv wx => ∃ j : Nat, j + gk = o.rd.length ∧ iv = .int .i64 (j : Int) ∧ nv = .int .i64 (mostL (fun i => wrR (ofR s i k) (gI rs i)) (o.rd.take j)) ∧ Same w0 wx)
  case atStart => exact ⟨0, by omega, rfl, rfl, Same.refl _⟩
  case round =>
    obtain ⟨j, hk, rfl, rfl, sx⟩ := hrel
    have HSX := Lib.hid sx
    have c0 := sx.cell c0
    have c1 := sx.cell c1
    clear o7
    cases gk with
    | zero =>
      obtain rfl : j = o.rd.length := by omega
      have hge : ¬ (o.rd.length : Int) < (o.rd.length : Int) := by omega
      rw [HTK.out]
      clear sx
      go_wp2_with fail
      go_ret
      exact ⟨ret_int (by rw [HM.out]), S0.out.trans HSX.out⟩
    | succ GK =>
      have hlt : (j : Int) < o.rd.length := by omega
      have hj0 : (0 : Int) ≤ j := by omega
      obtain ⟨x, hx⟩ : ∃ x, o.rd[j]? = some x := ⟨o.rd[j]'(by omega), List.getElem?_eq_getElem _⟩
      obtain ⟨bY, oY, rfl, y0⟩ := (HRD.out.same sx) j (.int .i64 x) (by rw [List.getElem?_map, hx]; rfl)
      have HTJ := Lib.hid (HT.out j x hx)
      have HKK := Lib.hid hk
      have CX := Lib.hid (CT.out x (gI rs x) (gI_bd HRS.out x))
      have RX := Lib.hid (RI.out x)
      clear hk hx sx CT RI
      try dsimp only at HTJ
      generalize mostL (fun i => wrR (ofR s i k) (gI rs i)) (o.rd.take j) = v at *
      generalize wrR (ofR s x k) (gI rs x) = y at *
      generalize gI rs x = r at *
      obtain ⟨v', hv'⟩ : ∃ v', v' = max v y := ⟨_, rfl⟩
      have hmx : (if v < y then y else v) = v' := by rw [hv']; split <;> omega
      have HV := Lib.hid hv'
      clear hv'
      go_wp2_with fail
      refine (RX.out _ HSX.out).mono ?_
      rintro e w2 ⟨⟨b, rfl⟩, s2⟩
      have HS2 := Lib.hid (HSX.out.trans s2)
      have c0 := s2.cell c0
      have c1 := s2.cell c1
      clear s2 y0 RX
      go_wp2_with fail
      refine (CX.out _ HS2.out).mono ?_
      rintro e w3 ⟨rfl, s3⟩
      have HS3 := Lib.hid (HS2.out.trans s3)
      clear s3 CX
      go_wp2_with fail
      go_roundg GK
      case rel => exact ⟨j + 1, by have := HKK.out; omega, by go_num, by rw [HTJ.out, HV.out], HS3.out⟩
      case measure => omega
set_option maxRecDepth 100000 in
set_option maxHeartbeats 4000000 in
theorem mostf_any (A B : Option Addr) (n c m d : Nat) (s : PS) (k : Nat) (o : PO) (C : Option Addr) (cl cc : Nat) (rs : List Int) (hrs : ∀ y ∈ rs, (Lit.int .i64 y).wf = true) (hsl : ∀ o ∈ s.os, o.sl ≤ 9223372036854775807) (w : World) (hs : SysAt w A n B m s) (hnm : n ≤ maxLen ∧ m ≤ maxLen) (hf : ∀ p ∈ s.ts, p.code.length ≤ 200) (ho : Sy.OFew s.os 5000) (hT : Is.Tabs w) (hox : s.os[k]? = some o) (hcl : rs.length = cl) (hr : Row w C (rs.map (Value.int .i64))) :
    Calls Tryz.prog 32 #[.agg #[.slice A n c, .slice B m d], .int .i64 (k : Int), .slice C cl cc, .func (.func 18) #[] #[]] w fun e w' => e = .returned (.int .i64 (flM s k rs)) ∧ Same w w' := by
  obtain ⟨w0, hw0⟩ : ∃ w0, w0 = w.alloc (.cells #[.slice A n c, .slice B m d] 25) := ⟨_, rfl⟩
  obtain ⟨g, hg⟩ : ∃ g, g = w.heap.size := ⟨_, rfl⟩
  have s0 : Same w w0 := hw0 ▸ (Same.refl w).alloc _
  have b0 : Blk w0 g 25 #[.slice A n c, .slice B m d] := by rw [hw0, hg]; exact Blk.new w _ _
  have HE0 := Lib.hid hw0
  have HG := Lib.hid hg
  have S0 := Lib.hid s0
  have HOB := Lib.hid (obj_in hox)
  have k2 : (k : Int) < m := by have := (List.getElem?_eq_some_iff.1 hox).1; have := hs.hm; omega
  have k0 : (0 : Int) ≤ k := by omega
  have OO := (hs.ho.same s0).at_ hox
  obtain ⟨bB, oB, rfl, Xo, co, Yo, do_, o0, o1, o2, o3, o4, o5, o6, o7, hsa, _, _, hrd, _, hrl⟩ := OO
  have hdb : (o.rd.length : Int) ≤ 9223372036854775807 := by unfold maxLen at hrl; omega
  obtain ⟨c0, c1⟩ := (⟨b0.cell 0, b0.cell 1⟩ : _ ∧ _)
  simp only [List.getElem?_toArray, List.getElem?_cons_zero, List.getElem?_cons_succ] at c0 c1
  have B0 := Lib.hid b0
  have RI := Lib.hid (fun (i : Int) W (h : Same w0 W) => rowi_any C cl cc rs i W hcl (hr.same (s0.trans h)))
  have CT := Lib.hid (fun (i r : Int) (br : -9223372036854775808 ≤ r ∧ r ≤ 9223372036854775807) W (h : Same w0 W) => Sl.ifails_any A (some ⟨bB, oB, none⟩) n c m d s i k r br hsl W (hs.same (s0.trans h)) hnm hf ho (hT.same (s0.trans h)))
  have HRD := Lib.hid hrd
  have HRS := Lib.hid hrs
  have HM := Lib.hid (show flM s k rs = mostL (fun i => flR (ofR s i k) (gI rs i)) o.rd from by unfold flM; rw [HOB.out])
  have HT := Lib.hid (fun (j : Nat) (x : Int) (h : o.rd[j]? = some x) => mostL_take (f := fun i => flR (ofR s i k) (gI rs i)) h)
  have HTK := Lib.hid (show mostL (fun i => flR (ofR s i k) (gI rs i)) (o.rd.take o.rd.length) = mostL (fun i => flR (ofR s i k) (gI rs i)) o.rd from by rw [List.take_length])
  clear hw0 hg s0 b0 hs hT hf ho hox hcl hr hrd hrs o0 o1 o2 o3 o4 o5 o6
  go_enter Tryz.func32, Tryz.ntmps32
  go_upto_region 1 with fail
  rw [← HE0.out, ← HG.out]
  clear HE0 HG
  go_wp2_with fail
  go_loopg [21, 9] o.rd.length (fun gk iv nv wx => ∃ j : Nat, j + gk = o.rd.length ∧ iv = .int .i64 (j : Int) ∧ nv = .int .i64 (mostL (fun i => flR (ofR s i k) (gI rs i)) (o.rd.take j)) ∧ Same w0 wx)
  case atStart => exact ⟨0, by omega, rfl, rfl, Same.refl _⟩
  case round =>
    obtain ⟨j, hk, rfl, rfl, sx⟩ := hrel
    have HSX := Lib.hid sx
    have c0 := sx.cell c0
    have c1 := sx.cell c1
    clear o7
    cases gk with
    | zero =>
      obtain rfl : j = o.rd.length := by omega
      have hge : ¬ (o.rd.length : Int) < (o.rd.length : Int) := by omega
      rw [HTK.out]
      clear sx
      go_wp2_with fail
      go_ret
      exact ⟨ret_int (by rw [HM.out]), S0.out.trans HSX.out⟩
    | succ GK =>
      have hlt : (j : Int) < o.rd.length := by omega
      have hj0 : (0 : Int) ≤ j := by omega
      obtain ⟨x, hx⟩ : ∃ x, o.rd[j]? = some x := ⟨o.rd[j]'(by omega), List.getElem?_eq_getElem _⟩
      obtain ⟨bY, oY, rfl, y0⟩ := (HRD.out.same sx) j (.int .i64 x) (by rw [List.getElem?_map, hx]; rfl)
      have HTJ := Lib.hid (HT.out j x hx)
      have HKK := Lib.hid hk
      have CX := Lib.hid (CT.out x (gI rs x) (gI_bd HRS.out x))
      have RX := Lib.hid (RI.out x)
      clear hk hx sx CT RI
      try dsimp only at HTJ
      generalize mostL (fun i => flR (ofR s i k) (gI rs i)) (o.rd.take j) = v at *
      generalize flR (ofR s x k) (gI rs x) = y at *
      generalize gI rs x = r at *
      obtain ⟨v', hv'⟩ : ∃ v', v' = max v y := ⟨_, rfl⟩
      have hmx : (if v < y then y else v) = v' := by rw [hv']; split <;> omega
      have HV := Lib.hid hv'
      clear hv'
      go_wp2_with fail
      refine (RX.out _ HSX.out).mono ?_
      rintro e w2 ⟨⟨b, rfl⟩, s2⟩
      have HS2 := Lib.hid (HSX.out.trans s2)
      have c0 := s2.cell c0
      have c1 := s2.cell c1
      clear s2 y0 RX
      go_wp2_with fail
      refine (CX.out _ HS2.out).mono ?_
      rintro e w3 ⟨rfl, s3⟩
      have HS3 := Lib.hid (HS2.out.trans s3)
      clear s3 CX
      go_wp2_with fail
      go_roundg GK
      case rel => exact ⟨j + 1, by have := HKK.out; omega, by go_num, by rw [HTJ.out, HV.out], HS3.out⟩
      case measure => omega
end Go.Proofs.YthhbhbfkbncegabGreatDoor.Sz
end
section
set_option linter.unusedVariables false
set_option linter.unusedSimpArgs false
namespace Go.Proofs.YthhbhbfkbncegabGreatDoor.Sz
open Go.ChangeShapes Go.WideShapes Go.ChangeAt Go.RowKit Ws
open Im (PT PO PS TsAt OsAt SysAt tcells ocells)
open Go.Proofs.YthhbhbfkbncegabGreatDoor.Wd (ret_bool ret_int)
open Sl (ofR wrR flR obj)
set_option maxRecDepth 100000 in
set_option maxHeartbeats 4000000 in
theorem slots_any (A B : Option Addr) (n c m d : Nat) (s : PS) (k : Int) (C : Option Addr) (cl cc : Nat) (rs : List Int) (hrs : ∀ y ∈ rs, (Lit.int .i64 y).wf = true) (w : World) (hs : SysAt w A n B m s) (hnm : n ≤ maxLen ∧ m ≤ maxLen) (hf : ∀ p ∈ s.ts, p.code.length ≤ 200) (ho : Sy.OFew s.os 5000) (hT : Is.Tabs w) (hcl : rs.length = cl) (hr : Row w C (rs.map (Value.int .i64))) :
    Calls Tryz.prog 13 #[.agg #[.slice A n c, .slice B m d], .int .i64 k, .slice C cl cc] w fun e w' => e = .returned (.int .i64 (slotsI s k rs)) ∧ Same w w' := by
  obtain ⟨w0, hw0⟩ : ∃ w0, w0 = w.alloc (.cells #[.slice A n c, .slice B m d] 25) := ⟨_, rfl⟩
  obtain ⟨g, hg⟩ : ∃ g, g = w.heap.size := ⟨_, rfl⟩
  have s0 : Same w w0 := hw0 ▸ (Same.refl w).alloc _
  have b0 : Blk w0 g 25 #[.slice A n c, .slice B m d] := by rw [hw0, hg]; exact Blk.new w _ _
  have HE0 := Lib.hid hw0
  have HG := Lib.hid hg
  have S0 := Lib.hid s0
  obtain ⟨c0, c1⟩ := (⟨b0.cell 0, b0.cell 1⟩ : _ ∧ _)
  simp only [List.getElem?_toArray, List.getElem?_cons_zero, List.getElem?_cons_succ] at c0 c1
  have B0 := Lib.hid b0
  have RO := Lib.hid (Dm.rowo_any B m d s.os k w0 (hs.ho.same s0) hs.hm)
  have MO := Lib.hid (fun (kk : Nat) (o : PO) (hox : s.os[kk]? = some o) W (h : Same w0 W) => mostw_any A B n c m d s kk o C cl cc rs hrs W (hs.same (s0.trans h)) hnm hf ho (hT.same (s0.trans h)) hox hcl (hr.same (s0.trans h)))
  have hmb := wrM_bd s k rs
  clear hw0 hg s0 b0 hs hT hf ho hcl hr
  go_enter Tryz.func13, Tryz.ntmps13
  go_upto_region 1 with fail
  rw [← HE0.out, ← HG.out]
  clear HE0 HG
  go_wp2_with fail
  refine RO.out.mono ?_
  rintro e w1 ⟨s1, ho⟩
  have S1 := Lib.hid s1
  have B1 := Lib.hid (B0.out.same s1)
  clear s1 RO c0 c1 B0
  rcases ho with ⟨kk, o, Xo, co, Yo, do_, rfl, hox, hsa, rfl⟩ | ⟨hout, rfl⟩
  · have HB4 := Lib.hid (B1.out.same ((Same.refl w1).alloc (.cells #[.int .i64 o.k, .int .i64 o.wd, .int .i64 o.sl, .int .i64 o.cp, .int .u32 o.sa, .slice Xo o.ini.length co, .int .i64 o.ow, .slice Yo o.rd.length do_] 43)))
    have HQ4 := Lib.hid (Blk.new w1 43 #[.int .i64 o.k, .int .i64 o.wd, .int .i64 o.sl, .int .i64 o.cp, .int .u32 o.sa, .slice Xo o.ini.length co, .int .i64 o.ow, .slice Yo o.rd.length do_])
    have HS4 := Lib.hid (S1.out.alloc (.cells #[.int .i64 o.k, .int .i64 o.wd, .int .i64 o.sl, .int .i64 o.cp, .int .u32 o.sa, .slice Xo o.ini.length co, .int .i64 o.ow, .slice Yo o.rd.length do_] 43))
    have HOB := obj_in hox
    have hkl := (List.getElem?_eq_some_iff.1 hox).1
    have HVY := Lib.hid (show o.k = 4 → slotsI s (kk : Int) rs = 2 + wrM s kk rs from fun h => if_pos ⟨by omega, by rw [HOB]; exact h⟩)
    have HVN := Lib.hid (show ¬ o.k = 4 → slotsI s (kk : Int) rs = 0 from fun h => if_neg (fun g => h (by rw [← HOB]; exact g.2)))
    have MK := Lib.hid (MO.out kk o hox)
    clear HOB hkl hox MO
    go_upto_region 2 with fail
    generalize w1.alloc (.cells #[.int .i64 o.k, .int .i64 o.wd, .int .i64 o.sl, .int .i64 o.cp, .int .u32 o.sa, .slice Xo o.ini.length co, .int .i64 o.ow, .slice Yo o.rd.length do_] 43) = w4 at *
    generalize w1.heap.size = q1 at *
    have z0 := HQ4.out.cell 0
    simp only [List.getElem?_toArray, List.getElem?_cons_zero, List.getElem?_cons_succ] at z0
    obtain ⟨c0, c1⟩ := (⟨HB4.out.cell 0, HB4.out.cell 1⟩ : _ ∧ _)
    simp only [List.getElem?_toArray, List.getElem?_cons_zero, List.getElem?_cons_succ] at c0 c1
    by_cases h4 : o.k = 4
    · have f4 : (o.k != 4) = false := by simpa using h4
      generalize hM : wrM s (kk : Int) rs = mm at *
      have HVV := Lib.hid (HVY.out h4)
      clear HVY HVN hM
      go_wp2_with fail
      refine (MK.out _ HS4.out).mono ?_
      rintro e w5 ⟨rfl, s5⟩
      go_wp2_with fail
      go_ret
      exact ⟨ret_int (by rw [HVV.out]), S0.out.trans (HS4.out.trans s5)⟩
    · have f4 : (o.k != 4) = true := by simpa using h4
      have HVV := Lib.hid (HVN.out h4)
      clear HVY HVN
      go_wp2_with fail
      go_ret
      exact ⟨ret_int (by rw [HVV.out]), S0.out.trans HS4.out⟩
  · have HB4 := Lib.hid (B1.out.same ((Same.refl w1).alloc (.cells #[.int .i64 0, .int .i64 0, .int .i64 0, .int .i64 0, .int .u32 0, .slice none 0 0, .int .i64 0, .slice none 0 0] 43)))
    have HQ4 := Lib.hid (Blk.new w1 43 #[.int .i64 0, .int .i64 0, .int .i64 0, .int .i64 0, .int .u32 0, .slice none 0 0, .int .i64 0, .slice none 0 0])
    have HS4 := Lib.hid (S1.out.alloc (.cells #[.int .i64 0, .int .i64 0, .int .i64 0, .int .i64 0, .int .u32 0, .slice none 0 0, .int .i64 0, .slice none 0 0] 43))
    have HVV := Lib.hid (show slotsI s k rs = 0 from if_neg (fun g => by omega))
    clear hout MO
    go_upto_region 2 with fail
    generalize w1.alloc (.cells #[.int .i64 0, .int .i64 0, .int .i64 0, .int .i64 0, .int .u32 0, .slice none 0 0, .int .i64 0, .slice none 0 0] 43) = w4 at *
    generalize w1.heap.size = q1 at *
    have z0 := HQ4.out.cell 0
    simp only [List.getElem?_toArray, List.getElem?_cons_zero, List.getElem?_cons_succ] at z0
    go_wp2_with fail
    go_ret
    exact ⟨ret_int (by rw [HVV.out]), S0.out.trans HS4.out⟩
set_option maxRecDepth 100000 in
set_option maxHeartbeats 4000000 in
theorem caps_any (A B : Option Addr) (n c m d : Nat) (s : PS) (k : Int) (C : Option Addr) (cl cc : Nat) (rs : List Int) (hrs : ∀ y ∈ rs, (Lit.int .i64 y).wf = true) (hsl : ∀ o ∈ s.os, o.sl ≤ 9223372036854775807) (w : World) (hs : SysAt w A n B m s) (hnm : n ≤ maxLen ∧ m ≤ maxLen) (hf : ∀ p ∈ s.ts, p.code.length ≤ 200) (ho : Sy.OFew s.os 5000) (hT : Is.Tabs w) (hcl : rs.length = cl) (hr : Row w C (rs.map (Value.int .i64))) :
    Calls Tryz.prog 15 #[.agg #[.slice A n c, .slice B m d], .int .i64 k, .slice C cl cc] w fun e w' => e = .returned (.int .i64 (capsI s k rs)) ∧ Same w w' := by
  obtain ⟨w0, hw0⟩ : ∃ w0, w0 = w.alloc (.cells #[.slice A n c, .slice B m d] 25) := ⟨_, rfl⟩
  obtain ⟨g, hg⟩ : ∃ g, g = w.heap.size := ⟨_, rfl⟩
  have s0 : Same w w0 := hw0 ▸ (Same.refl w).alloc _
  have b0 : Blk w0 g 25 #[.slice A n c, .slice B m d] := by rw [hw0, hg]; exact Blk.new w _ _
  have HE0 := Lib.hid hw0
  have HG := Lib.hid hg
  have S0 := Lib.hid s0
  obtain ⟨c0, c1⟩ := (⟨b0.cell 0, b0.cell 1⟩ : _ ∧ _)
  simp only [List.getElem?_toArray, List.getElem?_cons_zero, List.getElem?_cons_succ] at c0 c1
  have B0 := Lib.hid b0
  have RO := Lib.hid (Dm.rowo_any B m d s.os k w0 (hs.ho.same s0) hs.hm)
  have MO := Lib.hid (fun (kk : Nat) (o : PO) (hox : s.os[kk]? = some o) W (h : Same w0 W) => mostf_any A B n c m d s kk o C cl cc rs hrs hsl W (hs.same (s0.trans h)) hnm hf ho (hT.same (s0.trans h)) hox hcl (hr.same (s0.trans h)))
  have hmb := flM_bd s k rs
  clear hw0 hg s0 b0 hs hT hf ho hcl hr
  go_enter Tryz.func15, Tryz.ntmps15
  go_upto_region 1 with fail
  rw [← HE0.out, ← HG.out]
  clear HE0 HG
  go_wp2_with fail
  refine RO.out.mono ?_
  rintro e w1 ⟨s1, ho⟩
  have S1 := Lib.hid s1
  have B1 := Lib.hid (B0.out.same s1)
  clear s1 RO c0 c1 B0
  rcases ho with ⟨kk, o, Xo, co, Yo, do_, rfl, hox, hsa, rfl⟩ | ⟨hout, rfl⟩
  · have HB4 := Lib.hid (B1.out.same ((Same.refl w1).alloc (.cells #[.int .i64 o.k, .int .i64 o.wd, .int .i64 o.sl, .int .i64 o.cp, .int .u32 o.sa, .slice Xo o.ini.length co, .int .i64 o.ow, .slice Yo o.rd.length do_] 43)))
    have HQ4 := Lib.hid (Blk.new w1 43 #[.int .i64 o.k, .int .i64 o.wd, .int .i64 o.sl, .int .i64 o.cp, .int .u32 o.sa, .slice Xo o.ini.length co, .int .i64 o.ow, .slice Yo o.rd.length do_])
    have HS4 := Lib.hid (S1.out.alloc (.cells #[.int .i64 o.k, .int .i64 o.wd, .int .i64 o.sl, .int .i64 o.cp, .int .u32 o.sa, .slice Xo o.ini.length co, .int .i64 o.ow, .slice Yo o.rd.length do_] 43))
    have HOB := obj_in hox
    have hkl := (List.getElem?_eq_some_iff.1 hox).1
    have HVY := Lib.hid (show (o.k = 3 ∨ o.k = 4 ∨ o.k = 5) → capsI s (kk : Int) rs = 1 + flM s kk rs from fun h => if_pos ⟨by omega, by rw [HOB]; exact h⟩)
    have HVN := Lib.hid (show ¬ (o.k = 3 ∨ o.k = 4 ∨ o.k = 5) → capsI s (kk : Int) rs = 0 from fun h => if_neg (fun g => h (by rw [← HOB]; exact g.2)))
    have MK := Lib.hid (MO.out kk o hox)
    clear HOB hkl hox MO
    go_upto_region 2 with fail
    generalize w1.alloc (.cells #[.int .i64 o.k, .int .i64 o.wd, .int .i64 o.sl, .int .i64 o.cp, .int .u32 o.sa, .slice Xo o.ini.length co, .int .i64 o.ow, .slice Yo o.rd.length do_] 43) = w4 at *
    generalize w1.heap.size = q1 at *
    have z0 := HQ4.out.cell 0
    simp only [List.getElem?_toArray, List.getElem?_cons_zero, List.getElem?_cons_succ] at z0
    obtain ⟨c0, c1⟩ := (⟨HB4.out.cell 0, HB4.out.cell 1⟩ : _ ∧ _)
    simp only [List.getElem?_toArray, List.getElem?_cons_zero, List.getElem?_cons_succ] at c0 c1
    by_cases h3 : o.k = 3
    · have f3 : (o.k == 3) = true := by simp <;> omega
      have f4 : (o.k == 4) = false := by simp <;> omega
      have f5 : (o.k == 5) = false := by simp <;> omega
      generalize hM : flM s (kk : Int) rs = mm at *
      have HVV := Lib.hid (HVY.out (by omega))
      clear HVY HVN hM
      go_wp2_with fail
      refine (MK.out _ HS4.out).mono ?_
      rintro e w5 ⟨rfl, s5⟩
      go_wp2_with fail
      go_ret
      exact ⟨ret_int (by rw [HVV.out]), S0.out.trans (HS4.out.trans s5)⟩
    by_cases h4 : o.k = 4
    · have f3 : (o.k == 3) = false := by simp <;> omega
      have f4 : (o.k == 4) = true := by simp <;> omega
      have f5 : (o.k == 5) = false := by simp <;> omega
      generalize hM : flM s (kk : Int) rs = mm at *
      have HVV := Lib.hid (HVY.out (by omega))
      clear HVY HVN hM
      go_wp2_with fail
      refine (MK.out _ HS4.out).mono ?_
      rintro e w5 ⟨rfl, s5⟩
      go_wp2_with fail
      go_ret
      exact ⟨ret_int (by rw [HVV.out]), S0.out.trans (HS4.out.trans s5)⟩
    by_cases h5 : o.k = 5
    · have f3 : (o.k == 3) = false := by simp <;> omega
      have f4 : (o.k == 4) = false := by simp <;> omega
      have f5 : (o.k == 5) = true := by simp <;> omega
      generalize hM : flM s (kk : Int) rs = mm at *
      have HVV := Lib.hid (HVY.out (by omega))
      clear HVY HVN hM
      go_wp2_with fail
      refine (MK.out _ HS4.out).mono ?_
      rintro e w5 ⟨rfl, s5⟩
      go_wp2_with fail
      go_ret
      exact ⟨ret_int (by rw [HVV.out]), S0.out.trans (HS4.out.trans s5)⟩
    · have f3 : (o.k == 3) = false := by simp <;> omega
      have f4 : (o.k == 4) = false := by simp <;> omega
      have f5 : (o.k == 5) = false := by simp <;> omega
      have HVV := Lib.hid (HVN.out (by omega))
      clear HVY HVN
      go_wp2_with fail
      go_ret
      exact ⟨ret_int (by rw [HVV.out]), S0.out.trans HS4.out⟩
  · have HB4 := Lib.hid (B1.out.same ((Same.refl w1).alloc (.cells #[.int .i64 0, .int .i64 0, .int .i64 0, .int .i64 0, .int .u32 0, .slice none 0 0, .int .i64 0, .slice none 0 0] 43)))
    have HQ4 := Lib.hid (Blk.new w1 43 #[.int .i64 0, .int .i64 0, .int .i64 0, .int .i64 0, .int .u32 0, .slice none 0 0, .int .i64 0, .slice none 0 0])
    have HS4 := Lib.hid (S1.out.alloc (.cells #[.int .i64 0, .int .i64 0, .int .i64 0, .int .i64 0, .int .u32 0, .slice none 0 0, .int .i64 0, .slice none 0 0] 43))
    have HVV := Lib.hid (show capsI s k rs = 0 from if_neg (fun g => by omega))
    clear hout MO
    go_upto_region 2 with fail
    generalize w1.alloc (.cells #[.int .i64 0, .int .i64 0, .int .i64 0, .int .i64 0, .int .u32 0, .slice none 0 0, .int .i64 0, .slice none 0 0] 43) = w4 at *
    generalize w1.heap.size = q1 at *
    have z0 := HQ4.out.cell 0
    simp only [List.getElem?_toArray, List.getElem?_cons_zero, List.getElem?_cons_succ] at z0
    go_wp2_with fail
    go_ret
    exact ⟨ret_int (by rw [HVV.out]), S0.out.trans HS4.out⟩
end Go.Proofs.YthhbhbfkbncegabGreatDoor.Sz
end
end
