/-

 Package demand (layer 36): Clean and Whole of any system's task; the chapter's example.
-/
import Derived.Test.YthhbhbfkbncegaaGreatDoorDmdCalls
import Derived.Test.YthhbhbfkbncegaaGreatDoorDmdWeigh
import Derived.Test.YthhbhbfkbncegaaGreatDoorRegionOff
section
set_option linter.unusedVariables false
set_option linter.unusedSimpArgs false
namespace Go.Proofs.YthhbhbfkbncegaaGreatDoor.Dm
open Go.ChangeShapes Go.WideShapes Go.ChangeAt Go.RowKit Ws
open Im (PT PO PS TsAt OsAt SysAt tcells ocells)
open Go.Proofs.YthhbhbfkbncegaaGreatDoor.Is (callB callV rightB)

set_option maxRecDepth 100000 in
theorem writes_any (A B : Option Addr) (n c m d : Nat) (s : PS) (i k : Int) (w : World) (hs : SysAt w A n B m s) (hnm : n ≤ maxLen ∧ m ≤ maxLen) (hf : ∀ p ∈ s.ts, p.code.length ≤ 200) (hT : Is.Tabs w) :
 Calls Tryz.prog 63 #[.agg #[.slice A n c, .slice B m d], .int .i64 i, .int .i64 k] w fun e w' => e = .returned (.int .i64 (demI s i k 18 19)) ∧ Same w w' := by
 have s0 := (Same.refl w).alloc (.cells #[.slice A n c, .slice B m d] 25)
 have b0 := Blk.new w 25 #[.slice A n c, .slice B m d]
 obtain ⟨w0, hw0⟩ : ∃ w0, w0 = w.alloc (.cells #[.slice A n c, .slice B m d] 25) := ⟨_, rfl⟩
 rw [← hw0] at s0 b0
 have HE := Lib.hid hw0
 have c0 := b0.cell 0
 have c1 := b0.cell 1
 simp only [Ws.q_] at c0 c1
 obtain ⟨w1, hw1⟩ : ∃ w1, w1 = w0.alloc (.cells #[.int .i64 18, .int .i64 19] 3) := ⟨_, rfl⟩
 have s1 : Same w0 w1 := hw1 ▸ (Same.refl w0).alloc _
 have b1 : Blk w1 w0.heap.size 3 #[.int .i64 18, .int .i64 19] := hw1 ▸ Blk.new w0 _ _
 have HE1 := Lib.hid hw1
 have CD := Lib.hid (calls_dem A B n c m d s i k 18 19 w0.heap.size w1 (hs.same (s0.trans s1)) hnm hf ((b1.cell 0).trans rfl) ((b1.cell 1).trans rfl) (hT.same (s0.trans s1)))
 have S01 := Lib.hid (s0.trans s1)
 clear hs hf hT hw0 hw1 s0 s1 b0 b1
 go_enter Tryz.func63, Tryz.ntmps63
 go_upto_region 1 with fail
 rw [← HE.out]
 go_wp2_with fail
 rw [← HE1.out]
 refine CD.out.mono ?_
 rintro e w2 ⟨rfl, s2⟩
 go_wp2_with fail
 go_ret
 exact ⟨rfl, S01.out.trans s2⟩

set_option maxRecDepth 100000 in
theorem reads_any (A B : Option Addr) (n c m d : Nat) (s : PS) (i k : Int) (w : World) (hs : SysAt w A n B m s) (hnm : n ≤ maxLen ∧ m ≤ maxLen) (hf : ∀ p ∈ s.ts, p.code.length ≤ 200) (hT : Is.Tabs w) :
 Calls Tryz.prog 60 #[.agg #[.slice A n c, .slice B m d], .int .i64 i, .int .i64 k] w fun e w' => e = .returned (.int .i64 (demI s i k 17 20)) ∧ Same w w' := by
 have s0 := (Same.refl w).alloc (.cells #[.slice A n c, .slice B m d] 25)
 have b0 := Blk.new w 25 #[.slice A n c, .slice B m d]
 obtain ⟨w0, hw0⟩ : ∃ w0, w0 = w.alloc (.cells #[.slice A n c, .slice B m d] 25) := ⟨_, rfl⟩
 rw [← hw0] at s0 b0
 have HE := Lib.hid hw0
 have c0 := b0.cell 0
 have c1 := b0.cell 1
 simp only [Ws.q_] at c0 c1
 obtain ⟨w1, hw1⟩ : ∃ w1, w1 = w0.alloc (.cells #[.int .i64 17, .int .i64 20] 3) := ⟨_, rfl⟩
 have s1 : Same w0 w1 := hw1 ▸ (Same.refl w0).alloc _
 have b1 : Blk w1 w0.heap.size 3 #[.int .i64 17, .int .i64 20] := hw1 ▸ Blk.new w0 _ _
 have HE1 := Lib.hid hw1
 have CD := Lib.hid (calls_dem A B n c m d s i k 17 20 w0.heap.size w1 (hs.same (s0.trans s1)) hnm hf ((b1.cell 0).trans rfl) ((b1.cell 1).trans rfl) (hT.same (s0.trans s1)))
 have S01 := Lib.hid (s0.trans s1)
 clear hs hf hT hw0 hw1 s0 s1 b0 b1
 go_enter Tryz.func60, Tryz.ntmps60
 go_upto_region 1 with fail
 rw [← HE.out]
 go_wp2_with fail
 rw [← HE1.out]
 refine CD.out.mono ?_
 rintro e w2 ⟨rfl, s2⟩
 go_wp2_with fail
 go_ret
 exact ⟨rfl, S01.out.trans s2⟩
end Go.Proofs.YthhbhbfkbncegaaGreatDoor.Dm
end
section
set_option linter.unusedVariables false
set_option linter.unusedSimpArgs false
namespace Go.Proofs.YthhbhbfkbncegaaGreatDoor.Dm
open Go.ChangeShapes Go.WideShapes Go.ChangeAt Go.RowKit Ws
open Im (PT PO PS TsAt OsAt SysAt tcells ocells)
open Go.Proofs.YthhbhbfkbncegaaGreatDoor.Is (callB callV rightB)

def dearI (s : PS) (i fails : Int) : Int := if 0 ≤ i ∧ i < s.ts.length then Cs.weI true (pI (s.ts.getD i.toNat default)) (wgtL s i fails) else 0
def dearE (s : PS) (i fails : Int) : Int := if 0 ≤ i ∧ i < s.ts.length then Cs.weE (pI (s.ts.getD i.toNat default)) (wgtL s i fails).length else 1
theorem dear_out {s : PS} {i fails : Int} (h : i < 0 ∨ (s.ts.length : Int) ≤ i) : dearI s i fails = 0 ∧ dearE s i fails = 1 := ⟨if_neg (by omega), if_neg (by omega)⟩
theorem dear_in {s : PS} {i : Nat} {fails : Int} {p : PT} (h : s.ts[i]? = some p) : dearI s i fails = Cs.weI true (pI p) (wgtL s i fails) ∧ dearE s i fails = Cs.weE (pI p) (wgtL s i fails).length := by
 have hi : i < s.ts.length := (List.getElem?_eq_some_iff.1 h).1
 have e : s.ts.getD ((i : Int)).toNat default = p := by rw [Int.toNat_natCast, List.getD_eq_getElem?_getD, h]; rfl
 unfold dearI dearE
 rw [if_pos (by omega), if_pos (by omega), e]
 exact ⟨rfl, rfl⟩
set_option maxRecDepth 100000 in
set_option maxHeartbeats 4000000 in
theorem dearest_any (A B : Option Addr) (n c m d : Nat) (s : PS) (i fails : Int) (w : World) (hs : SysAt w A n B m s) (hf : ∀ p ∈ s.ts, p.code.length ≤ 200) (hT : Is.Tabs w) :
 Calls Tryz.prog 46 #[.agg #[.slice A n c, .slice B m d], .int .i64 i, .int .i64 fails] w fun e w' => e = .returned (.tuple #[.int .i64 (dearI s i fails), .int .i64 (dearE s i fails)]) ∧ Same w w' := by
 obtain ⟨w0, hw0⟩ : ∃ w0, w0 = w.alloc (.cells #[.slice A n c, .slice B m d] 25) := ⟨_, rfl⟩
 have s0 : Same w w0 := hw0 ▸ (Same.refl w).alloc _
 have b0 : Blk w0 w.heap.size 25 #[.slice A n c, .slice B m d] := hw0 ▸ Blk.new w _ _
 have HE0 := Lib.hid hw0
 have HF := Lib.hid hf
 have c0 := b0.cell 0
 simp only [Ws.q_] at c0
 have S0 := Lib.hid s0
 have B0 := Lib.hid b0
 have HT := Lib.hid hT
 have RT := Lib.hid (rowt_any A n c s.ts i w0 (hs.ht.same s0) hs.hn)
 have WG := Lib.hid (fun W (h : Same w W) => weights_any A B n c m d s i fails W (hs.same h) hf (hT.same h))
 clear hw0 s0 b0 hs hf hT
 go_enter Tryz.func46, Tryz.ntmps46
 go_wp2_with fail
 rw [← HE0.out]
 clear HE0
 refine RT.out.mono ?_
 rintro e w1 ⟨s1, ht⟩
 have S1 := Lib.hid s1
 have B1 := Lib.hid (B0.out.same s1)
 clear s1 RT B0 c0
 rcases ht with ⟨ki, p, X, cX, rfl, hp, hcode, hlen, rfl⟩ | ⟨hout, rfl⟩
 ·have HCW := Lib.hid hcode
  have HLE := Lib.hid (HF.out p (List.mem_of_getElem? hp))
  have HD := Lib.hid (dear_in (fails := fails) hp)
  have HWL := Lib.hid (show (wgtL s (ki : Int) fails).length = p.code.length by rw [wl_in hp, List.length_map])
  clear hcode hp hlen
  have HS4 := Lib.hid (S1.out.alloc (.cells #[.int .i64 p.kind, .int .i64 p.prio, .int .i64 p.per, .int .i64 p.off, .int .i64 p.dl, .int .i64 p.own, .slice X p.code.length cX] 47))
  have HQ4 := Lib.hid (Blk.new w1 47 #[.int .i64 p.kind, .int .i64 p.prio, .int .i64 p.per, .int .i64 p.off, .int .i64 p.dl, .int .i64 p.own, .slice X p.code.length cX])
  have HB4 := Lib.hid (B1.out.same ((Same.refl w1).alloc (.cells #[.int .i64 p.kind, .int .i64 p.prio, .int .i64 p.per, .int .i64 p.off, .int .i64 p.dl, .int .i64 p.own, .slice X p.code.length cX] 47)))
  go_upto_region 2 with fail
  generalize w1.alloc (.cells #[.int .i64 p.kind, .int .i64 p.prio, .int .i64 p.per, .int .i64 p.off, .int .i64 p.dl, .int .i64 p.own, .slice X p.code.length cX] 47) = w4 at *
  generalize w1.heap.size = q1 at *
  generalize hq0 : w.heap.size = q0 at *
  clear hq0
  have HLE2 := HLE.out
  have WG4 := Lib.hid (fun W (h : Same w4 W) => WG.out W (S0.out.trans (HS4.out.trans h)))
  generalize wgtL s (ki : Int) fails = wl at *
  go_wp2_with fail
  refine wp_region_held_drew (S := fun w' => Same w4 w') (by kernel_rfl) ?_ (fun hHeld => ?_)
  ·exact (Same.refl w4).drew
  refine Ro.tn 0 ?_ ?_ ?_
  rotate_left
  ·intro wS hSw; (try dsimp only at hSw); go_simp; try with_reducible rfl
  try simp only [Ro.p]
  refine Ro.tn 1 ?_ ?_ ?_
  rotate_left
  ·intro wS hSw; (try dsimp only at hSw); obtain ⟨v0, v1, v2, v3, v4, v5, v6⟩ := (⟨(HQ4.out.same hSw).cell 0, (HQ4.out.same hSw).cell 1, (HQ4.out.same hSw).cell 2, (HQ4.out.same hSw).cell 3, (HQ4.out.same hSw).cell 4, (HQ4.out.same hSw).cell 5, (HQ4.out.same hSw).cell 6⟩ : _ ∧ _ ∧ _ ∧ _ ∧ _ ∧ _ ∧ _); simp only [Ws.q_] at v0 v1 v2 v3 v4 v5 v6; go_simp; try with_reducible rfl
  try simp only [Ro.p]
  refine Ro.tn 2 ?_ ?_ ?_
  rotate_left
  ·intro wS hSw; (try dsimp only at hSw); obtain ⟨v0, v1⟩ := (⟨(HB4.out.same hSw).cell 0, (HB4.out.same hSw).cell 1⟩ : _ ∧ _); simp only [Ws.q_] at v0 v1; go_simp; try with_reducible rfl
  try simp only [Ro.p]
  refine Ro.tn 3 ?_ ?_ ?_
  rotate_left
  ·intro wS hSw; (try dsimp only at hSw); go_simp; try with_reducible rfl
  try simp only [Ro.p]
  refine Ro.tn 4 ?_ ?_ ?_
  rotate_left
  ·intro wS hSw; (try dsimp only at hSw); go_simp; try with_reducible rfl
  try simp only [Ro.p]
  refine Ro.one_on (i := 5) rfl (by kernel_rfl) (by rfl) (fun K hK => ?_)
  go_simp
  go_at_call 71
  refine (WG4.out _ hHeld).mono ?_
  rintro e wO ⟨OB, oc, rfl, hro, sO⟩
  have HRO := Lib.hid hro
  clear hro
  refine hK.out _ _ ?_ (fun hNew => ?_)
  ·exact hHeld.trans sO
  clear hK K hHeld; have hHeld := hNew; clear hNew
  try simp only [Ro.p]
  refine Ro.one_on (i := 6) rfl (by kernel_rfl) (by rfl) (fun K hK => ?_)
  go_simp
  go_at_call 70
  refine (Cs.most_any X p.code.length cX (pI p) OB wl.length oc wl wO (by unfold pI; rw [List.length_map]) (by omega) (prgI (HCW.out.same (HS4.out.trans hHeld))) HRO.out rfl (HT.out.same (S0.out.trans (HS4.out.trans hHeld)))).mono ?_
  rintro e wM ⟨rfl, sM⟩
  refine hK.out _ _ ?_ (fun hNew => ?_)
  ·exact hHeld.trans sM
  clear hK K hHeld; have hHeld := hNew; clear hNew
  try simp only [Ro.p]
  refine Ro.tn 7 ?_ ?_ ?_
  rotate_left
  ·intro wS hSw; (try dsimp only at hSw); go_simp; try with_reducible rfl
  try simp only [Ro.p]
  refine Ro.tn 8 ?_ ?_ ?_
  rotate_left
  ·intro wS hSw; (try dsimp only at hSw); go_simp; try with_reducible rfl
  try simp only [Ro.p]
  refine Ro.tn 9 ?_ ?_ ?_
  rotate_left
  ·intro wS hSw; (try dsimp only at hSw); go_simp; try with_reducible rfl
  try simp only [Ro.p]
  refine Ro.tn 10 ?_ ?_ ?_
  rotate_left
  ·intro wS hSw; (try dsimp only at hSw); go_simp; try with_reducible rfl
  try simp only [Ro.p]
  refine wpAnyH_done (by kernel_rfl) ?_ _
  go_wp2_with fail
  go_ret2
  exact ⟨by rw [HD.out.1, HD.out.2]; rfl, S0.out.trans (HS4.out.trans hHeld)⟩
 ·have HD := Lib.hid (dear_out (fails := fails) hout)
  clear hout
  have HS4 := Lib.hid (S1.out.alloc (.cells #[.int .i64 0, .int .i64 0, .int .i64 0, .int .i64 0, .int .i64 0, .int .i64 0, .slice none 0 0] 47))
  go_upto_region 2 with fail
  generalize w1.alloc (.cells #[.int .i64 0, .int .i64 0, .int .i64 0, .int .i64 0, .int .i64 0, .int .i64 0, .slice none 0 0] 47) = w4 at *
  go_wp2_with fail
  go_ret2
  exact ⟨by rw [HD.out.1, HD.out.2]; rfl, S0.out.trans HS4.out⟩

set_option maxRecDepth 100000 in
theorem clean36_any (A B : Option Addr) (n c m d : Nat) (s : PS) (i : Int) (w : World) (hs : SysAt w A n B m s) (hf : ∀ p ∈ s.ts, p.code.length ≤ 200) (hT : Is.Tabs w) :
 Calls Tryz.prog 21 #[.agg #[.slice A n c, .slice B m d], .int .i64 i] w fun e w' => e = .returned (.tuple #[.int .i64 (dearI s i 0), .int .i64 (dearE s i 0)]) ∧ Same w w' := by
 obtain ⟨w0, hw0⟩ : ∃ w0, w0 = w.alloc (.cells #[.slice A n c, .slice B m d] 25) := ⟨_, rfl⟩
 have s0 : Same w w0 := hw0 ▸ (Same.refl w).alloc _
 have b0 : Blk w0 w.heap.size 25 #[.slice A n c, .slice B m d] := hw0 ▸ Blk.new w _ _
 have HE0 := Lib.hid hw0
 have c0 := b0.cell 0
 have c1 := b0.cell 1
 simp only [Ws.q_] at c0 c1
 have S0 := Lib.hid s0
 have DE := Lib.hid (dearest_any A B n c m d s i 0 w0 (hs.same s0) hf (hT.same s0))
 clear hw0 s0 b0 hs hf hT
 generalize dearI s i 0 = di at *
 generalize dearE s i 0 = de at *
 go_enter Tryz.func21, Tryz.ntmps21
 go_wp2_with fail
 rw [← HE0.out]
 refine DE.out.mono ?_
 rintro e w1 ⟨rfl, s1⟩
 go_wp2_with fail
 go_ret2
 exact ⟨rfl, S0.out.trans s1⟩

end Go.Proofs.YthhbhbfkbncegaaGreatDoor.Dm
end
