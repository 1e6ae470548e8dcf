/-

  The law DemandWalks.
-/
import Derived.Test.YtknmfopnbognpaaGreatDoorDmdCalls
import Derived.Test.YtknmfopnbognpaaGreatDoorCstRefMost
import Derived.Test.YtknmfopnbognpaaGreatDoorDmdWeigh
import Derived.Test.YtknmfopnbognpaaGreatDoorRegionOff
import Derived.Test.YtknmfopnbognpaaGreatDoorSysFew
import Derived.Test.YtknmfopnbognpaaGreatDoorWlkSum
import Derived.Test.YtknmfopnbognpaaGreatDoorRefWalk
section
section
set_option linter.unusedVariables false
set_option linter.unusedSimpArgs false
namespace Go.Proofs.YtknmfopnbognpaaGreatDoor.Dm
open Go.ChangeShapes Go.WideShapes Go.ChangeAt Go.RowKit Ws
open Im (PT PO PS TsAt OsAt SysAt tcells ocells)
open Go.Proofs.YtknmfopnbognpaaGreatDoor.Is (callB callV rightB)

def kx (wr : Bool) : Int := if wr then 18 else 17
def ky (wr : Bool) : Int := if wr then 19 else 20
def cntR (k x y : Int) (i : Fp.Ins) : Int := if (i.op = x ∨ i.op = y) ∧ i.b = k then 1 else 0
theorem cnt_eq {P : List Fp.Ins} (hok : Fw.okB P = true) (k : Int) (wr : Bool) : P.map (cntI k (kx wr) (ky wr)) = P.map (cntR k (kx wr) (ky wr)) := by
  apply List.map_congr_left
  intro i hi
  obtain ⟨j, hj, rfl⟩ := List.getElem_of_mem hi
  have hr := (Fw.okB_fine hok).right j hj
  rw [Fp.at_eq (List.getElem?_eq_getElem hj)] at hr
  have hr' : rightB P[j].op P[j].a P[j].b P[j].c P[j].n = true := hr
  unfold cntI cntR
  rw [hr', Bool.true_and]
  by_cases h : P[j].op = kx wr ∨ P[j].op = ky wr
  · have hc : callB P[j].op = true := by
      unfold callB
      rw [decide_eq_true_eq]
      cases wr <;> (unfold kx ky at h; simp at h; omega)
    by_cases hb : P[j].b = k
    · rw [if_pos ⟨hc, hb, h⟩, if_pos ⟨h, hb⟩]
    · rw [if_neg (fun h' => hb h'.2.1), if_neg (fun h' => hb h'.2)]
  · rw [if_neg (fun h' => h h'.2.2), if_neg (fun h' => h h'.1)]
theorem wei_ok {P : List Fp.Ins} (hok : Fw.okB P = true) (k : Int) (wr : Bool) : Cs.weI true P (P.map (cntI k (kx wr) (ky wr))) = Cs.weighW Cs.btG P (P.map (cntR k (kx wr) (ky wr))) := by
  have he : Cs.weE P (P.map (cntI k (kx wr) (ky wr))).length = 0 := by
    unfold Cs.weE
    rw [if_pos (of_decide_eq_true hok), List.length_map, if_pos rfl]
  unfold Cs.weI
  rw [if_pos he, cnt_eq hok]
  rfl
theorem wei_no {P : List Fp.Ins} (hok : Fw.okB P = false) (k x y : Int) : Cs.weI true P (P.map (cntI k x y)) = 0 := by
  have hc : ¬ Fw.ckE P = 0 := fun h => by unfold Fw.okB at hok; rw [h] at hok; cases hok
  have he : ¬ Cs.weE P (P.map (cntI k x y)).length = 0 := by
    unfold Cs.weE
    rw [if_neg hc]
    exact hc
  exact Cs.wei_bad he

set_option maxRecDepth 100000 in
theorem writes_any (A B : Option Addr) (n c m d : Nat) (s : PS) (i k : Int) (w : World) (hs : SysAt w A n B m s) (hnm : n ≤ maxLen ∧ m ≤ maxLen) (hf : ∀ p ∈ s.ts, p.code.length ≤ 200) (hT : Is.Tabs w) :
    Calls Tryz.prog 11 #[.agg #[.slice A n c, .slice B m d], .int .i64 i, .int .i64 k] w fun e w' => e = .returned (.int .i64 (demI s i k 18 19)) ∧ Same w w' := by
  have s0 := (Same.refl w).alloc (.cells #[.slice A n c, .slice B m d] 25)
  have b0 := Blk.new w 25 #[.slice A n c, .slice B m d]
  obtain ⟨w0, hw0⟩ : ∃ w0, w0 = w.alloc (.cells #[.slice A n c, .slice B m d] 25) := ⟨_, rfl⟩
  rw [← hw0] at s0 b0
  have HE := Lib.hid hw0
  have c0 := b0.cell 0
  have c1 := b0.cell 1
  simp only [List.getElem?_toArray, List.getElem?_cons_zero, List.getElem?_cons_succ] at c0 c1
  obtain ⟨w1, hw1⟩ : ∃ w1, w1 = w0.alloc (.cells #[.int .i64 18, .int .i64 19] 3) := ⟨_, rfl⟩
  have s1 : Same w0 w1 := hw1 ▸ (Same.refl w0).alloc _
  have b1 : Blk w1 w0.heap.size 3 #[.int .i64 18, .int .i64 19] := hw1 ▸ Blk.new w0 _ _
  have HE1 := Lib.hid hw1
  have CD := Lib.hid (calls_dem A B n c m d s i k 18 19 w0.heap.size w1 (hs.same (s0.trans s1)) hnm hf ((b1.cell 0).trans rfl) ((b1.cell 1).trans rfl) (hT.same (s0.trans s1)))
  have S01 := Lib.hid (s0.trans s1)
  clear hs hf hT hw0 hw1 s0 s1 b0 b1
  go_enter Tryz.func11, Tryz.ntmps11
  go_upto_region 1 with fail
  rw [← HE.out]
  go_wp2_with fail
  rw [← HE1.out]
  refine CD.out.mono ?_
  rintro e w2 ⟨rfl, s2⟩
  go_wp2_with fail
  go_ret
  exact ⟨rfl, S01.out.trans s2⟩

set_option maxRecDepth 100000 in
theorem reads_any (A B : Option Addr) (n c m d : Nat) (s : PS) (i k : Int) (w : World) (hs : SysAt w A n B m s) (hnm : n ≤ maxLen ∧ m ≤ maxLen) (hf : ∀ p ∈ s.ts, p.code.length ≤ 200) (hT : Is.Tabs w) :
    Calls Tryz.prog 15 #[.agg #[.slice A n c, .slice B m d], .int .i64 i, .int .i64 k] w fun e w' => e = .returned (.int .i64 (demI s i k 17 20)) ∧ Same w w' := by
  have s0 := (Same.refl w).alloc (.cells #[.slice A n c, .slice B m d] 25)
  have b0 := Blk.new w 25 #[.slice A n c, .slice B m d]
  obtain ⟨w0, hw0⟩ : ∃ w0, w0 = w.alloc (.cells #[.slice A n c, .slice B m d] 25) := ⟨_, rfl⟩
  rw [← hw0] at s0 b0
  have HE := Lib.hid hw0
  have c0 := b0.cell 0
  have c1 := b0.cell 1
  simp only [List.getElem?_toArray, List.getElem?_cons_zero, List.getElem?_cons_succ] at c0 c1
  obtain ⟨w1, hw1⟩ : ∃ w1, w1 = w0.alloc (.cells #[.int .i64 17, .int .i64 20] 3) := ⟨_, rfl⟩
  have s1 : Same w0 w1 := hw1 ▸ (Same.refl w0).alloc _
  have b1 : Blk w1 w0.heap.size 3 #[.int .i64 17, .int .i64 20] := hw1 ▸ Blk.new w0 _ _
  have HE1 := Lib.hid hw1
  have CD := Lib.hid (calls_dem A B n c m d s i k 17 20 w0.heap.size w1 (hs.same (s0.trans s1)) hnm hf ((b1.cell 0).trans rfl) ((b1.cell 1).trans rfl) (hT.same (s0.trans s1)))
  have S01 := Lib.hid (s0.trans s1)
  clear hs hf hT hw0 hw1 s0 s1 b0 b1
  go_enter Tryz.func15, Tryz.ntmps15
  go_upto_region 1 with fail
  rw [← HE.out]
  go_wp2_with fail
  rw [← HE1.out]
  refine CD.out.mono ?_
  rintro e w2 ⟨rfl, s2⟩
  go_wp2_with fail
  go_ret
  exact ⟨rfl, S01.out.trans s2⟩

end Go.Proofs.YtknmfopnbognpaaGreatDoor.Dm
end
section
section
set_option linter.unusedVariables false
set_option linter.unusedSimpArgs false
namespace Go.Proofs.YtknmfopnbognpaaGreatDoor.Dm
open Go.ChangeShapes Go.WideShapes Go.ChangeAt Go.RowKit Ws
open Im (PT PO PS TsAt OsAt SysAt tcells ocells)
open Go.Proofs.YtknmfopnbognpaaGreatDoor.Is (callB callV rightB)

def dearI (s : PS) (i fails : Int) : Int := if 0 ≤ i ∧ i < s.ts.length then Cs.weI true (pI (s.ts.getD i.toNat default)) (wgtL s i fails) else 0
def dearE (s : PS) (i fails : Int) : Int := if 0 ≤ i ∧ i < s.ts.length then Cs.weE (pI (s.ts.getD i.toNat default)) (wgtL s i fails).length else 1
theorem dear_out {s : PS} {i fails : Int} (h : i < 0 ∨ (s.ts.length : Int) ≤ i) : dearI s i fails = 0 ∧ dearE s i fails = 1 := ⟨if_neg (by omega), if_neg (by omega)⟩
theorem dear_in {s : PS} {i : Nat} {fails : Int} {p : PT} (h : s.ts[i]? = some p) : dearI s i fails = Cs.weI true (pI p) (wgtL s i fails) ∧ dearE s i fails = Cs.weE (pI p) (wgtL s i fails).length := by
  have hi : i < s.ts.length := (List.getElem?_eq_some_iff.1 h).1
  have e : s.ts.getD ((i : Int)).toNat default = p := by rw [Int.toNat_natCast, List.getD_eq_getElem?_getD, h]; rfl
  unfold dearI dearE
  rw [if_pos (by omega), if_pos (by omega), e]
  exact ⟨rfl, rfl⟩
set_option maxRecDepth 100000 in
set_option maxHeartbeats 4000000 in
theorem dearest_any (A B : Option Addr) (n c m d : Nat) (s : PS) (i fails : Int) (w : World) (hs : SysAt w A n B m s) (hf : ∀ p ∈ s.ts, p.code.length ≤ 200) (hT : Is.Tabs w) :
    Calls Tryz.prog 21 #[.agg #[.slice A n c, .slice B m d], .int .i64 i, .int .i64 fails] w fun e w' => e = .returned (.tuple #[.int .i64 (dearI s i fails), .int .i64 (dearE s i fails)]) ∧ Same w w' := by
  obtain ⟨w0, hw0⟩ : ∃ w0, w0 = w.alloc (.cells #[.slice A n c, .slice B m d] 25) := ⟨_, rfl⟩
  have s0 : Same w w0 := hw0 ▸ (Same.refl w).alloc _
  have b0 : Blk w0 w.heap.size 25 #[.slice A n c, .slice B m d] := hw0 ▸ Blk.new w _ _
  have HE0 := Lib.hid hw0
  have HF := Lib.hid hf
  have c0 := b0.cell 0
  simp only [List.getElem?_toArray, List.getElem?_cons_zero, List.getElem?_cons_succ] at c0
  have S0 := Lib.hid s0
  have B0 := Lib.hid b0
  have HT := Lib.hid hT
  have RT := Lib.hid (rowt_any A n c s.ts i w0 (hs.ht.same s0) hs.hn)
  have WG := Lib.hid (fun W (h : Same w W) => weights_any A B n c m d s i fails W (hs.same h) hf (hT.same h))
  clear hw0 s0 b0 hs hf hT
  go_enter Tryz.func21, Tryz.ntmps21
  go_wp2_with fail
  rw [← HE0.out]
  clear HE0
  refine RT.out.mono ?_
  rintro e w1 ⟨s1, ht⟩
  have S1 := Lib.hid s1
  have B1 := Lib.hid (B0.out.same s1)
  clear s1 RT B0 c0
  rcases ht with ⟨ki, p, X, cX, rfl, hp, hcode, hlen, rfl⟩ | ⟨hout, rfl⟩
  · have HCW := Lib.hid hcode
    have HLE := Lib.hid (HF.out p (List.mem_of_getElem? hp))
    have HD := Lib.hid (dear_in (fails := fails) hp)
    have HWL := Lib.hid (show (wgtL s (ki : Int) fails).length = p.code.length by rw [wl_in hp, List.length_map])
    clear hcode hp hlen
    have HS4 := Lib.hid (S1.out.alloc (.cells #[.int .i64 p.kind, .int .i64 p.prio, .int .i64 p.per, .int .i64 p.off, .int .i64 p.dl, .int .i64 p.own, .slice X p.code.length cX] 31))
    have HQ4 := Lib.hid (Blk.new w1 31 #[.int .i64 p.kind, .int .i64 p.prio, .int .i64 p.per, .int .i64 p.off, .int .i64 p.dl, .int .i64 p.own, .slice X p.code.length cX])
    have HB4 := Lib.hid (B1.out.same ((Same.refl w1).alloc (.cells #[.int .i64 p.kind, .int .i64 p.prio, .int .i64 p.per, .int .i64 p.off, .int .i64 p.dl, .int .i64 p.own, .slice X p.code.length cX] 31)))
    go_upto_region 2 with fail
    generalize w1.alloc (.cells #[.int .i64 p.kind, .int .i64 p.prio, .int .i64 p.per, .int .i64 p.off, .int .i64 p.dl, .int .i64 p.own, .slice X p.code.length cX] 31) = w4 at *
    generalize w1.heap.size = q1 at *
    generalize hq0 : w.heap.size = q0 at *
    clear hq0
    have HLE2 := HLE.out
    have WG4 := Lib.hid (fun W (h : Same w4 W) => WG.out W (S0.out.trans (HS4.out.trans h)))
    generalize wgtL s (ki : Int) fails = wl at *
    go_wp2_with fail
    refine wp_region_held_drew (S := fun w' => Same w4 w') (by kernel_rfl) ?_ (fun hHeld => ?_)
    · exact (Same.refl w4).drew
    refine Ro.take_on (i := 0) (v := ?_) rfl (by kernel_rfl) (by kernel_rfl) (by kernel_rfl) (fun _ _ _ h => h) (by rfl) (by assumption) ?_ ?_
    rotate_left
    · intro wS hSw; (try dsimp only at hSw); go_simp; try with_reducible rfl
    try simp only [Act.put, List.setIfInBounds_toArray, List.set_cons_zero, List.set_cons_succ]
    refine Ro.take_on (i := 1) (v := ?_) rfl (by kernel_rfl) (by kernel_rfl) (by kernel_rfl) (fun _ _ _ h => h) (by rfl) (by assumption) ?_ ?_
    rotate_left
    · intro wS hSw; (try dsimp only at hSw); obtain ⟨v0, v1, v2, v3, v4, v5, v6⟩ := (⟨(HQ4.out.same hSw).cell 0, (HQ4.out.same hSw).cell 1, (HQ4.out.same hSw).cell 2, (HQ4.out.same hSw).cell 3, (HQ4.out.same hSw).cell 4, (HQ4.out.same hSw).cell 5, (HQ4.out.same hSw).cell 6⟩ : _ ∧ _ ∧ _ ∧ _ ∧ _ ∧ _ ∧ _); simp only [List.getElem?_toArray, List.getElem?_cons_zero, List.getElem?_cons_succ] at v0 v1 v2 v3 v4 v5 v6; go_simp; try with_reducible rfl
    try simp only [Act.put, List.setIfInBounds_toArray, List.set_cons_zero, List.set_cons_succ]
    refine Ro.take_on (i := 2) (v := ?_) rfl (by kernel_rfl) (by kernel_rfl) (by kernel_rfl) (fun _ _ _ h => h) (by rfl) (by assumption) ?_ ?_
    rotate_left
    · intro wS hSw; (try dsimp only at hSw); obtain ⟨v0, v1⟩ := (⟨(HB4.out.same hSw).cell 0, (HB4.out.same hSw).cell 1⟩ : _ ∧ _); simp only [List.getElem?_toArray, List.getElem?_cons_zero, List.getElem?_cons_succ] at v0 v1; go_simp; try with_reducible rfl
    try simp only [Act.put, List.setIfInBounds_toArray, List.set_cons_zero, List.set_cons_succ]
    refine Ro.take_on (i := 3) (v := ?_) rfl (by kernel_rfl) (by kernel_rfl) (by kernel_rfl) (fun _ _ _ h => h) (by rfl) (by assumption) ?_ ?_
    rotate_left
    · intro wS hSw; (try dsimp only at hSw); go_simp; try with_reducible rfl
    try simp only [Act.put, List.setIfInBounds_toArray, List.set_cons_zero, List.set_cons_succ]
    refine Ro.take_on (i := 4) (v := ?_) rfl (by kernel_rfl) (by kernel_rfl) (by kernel_rfl) (fun _ _ _ h => h) (by rfl) (by assumption) ?_ ?_
    rotate_left
    · intro wS hSw; (try dsimp only at hSw); go_simp; try with_reducible rfl
    try simp only [Act.put, List.setIfInBounds_toArray, List.set_cons_zero, List.set_cons_succ]
    refine Ro.one_on (i := 5) rfl (by kernel_rfl) (by rfl) (fun K hK => ?_)
    go_simp
    go_at_call 34
    refine (WG4.out _ hHeld).mono ?_
    rintro e wO ⟨OB, oc, rfl, hro, sO⟩
    have HRO := Lib.hid hro
    clear hro
    refine hK.out _ _ ?_ (fun hNew => ?_)
    · exact hHeld.trans sO
    clear hK K hHeld; have hHeld := hNew; clear hNew
    try simp only [Act.put, List.setIfInBounds_toArray, List.set_cons_zero, List.set_cons_succ]
    refine Ro.one_on (i := 6) rfl (by kernel_rfl) (by rfl) (fun K hK => ?_)
    go_simp
    go_at_call 33
    refine (Cs.most_any X p.code.length cX (pI p) OB wl.length oc wl wO (by unfold pI; rw [List.length_map]) (by omega) (prgI (HCW.out.same (HS4.out.trans hHeld))) HRO.out rfl (HT.out.same (S0.out.trans (HS4.out.trans hHeld)))).mono ?_
    rintro e wM ⟨rfl, sM⟩
    refine hK.out _ _ ?_ (fun hNew => ?_)
    · exact hHeld.trans sM
    clear hK K hHeld; have hHeld := hNew; clear hNew
    try simp only [Act.put, List.setIfInBounds_toArray, List.set_cons_zero, List.set_cons_succ]
    refine Ro.take_on (i := 7) (v := ?_) rfl (by kernel_rfl) (by kernel_rfl) (by kernel_rfl) (fun _ _ _ h => h) (by rfl) (by assumption) ?_ ?_
    rotate_left
    · intro wS hSw; (try dsimp only at hSw); go_simp; try with_reducible rfl
    try simp only [Act.put, List.setIfInBounds_toArray, List.set_cons_zero, List.set_cons_succ]
    refine Ro.take_on (i := 8) (v := ?_) rfl (by kernel_rfl) (by kernel_rfl) (by kernel_rfl) (fun _ _ _ h => h) (by rfl) (by assumption) ?_ ?_
    rotate_left
    · intro wS hSw; (try dsimp only at hSw); go_simp; try with_reducible rfl
    try simp only [Act.put, List.setIfInBounds_toArray, List.set_cons_zero, List.set_cons_succ]
    refine Ro.take_on (i := 9) (v := ?_) rfl (by kernel_rfl) (by kernel_rfl) (by kernel_rfl) (fun _ _ _ h => h) (by rfl) (by assumption) ?_ ?_
    rotate_left
    · intro wS hSw; (try dsimp only at hSw); go_simp; try with_reducible rfl
    try simp only [Act.put, List.setIfInBounds_toArray, List.set_cons_zero, List.set_cons_succ]
    refine Ro.take_on (i := 10) (v := ?_) rfl (by kernel_rfl) (by kernel_rfl) (by kernel_rfl) (fun _ _ _ h => h) (by rfl) (by assumption) ?_ ?_
    rotate_left
    · intro wS hSw; (try dsimp only at hSw); go_simp; try with_reducible rfl
    try simp only [Act.put, List.setIfInBounds_toArray, List.set_cons_zero, List.set_cons_succ]
    refine wpAnyH_done (by kernel_rfl) ?_ _
    go_wp2_with fail
    go_ret2
    exact ⟨by rw [HD.out.1, HD.out.2]; rfl, S0.out.trans (HS4.out.trans hHeld)⟩
  · have HD := Lib.hid (dear_out (fails := fails) hout)
    clear hout
    have HS4 := Lib.hid (S1.out.alloc (.cells #[.int .i64 0, .int .i64 0, .int .i64 0, .int .i64 0, .int .i64 0, .int .i64 0, .slice none 0 0] 31))
    go_upto_region 2 with fail
    generalize w1.alloc (.cells #[.int .i64 0, .int .i64 0, .int .i64 0, .int .i64 0, .int .i64 0, .int .i64 0, .slice none 0 0] 31) = w4 at *
    go_wp2_with fail
    go_ret2
    exact ⟨by rw [HD.out.1, HD.out.2]; rfl, S0.out.trans HS4.out⟩

set_option maxRecDepth 100000 in
theorem clean36_any (A B : Option Addr) (n c m d : Nat) (s : PS) (i : Int) (w : World) (hs : SysAt w A n B m s) (hf : ∀ p ∈ s.ts, p.code.length ≤ 200) (hT : Is.Tabs w) :
    Calls Tryz.prog 9 #[.agg #[.slice A n c, .slice B m d], .int .i64 i] w fun e w' => e = .returned (.tuple #[.int .i64 (dearI s i 0), .int .i64 (dearE s i 0)]) ∧ Same w w' := by
  obtain ⟨w0, hw0⟩ : ∃ w0, w0 = w.alloc (.cells #[.slice A n c, .slice B m d] 25) := ⟨_, rfl⟩
  have s0 : Same w w0 := hw0 ▸ (Same.refl w).alloc _
  have b0 : Blk w0 w.heap.size 25 #[.slice A n c, .slice B m d] := hw0 ▸ Blk.new w _ _
  have HE0 := Lib.hid hw0
  have c0 := b0.cell 0
  have c1 := b0.cell 1
  simp only [List.getElem?_toArray, List.getElem?_cons_zero, List.getElem?_cons_succ] at c0 c1
  have S0 := Lib.hid s0
  have DE := Lib.hid (dearest_any A B n c m d s i 0 w0 (hs.same s0) hf (hT.same s0))
  clear hw0 s0 b0 hs hf hT
  generalize dearI s i 0 = di at *
  generalize dearE s i 0 = de at *
  go_enter Tryz.func9, Tryz.ntmps9
  go_wp2_with fail
  rw [← HE0.out]
  refine DE.out.mono ?_
  rintro e w1 ⟨rfl, s1⟩
  go_wp2_with fail
  go_ret2
  exact ⟨rfl, S0.out.trans s1⟩

set_option maxRecDepth 100000 in
theorem whole36_any (A B : Option Addr) (n c m d : Nat) (s : PS) (i : Int) (w : World) (hs : SysAt w A n B m s) (hf : ∀ p ∈ s.ts, p.code.length ≤ 200) (hT : Is.Tabs w) :
    Calls Tryz.prog 10 #[.agg #[.slice A n c, .slice B m d], .int .i64 i] w fun e w' => e = .returned (.tuple #[.int .i64 (dearI s i 16), .int .i64 (dearE s i 16)]) ∧ Same w w' := by
  obtain ⟨w0, hw0⟩ : ∃ w0, w0 = w.alloc (.cells #[.slice A n c, .slice B m d] 25) := ⟨_, rfl⟩
  have s0 : Same w w0 := hw0 ▸ (Same.refl w).alloc _
  have b0 : Blk w0 w.heap.size 25 #[.slice A n c, .slice B m d] := hw0 ▸ Blk.new w _ _
  have HE0 := Lib.hid hw0
  have c0 := b0.cell 0
  have c1 := b0.cell 1
  simp only [List.getElem?_toArray, List.getElem?_cons_zero, List.getElem?_cons_succ] at c0 c1
  have S0 := Lib.hid s0
  have DE := Lib.hid (dearest_any A B n c m d s i 16 w0 (hs.same s0) hf (hT.same s0))
  clear hw0 s0 b0 hs hf hT
  generalize dearI s i 16 = di at *
  generalize dearE s i 16 = de at *
  go_enter Tryz.func10, Tryz.ntmps10
  go_wp2_with fail
  rw [← HE0.out]
  refine DE.out.mono ?_
  rintro e w1 ⟨rfl, s1⟩
  go_wp2_with fail
  go_ret2
  exact ⟨rfl, S0.out.trans s1⟩

def s36 : PS := ⟨[⟨0, 0, 0, 0, 0, 0, [⟨17, 0, 0, 0, 0⟩, ⟨21, 0, 0, 0, 0⟩]⟩], [⟨3, 2, 0, 3, 0, 0, [0], [1, 2]⟩]⟩
theorem s36_a : dearI s36 0 0 = 5 ∧ dearE s36 0 0 = 0 := by decide +kernel
theorem s36_b : dearI s36 0 16 = 13 ∧ dearE s36 0 16 = 0 := by decide +kernel
theorem s36_c : demI s36 0 0 17 20 = 1 := by decide +kernel
theorem sys36 {W : World} {a b cc u v : Nat} (ha : Blk W a 31 #[.int .i64 0, .int .i64 0, .int .i64 0, .int .i64 0, .int .i64 0, .int .i64 0, .slice (some ⟨cc, 0, none⟩) 2 2]) (hc : Blk W cc 39 #[.int .i64 17, .int .i64 0, .int .i64 0, .int .i64 0, .int .u32 0, .int .i64 21, .int .i64 0, .int .i64 0, .int .i64 0, .int .u32 0]) (hb : Blk W b 48 #[.int .i64 3, .int .i64 2, .int .i64 0, .int .i64 3, .int .u32 0, .slice (some ⟨u, 0, none⟩) 2 2, .int .i64 0, .slice (some ⟨v, 0, none⟩) 1 1])
    (hu : Blk W u 37 #[.int .u32 1, .int .u32 2]) (hv : Blk W v 3 #[.int .i64 0]) : SysAt W (some ⟨a, 0, none⟩) 1 (some ⟨b, 0, none⟩) 1 s36 := by
  refine ⟨rfl, rfl, ?_, ?_⟩
  · intro i p hp
    cases i with
    | succ i => cases hp
    | zero =>
      have hp' : p = ⟨0, 0, 0, 0, 0, 0, [⟨17, 0, 0, 0, 0⟩, ⟨21, 0, 0, 0, 0⟩]⟩ := (Option.some.inj hp).symm
      subst hp'
      refine ⟨a, 0, rfl, some ⟨cc, 0, none⟩, 2, fun j y hj => ?_, ?_, by unfold maxLen; simp⟩
      · have := ha.cell j
        rw [show 0 + 0 * 7 + j = j by omega, this, List.getElem?_toArray]
        exact hj
      · intro k x hx
        rcases k with _ | _ | k
        · have hx' : x = ⟨17, 0, 0, 0, 0⟩ := (Option.some.inj hx).symm
          subst hx'
          refine ⟨by decide, cc, 0, rfl, fun j y hj => ?_⟩
          have := hc.cell j
          rw [show 0 + 0 * 5 + j = j by omega, this, List.getElem?_toArray]
          rcases j with _ | _ | _ | _ | _ | j
          all_goals first | exact hj | (simp [Im.icells] at hj)
        · have hx' : x = ⟨21, 0, 0, 0, 0⟩ := (Option.some.inj hx).symm
          subst hx'
          refine ⟨by decide, cc, 0, rfl, fun j y hj => ?_⟩
          have := hc.cell (5 + j)
          rw [show 0 + (0 + 1) * 5 + j = 5 + j by omega, this, List.getElem?_toArray]
          rcases j with _ | _ | _ | _ | _ | j
          all_goals first | exact hj | (simp [Im.icells] at hj)
        · cases hx
  · intro i p hp
    cases i with
    | succ i => cases hp
    | zero =>
      have hp' : p = ⟨3, 2, 0, 3, 0, 0, [0], [1, 2]⟩ := (Option.some.inj hp).symm
      subst hp'
      refine ⟨b, 0, rfl, some ⟨u, 0, none⟩, 2, some ⟨v, 0, none⟩, 1, fun j y hj => ?_, by decide, ?_, ?_, ?_, by unfold maxLen; simp, by unfold maxLen; simp⟩
      · have := hb.cell j
        rw [show 0 + 0 * 8 + j = j by omega, this, List.getElem?_toArray]
        exact hj
      · intro j y hj
        refine ⟨u, 0, rfl, ?_⟩
        have := hu.cell j
        rw [Nat.zero_add, this, List.getElem?_toArray]
        exact hj
      · intro y hy
        simp only [List.mem_cons, List.not_mem_nil, or_false] at hy
        rcases hy with rfl | rfl <;> decide
      · intro j y hj
        refine ⟨v, 0, rfl, ?_⟩
        have := hv.cell j
        rw [Nat.zero_add, this, List.getElem?_toArray]
        exact hj
end Go.Proofs.YtknmfopnbognpaaGreatDoor.Dm
end
section
set_option linter.unusedVariables false
set_option linter.unusedSimpArgs false
namespace Go.Proofs.YtknmfopnbognpaaGreatDoor.Dm
open Go.ChangeShapes Go.WideShapes Go.ChangeAt Go.RowKit Ws
open Im (PT PO PS TsAt OsAt SysAt tcells ocells)
set_option maxRecDepth 100000 in
set_option maxHeartbeats 4000000 in
theorem awake36 (w : World) (hT : Is.Tabs w) : Calls Tryz.prog 6 #[] w fun e w' => e = .returned (.bool true) ∧ Same w w' := by
  obtain ⟨u, hu⟩ : ∃ u, u = w.heap.size := ⟨_, rfl⟩
  obtain ⟨w1, hw1⟩ : ∃ w1, w1 = w.alloc (.cells #[.int .u32 1, .int .u32 2] 37) := ⟨_, rfl⟩
  have s1 : Same w w1 := hw1 ▸ (Same.refl w).alloc _
  have bu : Blk w1 u 37 #[.int .u32 1, .int .u32 2] := by rw [hw1, hu]; exact Blk.new w _ _
  obtain ⟨v, hv⟩ : ∃ v, v = w1.heap.size := ⟨_, rfl⟩
  obtain ⟨w2, hw2⟩ : ∃ w2, w2 = w1.alloc (.cells #[.int .i64 0] 3) := ⟨_, rfl⟩
  have s2 : Same w1 w2 := hw2 ▸ (Same.refl w1).alloc _
  have bv : Blk w2 v 3 #[.int .i64 0] := by rw [hw2, hv]; exact Blk.new w1 _ _
  obtain ⟨o, ho⟩ : ∃ o, o = w2.heap.size := ⟨_, rfl⟩
  obtain ⟨w3, hw3⟩ : ∃ w3, w3 = w2.alloc (.cells #[.int .i64 3, .int .i64 2, .int .i64 0, .int .i64 3, .int .u32 0, .slice (some ⟨u, 0, none⟩) 2 2, .int .i64 0, .slice (some ⟨v, 0, none⟩) 1 1] 48) := ⟨_, rfl⟩
  have s3 : Same w2 w3 := hw3 ▸ (Same.refl w2).alloc _
  have bo : Blk w3 o 48 #[.int .i64 3, .int .i64 2, .int .i64 0, .int .i64 3, .int .u32 0, .slice (some ⟨u, 0, none⟩) 2 2, .int .i64 0, .slice (some ⟨v, 0, none⟩) 1 1] := by rw [hw3, ho]; exact Blk.new w2 _ _
  have e1 : w.heap.size + 1 = v := by rw [hv, hw1]; show _ = (w.heap.push _).size; rw [Array.size_push]
  have e2 : w.heap.size + 1 + 1 = o := by rw [ho, hw2, e1, hv]; show _ = (w1.heap.push _).size; rw [Array.size_push]
  have E1 := Lib.hid hw1
  have E2 := Lib.hid hw2
  have E3 := Lib.hid hw3
  have U := Lib.hid hu
  have V := Lib.hid e1
  have O := Lib.hid e2
  have BU := Lib.hid (bu.same (s2.trans s3))
  have BV := Lib.hid (bv.same s3)
  have BO := Lib.hid bo
  have S3 := Lib.hid (s1.trans (s2.trans s3))
  have HT := Lib.hid hT
  clear hw1 hw2 hw3 hu hv ho e1 e2 s1 s2 s3 bu bv bo hT
  go_enter Tryz.func6, Tryz.ntmps6
  go_upto_region 2 with fail
  rw [O.out, V.out, ← U.out, ← E1.out, ← E2.out, ← E3.out]
  clear E1 E2 E3 U V O
  have BOZ := BO.out.same (((Same.refl w3).alloc (.cells #[.int .i64 17, .int .i64 0, .int .i64 0, .int .i64 0, .int .u32 0, .int .i64 21, .int .i64 0, .int .i64 0, .int .i64 0, .int .u32 0] 39)).alloc (.cells #[.int .i64 0, .int .i64 0, .int .i64 0, .int .i64 0, .int .i64 0, .int .i64 0, .slice (some ⟨w3.heap.size, 0, none⟩) 2 2] 31))
  obtain ⟨z0, z1, z2, z3, z4, z5, z6, z7⟩ := (⟨BOZ.cell 0, BOZ.cell 1, BOZ.cell 2, BOZ.cell 3, BOZ.cell 4, BOZ.cell 5, BOZ.cell 6, BOZ.cell 7⟩ : _ ∧ _ ∧ _ ∧ _ ∧ _ ∧ _ ∧ _ ∧ _)
  simp only [List.getElem?_toArray, List.getElem?_cons_zero, List.getElem?_cons_succ] at z0 z1 z2 z3 z4 z5 z6 z7
  obtain ⟨cc, hcc⟩ : ∃ cc, cc = w3.heap.size := ⟨_, rfl⟩
  obtain ⟨w4, hw4⟩ : ∃ w4, w4 = w3.alloc (.cells #[.int .i64 17, .int .i64 0, .int .i64 0, .int .i64 0, .int .u32 0, .int .i64 21, .int .i64 0, .int .i64 0, .int .i64 0, .int .u32 0] 39) := ⟨_, rfl⟩
  have s4 : Same w3 w4 := hw4 ▸ (Same.refl w3).alloc _
  have bc : Blk w4 cc 39 #[.int .i64 17, .int .i64 0, .int .i64 0, .int .i64 0, .int .u32 0, .int .i64 21, .int .i64 0, .int .i64 0, .int .i64 0, .int .u32 0] := by rw [hw4, hcc]; exact Blk.new w3 _ _
  obtain ⟨a, ha⟩ : ∃ a, a = w4.heap.size := ⟨_, rfl⟩
  obtain ⟨w5, hw5⟩ : ∃ w5, w5 = w4.alloc (.cells #[.int .i64 0, .int .i64 0, .int .i64 0, .int .i64 0, .int .i64 0, .int .i64 0, .slice (some ⟨cc, 0, none⟩) 2 2] 31) := ⟨_, rfl⟩
  have s5 : Same w4 w5 := hw5 ▸ (Same.refl w4).alloc _
  have ba : Blk w5 a 31 #[.int .i64 0, .int .i64 0, .int .i64 0, .int .i64 0, .int .i64 0, .int .i64 0, .slice (some ⟨cc, 0, none⟩) 2 2] := by rw [hw5, ha]; exact Blk.new w4 _ _
  obtain ⟨b, hb⟩ : ∃ b, b = w5.heap.size := ⟨_, rfl⟩
  obtain ⟨w6, hw6⟩ : ∃ w6, w6 = w5.alloc (.cells #[.int .i64 3, .int .i64 2, .int .i64 0, .int .i64 3, .int .u32 0, .slice (some ⟨u, 0, none⟩) 2 2, .int .i64 0, .slice (some ⟨v, 0, none⟩) 1 1] 48) := ⟨_, rfl⟩
  have s6 : Same w5 w6 := hw6 ▸ (Same.refl w5).alloc _
  have bb : Blk w6 b 48 #[.int .i64 3, .int .i64 2, .int .i64 0, .int .i64 3, .int .u32 0, .slice (some ⟨u, 0, none⟩) 2 2, .int .i64 0, .slice (some ⟨v, 0, none⟩) 1 1] := by rw [hw6, hb]; exact Blk.new w5 _ _
  obtain ⟨q, hq⟩ : ∃ q, q = w6.heap.size := ⟨_, rfl⟩
  obtain ⟨w7, hw7⟩ : ∃ w7, w7 = w6.alloc (.cells #[.slice (some ⟨a, 0, none⟩) 1 1, .slice (some ⟨b, 0, none⟩) 1 1] 25) := ⟨_, rfl⟩
  have s7 : Same w6 w7 := hw7 ▸ (Same.refl w6).alloc _
  have bq : Blk w7 q 25 #[.slice (some ⟨a, 0, none⟩) 1 1, .slice (some ⟨b, 0, none⟩) 1 1] := by rw [hw7, hq]; exact Blk.new w6 _ _
  have e1 : w3.heap.size + 1 = a := by rw [ha, hw4]; show _ = (w3.heap.push _).size; rw [Array.size_push]
  have e2 : w3.heap.size + 1 + 1 = b := by rw [hb, hw5, e1, ha]; show _ = (w4.heap.push _).size; rw [Array.size_push]
  have e3 : w3.heap.size + 1 + 1 + 1 = q := by rw [hq, hw6, e2, hb]; show _ = (w5.heap.push _).size; rw [Array.size_push]
  have HSY := Lib.hid (sys36 (ba.same (s6.trans s7)) (bc.same (s5.trans (s6.trans s7))) (bb.same s7) (BU.out.same (s4.trans (s5.trans (s6.trans s7)))) (BV.out.same (s4.trans (s5.trans (s6.trans s7)))))
  have HQ := Lib.hid bq
  have S7 := Lib.hid (S3.out.trans (s4.trans (s5.trans (s6.trans s7))))
  have E4 := Lib.hid hw4
  have E5 := Lib.hid hw5
  have E6 := Lib.hid hw6
  have E7 := Lib.hid hw7
  have C := Lib.hid hcc
  have AA := Lib.hid e1
  have BB := Lib.hid e2
  have QQ := Lib.hid e3
  clear BOZ hw4 hw5 hw6 hw7 hcc ha hb hq e1 e2 e3 s4 s5 s6 s7 bc ba bb bq BO BU BV S3
  go_upto_region 3 with fail
  rw [QQ.out, BB.out, AA.out, ← C.out, ← E4.out, ← E5.out, ← E6.out, ← E7.out]
  clear E4 E5 E6 E7 C AA BB QQ z0 z1 z2 z3 z4 z5 z6 z7
  have hf36 : ∀ p ∈ s36.ts, p.code.length ≤ 200 := fun p hp => by
    simp only [s36, List.mem_cons, List.not_mem_nil, or_false] at hp
    subst hp
    decide
  obtain ⟨c0, c1⟩ := (⟨HQ.out.cell 0, HQ.out.cell 1⟩ : _ ∧ _)
  simp only [List.getElem?_toArray, List.getElem?_cons_zero, List.getElem?_cons_succ] at c0 c1
  have CL := Lib.hid (clean36_any (some ⟨a, 0, none⟩) (some ⟨b, 0, none⟩) 1 1 1 1 s36 0 w7 HSY.out hf36 (HT.out.same S7.out))
  rw [s36_a.1, s36_a.2] at CL
  have WH := Lib.hid (fun W (h : Same w7 W) => whole36_any (some ⟨a, 0, none⟩) (some ⟨b, 0, none⟩) 1 1 1 1 s36 0 W (HSY.out.same h) hf36 (HT.out.same (S7.out.trans h)))
  rw [s36_b.1, s36_b.2] at WH
  have RD := Lib.hid (fun W (h : Same w7 W) => reads_any (some ⟨a, 0, none⟩) (some ⟨b, 0, none⟩) 1 1 1 1 s36 0 0 W (HSY.out.same h) ⟨by unfold maxLen; omega, by unfold maxLen; omega⟩ hf36 (HT.out.same (S7.out.trans h)))
  rw [s36_c] at RD
  clear hf36 HSY
  go_wp2_with fail
  refine CL.out.mono ?_
  rintro e w8 ⟨rfl, s8⟩
  have HS8 := Lib.hid s8
  have d0 := s8.cell c0
  have d1 := s8.cell c1
  clear s8 CL
  go_wp2_with fail
  refine (WH.out w8 HS8.out).mono ?_
  rintro e w9 ⟨rfl, s9⟩
  have HS9 := Lib.hid (HS8.out.trans s9)
  have f0 := s9.cell d0
  have f1 := s9.cell d1
  clear s9 WH d0 d1 c0 c1
  go_wp2_with fail
  refine (RD.out w9 HS9.out).mono ?_
  rintro e w10 ⟨rfl, s10⟩
  go_wp2_with fail
  go_ret
  exact ⟨rfl, S7.out.trans (HS9.out.trans s10)⟩

end Go.Proofs.YtknmfopnbognpaaGreatDoor.Dm
end
end
end
section
section
section
set_option linter.unusedVariables false
set_option linter.unusedSimpArgs false
namespace Go.Proofs.YtknmfopnbognpaaGreatDoor.Dm
open Go.ChangeShapes Go.WideShapes Go.ChangeAt Go.RowKit Ws
open Im (PT PO PS TsAt OsAt SysAt tcells ocells)
open Go.Proofs.YtknmfopnbognpaaGreatDoor.Is (callB callV rightB)

def boundO (o : PO) (op : Int) : Int := Fc.boundF o.k o.wd o.sl o.cp o.sa o.ini.length o.rd.length op
theorem aft_bound (o : PO) (op fails : Int) : (0 < boundO o op → 1 ≤ aftO o op fails) ∧ (¬ 0 < boundO o op → aftO o op fails = 0) := by
  unfold boundO aftO
  have hb := Bd.after_bd o.k o.wd o.sl o.cp o.sa o.ini.length o.rd.length op fails
  have hbb := Bd.bound_bd o.k o.wd o.sl o.cp o.sa o.ini.length o.rd.length op
  cases ht : Bd.trB o.k o.wd o.sl o.cp o.sa o.ini.length o.rd.length op
  · have e : Bd.afterI o.k o.wd o.sl o.cp o.sa o.ini.length o.rd.length op fails = Fc.boundF o.k o.wd o.sl o.cp o.sa o.ini.length o.rd.length op := by
      unfold Bd.afterI Bd.cleanI Bd.failI
      rw [ht]
      simp
    rw [e]
    exact ⟨fun h => by omega, fun h => by omega⟩
  · obtain ⟨_, _, _, h4, h5, h6⟩ := Bd.tr_yes ht
    have e1 : 3 ≤ Bd.endI o.k o.wd o.sl o.cp o.sa o.ini.length o.rd.length op := by
      unfold Bd.endI
      rw [if_pos ht]
      split <;> omega
    have e2 : ∀ f, Bd.afterI o.k o.wd o.sl o.cp o.sa o.ini.length o.rd.length op f = Bd.endI o.k o.wd o.sl o.cp o.sa o.ini.length o.rd.length op + Bd.failI o.k o.wd o.sl o.cp o.sa o.ini.length o.rd.length op * Wd.clamp f 0 (Bd.lastI o.cp) := fun f => by
      unfold Bd.afterI Bd.cleanI
      rw [if_pos ht]
    have e3 := Bd.after_cap o.k o.wd o.sl o.cp o.sa o.ini.length o.rd.length op
    have e4 := Bd.after_bd o.k o.wd o.sl o.cp o.sa o.ini.length o.rd.length op o.cp
    rw [e2] at e3
    rw [e2]
    exact ⟨fun _ => by omega, fun h => by omega⟩
theorem fitB_call : ∀ op : Int, 17 ≤ op ∧ op ≤ 20 → Is.loL.getD (Is.hasC op.toNat 1) 0 = 0 := by
  intro op h
  have : op = 17 ∨ op = 18 ∨ op = 19 ∨ op = 20 := by omega
  rcases this with rfl | rfl | rfl | rfl <;> decide +kernel
theorem call_b {x : Im.Ins} (h : rightB x.op x.a x.b x.c x.n = true) (hc : callB x.op = true) : 0 ≤ x.b := by
  unfold callB at hc
  rw [decide_eq_true_eq] at hc
  have e := fitB_call x.op hc
  unfold rightB at h
  simp only [Bool.and_eq_true] at h
  have h2 := h.2.2.1
  unfold Is.fitB at h2
  rw [e] at h2
  simp at h2
  omega
/-- the weight as the document says it -/
theorem wgt_doc (s : PS) (fails : Int) (x : Im.Ins) : wgtI s fails x = if 0 < callV x.op ∧ rightB x.op x.a x.b x.c x.n = true ∧ x.b < s.os.length ∧ 0 < boundO (s.os.getD x.b.toNat default) (callV x.op) then aftO (s.os.getD x.b.toNat default) (callV x.op) fails else 1 := by
  have hcv : callB x.op = true ↔ 0 < callV x.op := by
    unfold callB callV
    rw [decide_eq_true_eq]
    split <;> omega
  unfold wgtI
  by_cases h1 : rightB x.op x.a x.b x.c x.n = true
  · by_cases h2 : callB x.op = true
    · have hb := call_b h1 h2
      by_cases h3 : x.b < s.os.length
      · have ha := aft_bound (s.os.getD x.b.toNat default) (callV x.op) fails
        rw [if_pos ⟨by rw [h1, h2]; rfl, hb, h3⟩]
        by_cases h4 : 0 < boundO (s.os.getD x.b.toNat default) (callV x.op)
        · rw [if_pos ⟨hcv.1 h2, h1, h3, h4⟩]
          have := ha.1 h4
          omega
        · rw [if_neg (fun h => h4 h.2.2.2), ha.2 h4]
          rfl
      · rw [if_neg (fun h => h3 h.2.2), if_neg (fun h => h3 h.2.2.1)]
    · have h2' : callB x.op = false := by simpa using h2
      rw [if_neg (fun h => by rw [h2', Bool.and_false] at h; cases h.1), if_neg (fun h => h2 (hcv.2 h.1))]
  · have h1' : rightB x.op x.a x.b x.c x.n = false := by simpa using h1
    rw [if_neg (fun h => by rw [h1', Bool.false_and] at h; cases h.1), if_neg (fun h => h1 h.2.1)]
end Go.Proofs.YtknmfopnbognpaaGreatDoor.Dm
end
section
set_option linter.unusedVariables false
set_option linter.unusedSimpArgs false
namespace Go.Proofs.YtknmfopnbognpaaGreatDoor.Dm
open Go.ChangeShapes Go.WideShapes Go.ChangeAt Go.RowKit Ws
open Im (PT PO PS TsAt OsAt SysAt tcells ocells)
open Go.Proofs.YtknmfopnbognpaaGreatDoor.Is (callB callV rightB)
theorem callV_b {op : Int} (h : 0 < callV op) : callB op = true := by
  unfold callV at h
  unfold callB
  rw [decide_eq_true_eq]
  split at h
  · assumption
  · omega
set_option maxRecDepth 100000 in
set_option maxHeartbeats 8000000 in
theorem rweights_any (A B : Option Addr) (n c m d : Nat) (s : PS) (ki : Nat) (p : PT) (fails : Int) (w : World) (hs : SysAt w A n B m s) (hp : s.ts[ki]? = some p) (hf : p.code.length ≤ 200) (hfl : fails ≤ 100) :
    Calls Tryz.prog 8 #[.agg #[.slice A n c, .slice B m d], .int .i64 ki, .int .i64 fails] w (WgtP w (p.code.map (wgtI s fails))) := by
  obtain ⟨i0, hi, hz0, hz1, hz2⟩ := info_parts int_inf
  obtain ⟨w0, hw0⟩ : ∃ w0, w0 = w.alloc (.cells #[.slice A n c, .slice B m d] 25) := ⟨_, rfl⟩
  have s0 : Same w w0 := hw0 ▸ (Same.refl w).alloc _
  have b0 : Blk w0 w.heap.size 25 #[.slice A n c, .slice B m d] := hw0 ▸ Blk.new w _ _
  have hkn : ki < n := by have := (List.getElem?_eq_some_iff.1 hp).1; have := hs.hn; omega
  obtain ⟨bA, oA, rfl, X, cX, _, _, _, _, _, _, t6, hcode, _⟩ := (hs.ht.same s0).at_ hp
  have HE0 := Lib.hid hw0
  have c0 := b0.cell 0
  simp only [List.getElem?_toArray, List.getElem?_cons_zero, List.getElem?_cons_succ] at c0
  have S0 := Lib.hid s0
  have B0 := Lib.hid b0
  have HCW := Lib.hid hcode
  have HLE := Lib.hid hf
  have HO_ := Lib.hid (hs.ho.same s0)
  have HM := Lib.hid hs.hm
  have HFL := Lib.hid hfl
  have hk1 : (ki : Int) < n := by omega
  have hk0 : (0 : Int) ≤ ki := by omega
  clear hw0 s0 b0 hs hf hp hcode hkn hfl
  go_enter Tryz.func8, Tryz.ntmps8
  go_upto_region 1 with fail
  rw [← HE0.out]
  clear HE0
  generalize hq0 : w.heap.size = q0 at *
  clear hq0
  have HLE2 := HLE.out
  obtain ⟨CN, hCN⟩ : ∃ CN : Im.Ins → Value, CN = fun x => Value.int .i64 (wgtI s fails x) := ⟨_, rfl⟩
  have HCN := Lib.hid (fun x => (show Value.int .i64 (wgtI s fails x) = CN x by rw [hCN]))
  obtain ⟨b4, hb4⟩ : ∃ b4, b4 = w0.heap.size := ⟨_, rfl⟩
  have HB4 := Lib.hid hb4
  clear hb4
  have HLN := Lib.hid (show (p.code.map CN) = (p.code.map (wgtI s fails)).map (Value.int .i64) by rw [hCN, List.map_map]; rfl)
  clear hCN
  go_wp2_with fail
  go_loopg [7, 19] p.code.length (fun gk lv iv wx => ∃ (j : Nat) (A' : Option Addr) (c' : Nat), j + gk = p.code.length ∧ iv = .int .i64 j ∧ lv = .slice A' j c' ∧ Ws.Own wx b4 3 A' c' ((p.code.map CN).take j) ∧ Same w0 wx)
  case atStart => exact ⟨0, none, 0, by omega, rfl, rfl, own_nil _ _ _, Same.refl _⟩
  case round =>
    clear c0 t6
    obtain ⟨j, A', c', hk, rfl, rfl, ho, sx⟩ := hrel
    have HO := Lib.hid ho
    have HSX := Lib.hid sx
    clear ho sx
    cases gk with
    | zero =>
      obtain rfl : j = p.code.length := by omega
      have hge : ¬ (p.code.length : Int) < (p.code.length : Int) := by omega
      have HR := Lib.hid (show Row wr A' ((p.code.map (wgtI s fails)).map (Value.int .i64)) from by rw [← HLN.out]; have := HO.out.row; rwa [show p.code.length = (p.code.map CN).length from (List.length_map ..).symm, List.take_length] at this)
      go_wp2_with fail
      go_ret
      exact wgt_mk (by rw [List.length_map]) HR.out (S0.out.trans HSX.out)
    | succ GK =>
      have hlt : (j : Int) < p.code.length := by omega
      have hj0 : (0 : Int) ≤ j := by omega
      have HJL := Lib.hid (show j < p.code.length by omega)
      have HJK := Lib.hid hk
      clear hk
      obtain ⟨⟨op, ia, ib, ic, iN⟩, hxj⟩ : ∃ xj : Im.Ins, p.code[j]? = some xj := ⟨p.code[j], List.getElem?_eq_getElem HJL.out⟩
      have HJ := Lib.hid hxj
      clear hxj
      obtain ⟨hxn, bX, oX, rfl, y0, y1, y2, y3, y4⟩ := (HCW.out.same HSX.out).at_ HJ.out
      dsimp only at hxn y0 y1 y2 y3 y4
      have HQ5 := Lib.hid (Blk.new wr 39 #[.int .i64 op, .int .i64 ia, .int .i64 ib, .int .i64 ic, .int .u32 iN])
      have HO5 := Lib.hid (HO.out.same ((Same.refl wr).alloc (.cells #[.int .i64 op, .int .i64 ia, .int .i64 ib, .int .i64 ic, .int .u32 iN] 39)))
      have HX5 := Lib.hid (HSX.out.alloc (.cells #[.int .i64 op, .int .i64 ia, .int .i64 ib, .int .i64 ic, .int .u32 iN] 39))
      have HWD := Lib.hid (wgt_doc s fails ⟨op, ia, ib, ic, iN⟩)
      go_upto_region 6 with fail
      generalize wr.alloc (.cells #[.int .i64 op, .int .i64 ia, .int .i64 ib, .int .i64 ic, .int .u32 iN] 39) = w5 at *
      generalize wr.heap.size = q5 at *
      obtain ⟨v0, v1, v2, v3, v4⟩ := (⟨HQ5.out.cell 0, HQ5.out.cell 1, HQ5.out.cell 2, HQ5.out.cell 3, HQ5.out.cell 4⟩ : _ ∧ _ ∧ _ ∧ _ ∧ _)
      have HB5 := Lib.hid (B0.out.same HX5.out)
      have u1 := HB5.out.cell 1
      simp only [List.getElem?_toArray, List.getElem?_cons_zero, List.getElem?_cons_succ] at v0 v1 v2 v3 v4 u1
      have RC := Lib.hid (Is.rcalls_any op w5)
      clear y0 y1 y2 y3 y4 HSX
      go_wp2_with fail
      refine RC.out.mono ?_
      rintro e w5 ⟨rfl, rfl⟩
      clear RC
      by_cases h1 : 0 < callV op
      · have RR := Lib.hid (show Calls Tryz.prog 18 #[.agg #[.int .i64 op, .int .i64 ia, .int .i64 ib, .int .i64 ic, .int .u32 iN]] w5 fun e w' => e = .returned (.bool (rightB op ia ib ic iN)) ∧ Same w5 w' from Is.rright_any op ia ib ic iN hxn w5)
        cases hr : rightB op ia ib ic iN with
        | false =>
          have HR1 := Lib.hid hr
          rw [hr] at RR
          have HD := Lib.hid (show wgtI s fails ⟨op, ia, ib, ic, iN⟩ = 1 by rw [HWD.out]; exact if_neg (fun h => by have h2 : rightB op ia ib ic iN = true := h.2.1; rw [HR1.out] at h2; cases h2))
          clear hr
          go_wp2_with fail
          refine RR.out.mono ?_
          rintro e w7 ⟨rfl, s7⟩
          have HO7 := Lib.hid (HO5.out.same s7)
          have HS7 := Lib.hid (HX5.out.trans s7)
          clear s7 RR v0 v1 v2 v3 v4 u1
          go_wp2_with (at_builtin; go_loud (refine wpList_app rfl (.tmp 60) (.tmp 62) 33 rfl b4 3 i0 _ 8 Tryz.underlying33 hi hz0 hz1 hz2 rfl A' j c' ((p.code.map CN).take j) rfl ?c1 (HO7.out.same ((Same.refl _).alloc _)) _ 1 1 [.int .i64 1] rfl rfl (row_new _ _ _) ?c2 ?c3 (by omega) ?c4 ?_))
          case c1 => (try rw [List.length_take, List.length_map]); have := HJL.out; omega
          case c2 => first | rfl | (intro u hu; simp at hu; subst hu; rfl)
          case c3 => (try rw [List.length_take, List.length_map]); (try simp); omega
          case c4 => have := HB4.out; have := HS7.out.size; simp; omega
          intro A2 c2' w9 ho2 hc2 _
          have HS9 := Lib.hid (Same.more (HS7.out.alloc _) hc2 (fun g hg => by have := own_low HO.out hg; have := HB4.out; omega))
          rw [show (p.code.map CN).take j ++ [.int .i64 1] = (p.code.map CN).take (j + 1) from by rw [take_snoc (p.code.map CN) (v := CN ⟨op, ia, ib, ic, iN⟩) (by rw [List.getElem?_map, HJ.out]; rfl), ← HCN.out, HD.out]] at ho2
          have HO9 := Lib.hid ho2
          clear ho2 hc2
          go_wp2_with fail
          go_roundg GK
          case rel => exact ⟨j + 1, A2, c2', by have := HJK.out; omega, by go_num, rfl, HO9.out, HS9.out⟩
          case measure => omega
        | true =>
          have hb0 : 0 ≤ ib := call_b (x := ⟨op, ia, ib, ic, iN⟩) hr (callV_b h1)
          obtain ⟨kb, rfl⟩ : ∃ kb : Nat, ib = kb := ⟨ib.toNat, by omega⟩
          have HR1 := Lib.hid hr
          rw [hr] at RR
          have H1 := Lib.hid h1
          clear hr hb0
          have hkb0 : (0 : Int) ≤ kb := by omega
          by_cases h3 : (kb : Int) < m
          · obtain ⟨o, ho⟩ : ∃ o, s.os[kb]? = some o := ⟨s.os[kb]'(by rw [HM.out]; omega), List.getElem?_eq_getElem _⟩
            have HGO := Lib.hid (show s.os.getD ((kb : Int)).toNat default = o by rw [Int.toNat_natCast, List.getD_eq_getElem?_getD, ho]; rfl)
            have HKL := Lib.hid (List.getElem?_eq_some_iff.1 ho).1
            obtain ⟨bB, oB, hBe, Xo, co, Yo, do_, o0, o1, o2, o3, o4, o5, o6, o7, hsa, _⟩ := (HO_.out.same HX5.out).at_ ho
            subst hBe
            clear ho
            have RB := Lib.hid (fun W => Fc.rbound_any o.k o.wd o.sl o.cp o.sa o.ow Xo Yo o.ini.length co o.rd.length do_ (callV op) W hsa)
            have RA := Lib.hid (fun W => Bd.rafter_any o.k o.wd o.sl o.cp o.sa o.ow Xo Yo o.ini.length co o.rd.length do_ (callV op) fails HFL.out W hsa)
            go_wp2_with fail
            refine RR.out.mono ?_
            rintro e w6 ⟨rfl, s6⟩
            have HO6 := Lib.hid (HO5.out.same s6)
            have HS6 := Lib.hid (HX5.out.trans s6)
            have o0 := s6.cell o0
            have o1 := s6.cell o1
            have o2 := s6.cell o2
            have o3 := s6.cell o3
            have o4 := s6.cell o4
            have o5 := s6.cell o5
            have o6 := s6.cell o6
            have o7 := s6.cell o7
            have u1 := s6.cell u1
            have v2 := s6.cell v2
            clear s6 RR v0 v1 v3 v4
            go_wp2_with fail
            refine (RB.out w6).mono ?_
            rintro e w7 ⟨rfl, s7⟩
            have HO7 := Lib.hid (HO6.out.same s7)
            have HS7 := Lib.hid (HS6.out.trans s7)
            have o0 := s7.cell o0
            have o1 := s7.cell o1
            have o2 := s7.cell o2
            have o3 := s7.cell o3
            have o4 := s7.cell o4
            have o5 := s7.cell o5
            have o6 := s7.cell o6
            have o7 := s7.cell o7
            have u1 := s7.cell u1
            have v2 := s7.cell v2
            clear s7 RB
            have HBO := Lib.hid (show boundO o (callV op) = Fc.boundF o.k o.wd o.sl o.cp o.sa o.ini.length o.rd.length (callV op) from rfl)
            rw [← HBO.out]
            by_cases h4 : 0 < boundO o (callV op)
            · have HD := Lib.hid (show wgtI s fails ⟨op, ia, (kb : Int), ic, iN⟩ = aftO o (callV op) fails by
                rw [HWD.out]
                have e : s.os.getD (⟨op, ia, (kb : Int), ic, iN⟩ : Im.Ins).b.toNat default = o := HGO.out
                rw [e]
                exact if_pos ⟨H1.out, HR1.out, by have := HKL.out; show (kb : Int) < _; omega, h4⟩)
              have HAV := Lib.hid (show aftO o (callV op) fails = Bd.afterI o.k o.wd o.sl o.cp o.sa o.ini.length o.rd.length (callV op) fails from rfl)
              generalize boundO o (callV op) = bo at *
              go_wp2_with fail
              refine (RA.out w7).mono ?_
              rintro e w8 ⟨rfl, s8⟩
              rw [← HAV.out]
              have HO7 := Lib.hid (HO7.out.same s8)
              have HS7 := Lib.hid (HS7.out.trans s8)
              clear s8 RA o0 o1 o2 o3 o4 o5 o6 o7 u1 v2
              generalize aftO o (callV op) fails = av at *
              go_wp2_with (at_builtin; go_loud (refine wpList_app rfl (.tmp 60) (.tmp 62) 33 rfl b4 3 i0 _ 8 Tryz.underlying33 hi hz0 hz1 hz2 rfl A' j c' ((p.code.map CN).take j) rfl ?c1 (HO7.out.same ((Same.refl _).alloc _)) _ 1 1 [.int .i64 av] rfl rfl (row_new _ _ _) ?c2 ?c3 (by omega) ?c4 ?_))
              case c1 => (try rw [List.length_take, List.length_map]); have := HJL.out; omega
              case c2 => first | rfl | (intro u hu; simp at hu; subst hu; rfl)
              case c3 => (try rw [List.length_take, List.length_map]); (try simp); omega
              case c4 => have := HB4.out; have := HS7.out.size; simp; omega
              intro A2 c2' w9 ho2 hc2 _
              have HS9 := Lib.hid (Same.more (HS7.out.alloc _) hc2 (fun g hg => by have := own_low HO.out hg; have := HB4.out; omega))
              rw [show (p.code.map CN).take j ++ [.int .i64 av] = (p.code.map CN).take (j + 1) from by rw [take_snoc (p.code.map CN) (v := CN ⟨op, ia, (kb : Int), ic, iN⟩) (by rw [List.getElem?_map, HJ.out]; rfl), ← HCN.out, HD.out]] at ho2
              have HO9 := Lib.hid ho2
              clear ho2 hc2
              go_wp2_with fail
              go_roundg GK
              case rel => exact ⟨j + 1, A2, c2', by have := HJK.out; omega, by go_num, rfl, HO9.out, HS9.out⟩
              case measure => omega
            · have HD := Lib.hid (show wgtI s fails ⟨op, ia, (kb : Int), ic, iN⟩ = 1 by
                rw [HWD.out]
                have e : s.os.getD (⟨op, ia, (kb : Int), ic, iN⟩ : Im.Ins).b.toNat default = o := HGO.out
                rw [e]
                exact if_neg (fun h => h4 h.2.2.2))
              generalize boundO o (callV op) = bo at *
              clear o0 o1 o2 o3 o4 o5 o6 o7 u1 v2 RA
              go_wp2_with (at_builtin; go_loud (refine wpList_app rfl (.tmp 60) (.tmp 62) 33 rfl b4 3 i0 _ 8 Tryz.underlying33 hi hz0 hz1 hz2 rfl A' j c' ((p.code.map CN).take j) rfl ?c1 (HO7.out.same ((Same.refl _).alloc _)) _ 1 1 [.int .i64 1] rfl rfl (row_new _ _ _) ?c2 ?c3 (by omega) ?c4 ?_))
              case c1 => (try rw [List.length_take, List.length_map]); have := HJL.out; omega
              case c2 => first | rfl | (intro u hu; simp at hu; subst hu; rfl)
              case c3 => (try rw [List.length_take, List.length_map]); (try simp); omega
              case c4 => have := HB4.out; have := HS7.out.size; simp; omega
              intro A2 c2' w9 ho2 hc2 _
              have HS9 := Lib.hid (Same.more (HS7.out.alloc _) hc2 (fun g hg => by have := own_low HO.out hg; have := HB4.out; omega))
              rw [show (p.code.map CN).take j ++ [.int .i64 1] = (p.code.map CN).take (j + 1) from by rw [take_snoc (p.code.map CN) (v := CN ⟨op, ia, (kb : Int), ic, iN⟩) (by rw [List.getElem?_map, HJ.out]; rfl), ← HCN.out, HD.out]] at ho2
              have HO9 := Lib.hid ho2
              clear ho2 hc2
              go_wp2_with fail
              go_roundg GK
              case rel => exact ⟨j + 1, A2, c2', by have := HJK.out; omega, by go_num, rfl, HO9.out, HS9.out⟩
              case measure => omega
          · have HD := Lib.hid (show wgtI s fails ⟨op, ia, (kb : Int), ic, iN⟩ = 1 by rw [HWD.out]; exact if_neg (fun h => h3 (by have h2 : (kb : Int) < s.os.length := h.2.2.1; rw [HM.out] at h2; exact h2)))
            go_wp2_with fail
            refine RR.out.mono ?_
            rintro e w7 ⟨rfl, s7⟩
            have HO7 := Lib.hid (HO5.out.same s7)
            have HS7 := Lib.hid (HX5.out.trans s7)
            have v2 := s7.cell v2
            have u1 := s7.cell u1
            clear s7 RR v0 v1 v3 v4
            go_wp2_with (at_builtin; go_loud (refine wpList_app rfl (.tmp 60) (.tmp 62) 33 rfl b4 3 i0 _ 8 Tryz.underlying33 hi hz0 hz1 hz2 rfl A' j c' ((p.code.map CN).take j) rfl ?c1 (HO7.out.same ((Same.refl _).alloc _)) _ 1 1 [.int .i64 1] rfl rfl (row_new _ _ _) ?c2 ?c3 (by omega) ?c4 ?_))
            case c1 => (try rw [List.length_take, List.length_map]); have := HJL.out; omega
            case c2 => first | rfl | (intro u hu; simp at hu; subst hu; rfl)
            case c3 => (try rw [List.length_take, List.length_map]); (try simp); omega
            case c4 => have := HB4.out; have := HS7.out.size; simp; omega
            intro A2 c2' w9 ho2 hc2 _
            have HS9 := Lib.hid (Same.more (HS7.out.alloc _) hc2 (fun g hg => by have := own_low HO.out hg; have := HB4.out; omega))
            rw [show (p.code.map CN).take j ++ [.int .i64 1] = (p.code.map CN).take (j + 1) from by rw [take_snoc (p.code.map CN) (v := CN ⟨op, ia, (kb : Int), ic, iN⟩) (by rw [List.getElem?_map, HJ.out]; rfl), ← HCN.out, HD.out]] at ho2
            have HO9 := Lib.hid ho2
            clear ho2 hc2
            go_wp2_with fail
            go_roundg GK
            case rel => exact ⟨j + 1, A2, c2', by have := HJK.out; omega, by go_num, rfl, HO9.out, HS9.out⟩
            case measure => omega
      · have HD := Lib.hid (show wgtI s fails ⟨op, ia, ib, ic, iN⟩ = 1 by rw [HWD.out]; exact if_neg (fun h => h1 h.1))
        have HO7 := HO5
        have HS7 := HX5
        clear v0 v1 v2 v3 v4 u1
        go_wp2_with (at_builtin; go_loud (refine wpList_app rfl (.tmp 60) (.tmp 62) 33 rfl b4 3 i0 _ 8 Tryz.underlying33 hi hz0 hz1 hz2 rfl A' j c' ((p.code.map CN).take j) rfl ?c1 (HO7.out.same ((Same.refl _).alloc _)) _ 1 1 [.int .i64 1] rfl rfl (row_new _ _ _) ?c2 ?c3 (by omega) ?c4 ?_))
        case c1 => (try rw [List.length_take, List.length_map]); have := HJL.out; omega
        case c2 => first | rfl | (intro u hu; simp at hu; subst hu; rfl)
        case c3 => (try rw [List.length_take, List.length_map]); (try simp); omega
        case c4 => have := HB4.out; have := HS7.out.size; simp; omega
        intro A2 c2' w9 ho2 hc2 _
        have HS9 := Lib.hid (Same.more (HS7.out.alloc _) hc2 (fun g hg => by have := own_low HO.out hg; have := HB4.out; omega))
        rw [show (p.code.map CN).take j ++ [.int .i64 1] = (p.code.map CN).take (j + 1) from by rw [take_snoc (p.code.map CN) (v := CN ⟨op, ia, ib, ic, iN⟩) (by rw [List.getElem?_map, HJ.out]; rfl), ← HCN.out, HD.out]] at ho2
        have HO9 := Lib.hid ho2
        clear ho2 hc2
        go_wp2_with fail
        go_roundg GK
        case rel => exact ⟨j + 1, A2, c2', by have := HJK.out; omega, by go_num, rfl, HO9.out, HS9.out⟩
        case measure => omega
end Go.Proofs.YtknmfopnbognpaaGreatDoor.Dm
end
end
section
section
set_option linter.unusedVariables false
set_option linter.unusedSimpArgs false
namespace Go.Proofs.YtknmfopnbognpaaGreatDoor.Dm
open Go.ChangeShapes Go.WideShapes Go.ChangeAt Go.RowKit Ws
open Im (PT PO PS TsAt OsAt SysAt tcells ocells)
open Go.Proofs.YtknmfopnbognpaaGreatDoor.Is (callB callV rightB)
open Go.Proofs.YtknmfopnbognpaaGreatDoor.Wk (sumL sumL_snoc)

def SmallW (w : List Int) : Prop := ∀ j, 0 ≤ w.getD j 0 ∧ w.getD j 0 ≤ 2000
theorem sum_take (w l : List Int) {i : Nat} (h : i < l.length) : sumL w (l.take (i + 1)) = Cs.adI (sumL w (l.take i)) (w.getD (l.getD i 0).toNat 0) := by
  have e : l.getD i 0 = l[i] := by rw [List.getD_eq_getElem?_getD, List.getElem?_eq_getElem h]; rfl
  rw [List.take_succ_eq_append_getElem h, sumL_snoc, e]
theorem sum_small {w l : List Int} (hw : SmallW w) (k : Nat) : k ≤ l.length → k ≤ 2000 → 0 ≤ sumL w (l.take k) ∧ sumL w (l.take k) ≤ 2000 * (k : Int) := by
  induction k with
  | zero => intro _ _; rw [List.take_zero]; exact ⟨Int.le_refl _, Int.le_refl _⟩
  | succ k ih =>
    intro h1 h2
    have h3 := ih (by omega) (by omega)
    have h4 := hw (l.getD k 0).toNat
    rw [sum_take w l (by omega)]
    unfold Cs.adI
    omega
theorem sum_add {w l : List Int} (hw : SmallW w) {k : Nat} (h1 : k < l.length) (h2 : k < 2000) : sumL w (l.take (k + 1)) = sumL w (l.take k) + w.getD (l.getD k 0).toNat 0 := by
  have h3 := sum_small hw k (by omega) (by omega) (l := l)
  have h4 := hw (l.getD k 0).toNat
  rw [sum_take w l h1]
  unfold Cs.adI
  omega
theorem wgt_range (s : PS) (fails : Int) (x : Im.Ins) : 0 ≤ wgtI s fails x ∧ wgtI s fails x ≤ 2000 := by
  unfold wgtI
  split
  · unfold aftO Bd.afterI
    generalize s.os.getD x.b.toNat default = o
    have h1 := Bd.after_bd o.k o.wd o.sl o.cp o.sa o.ini.length o.rd.length (callV x.op) fails
    have h2 := Bd.clean_bd o.k o.wd o.sl o.cp o.sa o.ini.length o.rd.length (callV x.op)
    omega
  · omega
theorem small_map {α : Type} (f : α → Int) (hf : ∀ x, 0 ≤ f x ∧ f x ≤ 2000) (l : List α) : SmallW (l.map f) := fun j => by
  rw [List.getD_eq_getElem?_getD, List.getElem?_map]
  cases l[j]? with
  | none => show (0 : Int) ≤ 0 ∧ (0 : Int) ≤ 2000; omega
  | some x => exact hf x
theorem cnt_range (k x y : Int) (i : Fp.Ins) : 0 ≤ cntR k x y i ∧ cntR k x y i ≤ 2000 := by
  unfold cntR
  split <;> omega
end Go.Proofs.YtknmfopnbognpaaGreatDoor.Dm
end
section
set_option linter.unusedVariables false
set_option linter.unusedSimpArgs false
namespace Go.Proofs.YtknmfopnbognpaaGreatDoor.Dm
open Go.ChangeShapes Go.WideShapes Go.ChangeAt Go.RowKit Ws
open Im (PT PO PS TsAt OsAt SysAt tcells ocells)
open Go.Proofs.YtknmfopnbognpaaGreatDoor.Is (callB callV rightB)
open Go.Proofs.YtknmfopnbognpaaGreatDoor.Wk (sumL pcs pcs_at pcs_len NoD wk)

set_option maxRecDepth 100000 in
set_option maxHeartbeats 8000000 in
theorem dwalks_walk (A B : Option Addr) (n c m d : Nat) (s : PS) (i : Int) (CA : Option Addr) (cn cc : Nat) (ch : List Bool) (w : World) (hs : SysAt w A n B m s) (hnm : n ≤ maxLen ∧ m ≤ maxLen) (hC : Row w CA (ch.map Value.bool)) (hcl : ch.length = cn) (hT : Is.Tabs w) :
    Calls Tryz.prog 3 #[.agg #[.slice A n c, .slice B m d], .int .i64 i, .slice CA cn cc] w fun e w' => e = .returned (.bool true) ∧ Same w w' := by
  have hbn : (n : Int) ≤ 9223372036854775807 ∧ (m : Int) ≤ 9223372036854775807 := by unfold maxLen at hnm; omega
  obtain ⟨w0, hw0⟩ : ∃ w0, w0 = w.alloc (.cells #[.slice A n c, .slice B m d] 25) := ⟨_, rfl⟩
  have s0 : Same w w0 := hw0 ▸ (Same.refl w).alloc _
  have b0 : Blk w0 w.heap.size 25 #[.slice A n c, .slice B m d] := hw0 ▸ Blk.new w _ _
  have HE0 := Lib.hid hw0
  have c0 := b0.cell 0
  have c1 := b0.cell 1
  simp only [List.getElem?_toArray, List.getElem?_cons_zero, List.getElem?_cons_succ] at c0 c1
  have S0 := Lib.hid s0
  have B0 := Lib.hid b0
  have HS := Lib.hid (hs.same s0)
  have HT := Lib.hid (hT.same s0)
  have HC := Lib.hid (hC.same s0)
  have HCL := Lib.hid hcl
  have FE := Lib.hid (Sy.few31 A B n c m d s 60 w0 (hs.same s0) hnm)
  clear hw0 s0 b0 hs hT hC hcl
  go_enter Tryz.func3, Tryz.ntmps3
  go_wp2_with fail
  rw [← HE0.out]
  clear HE0
  refine FE.out.mono ?_
  rintro e w1 ⟨⟨bf, rfl, hbf⟩, s1⟩
  have HS1 := Lib.hid s1
  have HB1 := Lib.hid (B0.out.same s1)
  have c0 := s1.cell c0
  have c1 := s1.cell c1
  generalize w.heap.size = q0 at *
  have AW := Lib.hid (fun W (h : Same w1 W) => awake36 W (HT.out.same (HS1.out.trans h)))
  clear s1 FE B0
  cases bf with
  | false =>
    clear hbf
    go_wp2_with fail
    refine (AW.out _ (Same.refl _)).mono ?_
    rintro e wz ⟨rfl, sz⟩
    go_wp2_with fail
    go_ret
    exact ⟨rfl, S0.out.trans (HS1.out.trans sz)⟩
  | true =>
    have hf : ∀ p ∈ s.ts, p.code.length ≤ 200 := (hbf rfl).1.2
    clear hbf
    by_cases h1 : (2000 : Int) < cn
    · clear hf
      go_wp2_with fail
      refine (AW.out _ (Same.refl _)).mono ?_
      rintro e wz ⟨rfl, sz⟩
      go_wp2_with fail
      go_ret
      exact ⟨rfl, S0.out.trans (HS1.out.trans sz)⟩
    · by_cases h2 : i < 0
      · clear hf
        go_wp2_with fail
        refine (AW.out _ (Same.refl _)).mono ?_
        rintro e wz ⟨rfl, sz⟩
        go_wp2_with fail
        go_ret
        exact ⟨rfl, S0.out.trans (HS1.out.trans sz)⟩
      · by_cases h3 : i ≥ n
        · clear hf
          go_wp2_with fail
          refine (AW.out _ (Same.refl _)).mono ?_
          rintro e wz ⟨rfl, sz⟩
          go_wp2_with fail
          go_ret
          exact ⟨rfl, S0.out.trans (HS1.out.trans sz)⟩
        · obtain ⟨ki, rfl⟩ : ∃ ki : Nat, i = ki := ⟨i.toNat, by omega⟩
          have hki : ki < s.ts.length := by rw [HS.out.hn]; omega
          obtain ⟨p, hp⟩ : ∃ p, s.ts[ki]? = some p := ⟨s.ts[ki], List.getElem?_eq_getElem hki⟩
          have HP := Lib.hid hp
          have HF := Lib.hid hf
          have hle := hf p (List.mem_of_getElem? hp)
          obtain ⟨bA, oA, rfl, X, cX, _, _, _, _, _, _, t6, hcode, _⟩ := (HS.out.ht.same HS1.out).at_ hp
          have HCW := Lib.hid hcode
          have FI := Lib.hid (Fw.rfine_any X p.code.length cX (pI p) w1 (by unfold pI; rw [List.length_map]) (by omega) (prgI hcode))
          have k0 : (0 : Int) ≤ ki := by omega
          have k1 : (ki : Int) < n := by omega
          clear hp hki hcode hf
          go_wp2_with fail
          refine FI.out.mono ?_
          rintro e w2 ⟨rfl, s2⟩
          have HS12 := Lib.hid s2
          have HS1' := HS1
          have HS1 := Lib.hid (HS1.out.trans s2)
          have c0 := s2.cell c0
          have c1 := s2.cell c1
          have t6 := s2.cell t6
          have HB1 := Lib.hid (HB1.out.same s2)
          have HCW := Lib.hid (HCW.out.same s2)
          have AW := Lib.hid (fun W (h : Same w2 W) => AW.out W (HS12.out.trans h))
          clear s2 FI
          cases hok : Fw.okB (pI p) with
          | false =>
            clear hok
            go_wp2_with fail
            refine (AW.out _ (Same.refl _)).mono ?_
            rintro e wz ⟨rfl, sz⟩
            go_wp2_with fail
            go_ret
            exact ⟨rfl, S0.out.trans (HS1.out.trans sz)⟩
          | true =>
            have HOK := Lib.hid hok
            have hF := Fw.okB_fine hok
            have hnn := (prgI HCW.out).nn
            have hbc : ∀ k, k < (pI p).length → (Fp.at_ (pI p) k).op = 16 → 0 ≤ (Fp.at_ (pI p) k).c ∧ (Fp.at_ (pI p) k).c < 1099511627776 := fun k hk h16 => by
              have := Cs.back_c (hF.right k hk) h16
              omega
            have hCl : ∀ j, j < (Fp.loopsL (pI p)).length → 0 ≤ (Fp.at_ (pI p) (Fp.lp (Fp.loopsL (pI p)) j).2.toNat).c := fun j hj => by
              have h1 := Cs.lp_in hF hnn hj
              exact (hbc _ (by omega) (Cs.lp_back hF hnn hj)).1
            have HPL := Lib.hid (show (pI p).length = p.code.length by unfold pI; rw [List.length_map])
            have WK := Lib.hid (Wk.rwalk_any X p.code.length cX (pI p) CA cn cc ch 2000 w2 HPL.out (prgI HCW.out) (HC.out.same HS1.out) HCL.out hok (by omega) hbc)
            have HMX := Lib.hid (fun ws n (h : NoD (pI p) ch (n - 1)) => Wk.max_walk hF hnn hCl ws ch h)
            have HPC := Lib.hid (fun i (h : NoD (pI p) ch i) => (show (wk (pI p) ch i).1.pc < p.code.length from HPL.out ▸ (Wk.good_wk hF hnn hCl ch h).pc))
            -- what the dearest walk takes, in the law's words
            have HDE := Lib.hid (fun f => (show dearI s (ki : Int) f = Cs.weighW Cs.btG (pI p) (p.code.map (wgtI s f)) by
              rw [(dear_in (fails := f) HP.out).1, wl_in HP.out]
              unfold Cs.weI
              have e : Cs.weE (pI p) (p.code.map (wgtI s f)).length = 0 := by
                unfold Cs.weE
                rw [if_pos (of_decide_eq_true HOK.out), List.length_map, HPL.out, if_pos rfl]
              rw [if_pos e]
              rfl))
            have HDM := Lib.hid (fun (h : 0 < m) => (show demI s (ki : Int) 0 18 19 = Cs.weighW Cs.btG (pI p) ((pI p).map (cntR 0 (kx true) (ky true))) from (dem_in (k := 0) HP.out (by rw [HS.out.hm]; exact h)).trans (wei_ok HOK.out 0 true)))
            clear hok hF hnn hbc hCl
            go_wp2_with fail
            refine WK.out.mono ?_
            rintro e w4 ⟨LA, cL, nL, ok, rfl, hr, s4, hy, hz⟩
            have h2000 : (2000 : Int).toNat = 2000 := rfl
            have hn2 : nL ≤ 2000 := by cases ok with
              | true => exact (hy rfl).2.1
              | false => have := (hz rfl).1; omega
            have hnd : NoD (pI p) ch (nL - 1) := by cases ok with
              | true => exact (hy rfl).2.2.1
              | false => exact fun i hi => (hz rfl).2 i (by omega)
            have HMA := Lib.hid (show sumL (p.code.map (wgtI s 0)) (pcs (pI p) ch nL) ≤ dearI s (ki : Int) 0 by rw [HDE.out]; exact HMX.out _ nL hnd)
            have HMB := Lib.hid (show sumL (p.code.map (wgtI s 16)) (pcs (pI p) ch nL) ≤ dearI s (ki : Int) 16 by rw [HDE.out]; exact HMX.out _ nL hnd)
            have HMW := Lib.hid (fun h => (show sumL ((pI p).map (cntR 0 (kx true) (ky true))) (pcs (pI p) ch nL) ≤ demI s (ki : Int) 0 18 19 by rw [HDM.out h]; exact HMX.out _ nL hnd))
            have HPP := Lib.hid (show ∀ i, i < nL → 0 ≤ (pcs (pI p) ch nL).getD i 0 ∧ (pcs (pI p) ch nL).getD i 0 < p.code.length from fun i hi => by
              rw [List.getD_eq_getElem?_getD, pcs_at _ ch hi]
              have := HPC.out i (fun j hj => hnd j (by omega))
              simp only [Option.getD_some]
              omega)
            have HLL := Lib.hid (pcs_len (pI p) ch nL)
            have HRL := Lib.hid hr
            have HS4 := Lib.hid (HS1.out.trans s4)
            have HB4 := Lib.hid (HB1.out.same s4)
            have HCW4 := Lib.hid (HCW.out.same s4)
            have c0 := s4.cell c0
            have c1 := s4.cell c1
            have t6 := s4.cell t6
            have AW4 := Lib.hid (fun W (h : Same w4 W) => AW.out W (s4.trans h))
            clear hr s4 hy hz hnd WK HMX HPC HDE HDM HB1 AW HCW
            generalize pcs (pI p) ch nL = l at *
            generalize hwl : p.code.map (wgtI s 0) = wl at *
            generalize hvl : p.code.map (wgtI s 16) = vl at *
            generalize hcl : (pI p).map (cntR 0 (kx true) (ky true)) = cl at *
            have HWL := Lib.hid hwl
            have HVL := Lib.hid hvl
            have HCLL := Lib.hid hcl
            have SW := Lib.hid (show SmallW wl by rw [← hwl]; exact small_map _ (wgt_range s 0) _)
            have SV := Lib.hid (show SmallW vl by rw [← hvl]; exact small_map _ (wgt_range s 16) _)
            have SC_ := Lib.hid (show SmallW cl by rw [← hcl]; exact small_map _ (cnt_range 0 _ _) _)
            have NW := Lib.hid (show wl.length = p.code.length by rw [← hwl, List.length_map])
            have NV := Lib.hid (show vl.length = p.code.length by rw [← hvl, List.length_map])
            have RW0 := Lib.hid (fun W (h : Same w0 W) => hwl ▸ rweights_any (some ⟨bA, oA, none⟩) B n c m d s ki p 0 W (HS.out.same h) HP.out hle (by omega))
            have RW1 := Lib.hid (fun W (h : Same w0 W) => hvl ▸ rweights_any (some ⟨bA, oA, none⟩) B n c m d s ki p 16 W (HS.out.same h) HP.out hle (by omega))
            clear hwl hvl hcl
            go_wp2_with fail
            refine wp_region_held_drew (S := fun w' => Same w4 w') (by kernel_rfl) ?_ (fun hHeld => ?_)
            · exact (Same.refl w4).drew
            refine Ro.take_on (i := 0) (v := ?_) rfl (by kernel_rfl) (by kernel_rfl) (by kernel_rfl) (fun _ _ _ h => h) (by rfl) (by assumption) ?_ ?_
            rotate_left
            · intro wS hSw; (try dsimp only at hSw); obtain ⟨v0, v1⟩ := (⟨(HB4.out.same hSw).cell 0, (HB4.out.same hSw).cell 1⟩ : _ ∧ _); simp only [List.getElem?_toArray, List.getElem?_cons_zero, List.getElem?_cons_succ] at v0 v1; go_simp; try with_reducible rfl
            try simp only [Act.put, List.setIfInBounds_toArray, List.set_cons_zero, List.set_cons_succ]
            refine Ro.take_on (i := 1) (v := ?_) rfl (by kernel_rfl) (by kernel_rfl) (by kernel_rfl) (fun _ _ _ h => h) (by rfl) (by assumption) ?_ ?_
            rotate_left
            · intro wS hSw; (try dsimp only at hSw); go_simp; try with_reducible rfl
            try simp only [Act.put, List.setIfInBounds_toArray, List.set_cons_zero, List.set_cons_succ]
            refine Ro.take_on (i := 3) (v := ?_) rfl (by kernel_rfl) (by kernel_rfl) (by kernel_rfl) (fun _ _ _ h => h) (by rfl) (by assumption) ?_ ?_
            rotate_left
            · intro wS hSw; (try dsimp only at hSw); obtain ⟨v0, v1⟩ := (⟨(HB4.out.same hSw).cell 0, (HB4.out.same hSw).cell 1⟩ : _ ∧ _); simp only [List.getElem?_toArray, List.getElem?_cons_zero, List.getElem?_cons_succ] at v0 v1; go_simp; try with_reducible rfl
            try simp only [Act.put, List.setIfInBounds_toArray, List.set_cons_zero, List.set_cons_succ]
            refine Ro.take_on (i := 4) (v := ?_) rfl (by kernel_rfl) (by kernel_rfl) (by kernel_rfl) (fun _ _ _ h => h) (by rfl) (by assumption) ?_ ?_
            rotate_left
            · intro wS hSw; (try dsimp only at hSw); go_simp; try with_reducible rfl
            try simp only [Act.put, List.setIfInBounds_toArray, List.set_cons_zero, List.set_cons_succ]
            refine Ro.one_on (i := 2) rfl (by kernel_rfl) (by rfl) (fun K hK => ?_)
            go_simp
            go_at_call 8
            refine (RW0.out _ (HS4.out.trans hHeld)).mono ?_
            rintro e wO ⟨OA, oc, rfl, hro, sO⟩
            have HRO := Lib.hid hro
            clear hro
            refine hK.out _ _ ?_ (fun hNew => ?_)
            · exact hHeld.trans sO
            clear hK K hHeld; have hHeld := hNew; clear hNew
            try simp only [Act.put, List.setIfInBounds_toArray, List.set_cons_zero, List.set_cons_succ]
            refine Ro.one_on (i := 5) rfl (by kernel_rfl) (by rfl) (fun K hK => ?_)
            go_simp
            go_at_call 8
            refine (RW1.out _ (HS4.out.trans hHeld)).mono ?_
            rintro e wP ⟨OB, od, rfl, hrv, sP⟩
            have HRV := Lib.hid hrv
            have HSP := Lib.hid sP
            clear hrv sP
            refine hK.out _ _ ?_ (fun hNew => ?_)
            · exact hHeld.trans HSP.out
            clear hK K hHeld; have hHeld := hNew; clear hNew
            try simp only [Act.put, List.setIfInBounds_toArray, List.set_cons_zero, List.set_cons_succ]
            refine Ro.take_on (i := 6) (v := ?_) rfl (by kernel_rfl) (by kernel_rfl) (by kernel_rfl) (fun _ _ _ h => h) (by rfl) (by assumption) ?_ ?_
            rotate_left
            · intro wS hSw; (try dsimp only at hSw); go_simp; try with_reducible rfl
            try simp only [Act.put, List.setIfInBounds_toArray, List.set_cons_zero, List.set_cons_succ]
            refine Ro.take_on (i := 7) (v := ?_) rfl (by kernel_rfl) (by kernel_rfl) (by kernel_rfl) (fun _ _ _ h => h) (by rfl) (by assumption) ?_ ?_
            rotate_left
            · intro wS hSw; (try dsimp only at hSw); go_simp; try with_reducible rfl
            try simp only [Act.put, List.setIfInBounds_toArray, List.set_cons_zero, List.set_cons_succ]
            refine wpAnyH_done (by kernel_rfl) ?_ _
            have HROW := Lib.hid (HRO.out.same (HSP.out))
            have HS5 := Lib.hid (HS4.out.trans hHeld)
            have HR5 := Lib.hid (HRL.out.same hHeld)
            have HB5 := Lib.hid (HB4.out.same hHeld)
            have HCW5 := Lib.hid (HCW4.out.same hHeld)
            have c0 := hHeld.cell c0
            have c1 := hHeld.cell c1
            have t6 := hHeld.cell t6
            have AW5 := Lib.hid (fun W (h : Same wP W) => AW4.out W (hHeld.trans h))
            clear hHeld HRO HRL HB4 HCW4 AW4 RW0 RW1
            go_wp2_with fail
            go_loopg [11, 12, 13, 70] nL (fun gk av bv cv iv wx => ∃ k : Nat, k + gk = nL ∧ iv = .int .i64 k ∧ av = .int .i64 (sumL wl (l.take k)) ∧ bv = .int .i64 (sumL vl (l.take k)) ∧ cv = .int .i64 (sumL cl (l.take k)) ∧ Same wP wx)
            case atStart => exact ⟨0, by omega, rfl, rfl, rfl, rfl, Same.refl _⟩
            case round =>
              obtain ⟨k, hk, rfl, rfl, rfl, rfl, sx⟩ := hrel
              have HSX := Lib.hid sx
              have d0 := sx.cell c0
              have d1 := sx.cell c1
              have e6 := sx.cell t6
              clear sx c0 c1 t6
              cases gk with
              | zero =>
                obtain rfl : nL = k := by omega
                have hge : ¬ (nL : Int) < (nL : Int) := by omega
                have HTK := Lib.hid (show l.take nL = l from List.take_of_length_le (by have := HLL.out; omega))
                rw [HTK.out]
                have hma := HMA.out
                have hmb := HMB.out
                have CL := Lib.hid (clean36_any (some ⟨bA, oA, none⟩) B n c m d s ki wr (HS.out.same (HS5.out.trans HSX.out)) HF.out (HT.out.same (HS5.out.trans HSX.out)))
                have WH := Lib.hid (fun W (h : Same wr W) => whole36_any (some ⟨bA, oA, none⟩) B n c m d s ki W (HS.out.same (HS5.out.trans (HSX.out.trans h))) HF.out (HT.out.same (HS5.out.trans (HSX.out.trans h))))
                have WR := Lib.hid (fun W (h : Same wr W) => writes_any (some ⟨bA, oA, none⟩) B n c m d s ki 0 W (HS.out.same (HS5.out.trans (HSX.out.trans h))) hnm HF.out (HT.out.same (HS5.out.trans (HSX.out.trans h))))
                have HMW' := HMW
                clear HTK
                generalize dearI s (ki : Int) 0 = xa at *
                generalize dearI s (ki : Int) 16 = xb at *
                generalize dearE s (ki : Int) 0 = ea at *
                generalize dearE s (ki : Int) 16 = eb at *
                generalize demI s (ki : Int) 0 18 19 = xw at *
                generalize sumL wl l = sa at *
                generalize sumL vl l = sb at *
                generalize sumL cl l = sc at *
                go_wp2_with fail
                refine CL.out.mono ?_
                rintro e w6 ⟨rfl, s6⟩
                have HS6 := Lib.hid s6
                have d0 := s6.cell d0
                have d1 := s6.cell d1
                clear s6 CL
                go_wp2_with fail
                refine (WH.out _ HS6.out).mono ?_
                rintro e w7 ⟨rfl, s7⟩
                have HS7 := Lib.hid (HS6.out.trans s7)
                have d0 := s7.cell d0
                have d1 := s7.cell d1
                clear s7 WH HS6
                by_cases hm0 : (m : Int) = 0
                · have em : ((m : Int) == 0) = true := by simpa using hm0
                  clear hm0
                  go_wp2_with fail
                  refine (AW5.out _ (HSX.out.trans HS7.out)).mono ?_
                  rintro e w8 ⟨rfl, s8⟩
                  go_wp2_with fail
                  go_ret
                  exact ⟨rfl, S0.out.trans (HS5.out.trans (HSX.out.trans (HS7.out.trans s8)))⟩
                · have em : ((m : Int) == 0) = false := by simpa using hm0
                  have hmw : sc ≤ xw := HMW'.out (by omega)
                  clear hm0
                  go_wp2_with fail
                  refine (WR.out _ HS7.out).mono ?_
                  rintro e w8 ⟨rfl, s8⟩
                  have HS8 := Lib.hid (HS7.out.trans s8)
                  clear s8
                  go_wp2_with fail
                  refine (AW5.out _ (HSX.out.trans HS8.out)).mono ?_
                  rintro e w9 ⟨rfl, s9⟩
                  go_wp2_with fail
                  go_ret
                  exact ⟨rfl, S0.out.trans (HS5.out.trans (HSX.out.trans (HS8.out.trans s9)))⟩
              | succ GK =>
                have hlt : (k : Int) < nL := by omega
                have hk0 : (0 : Int) ≤ k := by omega
                have HKK := Lib.hid hk
                have HKL := Lib.hid (show k < l.length by have := HLL.out; omega)
                have HK2 := Lib.hid (show k < 2000 by omega)
                obtain ⟨g1, g2⟩ := HPP.out k (by omega)
                obtain ⟨bL, oL, rfl, cl0⟩ := (HR5.out.same HSX.out) k (.int .i64 (l.getD k 0)) (by rw [List.getElem?_map, List.getD_eq_getElem?_getD, List.getElem?_eq_getElem HKL.out]; rfl)
                have ha := sum_small SW.out k (by have := HKL.out; omega) (by have := HK2.out; omega) (l := l)
                have hb := sum_small SV.out k (by have := HKL.out; omega) (by have := HK2.out; omega) (l := l)
                have hc := sum_small SC_.out k (by have := HKL.out; omega) (by have := HK2.out; omega) (l := l)
                have AA := Lib.hid (sum_add SW.out HKL.out HK2.out)
                have AB := Lib.hid (sum_add SV.out HKL.out HK2.out)
                have AC := Lib.hid (sum_add SC_.out HKL.out HK2.out)
                clear hk
                generalize hv : l.getD k 0 = v at *
                obtain ⟨u, rfl⟩ : ∃ u : Nat, v = u := ⟨v.toNat, by omega⟩
                have eu : ((u : Int)).toNat = u := by omega
                rw [eu] at AA AB AC
                have HUL := Lib.hid (show u < p.code.length by omega)
                obtain ⟨bW, oW, rfl, cw⟩ := (HROW.out.same HSX.out) u (.int .i64 (wl.getD u 0)) (by rw [List.getElem?_map, List.getD_eq_getElem?_getD, List.getElem?_eq_getElem (by rw [NW.out]; exact HUL.out)]; rfl)
                obtain ⟨bV, oV, rfl, cv⟩ := (HRV.out.same HSX.out) u (.int .i64 (vl.getD u 0)) (by rw [List.getElem?_map, List.getD_eq_getElem?_getD, List.getElem?_eq_getElem (by rw [NV.out]; exact HUL.out)]; rfl)
                obtain ⟨⟨op, ia, ib, ic, iN⟩, hxj⟩ : ∃ xj : Im.Ins, p.code[u]? = some xj := ⟨p.code[u]'HUL.out, List.getElem?_eq_getElem HUL.out⟩
                obtain ⟨hxn, bX, oX, rfl, y0, y1, y2, y3, y4⟩ := (HCW5.out.same HSX.out).at_ hxj
                dsimp only at hxn y0 y1 y2 y3 y4
                have HCV := Lib.hid (show cl.getD u 0 = cntR 0 (kx true) (ky true) ⟨op, ia, ib, ic, iN⟩ by
                  rw [← HCLL.out]
                  unfold pI
                  rw [List.map_map, List.getD_eq_getElem?_getD, List.getElem?_map, hxj]
                  rfl)
                have hwv := SW.out u
                have hvv := SV.out u
                have hvk := Lib.hid hv
                clear hxj hv eu
                generalize wl.getD u 0 = xw at *
                generalize vl.getD u 0 = xv at *
                generalize cl.getD u 0 = xc at *
                generalize sumL wl (l.take k) = sa at *
                generalize sumL vl (l.take k) = sb at *
                generalize sumL cl (l.take k) = sc at *
                have hu0 : (0 : Int) ≤ u := by omega
                have hu1 : (u : Int) < wl.length := by have := NW.out; have := HUL.out; omega
                have hu2 : (u : Int) < vl.length := by have := NV.out; have := HUL.out; omega
                have hu3 : (u : Int) < p.code.length := by have := HUL.out; omega
                have ha2 : 0 ≤ sa ∧ sa ≤ 4000000 := by omega
                have hb2 : 0 ≤ sb ∧ sb ≤ 4000000 := by omega
                have hc2 : 0 ≤ sc ∧ sc ≤ 4000000 := by omega
                clear ha hb hc
                go_wp2_with fail
                go_quiet (fail)
                have HN := Lib.hid ((Same.refl wr).drewN nq)
                generalize wr.drewN nq = wn at *
                have HSN := Lib.hid (HSX.out.trans HN.out)
                have d0 := HN.out.cell d0
                have d1 := HN.out.cell d1
                have e6 := HN.out.cell e6
                have y0 := HN.out.cell y0
                have y1 := HN.out.cell y1
                have y2 := HN.out.cell y2
                have y3 := HN.out.cell y3
                have y4 := HN.out.cell y4
                have HQ5 := Lib.hid (Blk.new wn 39 #[.int .i64 op, .int .i64 ia, .int .i64 ib, .int .i64 ic, .int .u32 iN])
                have HX5 := Lib.hid (HSN.out.alloc (.cells #[.int .i64 op, .int .i64 ia, .int .i64 ib, .int .i64 ic, .int .u32 iN] 39))
                clear cl0 cw cv
                go_upto_region 11 with fail
                generalize wn.alloc (.cells #[.int .i64 op, .int .i64 ia, .int .i64 ib, .int .i64 ic, .int .u32 iN] 39) = w5 at *
                generalize wn.heap.size = q5 at *
                obtain ⟨v0, v2⟩ := (⟨HQ5.out.cell 0, HQ5.out.cell 2⟩ : _ ∧ _)
                simp only [List.getElem?_toArray, List.getElem?_cons_zero, List.getElem?_cons_succ] at v0 v2
                clear y0 y1 y2 y3 y4 d0 d1 e6 HSX HSN HN
                by_cases ha : op = 18
                · have ea : (op == 18) = true := by simpa using ha
                  have HA := Lib.hid ha
                  clear ha
                  by_cases hb : ib = 0
                  · have eb : (ib == 0) = true := by simpa using hb
                    have HBK := Lib.hid hb
                    clear hb
                    have HV := Lib.hid (show cntR 0 (kx true) (ky true) ⟨op, ia, ib, ic, iN⟩ = 1 from by unfold cntR kx ky; simp only; exact if_pos ⟨.inl HA.out, HBK.out⟩)
                    go_wp2_with fail
                    go_roundg GK
                    case rel => exact ⟨k + 1, by have := HKK.out; omega, by go_num, by rw [AA.out], by rw [AB.out], by rw [AC.out, HCV.out, HV.out], HX5.out⟩
                    case measure => omega
                  · have eb : (ib == 0) = false := by simpa using hb
                    have HBK := Lib.hid hb
                    clear hb
                    have HV := Lib.hid (show cntR 0 (kx true) (ky true) ⟨op, ia, ib, ic, iN⟩ = 0 from by unfold cntR kx ky; simp only; exact if_neg (fun h => HBK.out h.2))
                    go_wp2_with fail
                    go_roundg GK
                    case rel => exact ⟨k + 1, by have := HKK.out; omega, by go_num, by rw [AA.out], by rw [AB.out], by rw [AC.out, HCV.out, HV.out]; simp, HX5.out⟩
                    case measure => omega
                · have ea : (op == 18) = false := by simpa using ha
                  have HA := Lib.hid ha
                  clear ha
                  by_cases hc : op = 19
                  · have ec : (op == 19) = true := by simpa using hc
                    have HCC := Lib.hid hc
                    clear hc
                    by_cases hb : ib = 0
                    · have eb : (ib == 0) = true := by simpa using hb
                      have HBK := Lib.hid hb
                      clear hb
                      have HV := Lib.hid (show cntR 0 (kx true) (ky true) ⟨op, ia, ib, ic, iN⟩ = 1 from by unfold cntR kx ky; simp only; exact if_pos ⟨.inr HCC.out, HBK.out⟩)
                      go_wp2_with fail
                      go_roundg GK
                      case rel => exact ⟨k + 1, by have := HKK.out; omega, by go_num, by rw [AA.out], by rw [AB.out], by rw [AC.out, HCV.out, HV.out], HX5.out⟩
                      case measure => omega
                    · have eb : (ib == 0) = false := by simpa using hb
                      have HBK := Lib.hid hb
                      clear hb
                      have HV := Lib.hid (show cntR 0 (kx true) (ky true) ⟨op, ia, ib, ic, iN⟩ = 0 from by unfold cntR kx ky; simp only; exact if_neg (fun h => HBK.out h.2))
                      go_wp2_with fail
                      go_roundg GK
                      case rel => exact ⟨k + 1, by have := HKK.out; omega, by go_num, by rw [AA.out], by rw [AB.out], by rw [AC.out, HCV.out, HV.out]; simp, HX5.out⟩
                      case measure => omega
                  · have ec : (op == 19) = false := by simpa using hc
                    have HCC := Lib.hid hc
                    clear hc
                    have HV := Lib.hid (show cntR 0 (kx true) (ky true) ⟨op, ia, ib, ic, iN⟩ = 0 from by unfold cntR kx ky; simp only; exact if_neg (fun h => h.1.elim HA.out HCC.out))
                    go_wp2_with fail
                    go_roundg GK
                    case rel => exact ⟨k + 1, by have := HKK.out; omega, by go_num, by rw [AA.out], by rw [AB.out], by rw [AC.out, HCV.out, HV.out]; simp, HX5.out⟩
                    case measure => omega
end Go.Proofs.YtknmfopnbognpaaGreatDoor.Dm
end
end
end
