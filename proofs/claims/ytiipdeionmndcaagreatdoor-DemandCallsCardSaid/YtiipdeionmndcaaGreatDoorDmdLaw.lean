/-

  The law DemandCalls.
-/
import Derived.Test.YtiipdeionmndcaaGreatDoorDmdWeigh
import Derived.Test.YtiipdeionmndcaaGreatDoorDmdRef
import Derived.Test.YtiipdeionmndcaaGreatDoorRegionOff
import Derived.Test.YtiipdeionmndcaaGreatDoorSysFew
section
set_option linter.unusedVariables false
set_option linter.unusedSimpArgs false
namespace Go.Proofs.YtiipdeionmndcaaGreatDoor.Dm
open Go.ChangeShapes Go.WideShapes Go.ChangeAt Go.RowKit Ws
open Im (PT PO PS TsAt OsAt SysAt tcells ocells)
open Go.Proofs.YtiipdeionmndcaaGreatDoor.Is (callB callV rightB)

def dearI (s : PS) (i fails : Int) : Int := if 0 ≤ i ∧ i < s.ts.length then Cs.weI true (pI (s.ts.getD i.toNat default)) (wgtL s i fails) else 0
def dearE (s : PS) (i fails : Int) : Int := if 0 ≤ i ∧ i < s.ts.length then Cs.weE (pI (s.ts.getD i.toNat default)) (wgtL s i fails).length else 1
theorem dear_out {s : PS} {i fails : Int} (h : i < 0 ∨ (s.ts.length : Int) ≤ i) : dearI s i fails = 0 ∧ dearE s i fails = 1 := ⟨if_neg (by omega), if_neg (by omega)⟩
theorem dear_in {s : PS} {i : Nat} {fails : Int} {p : PT} (h : s.ts[i]? = some p) : dearI s i fails = Cs.weI true (pI p) (wgtL s i fails) ∧ dearE s i fails = Cs.weE (pI p) (wgtL s i fails).length := by
  have hi : i < s.ts.length := (List.getElem?_eq_some_iff.1 h).1
  have e : s.ts.getD ((i : Int)).toNat default = p := by rw [Int.toNat_natCast, List.getD_eq_getElem?_getD, h]; rfl
  unfold dearI dearE
  rw [if_pos (by omega), if_pos (by omega), e]
  exact ⟨rfl, rfl⟩
set_option maxRecDepth 100000 in
set_option maxHeartbeats 4000000 in
theorem dearest_any (A B : Option Addr) (n c m d : Nat) (s : PS) (i fails : Int) (w : World) (hs : SysAt w A n B m s) (hf : ∀ p ∈ s.ts, p.code.length ≤ 200) (hT : Is.Tabs w) :
    Calls Tryz.prog 30 #[.agg #[.slice A n c, .slice B m d], .int .i64 i, .int .i64 fails] w fun e w' => e = .returned (.tuple #[.int .i64 (dearI s i fails), .int .i64 (dearE s i fails)]) ∧ Same w w' := by
  obtain ⟨w0, hw0⟩ : ∃ w0, w0 = w.alloc (.cells #[.slice A n c, .slice B m d] 25) := ⟨_, rfl⟩
  have s0 : Same w w0 := hw0 ▸ (Same.refl w).alloc _
  have b0 : Blk w0 w.heap.size 25 #[.slice A n c, .slice B m d] := hw0 ▸ Blk.new w _ _
  have HE0 := Lib.hid hw0
  have HF := Lib.hid hf
  have c0 := b0.cell 0
  simp only [List.getElem?_toArray, List.getElem?_cons_zero, List.getElem?_cons_succ] at c0
  have S0 := Lib.hid s0
  have B0 := Lib.hid b0
  have HT := Lib.hid hT
  have RT := Lib.hid (rowt_any A n c s.ts i w0 (hs.ht.same s0) hs.hn)
  have WG := Lib.hid (fun W (h : Same w W) => weights_any A B n c m d s i fails W (hs.same h) hf (hT.same h))
  clear hw0 s0 b0 hs hf hT
  go_enter Tryz.func30, Tryz.ntmps30
  go_wp2_with fail
  rw [← HE0.out]
  clear HE0
  refine RT.out.mono ?_
  rintro e w1 ⟨s1, ht⟩
  have S1 := Lib.hid s1
  have B1 := Lib.hid (B0.out.same s1)
  clear s1 RT B0 c0
  rcases ht with ⟨ki, p, X, cX, rfl, hp, hcode, hlen, rfl⟩ | ⟨hout, rfl⟩
  · have HCW := Lib.hid hcode
    have HLE := Lib.hid (HF.out p (List.mem_of_getElem? hp))
    have HD := Lib.hid (dear_in (fails := fails) hp)
    have HWL := Lib.hid (show (wgtL s (ki : Int) fails).length = p.code.length by rw [wl_in hp, List.length_map])
    clear hcode hp hlen
    have HS4 := Lib.hid (S1.out.alloc (.cells #[.int .i64 p.kind, .int .i64 p.prio, .int .i64 p.per, .int .i64 p.off, .int .i64 p.dl, .int .i64 p.own, .slice X p.code.length cX] 38))
    have HQ4 := Lib.hid (Blk.new w1 38 #[.int .i64 p.kind, .int .i64 p.prio, .int .i64 p.per, .int .i64 p.off, .int .i64 p.dl, .int .i64 p.own, .slice X p.code.length cX])
    have HB4 := Lib.hid (B1.out.same ((Same.refl w1).alloc (.cells #[.int .i64 p.kind, .int .i64 p.prio, .int .i64 p.per, .int .i64 p.off, .int .i64 p.dl, .int .i64 p.own, .slice X p.code.length cX] 38)))
    go_upto_region 2 with fail
    generalize w1.alloc (.cells #[.int .i64 p.kind, .int .i64 p.prio, .int .i64 p.per, .int .i64 p.off, .int .i64 p.dl, .int .i64 p.own, .slice X p.code.length cX] 38) = w4 at *
    generalize w1.heap.size = q1 at *
    generalize hq0 : w.heap.size = q0 at *
    clear hq0
    have HLE2 := HLE.out
    have WG4 := Lib.hid (fun W (h : Same w4 W) => WG.out W (S0.out.trans (HS4.out.trans h)))
    generalize wgtL s (ki : Int) fails = wl at *
    go_wp2_with fail
    refine wp_region_held_drew (S := fun w' => Same w4 w') (by kernel_rfl) ?_ (fun hHeld => ?_)
    · exact (Same.refl w4).drew
    refine Ro.take_on (i := 0) (v := ?_) rfl (by kernel_rfl) (by kernel_rfl) (by kernel_rfl) (fun _ _ _ h => h) (by rfl) (by assumption) ?_ ?_
    rotate_left
    · intro wS hSw; (try dsimp only at hSw); go_simp; try with_reducible rfl
    try simp only [Act.put, List.setIfInBounds_toArray, List.set_cons_zero, List.set_cons_succ]
    refine Ro.take_on (i := 1) (v := ?_) rfl (by kernel_rfl) (by kernel_rfl) (by kernel_rfl) (fun _ _ _ h => h) (by rfl) (by assumption) ?_ ?_
    rotate_left
    · intro wS hSw; (try dsimp only at hSw); obtain ⟨v0, v1, v2, v3, v4, v5, v6⟩ := (⟨(HQ4.out.same hSw).cell 0, (HQ4.out.same hSw).cell 1, (HQ4.out.same hSw).cell 2, (HQ4.out.same hSw).cell 3, (HQ4.out.same hSw).cell 4, (HQ4.out.same hSw).cell 5, (HQ4.out.same hSw).cell 6⟩ : _ ∧ _ ∧ _ ∧ _ ∧ _ ∧ _ ∧ _); simp only [List.getElem?_toArray, List.getElem?_cons_zero, List.getElem?_cons_succ] at v0 v1 v2 v3 v4 v5 v6; go_simp; try with_reducible rfl
    try simp only [Act.put, List.setIfInBounds_toArray, List.set_cons_zero, List.set_cons_succ]
    refine Ro.take_on (i := 2) (v := ?_) rfl (by kernel_rfl) (by kernel_rfl) (by kernel_rfl) (fun _ _ _ h => h) (by rfl) (by assumption) ?_ ?_
    rotate_left
    · intro wS hSw; (try dsimp only at hSw); obtain ⟨v0, v1⟩ := (⟨(HB4.out.same hSw).cell 0, (HB4.out.same hSw).cell 1⟩ : _ ∧ _); simp only [List.getElem?_toArray, List.getElem?_cons_zero, List.getElem?_cons_succ] at v0 v1; go_simp; try with_reducible rfl
    try simp only [Act.put, List.setIfInBounds_toArray, List.set_cons_zero, List.set_cons_succ]
    refine Ro.take_on (i := 3) (v := ?_) rfl (by kernel_rfl) (by kernel_rfl) (by kernel_rfl) (fun _ _ _ h => h) (by rfl) (by assumption) ?_ ?_
    rotate_left
    · intro wS hSw; (try dsimp only at hSw); go_simp; try with_reducible rfl
    try simp only [Act.put, List.setIfInBounds_toArray, List.set_cons_zero, List.set_cons_succ]
    refine Ro.take_on (i := 4) (v := ?_) rfl (by kernel_rfl) (by kernel_rfl) (by kernel_rfl) (fun _ _ _ h => h) (by rfl) (by assumption) ?_ ?_
    rotate_left
    · intro wS hSw; (try dsimp only at hSw); go_simp; try with_reducible rfl
    try simp only [Act.put, List.setIfInBounds_toArray, List.set_cons_zero, List.set_cons_succ]
    refine Ro.one_on (i := 5) rfl (by kernel_rfl) (by rfl) (fun K hK => ?_)
    go_simp
    go_at_call 50
    refine (WG4.out _ hHeld).mono ?_
    rintro e wO ⟨OB, oc, rfl, hro, sO⟩
    have HRO := Lib.hid hro
    clear hro
    refine hK.out _ _ ?_ (fun hNew => ?_)
    · exact hHeld.trans sO
    clear hK K hHeld; have hHeld := hNew; clear hNew
    try simp only [Act.put, List.setIfInBounds_toArray, List.set_cons_zero, List.set_cons_succ]
    refine Ro.one_on (i := 6) rfl (by kernel_rfl) (by rfl) (fun K hK => ?_)
    go_simp
    go_at_call 35
    refine (Cs.most_any X p.code.length cX (pI p) OB wl.length oc wl wO (by unfold pI; rw [List.length_map]) (by omega) (prgI (HCW.out.same (HS4.out.trans hHeld))) HRO.out rfl (HT.out.same (S0.out.trans (HS4.out.trans hHeld)))).mono ?_
    rintro e wM ⟨rfl, sM⟩
    refine hK.out _ _ ?_ (fun hNew => ?_)
    · exact hHeld.trans sM
    clear hK K hHeld; have hHeld := hNew; clear hNew
    try simp only [Act.put, List.setIfInBounds_toArray, List.set_cons_zero, List.set_cons_succ]
    refine Ro.take_on (i := 7) (v := ?_) rfl (by kernel_rfl) (by kernel_rfl) (by kernel_rfl) (fun _ _ _ h => h) (by rfl) (by assumption) ?_ ?_
    rotate_left
    · intro wS hSw; (try dsimp only at hSw); go_simp; try with_reducible rfl
    try simp only [Act.put, List.setIfInBounds_toArray, List.set_cons_zero, List.set_cons_succ]
    refine Ro.take_on (i := 8) (v := ?_) rfl (by kernel_rfl) (by kernel_rfl) (by kernel_rfl) (fun _ _ _ h => h) (by rfl) (by assumption) ?_ ?_
    rotate_left
    · intro wS hSw; (try dsimp only at hSw); go_simp; try with_reducible rfl
    try simp only [Act.put, List.setIfInBounds_toArray, List.set_cons_zero, List.set_cons_succ]
    refine Ro.take_on (i := 9) (v := ?_) rfl (by kernel_rfl) (by kernel_rfl) (by kernel_rfl) (fun _ _ _ h => h) (by rfl) (by assumption) ?_ ?_
    rotate_left
    · intro wS hSw; (try dsimp only at hSw); go_simp; try with_reducible rfl
    try simp only [Act.put, List.setIfInBounds_toArray, List.set_cons_zero, List.set_cons_succ]
    refine Ro.take_on (i := 10) (v := ?_) rfl (by kernel_rfl) (by kernel_rfl) (by kernel_rfl) (fun _ _ _ h => h) (by rfl) (by assumption) ?_ ?_
    rotate_left
    · intro wS hSw; (try dsimp only at hSw); go_simp; try with_reducible rfl
    try simp only [Act.put, List.setIfInBounds_toArray, List.set_cons_zero, List.set_cons_succ]
    refine wpAnyH_done (by kernel_rfl) ?_ _
    go_wp2_with fail
    go_ret2
    exact ⟨by rw [HD.out.1, HD.out.2]; rfl, S0.out.trans (HS4.out.trans hHeld)⟩
  · have HD := Lib.hid (dear_out (fails := fails) hout)
    clear hout
    have HS4 := Lib.hid (S1.out.alloc (.cells #[.int .i64 0, .int .i64 0, .int .i64 0, .int .i64 0, .int .i64 0, .int .i64 0, .slice none 0 0] 38))
    go_upto_region 2 with fail
    generalize w1.alloc (.cells #[.int .i64 0, .int .i64 0, .int .i64 0, .int .i64 0, .int .i64 0, .int .i64 0, .slice none 0 0] 38) = w4 at *
    go_wp2_with fail
    go_ret2
    exact ⟨by rw [HD.out.1, HD.out.2]; rfl, S0.out.trans HS4.out⟩

set_option maxRecDepth 100000 in
theorem clean36_any (A B : Option Addr) (n c m d : Nat) (s : PS) (i : Int) (w : World) (hs : SysAt w A n B m s) (hf : ∀ p ∈ s.ts, p.code.length ≤ 200) (hT : Is.Tabs w) :
    Calls Tryz.prog 17 #[.agg #[.slice A n c, .slice B m d], .int .i64 i] w fun e w' => e = .returned (.tuple #[.int .i64 (dearI s i 0), .int .i64 (dearE s i 0)]) ∧ Same w w' := by
  obtain ⟨w0, hw0⟩ : ∃ w0, w0 = w.alloc (.cells #[.slice A n c, .slice B m d] 25) := ⟨_, rfl⟩
  have s0 : Same w w0 := hw0 ▸ (Same.refl w).alloc _
  have b0 : Blk w0 w.heap.size 25 #[.slice A n c, .slice B m d] := hw0 ▸ Blk.new w _ _
  have HE0 := Lib.hid hw0
  have c0 := b0.cell 0
  have c1 := b0.cell 1
  simp only [List.getElem?_toArray, List.getElem?_cons_zero, List.getElem?_cons_succ] at c0 c1
  have S0 := Lib.hid s0
  have DE := Lib.hid (dearest_any A B n c m d s i 0 w0 (hs.same s0) hf (hT.same s0))
  clear hw0 s0 b0 hs hf hT
  generalize dearI s i 0 = di at *
  generalize dearE s i 0 = de at *
  go_enter Tryz.func17, Tryz.ntmps17
  go_wp2_with fail
  rw [← HE0.out]
  refine DE.out.mono ?_
  rintro e w1 ⟨rfl, s1⟩
  go_wp2_with fail
  go_ret2
  exact ⟨rfl, S0.out.trans s1⟩

set_option maxRecDepth 100000 in
theorem whole36_any (A B : Option Addr) (n c m d : Nat) (s : PS) (i : Int) (w : World) (hs : SysAt w A n B m s) (hf : ∀ p ∈ s.ts, p.code.length ≤ 200) (hT : Is.Tabs w) :
    Calls Tryz.prog 18 #[.agg #[.slice A n c, .slice B m d], .int .i64 i] w fun e w' => e = .returned (.tuple #[.int .i64 (dearI s i 16), .int .i64 (dearE s i 16)]) ∧ Same w w' := by
  obtain ⟨w0, hw0⟩ : ∃ w0, w0 = w.alloc (.cells #[.slice A n c, .slice B m d] 25) := ⟨_, rfl⟩
  have s0 : Same w w0 := hw0 ▸ (Same.refl w).alloc _
  have b0 : Blk w0 w.heap.size 25 #[.slice A n c, .slice B m d] := hw0 ▸ Blk.new w _ _
  have HE0 := Lib.hid hw0
  have c0 := b0.cell 0
  have c1 := b0.cell 1
  simp only [List.getElem?_toArray, List.getElem?_cons_zero, List.getElem?_cons_succ] at c0 c1
  have S0 := Lib.hid s0
  have DE := Lib.hid (dearest_any A B n c m d s i 16 w0 (hs.same s0) hf (hT.same s0))
  clear hw0 s0 b0 hs hf hT
  generalize dearI s i 16 = di at *
  generalize dearE s i 16 = de at *
  go_enter Tryz.func18, Tryz.ntmps18
  go_wp2_with fail
  rw [← HE0.out]
  refine DE.out.mono ?_
  rintro e w1 ⟨rfl, s1⟩
  go_wp2_with fail
  go_ret2
  exact ⟨rfl, S0.out.trans s1⟩

def s36 : PS := ⟨[⟨0, 0, 0, 0, 0, 0, [⟨17, 0, 0, 0, 0⟩, ⟨21, 0, 0, 0, 0⟩]⟩], [⟨3, 2, 0, 3, 0, 0, [0], [1, 2]⟩]⟩
theorem s36_a : dearI s36 0 0 = 5 ∧ dearE s36 0 0 = 0 := by decide +kernel
theorem s36_b : dearI s36 0 16 = 13 ∧ dearE s36 0 16 = 0 := by decide +kernel
theorem s36_c : demI s36 0 0 17 20 = 1 := by decide +kernel
theorem sys36 {W : World} {a b cc u v : Nat} (ha : Blk W a 38 #[.int .i64 0, .int .i64 0, .int .i64 0, .int .i64 0, .int .i64 0, .int .i64 0, .slice (some ⟨cc, 0, none⟩) 2 2]) (hc : Blk W cc 41 #[.int .i64 17, .int .i64 0, .int .i64 0, .int .i64 0, .int .u32 0, .int .i64 21, .int .i64 0, .int .i64 0, .int .i64 0, .int .u32 0]) (hb : Blk W b 46 #[.int .i64 3, .int .i64 2, .int .i64 0, .int .i64 3, .int .u32 0, .slice (some ⟨u, 0, none⟩) 2 2, .int .i64 0, .slice (some ⟨v, 0, none⟩) 1 1])
    (hu : Blk W u 39 #[.int .u32 1, .int .u32 2]) (hv : Blk W v 3 #[.int .i64 0]) : SysAt W (some ⟨a, 0, none⟩) 1 (some ⟨b, 0, none⟩) 1 s36 := by
  refine ⟨rfl, rfl, ?_, ?_⟩
  · intro i p hp
    cases i with
    | succ i => cases hp
    | zero =>
      have hp' : p = ⟨0, 0, 0, 0, 0, 0, [⟨17, 0, 0, 0, 0⟩, ⟨21, 0, 0, 0, 0⟩]⟩ := (Option.some.inj hp).symm
      subst hp'
      refine ⟨a, 0, rfl, some ⟨cc, 0, none⟩, 2, fun j y hj => ?_, ?_, by unfold maxLen; simp⟩
      · have := ha.cell j
        rw [show 0 + 0 * 7 + j = j by omega, this, List.getElem?_toArray]
        exact hj
      · intro k x hx
        rcases k with _ | _ | k
        · have hx' : x = ⟨17, 0, 0, 0, 0⟩ := (Option.some.inj hx).symm
          subst hx'
          refine ⟨by decide, cc, 0, rfl, fun j y hj => ?_⟩
          have := hc.cell j
          rw [show 0 + 0 * 5 + j = j by omega, this, List.getElem?_toArray]
          rcases j with _ | _ | _ | _ | _ | j
          all_goals first | exact hj | (simp [Im.icells] at hj)
        · have hx' : x = ⟨21, 0, 0, 0, 0⟩ := (Option.some.inj hx).symm
          subst hx'
          refine ⟨by decide, cc, 0, rfl, fun j y hj => ?_⟩
          have := hc.cell (5 + j)
          rw [show 0 + (0 + 1) * 5 + j = 5 + j by omega, this, List.getElem?_toArray]
          rcases j with _ | _ | _ | _ | _ | j
          all_goals first | exact hj | (simp [Im.icells] at hj)
        · cases hx
  · intro i p hp
    cases i with
    | succ i => cases hp
    | zero =>
      have hp' : p = ⟨3, 2, 0, 3, 0, 0, [0], [1, 2]⟩ := (Option.some.inj hp).symm
      subst hp'
      refine ⟨b, 0, rfl, some ⟨u, 0, none⟩, 2, some ⟨v, 0, none⟩, 1, fun j y hj => ?_, by decide, ?_, ?_, ?_, by unfold maxLen; simp, by unfold maxLen; simp⟩
      · have := hb.cell j
        rw [show 0 + 0 * 8 + j = j by omega, this, List.getElem?_toArray]
        exact hj
      · intro j y hj
        refine ⟨u, 0, rfl, ?_⟩
        have := hu.cell j
        rw [Nat.zero_add, this, List.getElem?_toArray]
        exact hj
      · intro y hy
        simp only [List.mem_cons, List.not_mem_nil, or_false] at hy
        rcases hy with rfl | rfl <;> decide
      · intro j y hj
        refine ⟨v, 0, rfl, ?_⟩
        have := hv.cell j
        rw [Nat.zero_add, this, List.getElem?_toArray]
        exact hj
end Go.Proofs.YtiipdeionmndcaaGreatDoor.Dm
end
section
set_option linter.unusedVariables false
set_option linter.unusedSimpArgs false
namespace Go.Proofs.YtiipdeionmndcaaGreatDoor.Dm
open Go.ChangeShapes Go.WideShapes Go.ChangeAt Go.RowKit Ws
open Im (PT PO PS TsAt OsAt SysAt tcells ocells)
set_option maxRecDepth 100000 in
set_option maxHeartbeats 4000000 in
theorem awake36 (w : World) (hT : Is.Tabs w) : Calls Tryz.prog 6 #[] w fun e w' => e = .returned (.bool true) ∧ Same w w' := by
  obtain ⟨u, hu⟩ : ∃ u, u = w.heap.size := ⟨_, rfl⟩
  obtain ⟨w1, hw1⟩ : ∃ w1, w1 = w.alloc (.cells #[.int .u32 1, .int .u32 2] 39) := ⟨_, rfl⟩
  have s1 : Same w w1 := hw1 ▸ (Same.refl w).alloc _
  have bu : Blk w1 u 39 #[.int .u32 1, .int .u32 2] := by rw [hw1, hu]; exact Blk.new w _ _
  obtain ⟨v, hv⟩ : ∃ v, v = w1.heap.size := ⟨_, rfl⟩
  obtain ⟨w2, hw2⟩ : ∃ w2, w2 = w1.alloc (.cells #[.int .i64 0] 3) := ⟨_, rfl⟩
  have s2 : Same w1 w2 := hw2 ▸ (Same.refl w1).alloc _
  have bv : Blk w2 v 3 #[.int .i64 0] := by rw [hw2, hv]; exact Blk.new w1 _ _
  obtain ⟨o, ho⟩ : ∃ o, o = w2.heap.size := ⟨_, rfl⟩
  obtain ⟨w3, hw3⟩ : ∃ w3, w3 = w2.alloc (.cells #[.int .i64 3, .int .i64 2, .int .i64 0, .int .i64 3, .int .u32 0, .slice (some ⟨u, 0, none⟩) 2 2, .int .i64 0, .slice (some ⟨v, 0, none⟩) 1 1] 46) := ⟨_, rfl⟩
  have s3 : Same w2 w3 := hw3 ▸ (Same.refl w2).alloc _
  have bo : Blk w3 o 46 #[.int .i64 3, .int .i64 2, .int .i64 0, .int .i64 3, .int .u32 0, .slice (some ⟨u, 0, none⟩) 2 2, .int .i64 0, .slice (some ⟨v, 0, none⟩) 1 1] := by rw [hw3, ho]; exact Blk.new w2 _ _
  have e1 : w.heap.size + 1 = v := by rw [hv, hw1]; show _ = (w.heap.push _).size; rw [Array.size_push]
  have e2 : w.heap.size + 1 + 1 = o := by rw [ho, hw2, e1, hv]; show _ = (w1.heap.push _).size; rw [Array.size_push]
  have E1 := Lib.hid hw1
  have E2 := Lib.hid hw2
  have E3 := Lib.hid hw3
  have U := Lib.hid hu
  have V := Lib.hid e1
  have O := Lib.hid e2
  have BU := Lib.hid (bu.same (s2.trans s3))
  have BV := Lib.hid (bv.same s3)
  have BO := Lib.hid bo
  have S3 := Lib.hid (s1.trans (s2.trans s3))
  have HT := Lib.hid hT
  clear hw1 hw2 hw3 hu hv ho e1 e2 s1 s2 s3 bu bv bo hT
  go_enter Tryz.func6, Tryz.ntmps6
  go_upto_region 2 with fail
  rw [O.out, V.out, ← U.out, ← E1.out, ← E2.out, ← E3.out]
  clear E1 E2 E3 U V O
  have BOZ := BO.out.same (((Same.refl w3).alloc (.cells #[.int .i64 17, .int .i64 0, .int .i64 0, .int .i64 0, .int .u32 0, .int .i64 21, .int .i64 0, .int .i64 0, .int .i64 0, .int .u32 0] 41)).alloc (.cells #[.int .i64 0, .int .i64 0, .int .i64 0, .int .i64 0, .int .i64 0, .int .i64 0, .slice (some ⟨w3.heap.size, 0, none⟩) 2 2] 38))
  obtain ⟨z0, z1, z2, z3, z4, z5, z6, z7⟩ := (⟨BOZ.cell 0, BOZ.cell 1, BOZ.cell 2, BOZ.cell 3, BOZ.cell 4, BOZ.cell 5, BOZ.cell 6, BOZ.cell 7⟩ : _ ∧ _ ∧ _ ∧ _ ∧ _ ∧ _ ∧ _ ∧ _)
  simp only [List.getElem?_toArray, List.getElem?_cons_zero, List.getElem?_cons_succ] at z0 z1 z2 z3 z4 z5 z6 z7
  obtain ⟨cc, hcc⟩ : ∃ cc, cc = w3.heap.size := ⟨_, rfl⟩
  obtain ⟨w4, hw4⟩ : ∃ w4, w4 = w3.alloc (.cells #[.int .i64 17, .int .i64 0, .int .i64 0, .int .i64 0, .int .u32 0, .int .i64 21, .int .i64 0, .int .i64 0, .int .i64 0, .int .u32 0] 41) := ⟨_, rfl⟩
  have s4 : Same w3 w4 := hw4 ▸ (Same.refl w3).alloc _
  have bc : Blk w4 cc 41 #[.int .i64 17, .int .i64 0, .int .i64 0, .int .i64 0, .int .u32 0, .int .i64 21, .int .i64 0, .int .i64 0, .int .i64 0, .int .u32 0] := by rw [hw4, hcc]; exact Blk.new w3 _ _
  obtain ⟨a, ha⟩ : ∃ a, a = w4.heap.size := ⟨_, rfl⟩
  obtain ⟨w5, hw5⟩ : ∃ w5, w5 = w4.alloc (.cells #[.int .i64 0, .int .i64 0, .int .i64 0, .int .i64 0, .int .i64 0, .int .i64 0, .slice (some ⟨cc, 0, none⟩) 2 2] 38) := ⟨_, rfl⟩
  have s5 : Same w4 w5 := hw5 ▸ (Same.refl w4).alloc _
  have ba : Blk w5 a 38 #[.int .i64 0, .int .i64 0, .int .i64 0, .int .i64 0, .int .i64 0, .int .i64 0, .slice (some ⟨cc, 0, none⟩) 2 2] := by rw [hw5, ha]; exact Blk.new w4 _ _
  obtain ⟨b, hb⟩ : ∃ b, b = w5.heap.size := ⟨_, rfl⟩
  obtain ⟨w6, hw6⟩ : ∃ w6, w6 = w5.alloc (.cells #[.int .i64 3, .int .i64 2, .int .i64 0, .int .i64 3, .int .u32 0, .slice (some ⟨u, 0, none⟩) 2 2, .int .i64 0, .slice (some ⟨v, 0, none⟩) 1 1] 46) := ⟨_, rfl⟩
  have s6 : Same w5 w6 := hw6 ▸ (Same.refl w5).alloc _
  have bb : Blk w6 b 46 #[.int .i64 3, .int .i64 2, .int .i64 0, .int .i64 3, .int .u32 0, .slice (some ⟨u, 0, none⟩) 2 2, .int .i64 0, .slice (some ⟨v, 0, none⟩) 1 1] := by rw [hw6, hb]; exact Blk.new w5 _ _
  obtain ⟨q, hq⟩ : ∃ q, q = w6.heap.size := ⟨_, rfl⟩
  obtain ⟨w7, hw7⟩ : ∃ w7, w7 = w6.alloc (.cells #[.slice (some ⟨a, 0, none⟩) 1 1, .slice (some ⟨b, 0, none⟩) 1 1] 25) := ⟨_, rfl⟩
  have s7 : Same w6 w7 := hw7 ▸ (Same.refl w6).alloc _
  have bq : Blk w7 q 25 #[.slice (some ⟨a, 0, none⟩) 1 1, .slice (some ⟨b, 0, none⟩) 1 1] := by rw [hw7, hq]; exact Blk.new w6 _ _
  have e1 : w3.heap.size + 1 = a := by rw [ha, hw4]; show _ = (w3.heap.push _).size; rw [Array.size_push]
  have e2 : w3.heap.size + 1 + 1 = b := by rw [hb, hw5, e1, ha]; show _ = (w4.heap.push _).size; rw [Array.size_push]
  have e3 : w3.heap.size + 1 + 1 + 1 = q := by rw [hq, hw6, e2, hb]; show _ = (w5.heap.push _).size; rw [Array.size_push]
  have HSY := Lib.hid (sys36 (ba.same (s6.trans s7)) (bc.same (s5.trans (s6.trans s7))) (bb.same s7) (BU.out.same (s4.trans (s5.trans (s6.trans s7)))) (BV.out.same (s4.trans (s5.trans (s6.trans s7)))))
  have HQ := Lib.hid bq
  have S7 := Lib.hid (S3.out.trans (s4.trans (s5.trans (s6.trans s7))))
  have E4 := Lib.hid hw4
  have E5 := Lib.hid hw5
  have E6 := Lib.hid hw6
  have E7 := Lib.hid hw7
  have C := Lib.hid hcc
  have AA := Lib.hid e1
  have BB := Lib.hid e2
  have QQ := Lib.hid e3
  clear BOZ hw4 hw5 hw6 hw7 hcc ha hb hq e1 e2 e3 s4 s5 s6 s7 bc ba bb bq BO BU BV S3
  go_upto_region 3 with fail
  rw [QQ.out, BB.out, AA.out, ← C.out, ← E4.out, ← E5.out, ← E6.out, ← E7.out]
  clear E4 E5 E6 E7 C AA BB QQ z0 z1 z2 z3 z4 z5 z6 z7
  have hf36 : ∀ p ∈ s36.ts, p.code.length ≤ 200 := fun p hp => by
    simp only [s36, List.mem_cons, List.not_mem_nil, or_false] at hp
    subst hp
    decide
  obtain ⟨c0, c1⟩ := (⟨HQ.out.cell 0, HQ.out.cell 1⟩ : _ ∧ _)
  simp only [List.getElem?_toArray, List.getElem?_cons_zero, List.getElem?_cons_succ] at c0 c1
  have CL := Lib.hid (clean36_any (some ⟨a, 0, none⟩) (some ⟨b, 0, none⟩) 1 1 1 1 s36 0 w7 HSY.out hf36 (HT.out.same S7.out))
  rw [s36_a.1, s36_a.2] at CL
  have WH := Lib.hid (fun W (h : Same w7 W) => whole36_any (some ⟨a, 0, none⟩) (some ⟨b, 0, none⟩) 1 1 1 1 s36 0 W (HSY.out.same h) hf36 (HT.out.same (S7.out.trans h)))
  rw [s36_b.1, s36_b.2] at WH
  have RD := Lib.hid (fun W (h : Same w7 W) => reads_any (some ⟨a, 0, none⟩) (some ⟨b, 0, none⟩) 1 1 1 1 s36 0 0 W (HSY.out.same h) ⟨by unfold maxLen; omega, by unfold maxLen; omega⟩ hf36 (HT.out.same (S7.out.trans h)))
  rw [s36_c] at RD
  clear hf36 HSY
  go_wp2_with fail
  refine CL.out.mono ?_
  rintro e w8 ⟨rfl, s8⟩
  have HS8 := Lib.hid s8
  have d0 := s8.cell c0
  have d1 := s8.cell c1
  clear s8 CL
  go_wp2_with fail
  refine (WH.out w8 HS8.out).mono ?_
  rintro e w9 ⟨rfl, s9⟩
  have HS9 := Lib.hid (HS8.out.trans s9)
  have f0 := s9.cell d0
  have f1 := s9.cell d1
  clear s9 WH d0 d1 c0 c1
  go_wp2_with fail
  refine (RD.out w9 HS9.out).mono ?_
  rintro e w10 ⟨rfl, s10⟩
  go_wp2_with fail
  go_ret
  exact ⟨rfl, S7.out.trans (HS9.out.trans s10)⟩

set_option maxRecDepth 100000 in
set_option maxHeartbeats 8000000 in
theorem demand_walk (A B : Option Addr) (n c m d : Nat) (s : PS) (i k : Int) (w : World) (hs : SysAt w A n B m s) (hnm : n ≤ maxLen ∧ m ≤ maxLen) (hT : Is.Tabs w) :
    Calls Tryz.prog 3 #[.agg #[.slice A n c, .slice B m d], .int .i64 i, .int .i64 k] w fun e w' => e = .returned (.bool true) ∧ Same w w' := by
  obtain ⟨w0, hw0⟩ : ∃ w0, w0 = w.alloc (.cells #[.slice A n c, .slice B m d] 25) := ⟨_, rfl⟩
  have s0 : Same w w0 := hw0 ▸ (Same.refl w).alloc _
  have b0 : Blk w0 w.heap.size 25 #[.slice A n c, .slice B m d] := hw0 ▸ Blk.new w _ _
  have HE0 := Lib.hid hw0
  have c0 := b0.cell 0
  have c1 := b0.cell 1
  simp only [List.getElem?_toArray, List.getElem?_cons_zero, List.getElem?_cons_succ] at c0 c1
  have S0 := Lib.hid s0
  have B0 := Lib.hid b0
  have HS := Lib.hid (hs.same s0)
  have HT := Lib.hid (hT.same s0)
  have FE := Lib.hid (Sy.few31 A B n c m d s 60 w0 (hs.same s0) hnm)
  clear hw0 s0 b0 hs hT
  go_enter Tryz.func3, Tryz.ntmps3
  go_wp2_with fail
  rw [← HE0.out]
  clear HE0
  refine FE.out.mono ?_
  rintro e w1 ⟨⟨bf, rfl, hbf⟩, s1⟩
  have HS1 := Lib.hid s1
  have HB1 := Lib.hid (B0.out.same s1)
  generalize w.heap.size = q0 at *
  clear s1 FE B0 c0 c1
  cases bf with
  | false =>
    have AW := Lib.hid (awake36 w1 (HT.out.same HS1.out))
    clear hbf
    go_wp2_with fail
    refine AW.out.mono ?_
    rintro e w2 ⟨rfl, s2⟩
    go_wp2_with fail
    go_ret
    exact ⟨rfl, S0.out.trans (HS1.out.trans s2)⟩
  | true =>
    have hf : ∀ p ∈ s.ts, p.code.length ≤ 200 := (hbf rfl).1.2
    have WR := Lib.hid (fun W (h : Same w1 W) => writes_any A B n c m d s i k W (HS.out.same (HS1.out.trans h)) hnm hf (HT.out.same (HS1.out.trans h)))
    have RD := Lib.hid (fun W (h : Same w1 W) => reads_any A B n c m d s i k W (HS.out.same (HS1.out.trans h)) hnm hf (HT.out.same (HS1.out.trans h)))
    have RW := Lib.hid (fun W (h : Same w1 W) => rcalls_true A B n c m d s i k W (HS.out.same (HS1.out.trans h)) hnm hf)
    have RR := Lib.hid (fun W (h : Same w1 W) => rcalls_false A B n c m d s i k W (HS.out.same (HS1.out.trans h)) hnm hf)
    have AW := Lib.hid (fun W (h : Same w1 W) => awake36 W (HT.out.same (HS1.out.trans h)))
    have k1 : kx true = 18 := rfl
    have k2 : ky true = 19 := rfl
    have k3 : kx false = 17 := rfl
    have k4 : ky false = 20 := rfl
    rw [k1, k2] at RW
    rw [k3, k4] at RR
    clear hbf hf k1 k2 k3 k4
    generalize demI s i k 18 19 = x1 at *
    generalize demI s i k 17 20 = x2 at *
    have ex1 : (x1 == x1) = true := by simp
    have ex2 : (x2 == x2) = true := by simp
    go_wp2_with fail
    refine wp_region_held_drew (S := fun w' => Same w1 w') (by kernel_rfl) ?_ (fun hHeld => ?_)
    · exact (Same.refl w1).drew
    refine Ro.take_on (i := 0) (v := ?_) rfl (by kernel_rfl) (by kernel_rfl) (by kernel_rfl) (fun _ _ _ h => h) (by rfl) (by assumption) ?_ ?_
    rotate_left
    · intro wS hSw; (try dsimp only at hSw); obtain ⟨v0, v1⟩ := (⟨(HB1.out.same hSw).cell 0, (HB1.out.same hSw).cell 1⟩ : _ ∧ _); simp only [List.getElem?_toArray, List.getElem?_cons_zero, List.getElem?_cons_succ] at v0 v1; go_simp; try with_reducible rfl
    try simp only [Act.put, List.setIfInBounds_toArray, List.set_cons_zero, List.set_cons_succ]
    refine Ro.take_on (i := 1) (v := ?_) rfl (by kernel_rfl) (by kernel_rfl) (by kernel_rfl) (fun _ _ _ h => h) (by rfl) (by assumption) ?_ ?_
    rotate_left
    · intro wS hSw; (try dsimp only at hSw); go_simp; try with_reducible rfl
    try simp only [Act.put, List.setIfInBounds_toArray, List.set_cons_zero, List.set_cons_succ]
    refine Ro.take_on (i := 2) (v := ?_) rfl (by kernel_rfl) (by kernel_rfl) (by kernel_rfl) (fun _ _ _ h => h) (by rfl) (by assumption) ?_ ?_
    rotate_left
    · intro wS hSw; (try dsimp only at hSw); go_simp; try with_reducible rfl
    try simp only [Act.put, List.setIfInBounds_toArray, List.set_cons_zero, List.set_cons_succ]
    refine Ro.take_on (i := 4) (v := ?_) rfl (by kernel_rfl) (by kernel_rfl) (by kernel_rfl) (fun _ _ _ h => h) (by rfl) (by assumption) ?_ ?_
    rotate_left
    · intro wS hSw; (try dsimp only at hSw); obtain ⟨v0, v1⟩ := (⟨(HB1.out.same hSw).cell 0, (HB1.out.same hSw).cell 1⟩ : _ ∧ _); simp only [List.getElem?_toArray, List.getElem?_cons_zero, List.getElem?_cons_succ] at v0 v1; go_simp; try with_reducible rfl
    try simp only [Act.put, List.setIfInBounds_toArray, List.set_cons_zero, List.set_cons_succ]
    refine Ro.take_on (i := 5) (v := ?_) rfl (by kernel_rfl) (by kernel_rfl) (by kernel_rfl) (fun _ _ _ h => h) (by rfl) (by assumption) ?_ ?_
    rotate_left
    · intro wS hSw; (try dsimp only at hSw); go_simp; try with_reducible rfl
    try simp only [Act.put, List.setIfInBounds_toArray, List.set_cons_zero, List.set_cons_succ]
    refine Ro.take_on (i := 6) (v := ?_) rfl (by kernel_rfl) (by kernel_rfl) (by kernel_rfl) (fun _ _ _ h => h) (by rfl) (by assumption) ?_ ?_
    rotate_left
    · intro wS hSw; (try dsimp only at hSw); go_simp; try with_reducible rfl
    try simp only [Act.put, List.setIfInBounds_toArray, List.set_cons_zero, List.set_cons_succ]
    refine Ro.one_on (i := 3) rfl (by kernel_rfl) (by rfl) (fun K hK => ?_)
    go_simp
    go_at_call 7
    refine (WR.out _ hHeld).mono ?_
    rintro e wN ⟨rfl, sN⟩
    refine hK.out _ _ ?_ (fun hNew => ?_)
    · exact hHeld.trans sN
    clear hK K hHeld; have hHeld := hNew; clear hNew
    try simp only [Act.put, List.setIfInBounds_toArray, List.set_cons_zero, List.set_cons_succ]
    refine Ro.one_on (i := 7) rfl (by kernel_rfl) (by rfl) (fun K hK => ?_)
    go_simp
    go_at_call 8
    refine (RW.out _ hHeld).mono ?_
    rintro e wN ⟨rfl, sN⟩
    refine hK.out _ _ ?_ (fun hNew => ?_)
    · exact hHeld.trans sN
    clear hK K hHeld; have hHeld := hNew; clear hNew
    try simp only [Act.put, List.setIfInBounds_toArray, List.set_cons_zero, List.set_cons_succ]
    refine Ro.take_on (i := 8) (v := ?_) rfl (by kernel_rfl) (by kernel_rfl) (by kernel_rfl) (fun _ _ _ h => h) (by rfl) (by assumption) ?_ ?_
    rotate_left
    · intro wS hSw; (try dsimp only at hSw); go_simp; try with_reducible rfl
    try simp only [Act.put, List.setIfInBounds_toArray, List.set_cons_zero, List.set_cons_succ]
    refine Ro.take_on (i := 9) (v := ?_) rfl (by kernel_rfl) (by kernel_rfl) (by kernel_rfl) (fun _ _ _ h => h) (by rfl) (by assumption) ?_ ?_
    rotate_left
    · intro wS hSw; (try dsimp only at hSw); go_simp; try with_reducible rfl
    try simp only [Act.put, List.setIfInBounds_toArray, List.set_cons_zero, List.set_cons_succ]
    refine Ro.take_on (i := 10) (v := ?_) rfl (by kernel_rfl) (by kernel_rfl) (by kernel_rfl) (fun _ _ _ h => h) (by rfl) (by assumption) ?_ ?_
    rotate_left
    · intro wS hSw; (try dsimp only at hSw); obtain ⟨v0, v1⟩ := (⟨(HB1.out.same hSw).cell 0, (HB1.out.same hSw).cell 1⟩ : _ ∧ _); simp only [List.getElem?_toArray, List.getElem?_cons_zero, List.getElem?_cons_succ] at v0 v1; go_simp; try with_reducible rfl
    try simp only [Act.put, List.setIfInBounds_toArray, List.set_cons_zero, List.set_cons_succ]
    refine Ro.take_on (i := 11) (v := ?_) rfl (by kernel_rfl) (by kernel_rfl) (by kernel_rfl) (fun _ _ _ h => h) (by rfl) (by assumption) ?_ ?_
    rotate_left
    · intro wS hSw; (try dsimp only at hSw); go_simp; try with_reducible rfl
    try simp only [Act.put, List.setIfInBounds_toArray, List.set_cons_zero, List.set_cons_succ]
    refine Ro.take_on (i := 12) (v := ?_) rfl (by kernel_rfl) (by kernel_rfl) (by kernel_rfl) (fun _ _ _ h => h) (by rfl) (by assumption) ?_ ?_
    rotate_left
    · intro wS hSw; (try dsimp only at hSw); go_simp; try with_reducible rfl
    try simp only [Act.put, List.setIfInBounds_toArray, List.set_cons_zero, List.set_cons_succ]
    refine Ro.take_on (i := 14) (v := ?_) rfl (by kernel_rfl) (by kernel_rfl) (by kernel_rfl) (fun _ _ _ h => h) (by rfl) (by assumption) ?_ ?_
    rotate_left
    · intro wS hSw; (try dsimp only at hSw); obtain ⟨v0, v1⟩ := (⟨(HB1.out.same hSw).cell 0, (HB1.out.same hSw).cell 1⟩ : _ ∧ _); simp only [List.getElem?_toArray, List.getElem?_cons_zero, List.getElem?_cons_succ] at v0 v1; go_simp; try with_reducible rfl
    try simp only [Act.put, List.setIfInBounds_toArray, List.set_cons_zero, List.set_cons_succ]
    refine Ro.take_on (i := 15) (v := ?_) rfl (by kernel_rfl) (by kernel_rfl) (by kernel_rfl) (fun _ _ _ h => h) (by rfl) (by assumption) ?_ ?_
    rotate_left
    · intro wS hSw; (try dsimp only at hSw); go_simp; try with_reducible rfl
    try simp only [Act.put, List.setIfInBounds_toArray, List.set_cons_zero, List.set_cons_succ]
    refine Ro.take_on (i := 16) (v := ?_) rfl (by kernel_rfl) (by kernel_rfl) (by kernel_rfl) (fun _ _ _ h => h) (by rfl) (by assumption) ?_ ?_
    rotate_left
    · intro wS hSw; (try dsimp only at hSw); go_simp; try with_reducible rfl
    try simp only [Act.put, List.setIfInBounds_toArray, List.set_cons_zero, List.set_cons_succ]
    refine Ro.one_on (i := 13) rfl (by kernel_rfl) (by rfl) (fun K hK => ?_)
    go_simp
    go_at_call 9
    refine (RD.out _ hHeld).mono ?_
    rintro e wN ⟨rfl, sN⟩
    refine hK.out _ _ ?_ (fun hNew => ?_)
    · exact hHeld.trans sN
    clear hK K hHeld; have hHeld := hNew; clear hNew
    try simp only [Act.put, List.setIfInBounds_toArray, List.set_cons_zero, List.set_cons_succ]
    refine Ro.one_on (i := 17) rfl (by kernel_rfl) (by rfl) (fun K hK => ?_)
    go_simp
    go_at_call 8
    refine (RR.out _ hHeld).mono ?_
    rintro e wN ⟨rfl, sN⟩
    refine hK.out _ _ ?_ (fun hNew => ?_)
    · exact hHeld.trans sN
    clear hK K hHeld; have hHeld := hNew; clear hNew
    try simp only [Act.put, List.setIfInBounds_toArray, List.set_cons_zero, List.set_cons_succ]
    refine Ro.take_on (i := 18) (v := ?_) rfl (by kernel_rfl) (by kernel_rfl) (by kernel_rfl) (fun _ _ _ h => h) (by rfl) (by assumption) ?_ ?_
    rotate_left
    · intro wS hSw; (try dsimp only at hSw); go_simp; try with_reducible rfl
    try simp only [Act.put, List.setIfInBounds_toArray, List.set_cons_zero, List.set_cons_succ]
    refine Ro.take_on (i := 19) (v := ?_) rfl (by kernel_rfl) (by kernel_rfl) (by kernel_rfl) (fun _ _ _ h => h) (by rfl) (by assumption) ?_ ?_
    rotate_left
    · intro wS hSw; (try dsimp only at hSw); go_simp; try with_reducible rfl
    try simp only [Act.put, List.setIfInBounds_toArray, List.set_cons_zero, List.set_cons_succ]
    refine Ro.take_on (i := 20) (v := ?_) rfl (by kernel_rfl) (by kernel_rfl) (by kernel_rfl) (fun _ _ _ h => h) (by rfl) (by assumption) ?_ ?_
    rotate_left
    · intro wS hSw; (try dsimp only at hSw); go_simp; try with_reducible rfl
    try simp only [Act.put, List.setIfInBounds_toArray, List.set_cons_zero, List.set_cons_succ]
    refine Ro.one_on (i := 21) rfl (by kernel_rfl) (by rfl) (fun K hK => ?_)
    go_simp
    go_at_call 6
    refine (AW.out _ hHeld).mono ?_
    rintro e wN ⟨rfl, sN⟩
    refine hK.out _ _ ?_ (fun hNew => ?_)
    · exact hHeld.trans sN
    clear hK K hHeld; have hHeld := hNew; clear hNew
    try simp only [Act.put, List.setIfInBounds_toArray, List.set_cons_zero, List.set_cons_succ]
    refine Ro.take_on (i := 22) (v := ?_) rfl (by kernel_rfl) (by kernel_rfl) (by kernel_rfl) (fun _ _ _ h => h) (by rfl) (by assumption) ?_ ?_
    rotate_left
    · intro wS hSw; (try dsimp only at hSw); go_simp; try with_reducible rfl
    try simp only [Act.put, List.setIfInBounds_toArray, List.set_cons_zero, List.set_cons_succ]
    refine Ro.take_on (i := 23) (v := ?_) rfl (by kernel_rfl) (by kernel_rfl) (by kernel_rfl) (fun _ _ _ h => h) (by rfl) (by assumption) ?_ ?_
    rotate_left
    · intro wS hSw; (try dsimp only at hSw); go_simp; try with_reducible rfl
    try simp only [Act.put, List.setIfInBounds_toArray, List.set_cons_zero, List.set_cons_succ]
    refine wpAnyH_done (by kernel_rfl) ?_ _
    go_wp2_with fail
    go_ret
    exact ⟨rfl, S0.out.trans (HS1.out.trans hHeld)⟩
end Go.Proofs.YtiipdeionmndcaaGreatDoor.Dm
end
