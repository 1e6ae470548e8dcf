/-

  Layer 13: a step (work.step).
-/
import Derived.Test.YtgimelpjklnjmabDoorFrmStep
set_option linter.unusedVariables false
set_option linter.unusedSimpArgs false
namespace Go.Proofs.YtgimelpjklnjmabDoor.Fr
open Go.ChangeShapes Go.WideShapes Go.ChangeAt Go.RowKit Ws
open Go.Proofs.YtgimelpjklnjmabDoor.Fp (Ins at_ Fine at_some)
open Go.Proofs.YtgimelpjklnjmabDoor.Fw (Prg okB ckE check_any okB_fine rightI)
open Go.Proofs.YtgimelpjklnjmabDoor.Is (Tabs)
section
variable {w0 w : World} {R : Nat → Prop} {g gm : Nat} {s : SS} {T : Option Addr} {nT cT : Nat} {A : Option Addr} {m cA : Nat} {oa ol : Int}

theorem plain_step (oa ol : Int) (x : Ins) (s : SS) (h : 0 ≤ x.op ∧ x.op ≤ 13) : inst oa ol x s = ⟨⟨s.f.pc + 1, (plainS oa ol x s).f.rg, (plainS oa ol x s).f.tn⟩, (plainS oa ol x s).ws, (plainS oa ol x s).st⟩ := by
  unfold inst plainS pcI tnI
  rw [if_neg (by omega), if_neg (by omega), if_neg (by omega), if_neg (by omega)]
theorem lead_step (oa ol : Int) (x : Ins) (s : SS) (h : x.op = 14 ∨ x.op = 15 ∨ x.op = 16) : inst oa ol x s = leadS x s := by
  have hm : ¬ isMem x := by unfold isMem; omega
  unfold inst leadS rgI wsI
  rw [if_neg hm, if_neg (by omega), if_neg (by omega), if_neg (by omega), if_neg (by omega), if_neg (by omega), if_neg (by omega), if_neg (by omega)]
/-- what is asked of the frame and of the memory -/
structure Asked (p : List Ins) (s : SS) (m nT : Nat) (oa ol : Int) : Prop where
  right : rightF (okB p) p s.f = true
  wide : Wide s
  ho : 0 ≤ oa ∧ oa ≤ 4096
  hl : 0 < ol ∧ ol ≤ 4096
  hin : oa + ol ≤ s.ws.length
  hst : 0 ≤ s.st ∧ s.st ≤ 4611686018427387904
  len : p.length = m
  small : nT ≤ 5000
set_option maxRecDepth 100000 in
set_option maxHeartbeats 4000000 in
theorem step_any {p : List Ins} (h : W13 w0 w R g gm s T nT cT A m cA oa ol) (hR : ∀ i, R i → i < w.heap.size) (hp : Prg w0 A p) (ha : Asked p s m nT oa ol) :
    Calls Tryd.prog 34 #[.pointer (some ⟨g, 0, none⟩)] w (Post13 w0 w R g gm (stepW p oa ol s) T nT cT A m cA oa ol (.int .i64 (kindW p s))) := by
  obtain ⟨hok, ⟨p0, p1, p2⟩, htl⟩ := right_iff.1 ha.right
  have hfine := okB_fine hok
  obtain ⟨k, hkk⟩ : ∃ k : Nat, s.f.pc = (k : Int) := ⟨s.f.pc.toNat, by omega⟩
  have hkp : k < p.length := by omega
  have hkm : k < m := by have := ha.len; omega
  have htk : s.f.pc.toNat = k := by omega
  have hkT : k < nT := by have := h.len; omega
  obtain ⟨hxok, b, o, hA, y0, y1, y2, y3, y4⟩ := (hp.same h.base).at_ hkp
  have hcur : curI p s.f = at_ p k := by unfold curI; rw [htk]
  have hrx : rightI (at_ p k) = true := hfine.right k hkp
  have htv := htl k (by have := h.len; omega)
  have htn : tnv s.f = s.f.tn.getD k 0 := by unfold tnv; rw [htk]
  rw [← htn] at htv
  have hmost : mostI (at_ p k) ≤ 4294967295 := by
    unfold mostI
    split
    · next h16 => exact (regs_ok hrx).2.2.2 h16
    · omega
  have htb : 0 ≤ tnv s.f ∧ tnv s.f ≤ 4611686018427387904 := by omega
  have hro := regs_ok hrx
  have HSW := Lib.hid (show stepW p oa ol s = if kindI (at_ p k) = 0 then inst oa ol (at_ p k) s else s by unfold stepW; rw [hcur])
  have HKW := Lib.hid (show kindW p s = kindI (at_ p k) by unfold kindW; rw [hcur])
  obtain ⟨x, hx⟩ : ∃ x, x = at_ p k := ⟨_, rfl⟩
  rw [← hx] at y0 y1 y2 y3 y4 hxok hro HSW HKW
  obtain ⟨sx, hsx⟩ : ∃ sx, sx = stepW p oa ol s := ⟨_, rfl⟩
  obtain ⟨kx, hkx⟩ : ∃ kx, kx = kindW p s := ⟨_, rfl⟩
  rw [← hsx, ← hkx]
  have HSX := Lib.hid (hsx.trans HSW.out)
  have HKX := Lib.hid (hkx.trans HKW.out)
  clear hsx hkx HSW HKW
  have H := Lib.hid h
  have HA := Lib.hid ha
  have HRO := Lib.hid hro
  have HOK := Lib.hid hxok
  have HTB := Lib.hid htb
  have HPC := Lib.hid (show 0 ≤ s.f.pc ∧ s.f.pc < nT by omega)
  have HPK := Lib.hid hkk
  subst hA
  obtain ⟨z0, z9, z10, z11, z12, z13⟩ := h.cs
  rw [hkk] at z0
  have i0 : (0 : Int) ≤ k := by omega
  have i1 : (k : Int) < m := by omega
  have HR := Lib.hid (fun (w' : World) (hs : Same w w') i (hi : R i) => Nat.lt_of_lt_of_le (hR i hi) hs.size)
  obtain ⟨w2, hw2⟩ : ∃ w2, w2 = (w.alloc (.cells #[.int .i64 x.op, .int .i64 x.a, .int .i64 x.b, .int .i64 x.c, .int .u32 x.n] 40)).drew := ⟨_, rfl⟩
  have E2 := Lib.hid hw2
  have hs2 : Same w w2 := hw2 ▸ ((Same.refl w).alloc _).drew
  have HS2 := Lib.hid hs2
  have HQ := Lib.hid (show Blk w2 w.heap.size 40 #[.int .i64 x.op, .int .i64 x.a, .int .i64 x.b, .int .i64 x.c, .int .u32 x.n] from hw2 ▸ Blk.new w _ _)
  have H2 := Lib.hid (h.of_same hs2)
  have CA := Lib.hid (fun w' => calls_any x w')
  clear hok p0 p1 p2 htl hfine hkp htk hcur hrx htv htn hmost htb hro hw2 hs2 hx hp ha h hkk hkT hxok hR
  go_enter Tryd.func34, Tryd.ntmps34
  go_wp2_with fail
  refine wp_region_held_drew (S := (fun w' => w'.cell? ⟨g, 0, none⟩ = some (.int .i64 (k : Int)) ∧ w'.cell? ⟨g, 10, none⟩ = some (.slice (some ⟨b, o, none⟩) m cA) ∧ w'.cell? ⟨b, o + k * 5, none⟩ = some (.int .i64 x.op) ∧ w'.cell? ⟨b, o + k * 5 + 1, none⟩ = some (.int .i64 x.a) ∧ w'.cell? ⟨b, o + k * 5 + 2, none⟩ = some (.int .i64 x.b) ∧ w'.cell? ⟨b, o + k * 5 + 3, none⟩ = some (.int .i64 x.c) ∧ w'.cell? ⟨b, o + k * 5 + 4, none⟩ = some (.int .u32 x.n))) (by kernel_rfl) ?_ (fun hHeld => ?_)
  · exact ⟨((Same.refl w).drew).cell z0, ((Same.refl w).drew).cell z10, ((Same.refl w).drew).cell y0, ((Same.refl w).drew).cell y1, ((Same.refl w).drew).cell y2, ((Same.refl w).drew).cell y3, ((Same.refl w).drew).cell y4⟩
  refine Ro.take_on (i := 0) (v := ?_) rfl (by kernel_rfl) (by kernel_rfl) (by kernel_rfl) (fun _ _ _ h => h) (by rfl) (by assumption) ?_ ?_
  rotate_left
  · intro wS hSw; (try dsimp only at hSw); go_simp; try with_reducible rfl
  try simp only [Act.put, List.setIfInBounds_toArray, List.set_cons_zero, List.set_cons_succ]
  refine Ro.take_on (i := 1) (v := ?_) rfl (by kernel_rfl) (by kernel_rfl) (by kernel_rfl) (fun _ _ _ h => h) (by rfl) (by assumption) ?_ ?_
  rotate_left
  · intro wS hSw; (try dsimp only at hSw); go_simp; try with_reducible rfl
  try simp only [Act.put, List.setIfInBounds_toArray, List.set_cons_zero, List.set_cons_succ]
  refine Ro.take_on (i := 2) (v := ?_) rfl (by kernel_rfl) (by kernel_rfl) (by kernel_rfl) (fun _ _ _ h => h) (by rfl) (by assumption) ?_ ?_
  rotate_left
  · intro wS hSw; (try dsimp only at hSw); go_simp; try with_reducible rfl
  try simp only [Act.put, List.setIfInBounds_toArray, List.set_cons_zero, List.set_cons_succ]
  refine Ro.take_on (i := 3) (v := ?_) rfl (by kernel_rfl) (by kernel_rfl) (by kernel_rfl) (fun _ _ _ h => h) (by rfl) (by assumption) ?_ ?_
  rotate_left
  · intro wS hSw; (try dsimp only at hSw); go_simp; try with_reducible rfl
  try simp only [Act.put, List.setIfInBounds_toArray, List.set_cons_zero, List.set_cons_succ]
  refine Ro.take_on (i := 4) (v := ?_) rfl (by kernel_rfl) (by kernel_rfl) (by kernel_rfl) (fun _ _ _ h => h) (by rfl) (by assumption) ?_ ?_
  rotate_left
  · intro wS hSw; (try dsimp only at hSw); go_simp; try with_reducible rfl
  try simp only [Act.put, List.setIfInBounds_toArray, List.set_cons_zero, List.set_cons_succ]
  refine Ro.take_on (i := 5) (v := ?_) rfl (by kernel_rfl) (by kernel_rfl) (by kernel_rfl) (fun _ _ _ h => h) (by rfl) (by assumption) ?_ ?_
  rotate_left
  · intro wS hSw; (try dsimp only at hSw); go_simp; try with_reducible rfl
  try simp only [Act.put, List.setIfInBounds_toArray, List.set_cons_zero, List.set_cons_succ]
  refine Ro.take_on (i := 6) (v := ?_) rfl (by kernel_rfl) (by kernel_rfl) (by kernel_rfl) (fun _ _ _ h => h) (by rfl) (by assumption) ?_ ?_
  rotate_left
  · intro wS hSw; (try dsimp only at hSw); go_simp; try with_reducible rfl
  try simp only [Act.put, List.setIfInBounds_toArray, List.set_cons_zero, List.set_cons_succ]
  refine Ro.take_on (i := 7) (v := ?_) rfl (by kernel_rfl) (by kernel_rfl) (by kernel_rfl) (fun _ _ _ h => h) (by rfl) (by assumption) ?_ ?_
  rotate_left
  · intro wS hSw; (try dsimp only at hSw); go_simp; try with_reducible rfl
  try simp only [Act.put, List.setIfInBounds_toArray, List.set_cons_zero, List.set_cons_succ]
  refine Ro.take_on (i := 8) (v := ?_) rfl (by kernel_rfl) (by kernel_rfl) (by kernel_rfl) (fun _ _ _ h => h) (by rfl) (by assumption) ?_ ?_
  rotate_left
  · intro wS hSw; (try dsimp only at hSw); go_simp; try with_reducible rfl
  try simp only [Act.put, List.setIfInBounds_toArray, List.set_cons_zero, List.set_cons_succ]
  refine Ro.take_on (i := 9) (v := ?_) rfl (by kernel_rfl) (by kernel_rfl) (by kernel_rfl) (fun _ _ _ h => h) (by rfl) (by assumption) ?_ ?_
  rotate_left
  · intro wS hSw; (try dsimp only at hSw); go_simp; try with_reducible rfl
  try simp only [Act.put, List.setIfInBounds_toArray, List.set_cons_zero, List.set_cons_succ]
  refine Ro.take_on (i := 10) (v := ?_) rfl (by kernel_rfl) (by kernel_rfl) (by kernel_rfl) (fun _ _ _ h => h) (by rfl) (by assumption) ?_ ?_
  rotate_left
  · intro wS hSw; (try dsimp only at hSw); go_simp; try with_reducible rfl
  try simp only [Act.put, List.setIfInBounds_toArray, List.set_cons_zero, List.set_cons_succ]
  refine Ro.one_on (i := 11) rfl (by kernel_rfl) (by rfl) (fun K hK => ?_)
  go_simp
  refine hK.out _ _ ?_ (fun hNew => ?_)
  · exact ⟨(((Same.refl w).alloc _).drew).cell z0, (((Same.refl w).alloc _).drew).cell z10, (((Same.refl w).alloc _).drew).cell y0, (((Same.refl w).alloc _).drew).cell y1, (((Same.refl w).alloc _).drew).cell y2, (((Same.refl w).alloc _).drew).cell y3, (((Same.refl w).alloc _).drew).cell y4⟩
  clear hK K hHeld; have hHeld := hNew; clear hNew
  try simp only [Act.put, List.setIfInBounds_toArray, List.set_cons_zero, List.set_cons_succ]
  refine Ro.one_on (i := 12) rfl (by kernel_rfl) (by rfl) (fun K hK => ?_)
  go_wp2_with fail
  rw [← E2.out]
  refine hK.out _ _ ?_ (fun hNew => ?_)
  · exact ⟨(HS2.out).cell z0, (HS2.out).cell z10, (HS2.out).cell y0, (HS2.out).cell y1, (HS2.out).cell y2, (HS2.out).cell y3, (HS2.out).cell y4⟩
  clear hK K hHeld; have hHeld := hNew; clear hNew
  try simp only [Act.put, List.setIfInBounds_toArray, List.set_cons_zero, List.set_cons_succ]
  refine wpAnyH_done (by kernel_rfl) ?_ _
  clear hHeld
  clear E2
  obtain ⟨u0, u1, u2, u3, u4⟩ := (⟨HQ.out.cell 0, HQ.out.cell 1, HQ.out.cell 2, HQ.out.cell 3, HQ.out.cell 4⟩ : _ ∧ _ ∧ _ ∧ _ ∧ _)
  simp only [List.getElem?_toArray, List.getElem?_cons_zero, List.getElem?_cons_succ] at u0 u1 u2 u3 u4
  go_wp2_with fail
  clear u0 u1 u2 u3 u4
  refine (CA.out _).mono ?_
  rintro e w3 ⟨rfl, s3⟩
  have H3 := Lib.hid (H2.out.of_same s3)
  have C3 := Lib.hid ((HS2.out.trans s3).chg (S13 R g T))
  have HR3 := Lib.hid (HR.out _ (HS2.out.trans s3))
  obtain ⟨x0, x1, x2, x3, x4⟩ := (⟨(HQ.out.same s3).cell 0, (HQ.out.same s3).cell 1, (HQ.out.same s3).cell 2, (HQ.out.same s3).cell 3, (HQ.out.same s3).cell 4⟩ : _ ∧ _ ∧ _ ∧ _ ∧ _)
  simp only [List.getElem?_toArray, List.getElem?_cons_zero, List.getElem?_cons_succ] at x0 x1 x2 x3 x4
  clear s3 y0 y1 y2 y3 y4 z0 z9 z10 z11 z12 z13 i0 i1 CA H2 HS2 HQ
  generalize w.heap.size = q at *
  by_cases hc : 17 ≤ x.op ∧ x.op ≤ 20
  · have hcb : callB x = true := decide_eq_true hc
    have hki : kindI x = 1 := if_pos hc
    have HE := Lib.hid (show sx = s ∧ kx = 1 from ⟨by rw [HSX.out, hki, if_neg (by decide)], by rw [HKX.out, hki]⟩)
    rw [hcb]
    clear hc hcb hki HSX HKX
    go_wp2_with fail
    go_ret
    exact ⟨ret_int HE.out.2.symm, by rw [HE.out.1]; exact H3.out, C3.out⟩
  · have hcb : callB x = false := decide_eq_false hc
    have HC := Lib.hid hc
    rw [hcb]
    clear hcb hc
    by_cases h21 : x.op = 21
    · have hki : kindI x = 2 := by unfold kindI; rw [if_neg (by omega), if_pos h21]
      have e21 : (x.op == 21) = true := by simpa using h21
      have HE := Lib.hid (show sx = s ∧ kx = 2 from ⟨by rw [HSX.out, hki, if_neg (by decide)], by rw [HKX.out, hki]⟩)
      clear hki h21 HSX HKX
      go_wp2_with fail
      go_ret
      exact ⟨ret_int HE.out.2.symm, by rw [HE.out.1]; exact H3.out, C3.out⟩
    · have hki : kindI x = 0 := by unfold kindI; rw [if_neg HC.out, if_neg h21]
      have e21 : (x.op == 21) = false := by simpa using h21
      have HE0 := Lib.hid (show sx = inst oa ol x s ∧ kx = 0 from ⟨by rw [HSX.out, hki, if_pos rfl], by rw [HKX.out, hki]⟩)
      clear hki HSX HKX
      by_cases hld : x.op = 14 ∨ x.op = 15 ∨ x.op = 16
      · have HE := Lib.hid (show sx = leadS x s ∧ kx = 0 from ⟨by rw [HE0.out.1, lead_step oa ol x s hld], HE0.out.2⟩)
        have LA := Lib.hid (lead_any x H3.out HR3.out HOK.out hld (fun h => HRO.out.2.2.1 (.inl h)) HPC.out HA.out.small HTB.out)
        have HL := Lib.hid hld
        clear h21 hld
        by_cases h14 : x.op = 14
        · have e14 : (x.op == 14) = true := by simpa using h14
          clear h14
          go_wp2_with fail
          refine LA.out.mono ?_
          rintro e w4 ⟨rfl, h4, c4⟩
          have H4 := Lib.hid h4
          have C4 := Lib.hid (C3.out.trans c4)
          clear h4 c4
          go_wp2_with fail
          go_ret
          exact ⟨ret_int HE.out.2.symm, by rw [HE.out.1]; exact H4.out, C4.out⟩
        · have e14 : (x.op == 14) = false := by simpa using h14
          by_cases h15 : x.op = 15
          · have e15 : (x.op == 15) = true := by simpa using h15
            clear h14 h15
            go_wp2_with fail
            refine LA.out.mono ?_
            rintro e w4 ⟨rfl, h4, c4⟩
            have H4 := Lib.hid h4
            have C4 := Lib.hid (C3.out.trans c4)
            clear h4 c4
            go_wp2_with fail
            go_ret
            exact ⟨ret_int HE.out.2.symm, by rw [HE.out.1]; exact H4.out, C4.out⟩
          · have e15 : (x.op == 15) = false := by simpa using h15
            have e16 : (x.op == 16) = true := by have := HL.out; simp; omega
            clear h14 h15
            go_wp2_with fail
            refine LA.out.mono ?_
            rintro e w4 ⟨rfl, h4, c4⟩
            have H4 := Lib.hid h4
            have C4 := Lib.hid (C3.out.trans c4)
            clear h4 c4
            go_wp2_with fail
            go_ret
            exact ⟨ret_int HE.out.2.symm, by rw [HE.out.1]; exact H4.out, C4.out⟩
      · have e14 : (x.op == 14) = false := by simp; omega
        have e15 : (x.op == 15) = false := by simp; omega
        have e16 : (x.op == 16) = false := by simp; omega
        have hop : 0 ≤ x.op ∧ x.op ≤ 13 := by have := HRO.out.1; have := HC.out; omega
        have HE := Lib.hid (show sx = ⟨⟨s.f.pc + 1, (plainS oa ol x s).f.rg, (plainS oa ol x s).f.tn⟩, (plainS oa ol x s).ws, (plainS oa ol x s).st⟩ ∧ kx = 0 from ⟨by rw [HE0.out.1, plain_step oa ol x s hop], HE0.out.2⟩)
        have PA := Lib.hid (plain_any x H3.out HR3.out HOK.out hop (HRO.out.2.1 hop.2) HA.out.wide HA.out.ho HA.out.hl HA.out.hin HA.out.hst)
        clear h21 hld hop
        have hpc1 : wrap64 (s.f.pc + 1) = s.f.pc + 1 := Go.IntWalk.wrap64_in _ (by have := HPC.out; have := HA.out.small; omega)
        go_wp2_with fail
        refine PA.out.mono ?_
        rintro e w4 ⟨rfl, h4, c4⟩
        obtain ⟨z0, _⟩ := h4.cs
        have fz := h4.fz 0
        obtain ⟨h5, c5⟩ := h4.set_pc (s.f.pc + 1)
        have H5 := Lib.hid h5
        have C5 := Lib.hid (C3.out.trans (c4.trans c5))
        have hz : (plainS oa ol x s).f.pc = s.f.pc := rfl
        rw [hz] at z0
        clear h4 c4 h5 c5 hz
        go_wp2_with fail
        go_ret
        exact ⟨ret_int HE.out.2.symm, by rw [HE.out.1]; exact H5.out, C5.out⟩
end
end Go.Proofs.YtgimelpjklnjmabDoor.Fr
