/-

  Layer 13: whether there is a step (work.may).
-/
import Derived.Test.YtiipdeionmndcaaDoorFrmCas
import Derived.Deep.CutBlock
section
section
section
set_option linter.unusedVariables false
set_option linter.unusedSimpArgs false
namespace Go.Proofs.YtiipdeionmndcaaDoor.Fr
open Go.ChangeShapes Go.WideShapes Go.ChangeAt Go.RowKit Ws
open Go.Proofs.YtiipdeionmndcaaDoor.Fp (Ins at_ Fine at_some)
open Go.Proofs.YtiipdeionmndcaaDoor.Fw (Prg okB ckE check_any okB_fine rightI)
open Go.Proofs.YtiipdeionmndcaaDoor.Is (Tabs)

theorem regs_ok {x : Ins} (hr : rightI x = true) : (0 ≤ x.op ∧ x.op < 22) ∧ (x.op ≤ 13 → (0 ≤ x.a ∧ x.a < 8) ∧ (0 ≤ x.b ∧ x.b < 8) ∧ (0 ≤ x.c ∧ x.c < 8)) ∧ (x.op = 15 ∨ 17 ≤ x.op → 0 ≤ x.a ∧ x.a < 8) ∧ (x.op = 16 → x.c ≤ 4294967295) := by
  unfold rightI Is.rightB at hr
  simp only [Bool.and_eq_true, decide_eq_true_eq] at hr
  obtain ⟨ho, h1, h2, h3, _⟩ := hr
  obtain ⟨o, hoe⟩ : ∃ o : Nat, x.op = o := ⟨x.op.toNat, by omega⟩
  have hoe2 : x.op.toNat = o := by omega
  rw [hoe2] at h1 h2 h3
  unfold Is.fitB at h1 h2 h3
  simp only [decide_eq_true_eq] at h1 h2 h3
  have hall : ((List.range 22).all fun o => decide ((o ≤ 13 → Is.hiL.getD (Is.hasC o 0) 0 ≤ 7 ∧ Is.hiL.getD (Is.hasC o 1) 0 ≤ 7 ∧ Is.hiL.getD (Is.hasC o 2) 0 ≤ 7) ∧ (o = 15 ∨ 17 ≤ o → Is.hiL.getD (Is.hasC o 0) 0 ≤ 7))) = true := by decide
  have ho2 := of_decide_eq_true (List.all_eq_true.1 hall o (List.mem_range.2 (by omega)))
  have hb := (Is.bound_le (Is.hasC o 2)).2
  refine ⟨ho, fun h => ?_, fun h => ?_, fun h => by omega⟩
  · obtain ⟨q1, q2, q3⟩ := ho2.1 (by omega)
    omega
  · have q1 := ho2.2 (by omega)
    omega
section
variable {w0 w : World} {R : Nat → Prop} {g gm : Nat} {s : SS} {T : Option Addr} {nT cT : Nat} {A : Option Addr} {m cA : Nat} {oa ol : Int}

def plainS (oa ol : Int) (x : Ins) (s : SS) : SS := ⟨⟨s.f.pc, rgI oa ol x s, s.f.tn⟩, wsI oa ol x s, if isMem x then s.st + 1 else s.st⟩
theorem plain_any (x : Ins) (h : W13 w0 w R g gm s T nT cT A m cA oa ol) (hR : ∀ i, R i → i < w.heap.size) (hx : x.ok) (hop : 0 ≤ x.op ∧ x.op ≤ 13) (hr : (0 ≤ x.a ∧ x.a < 8) ∧ (0 ≤ x.b ∧ x.b < 8) ∧ (0 ≤ x.c ∧ x.c < 8)) (hw : Wide s) (ho : 0 ≤ oa ∧ oa ≤ 4096) (hl : 0 < ol ∧ ol ≤ 4096) (hin : oa + ol ≤ s.ws.length) (hst : 0 ≤ s.st ∧ s.st ≤ 4611686018427387904) :
    Calls Tryd.prog 77 #[.pointer (some ⟨g, 0, none⟩), .agg #[.int .i64 x.op, .int .i64 x.a, .int .i64 x.b, .int .i64 x.c, .int .u32 x.n]] w (Post13 w0 w R g gm (plainS oa ol x s) T nT cT A m cA oa ol (.tuple #[])) := by
  obtain ⟨o, a, b, c, n⟩ := x
  simp only at hop hr
  obtain ⟨⟨a0, a8⟩, ⟨b0, b8⟩, ⟨c0, c8⟩⟩ := hr
  obtain ⟨n0, n1⟩ := hx
  simp only at n0 n1
  obtain ⟨ka, rfl⟩ : ∃ k : Nat, a = k := ⟨a.toNat, by omega⟩
  obtain ⟨kb, rfl⟩ : ∃ k : Nat, b = k := ⟨b.toNat, by omega⟩
  obtain ⟨kc, rfl⟩ : ∃ k : Nat, c = k := ⟨c.toNat, by omega⟩
  obtain ⟨xn, rfl⟩ : ∃ k : Nat, n = k := ⟨n.toNat, by omega⟩
  have hr : ∀ k, s.f.rg.getD k 0 < 4294967296 := fun k => getD_lt hw.rb
  have hat : ∀ o : Int, atN oa ol ⟨o, ka, kb, kc, xn⟩ s.f < s.ws.length := fun o => by
    unfold atN offN
    have h1 : 0 < ol.toNat := by omega
    have := Nat.mod_lt ((rgv s.f kb + xn) % 4294967296) h1
    simp only [Int.toNat_natCast]
    omega
  rcases (show o = 0 ∨ o = 1 ∨ o = 2 ∨ o = 3 ∨ o = 4 ∨ o = 5 ∨ o = 6 ∨ o = 7 ∨ o = 8 ∨ o = 9 ∨ o = 10 ∨ o = 11 ∨ o = 12 ∨ o = 13 by omega) with rfl | rfl | rfl | rfl | rfl | rfl | rfl | rfl | rfl | rfl | rfl | rfl | rfl | rfl
  · exact plain_0 xn ka kb kc _ _ _ rfl rfl rfl h hR (by omega) (by omega) (by omega) (by omega) ho hl hr hw.r8
  · exact plain_1 xn ka kb kc _ _ _ rfl rfl rfl h hR (by omega) (by omega) (by omega) (by omega) ho hl hr hw.r8
  · exact plain_2 xn ka kb kc _ _ _ rfl rfl rfl h hR (by omega) (by omega) (by omega) (by omega) ho hl hr hw.r8
  · exact plain_3 xn ka kb kc _ _ _ rfl rfl rfl h hR (by omega) (by omega) (by omega) (by omega) ho hl hr hw.r8
  · exact plain_4 xn ka kb kc _ _ _ rfl rfl rfl h hR (by omega) (by omega) (by omega) (by omega) ho hl hr hw.r8
  · exact plain_5 xn ka kb kc _ _ _ rfl rfl rfl h hR (by omega) (by omega) (by omega) (by omega) ho hl hr hw.r8
  · exact plain_6 xn ka kb kc _ _ _ rfl rfl rfl h hR (by omega) (by omega) (by omega) (by omega) ho hl hr hw.r8
  · exact plain_7 xn ka kb kc _ _ _ rfl rfl rfl h hR (by omega) (by omega) (by omega) (by omega) ho hl hr hw.r8
  · exact plain_8 xn ka kb kc _ _ _ rfl rfl rfl h hR (by omega) (by omega) (by omega) (by omega) ho hl hr hw.r8
  · exact plain_9 xn ka kb kc _ _ _ rfl rfl rfl h hR (by omega) (by omega) (by omega) (by omega) ho hl hr hw.r8
  · exact plain_10 xn ka kb kc _ _ _ rfl rfl rfl h hR (by omega) (by omega) (by omega) (by omega) ho hl hr hw.r8
  · exact plain_11 xn ka kb kc _ _ _ rfl rfl rfl h hR (by omega) (by omega) (by omega) (by omega) ho hl hr hw.r8 _ rfl (hat 11) hst
  · exact plain_12 xn ka kb kc _ _ _ rfl rfl rfl h hR (by omega) (by omega) (by omega) (by omega) ho hl hr hw.r8 (hat 12) hst
  · exact plain_13 xn ka kb kc _ _ _ rfl rfl rfl h hR (by omega) (by omega) (by omega) (by omega) ho hl hr hw.r8 _ rfl _ rfl (hat 13) hst
def leadS (x : Ins) (s : SS) : SS := ⟨⟨pcI x s.f, s.f.rg, tnI x s.f⟩, s.ws, s.st⟩
theorem lead_any (x : Ins) (h : W13 w0 w R g gm s T nT cT A m cA oa ol) (hR : ∀ i, R i → i < w.heap.size) (hx : x.ok) (hop : x.op = 14 ∨ x.op = 15 ∨ x.op = 16) (hr : x.op = 15 → 0 ≤ x.a ∧ x.a < 8) (hpc : 0 ≤ s.f.pc ∧ s.f.pc < nT) (hn : nT ≤ 5000) (hb : 0 ≤ tnv s.f ∧ tnv s.f ≤ 4611686018427387904) :
    Calls Tryd.prog 76 #[.pointer (some ⟨g, 0, none⟩), .agg #[.int .i64 x.op, .int .i64 x.a, .int .i64 x.b, .int .i64 x.c, .int .u32 x.n]] w (Post13 w0 w R g gm (leadS x s) T nT cT A m cA oa ol (.tuple #[])) := by
  obtain ⟨o, a, b, c, n⟩ := x
  simp only at hop hr
  rcases hop with rfl | rfl | rfl
  · exact lead_14 a b c n h hx (by omega)
  · obtain ⟨a0, a8⟩ := hr rfl
    obtain ⟨ka, rfl⟩ : ∃ k : Nat, a = k := ⟨a.toNat, by omega⟩
    exact lead_15 b c n ka (by omega) h hx (by omega)
  · cases hk : backB ⟨16, a, b, c, n⟩ s.f
    · have h2 := lead_16n a b c n h hR hx hpc hn hb hk
      unfold leadS pcI tnI
      rw [hk]
      exact h2
    · have h2 := lead_16y a b c n h hR hx hpc hn hb hk
      unfold leadS pcI tnI
      rw [hk]
      exact h2
end
end Go.Proofs.YtiipdeionmndcaaDoor.Fr
end
section
set_option linter.unusedVariables false
set_option linter.unusedSimpArgs false
namespace Go.Proofs.YtiipdeionmndcaaDoor.Fr
open Go.ChangeShapes Go.WideShapes Go.ChangeAt Go.RowKit Ws
open Go.Proofs.YtiipdeionmndcaaDoor.Fp (Ins at_ Fine at_some)
open Go.Proofs.YtiipdeionmndcaaDoor.Fw (Prg okB ckE check_any okB_fine rightI)
open Go.Proofs.YtiipdeionmndcaaDoor.Is (Tabs)
section
variable {w0 w : World} {R : Nat → Prop} {g gm : Nat} {s : SS} {T : Option Addr} {nT cT : Nat} {A : Option Addr} {m cA : Nat} {oa ol : Int}

theorem plain_step (oa ol : Int) (x : Ins) (s : SS) (h : 0 ≤ x.op ∧ x.op ≤ 13) : inst oa ol x s = ⟨⟨s.f.pc + 1, (plainS oa ol x s).f.rg, (plainS oa ol x s).f.tn⟩, (plainS oa ol x s).ws, (plainS oa ol x s).st⟩ := by
  unfold inst plainS pcI tnI
  rw [if_neg (by omega), if_neg (by omega), if_neg (by omega), if_neg (by omega)]
theorem lead_step (oa ol : Int) (x : Ins) (s : SS) (h : x.op = 14 ∨ x.op = 15 ∨ x.op = 16) : inst oa ol x s = leadS x s := by
  have hm : ¬ isMem x := by unfold isMem; omega
  unfold inst leadS rgI wsI
  rw [if_neg hm, if_neg (by omega), if_neg (by omega), if_neg (by omega), if_neg (by omega), if_neg (by omega), if_neg (by omega), if_neg (by omega)]
/-- what is asked of the frame and of the memory -/
structure Asked (p : List Ins) (s : SS) (m nT : Nat) (oa ol : Int) : Prop where
  right : rightF (okB p) p s.f = true
  wide : Wide s
  ho : 0 ≤ oa ∧ oa ≤ 4096
  hl : 0 < ol ∧ ol ≤ 4096
  hin : oa + ol ≤ s.ws.length
  hst : 0 ≤ s.st ∧ s.st ≤ 4611686018427387904
  len : p.length = m
  small : nT ≤ 5000
set_option maxRecDepth 100000 in
set_option maxHeartbeats 4000000 in
theorem step_any {p : List Ins} (h : W13 w0 w R g gm s T nT cT A m cA oa ol) (hR : ∀ i, R i → i < w.heap.size) (hp : Prg w0 A p) (ha : Asked p s m nT oa ol) :
    Calls Tryd.prog 49 #[.pointer (some ⟨g, 0, none⟩)] w (Post13 w0 w R g gm (stepW p oa ol s) T nT cT A m cA oa ol (.int .i64 (kindW p s))) := by
  obtain ⟨hok, ⟨p0, p1, p2⟩, htl⟩ := right_iff.1 ha.right
  have hfine := okB_fine hok
  obtain ⟨k, hkk⟩ : ∃ k : Nat, s.f.pc = (k : Int) := ⟨s.f.pc.toNat, by omega⟩
  have hkp : k < p.length := by omega
  have hkm : k < m := by have := ha.len; omega
  have htk : s.f.pc.toNat = k := by omega
  have hkT : k < nT := by have := h.len; omega
  obtain ⟨hxok, b, o, hA, y0, y1, y2, y3, y4⟩ := (hp.same h.base).at_ hkp
  have hcur : curI p s.f = at_ p k := by unfold curI; rw [htk]
  have hrx : rightI (at_ p k) = true := hfine.right k hkp
  have htv := htl k (by have := h.len; omega)
  have htn : tnv s.f = s.f.tn.getD k 0 := by unfold tnv; rw [htk]
  rw [← htn] at htv
  have hmost : mostI (at_ p k) ≤ 4294967295 := by
    unfold mostI
    split
    · next h16 => exact (regs_ok hrx).2.2.2 h16
    · omega
  have htb : 0 ≤ tnv s.f ∧ tnv s.f ≤ 4611686018427387904 := by omega
  have hro := regs_ok hrx
  have HSW := Lib.hid (show stepW p oa ol s = if kindI (at_ p k) = 0 then inst oa ol (at_ p k) s else s by unfold stepW; rw [hcur])
  have HKW := Lib.hid (show kindW p s = kindI (at_ p k) by unfold kindW; rw [hcur])
  obtain ⟨x, hx⟩ : ∃ x, x = at_ p k := ⟨_, rfl⟩
  rw [← hx] at y0 y1 y2 y3 y4 hxok hro HSW HKW
  obtain ⟨sx, hsx⟩ : ∃ sx, sx = stepW p oa ol s := ⟨_, rfl⟩
  obtain ⟨kx, hkx⟩ : ∃ kx, kx = kindW p s := ⟨_, rfl⟩
  rw [← hsx, ← hkx]
  have HSX := Lib.hid (hsx.trans HSW.out)
  have HKX := Lib.hid (hkx.trans HKW.out)
  clear hsx hkx HSW HKW
  have H := Lib.hid h
  have HA := Lib.hid ha
  have HRO := Lib.hid hro
  have HOK := Lib.hid hxok
  have HTB := Lib.hid htb
  have HPC := Lib.hid (show 0 ≤ s.f.pc ∧ s.f.pc < nT by omega)
  have HPK := Lib.hid hkk
  subst hA
  obtain ⟨z0, z9, z10, z11, z12, z13⟩ := h.cs
  rw [hkk] at z0
  have i0 : (0 : Int) ≤ k := by omega
  have i1 : (k : Int) < m := by omega
  have HR := Lib.hid (fun (w' : World) (hs : Same w w') i (hi : R i) => Nat.lt_of_lt_of_le (hR i hi) hs.size)
  obtain ⟨w2, hw2⟩ : ∃ w2, w2 = (w.alloc (.cells #[.int .i64 x.op, .int .i64 x.a, .int .i64 x.b, .int .i64 x.c, .int .u32 x.n] 67)).drew := ⟨_, rfl⟩
  have E2 := Lib.hid hw2
  have hs2 : Same w w2 := hw2 ▸ ((Same.refl w).alloc _).drew
  have HS2 := Lib.hid hs2
  have HQ := Lib.hid (show Blk w2 w.heap.size 67 #[.int .i64 x.op, .int .i64 x.a, .int .i64 x.b, .int .i64 x.c, .int .u32 x.n] from hw2 ▸ Blk.new w _ _)
  have H2 := Lib.hid (h.of_same hs2)
  have CA := Lib.hid (fun w' => calls_any x w')
  clear hok p0 p1 p2 htl hfine hkp htk hcur hrx htv htn hmost htb hro hw2 hs2 hx hp ha h hkk hkT hxok hR
  go_enter Tryd.func49, Tryd.ntmps49
  go_wp2_with fail
  refine wp_region_held_drew (S := (fun w' => w'.cell? ⟨g, 0, none⟩ = some (.int .i64 (k : Int)) ∧ w'.cell? ⟨g, 10, none⟩ = some (.slice (some ⟨b, o, none⟩) m cA) ∧ w'.cell? ⟨b, o + k * 5, none⟩ = some (.int .i64 x.op) ∧ w'.cell? ⟨b, o + k * 5 + 1, none⟩ = some (.int .i64 x.a) ∧ w'.cell? ⟨b, o + k * 5 + 2, none⟩ = some (.int .i64 x.b) ∧ w'.cell? ⟨b, o + k * 5 + 3, none⟩ = some (.int .i64 x.c) ∧ w'.cell? ⟨b, o + k * 5 + 4, none⟩ = some (.int .u32 x.n))) (by kernel_rfl) ?_ (fun hHeld => ?_)
  · exact ⟨((Same.refl w).drew).cell z0, ((Same.refl w).drew).cell z10, ((Same.refl w).drew).cell y0, ((Same.refl w).drew).cell y1, ((Same.refl w).drew).cell y2, ((Same.refl w).drew).cell y3, ((Same.refl w).drew).cell y4⟩
  refine Ro.take_on (i := 0) (v := ?_) rfl (by kernel_rfl) (by kernel_rfl) (by kernel_rfl) (fun _ _ _ h => h) (by rfl) (by assumption) ?_ ?_
  rotate_left
  · intro wS hSw; (try dsimp only at hSw); go_simp; try with_reducible rfl
  try simp only [Act.put, List.setIfInBounds_toArray, List.set_cons_zero, List.set_cons_succ]
  refine Ro.take_on (i := 1) (v := ?_) rfl (by kernel_rfl) (by kernel_rfl) (by kernel_rfl) (fun _ _ _ h => h) (by rfl) (by assumption) ?_ ?_
  rotate_left
  · intro wS hSw; (try dsimp only at hSw); go_simp; try with_reducible rfl
  try simp only [Act.put, List.setIfInBounds_toArray, List.set_cons_zero, List.set_cons_succ]
  refine Ro.take_on (i := 2) (v := ?_) rfl (by kernel_rfl) (by kernel_rfl) (by kernel_rfl) (fun _ _ _ h => h) (by rfl) (by assumption) ?_ ?_
  rotate_left
  · intro wS hSw; (try dsimp only at hSw); go_simp; try with_reducible rfl
  try simp only [Act.put, List.setIfInBounds_toArray, List.set_cons_zero, List.set_cons_succ]
  refine Ro.take_on (i := 3) (v := ?_) rfl (by kernel_rfl) (by kernel_rfl) (by kernel_rfl) (fun _ _ _ h => h) (by rfl) (by assumption) ?_ ?_
  rotate_left
  · intro wS hSw; (try dsimp only at hSw); go_simp; try with_reducible rfl
  try simp only [Act.put, List.setIfInBounds_toArray, List.set_cons_zero, List.set_cons_succ]
  refine Ro.take_on (i := 4) (v := ?_) rfl (by kernel_rfl) (by kernel_rfl) (by kernel_rfl) (fun _ _ _ h => h) (by rfl) (by assumption) ?_ ?_
  rotate_left
  · intro wS hSw; (try dsimp only at hSw); go_simp; try with_reducible rfl
  try simp only [Act.put, List.setIfInBounds_toArray, List.set_cons_zero, List.set_cons_succ]
  refine Ro.take_on (i := 5) (v := ?_) rfl (by kernel_rfl) (by kernel_rfl) (by kernel_rfl) (fun _ _ _ h => h) (by rfl) (by assumption) ?_ ?_
  rotate_left
  · intro wS hSw; (try dsimp only at hSw); go_simp; try with_reducible rfl
  try simp only [Act.put, List.setIfInBounds_toArray, List.set_cons_zero, List.set_cons_succ]
  refine Ro.take_on (i := 6) (v := ?_) rfl (by kernel_rfl) (by kernel_rfl) (by kernel_rfl) (fun _ _ _ h => h) (by rfl) (by assumption) ?_ ?_
  rotate_left
  · intro wS hSw; (try dsimp only at hSw); go_simp; try with_reducible rfl
  try simp only [Act.put, List.setIfInBounds_toArray, List.set_cons_zero, List.set_cons_succ]
  refine Ro.take_on (i := 7) (v := ?_) rfl (by kernel_rfl) (by kernel_rfl) (by kernel_rfl) (fun _ _ _ h => h) (by rfl) (by assumption) ?_ ?_
  rotate_left
  · intro wS hSw; (try dsimp only at hSw); go_simp; try with_reducible rfl
  try simp only [Act.put, List.setIfInBounds_toArray, List.set_cons_zero, List.set_cons_succ]
  refine Ro.take_on (i := 8) (v := ?_) rfl (by kernel_rfl) (by kernel_rfl) (by kernel_rfl) (fun _ _ _ h => h) (by rfl) (by assumption) ?_ ?_
  rotate_left
  · intro wS hSw; (try dsimp only at hSw); go_simp; try with_reducible rfl
  try simp only [Act.put, List.setIfInBounds_toArray, List.set_cons_zero, List.set_cons_succ]
  refine Ro.take_on (i := 9) (v := ?_) rfl (by kernel_rfl) (by kernel_rfl) (by kernel_rfl) (fun _ _ _ h => h) (by rfl) (by assumption) ?_ ?_
  rotate_left
  · intro wS hSw; (try dsimp only at hSw); go_simp; try with_reducible rfl
  try simp only [Act.put, List.setIfInBounds_toArray, List.set_cons_zero, List.set_cons_succ]
  refine Ro.take_on (i := 10) (v := ?_) rfl (by kernel_rfl) (by kernel_rfl) (by kernel_rfl) (fun _ _ _ h => h) (by rfl) (by assumption) ?_ ?_
  rotate_left
  · intro wS hSw; (try dsimp only at hSw); go_simp; try with_reducible rfl
  try simp only [Act.put, List.setIfInBounds_toArray, List.set_cons_zero, List.set_cons_succ]
  refine Ro.one_on (i := 11) rfl (by kernel_rfl) (by rfl) (fun K hK => ?_)
  go_simp
  refine hK.out _ _ ?_ (fun hNew => ?_)
  · exact ⟨(((Same.refl w).alloc _).drew).cell z0, (((Same.refl w).alloc _).drew).cell z10, (((Same.refl w).alloc _).drew).cell y0, (((Same.refl w).alloc _).drew).cell y1, (((Same.refl w).alloc _).drew).cell y2, (((Same.refl w).alloc _).drew).cell y3, (((Same.refl w).alloc _).drew).cell y4⟩
  clear hK K hHeld; have hHeld := hNew; clear hNew
  try simp only [Act.put, List.setIfInBounds_toArray, List.set_cons_zero, List.set_cons_succ]
  refine Ro.one_on (i := 12) rfl (by kernel_rfl) (by rfl) (fun K hK => ?_)
  go_wp2_with fail
  rw [← E2.out]
  refine hK.out _ _ ?_ (fun hNew => ?_)
  · exact ⟨(HS2.out).cell z0, (HS2.out).cell z10, (HS2.out).cell y0, (HS2.out).cell y1, (HS2.out).cell y2, (HS2.out).cell y3, (HS2.out).cell y4⟩
  clear hK K hHeld; have hHeld := hNew; clear hNew
  try simp only [Act.put, List.setIfInBounds_toArray, List.set_cons_zero, List.set_cons_succ]
  refine wpAnyH_done (by kernel_rfl) ?_ _
  clear hHeld
  clear E2
  obtain ⟨u0, u1, u2, u3, u4⟩ := (⟨HQ.out.cell 0, HQ.out.cell 1, HQ.out.cell 2, HQ.out.cell 3, HQ.out.cell 4⟩ : _ ∧ _ ∧ _ ∧ _ ∧ _)
  simp only [List.getElem?_toArray, List.getElem?_cons_zero, List.getElem?_cons_succ] at u0 u1 u2 u3 u4
  go_wp2_with fail
  clear u0 u1 u2 u3 u4
  refine (CA.out _).mono ?_
  rintro e w3 ⟨rfl, s3⟩
  have H3 := Lib.hid (H2.out.of_same s3)
  have C3 := Lib.hid ((HS2.out.trans s3).chg (S13 R g T))
  have HR3 := Lib.hid (HR.out _ (HS2.out.trans s3))
  obtain ⟨x0, x1, x2, x3, x4⟩ := (⟨(HQ.out.same s3).cell 0, (HQ.out.same s3).cell 1, (HQ.out.same s3).cell 2, (HQ.out.same s3).cell 3, (HQ.out.same s3).cell 4⟩ : _ ∧ _ ∧ _ ∧ _ ∧ _)
  simp only [List.getElem?_toArray, List.getElem?_cons_zero, List.getElem?_cons_succ] at x0 x1 x2 x3 x4
  clear s3 y0 y1 y2 y3 y4 z0 z9 z10 z11 z12 z13 i0 i1 CA H2 HS2 HQ
  generalize w.heap.size = q at *
  by_cases hc : 17 ≤ x.op ∧ x.op ≤ 20
  · have hcb : callB x = true := decide_eq_true hc
    have hki : kindI x = 1 := if_pos hc
    have HE := Lib.hid (show sx = s ∧ kx = 1 from ⟨by rw [HSX.out, hki, if_neg (by decide)], by rw [HKX.out, hki]⟩)
    rw [hcb]
    clear hc hcb hki HSX HKX
    go_wp2_with fail
    go_ret
    exact ⟨ret_int HE.out.2.symm, by rw [HE.out.1]; exact H3.out, C3.out⟩
  · have hcb : callB x = false := decide_eq_false hc
    have HC := Lib.hid hc
    rw [hcb]
    clear hcb hc
    by_cases h21 : x.op = 21
    · have hki : kindI x = 2 := by unfold kindI; rw [if_neg (by omega), if_pos h21]
      have e21 : (x.op == 21) = true := by simpa using h21
      have HE := Lib.hid (show sx = s ∧ kx = 2 from ⟨by rw [HSX.out, hki, if_neg (by decide)], by rw [HKX.out, hki]⟩)
      clear hki h21 HSX HKX
      go_wp2_with fail
      go_ret
      exact ⟨ret_int HE.out.2.symm, by rw [HE.out.1]; exact H3.out, C3.out⟩
    · have hki : kindI x = 0 := by unfold kindI; rw [if_neg HC.out, if_neg h21]
      have e21 : (x.op == 21) = false := by simpa using h21
      have HE0 := Lib.hid (show sx = inst oa ol x s ∧ kx = 0 from ⟨by rw [HSX.out, hki, if_pos rfl], by rw [HKX.out, hki]⟩)
      clear hki HSX HKX
      by_cases hld : x.op = 14 ∨ x.op = 15 ∨ x.op = 16
      · have HE := Lib.hid (show sx = leadS x s ∧ kx = 0 from ⟨by rw [HE0.out.1, lead_step oa ol x s hld], HE0.out.2⟩)
        have LA := Lib.hid (lead_any x H3.out HR3.out HOK.out hld (fun h => HRO.out.2.2.1 (.inl h)) HPC.out HA.out.small HTB.out)
        have HL := Lib.hid hld
        clear h21 hld
        by_cases h14 : x.op = 14
        · have e14 : (x.op == 14) = true := by simpa using h14
          clear h14
          go_wp2_with fail
          refine LA.out.mono ?_
          rintro e w4 ⟨rfl, h4, c4⟩
          have H4 := Lib.hid h4
          have C4 := Lib.hid (C3.out.trans c4)
          clear h4 c4
          go_wp2_with fail
          go_ret
          exact ⟨ret_int HE.out.2.symm, by rw [HE.out.1]; exact H4.out, C4.out⟩
        · have e14 : (x.op == 14) = false := by simpa using h14
          by_cases h15 : x.op = 15
          · have e15 : (x.op == 15) = true := by simpa using h15
            clear h14 h15
            go_wp2_with fail
            refine LA.out.mono ?_
            rintro e w4 ⟨rfl, h4, c4⟩
            have H4 := Lib.hid h4
            have C4 := Lib.hid (C3.out.trans c4)
            clear h4 c4
            go_wp2_with fail
            go_ret
            exact ⟨ret_int HE.out.2.symm, by rw [HE.out.1]; exact H4.out, C4.out⟩
          · have e15 : (x.op == 15) = false := by simpa using h15
            have e16 : (x.op == 16) = true := by have := HL.out; simp; omega
            clear h14 h15
            go_wp2_with fail
            refine LA.out.mono ?_
            rintro e w4 ⟨rfl, h4, c4⟩
            have H4 := Lib.hid h4
            have C4 := Lib.hid (C3.out.trans c4)
            clear h4 c4
            go_wp2_with fail
            go_ret
            exact ⟨ret_int HE.out.2.symm, by rw [HE.out.1]; exact H4.out, C4.out⟩
      · have e14 : (x.op == 14) = false := by simp; omega
        have e15 : (x.op == 15) = false := by simp; omega
        have e16 : (x.op == 16) = false := by simp; omega
        have hop : 0 ≤ x.op ∧ x.op ≤ 13 := by have := HRO.out.1; have := HC.out; omega
        have HE := Lib.hid (show sx = ⟨⟨s.f.pc + 1, (plainS oa ol x s).f.rg, (plainS oa ol x s).f.tn⟩, (plainS oa ol x s).ws, (plainS oa ol x s).st⟩ ∧ kx = 0 from ⟨by rw [HE0.out.1, plain_step oa ol x s hop], HE0.out.2⟩)
        have PA := Lib.hid (plain_any x H3.out HR3.out HOK.out hop (HRO.out.2.1 hop.2) HA.out.wide HA.out.ho HA.out.hl HA.out.hin HA.out.hst)
        clear h21 hld hop
        have hpc1 : wrap64 (s.f.pc + 1) = s.f.pc + 1 := Go.IntWalk.wrap64_in _ (by have := HPC.out; have := HA.out.small; omega)
        go_wp2_with fail
        refine PA.out.mono ?_
        rintro e w4 ⟨rfl, h4, c4⟩
        obtain ⟨z0, _⟩ := h4.cs
        have fz := h4.fz 0
        obtain ⟨h5, c5⟩ := h4.set_pc (s.f.pc + 1)
        have H5 := Lib.hid h5
        have C5 := Lib.hid (C3.out.trans (c4.trans c5))
        have hz : (plainS oa ol x s).f.pc = s.f.pc := rfl
        rw [hz] at z0
        clear h4 c4 h5 c5 hz
        go_wp2_with fail
        go_ret
        exact ⟨ret_int HE.out.2.symm, by rw [HE.out.1]; exact H5.out, C5.out⟩
end
end Go.Proofs.YtiipdeionmndcaaDoor.Fr
end
end
section
set_option linter.unusedVariables false
set_option linter.unusedSimpArgs false
namespace Go.Proofs.YtiipdeionmndcaaDoor.Fr
open Go.ChangeShapes Go.WideShapes Go.ChangeAt Go.RowKit Ws
open Go.Proofs.YtiipdeionmndcaaDoor.Fp (Ins at_ Fine at_some)
open Go.Proofs.YtiipdeionmndcaaDoor.Fw (Prg okB ckE check_any okB_fine rightI)
open Go.Proofs.YtiipdeionmndcaaDoor.Is (Tabs)

theorem puts10 {w : World} {b : Nat} {T : TypeId} {z0 z1 z2 z3 z4 z5 z6 z7 z8 z9 v0 v1 v2 v3 v4 v5 v6 v7 v8 v9 : Value} (h : Blk w b T #[z0, z1, z2, z3, z4, z5, z6, z7, z8, z9]) : Blk ((((((((((w.setCell ⟨b, 0, none⟩ v0).setCell ⟨b, 1, none⟩ v1).setCell ⟨b, 2, none⟩ v2).setCell ⟨b, 3, none⟩ v3).setCell ⟨b, 4, none⟩ v4).setCell ⟨b, 5, none⟩ v5).setCell ⟨b, 6, none⟩ v6).setCell ⟨b, 7, none⟩ v7).setCell ⟨b, 8, none⟩ v8).setCell ⟨b, 9, none⟩ v9) b T #[v0, v1, v2, v3, v4, v5, v6, v7, v8, v9] ∧ Chg (fun i => i = b) w ((((((((((w.setCell ⟨b, 0, none⟩ v0).setCell ⟨b, 1, none⟩ v1).setCell ⟨b, 2, none⟩ v2).setCell ⟨b, 3, none⟩ v3).setCell ⟨b, 4, none⟩ v4).setCell ⟨b, 5, none⟩ v5).setCell ⟨b, 6, none⟩ v6).setCell ⟨b, 7, none⟩ v7).setCell ⟨b, 8, none⟩ v8).setCell ⟨b, 9, none⟩ v9) :=
  ⟨by simpa using ((((((((((h.put 0 v0).put 1 v1).put 2 v2).put 3 v3).put 4 v4).put 5 v5).put 6 v6).put 7 v7).put 8 v8).put 9 v9), (((((((((((Chg.refl (fun i => i = b) w).set (p := ⟨b, 0, none⟩) (.inl rfl) v0).set (p := ⟨b, 1, none⟩) (.inl rfl) v1).set (p := ⟨b, 2, none⟩) (.inl rfl) v2).set (p := ⟨b, 3, none⟩) (.inl rfl) v3).set (p := ⟨b, 4, none⟩) (.inl rfl) v4).set (p := ⟨b, 5, none⟩) (.inl rfl) v5).set (p := ⟨b, 6, none⟩) (.inl rfl) v6).set (p := ⟨b, 7, none⟩) (.inl rfl) v7).set (p := ⟨b, 8, none⟩) (.inl rfl) v8).set (p := ⟨b, 9, none⟩) (.inl rfl) v9)⟩
theorem chg_nw {S : Nat → Prop} {a b c : World} {n : Nat} (h : Chg S a b) (k : Chg (fun i => i = n) b c) (hn : a.heap.size ≤ n) : Chg S a c :=
  ⟨k.os.trans h.os, k.tape.trans h.tape, k.output.trans h.output, Nat.le_trans h.size k.size, fun i hi hs =>
    (k.block i (Nat.lt_of_lt_of_le hi h.size) (fun (ht : i = n) => by omega)).trans (h.block i hi hs)⟩
theorem int_info : (Tryd.prog.info? 3).map (fun i => (i.zero, i.size, i.bytes)) = some (some (.int .i64 0), 1, 8) := by kernel_rfl
theorem frm_size : (Tryd.prog.info? 44).map (·.size) = some 10 := by kernel_rfl
theorem ints_one (l : List Int) : ∀ u ∈ l.map (Value.int .i64), u.oneCell' = true := by
  intro u hu
  obtain ⟨x, _, rfl⟩ := List.mem_map.1 hu
  rfl
def ClP (w : World) (n : Nat) (l : List Int) (e : Ending) (w' : World) : Prop := ∃ A' c', e = .returned (.slice A' n c') ∧ Own w' w.heap.size 3 A' c' (l.map (Value.int .i64)) ∧ Same w w'
theorem own_nil (w : World) (B : Nat) (e : TypeId) : Own w B e none 0 [] := ⟨rfl, .inl ⟨rfl, rfl⟩⟩
set_option maxRecDepth 100000 in
theorem iclone_any (A : Option Addr) (n c : Nat) (l : List Int) (w : World) (h : Row w A (l.map (Value.int .i64))) (hn : l.length = n) (hl : n ≤ 5000) :
    Calls Tryd.prog 73 #[.slice A n c] w (ClP w n l) := by
  obtain ⟨i0, hi, hz0, hz1, hz2⟩ := info_parts int_info
  have HN := Lib.hid hn
  clear hn
  have hq : ∀ (w : World) (a : Option Addr) (n c n' c' : Nat), (binOp .eql 23 (.slice a n c) (.slice none n' c')).run Tryd.prog w = .ok (.bool a.isNone) w := fun w a n c n' c' => Lib.run_eql_slice_nil w _ _ a n c n' c' Tryd.underlying23
  cases A with
  | none =>
    have hl0 : l = [] := by
      cases l with
      | nil => rfl
      | cons x r =>
        obtain ⟨b, o, hA, _⟩ := h 0 (.int .i64 x) rfl
        cases hA
    subst hl0
    have hn0 : n = 0 := HN.out.symm
    subst hn0
    clear h HN
    go_enter Tryd.func73, Tryd.ntmps73
    go_wp2
    go_ret
    exact ⟨none, 0, rfl, own_nil _ _ _, Same.refl _⟩
  | some ad =>
    go_enter Tryd.func73, Tryd.ntmps73
    go_wp2_with (at_builtin; refine wpList_app rfl _ _ 23 rfl w.heap.size 3 i0 _ 8 Tryd.underlying23 hi hz0 hz1 hz2 rfl _ _ _ [] rfl rfl (Mm.own_none w 3) _ _ _ (l.map (Value.int .i64)) rfl ?c1 ?c2 (ints_one l) ?c3 (by omega) ?c4 ?c5)
    case c1 => rw [List.length_map]; exact HN.out
    case c2 => exact h.same ((Same.refl _).alloc _)
    case c3 => have := HN.out; simp; omega
    case c4 => simp
    intro A' c' w1 ho hc hA
    have hs : Same w w1 := Same.more ((Same.refl w).alloc (.cells #[] 3)) hc (fun i hi => by
      have hi : w.heap.size = i := by simpa using hi
      omega)
    go_wp2
    go_ret
    exact ⟨A', c', by simp, by simpa using ho, hs⟩
def CpP (w : World) (f : FS) (nT : Nat) (e : Ending) (w' : World) : Prop := ∃ T' c', e = .returned (.agg #[.int .i64 f.pc, .int .u32 (rk f 0), .int .u32 (rk f 1), .int .u32 (rk f 2), .int .u32 (rk f 3), .int .u32 (rk f 4), .int .u32 (rk f 5), .int .u32 (rk f 6), .int .u32 (rk f 7), .slice T' nT c']) ∧ Own w' w.heap.size 3 T' c' (f.tn.map (Value.int .i64)) ∧ Same w w'
set_option maxRecDepth 100000 in
set_option maxHeartbeats 1000000 in
theorem apart_any (f : FS) (T : Option Addr) (nT cT : Nat) (w : World) (hT : Row w T (f.tn.map (Value.int .i64))) (hn : f.tn.length = nT) (hb : nT ≤ 5000) :
    Calls Tryd.prog 47 #[.agg #[.int .i64 f.pc, .int .u32 (rk f 0), .int .u32 (rk f 1), .int .u32 (rk f 2), .int .u32 (rk f 3), .int .u32 (rk f 4), .int .u32 (rk f 5), .int .u32 (rk f 6), .int .u32 (rk f 7), .slice T nT cT]] w (CpP w f nT) := by
  obtain ⟨w1, hw1⟩ : ∃ w1, w1 = (w.alloc (.cells #[.int .i64 f.pc, .int .u32 (rk f 0), .int .u32 (rk f 1), .int .u32 (rk f 2), .int .u32 (rk f 3), .int .u32 (rk f 4), .int .u32 (rk f 5), .int .u32 (rk f 6), .int .u32 (rk f 7), .slice T nT cT] 44)).alloc (.cells #[.int .i64 0, .int .u32 0, .int .u32 0, .int .u32 0, .int .u32 0, .int .u32 0, .int .u32 0, .int .u32 0, .int .u32 0, .slice none 0 0] 44) := ⟨_, rfl⟩
  have hs1 : Same w w1 := hw1 ▸ ((Same.refl w).alloc _).alloc _
  have hb1 : Blk w1 w.heap.size 44 #[.int .i64 f.pc, .int .u32 (rk f 0), .int .u32 (rk f 1), .int .u32 (rk f 2), .int .u32 (rk f 3), .int .u32 (rk f 4), .int .u32 (rk f 5), .int .u32 (rk f 6), .int .u32 (rk f 7), .slice T nT cT] := hw1 ▸ (Blk.new w _ _).same ((Same.refl _).alloc _)
  have hb2 : Blk w1 (w.heap.size + 1) 44 #[.int .i64 0, .int .u32 0, .int .u32 0, .int .u32 0, .int .u32 0, .int .u32 0, .int .u32 0, .int .u32 0, .int .u32 0, .slice none 0 0] := by
    have h := Blk.new (w.alloc (.cells #[.int .i64 f.pc, .int .u32 (rk f 0), .int .u32 (rk f 1), .int .u32 (rk f 2), .int .u32 (rk f 3), .int .u32 (rk f 4), .int .u32 (rk f 5), .int .u32 (rk f 6), .int .u32 (rk f 7), .slice T nT cT] 44)) 44 #[.int .i64 0, .int .u32 0, .int .u32 0, .int .u32 0, .int .u32 0, .int .u32 0, .int .u32 0, .int .u32 0, .int .u32 0, .slice none 0 0]
    rw [hw1]
    simpa using h
  have E1 := Lib.hid hw1
  have HS1 := Lib.hid hs1
  have HB1 := Lib.hid hb1
  have HB2 := Lib.hid hb2
  have CL := Lib.hid (iclone_any T nT cT f.tn w1 (hT.same hs1) hn hb)
  have z9 := hb1.cell 9
  simp only [List.getElem?_toArray, List.getElem?_cons_zero, List.getElem?_cons_succ] at z9
  clear hw1 hs1 hb1 hb2 hT hn
  go_enter Tryd.func47, Tryd.ntmps47
  go_wp2_with fail
  rw [← E1.out]
  refine CL.out.mono ?_
  rintro e w2 ⟨T', c', rfl, ho, s2⟩
  have HSZ := Lib.hid (show w.heap.size + 1 < w1.heap.size from HB2.out.lt)
  have HO := Lib.hid (ho.base (B' := w.heap.size) (by have := HSZ.out; omega))
  have HB1' := Lib.hid (HB1.out.same s2)
  have HB2' := Lib.hid (HB2.out.same s2)
  have HS2 := Lib.hid (HS1.out.trans s2)
  clear ho s2 z9 CL HB1 HB2 HS1 E1
  obtain ⟨x0, x1, x2, x3, x4, x5, x6, x7, x8, x9⟩ := (⟨HB1'.out.cell 0, HB1'.out.cell 1, HB1'.out.cell 2, HB1'.out.cell 3, HB1'.out.cell 4, HB1'.out.cell 5, HB1'.out.cell 6, HB1'.out.cell 7, HB1'.out.cell 8, HB1'.out.cell 9⟩ : _ ∧ _ ∧ _ ∧ _ ∧ _ ∧ _ ∧ _ ∧ _ ∧ _ ∧ _)
  simp only [List.getElem?_toArray, List.getElem?_cons_zero, List.getElem?_cons_succ] at x0 x1 x2 x3 x4 x5 x6 x7 x8 x9
  obtain ⟨y0, y1, y2, y3, y4, y5, y6, y7, y8, y9⟩ := (⟨HB2'.out.cell 0, HB2'.out.cell 1, HB2'.out.cell 2, HB2'.out.cell 3, HB2'.out.cell 4, HB2'.out.cell 5, HB2'.out.cell 6, HB2'.out.cell 7, HB2'.out.cell 8, HB2'.out.cell 9⟩ : _ ∧ _ ∧ _ ∧ _ ∧ _ ∧ _ ∧ _ ∧ _ ∧ _ ∧ _)
  simp only [List.getElem?_toArray, List.getElem?_cons_zero, List.getElem?_cons_succ] at y0 y1 y2 y3 y4 y5 y6 y7 y8 y9
  obtain ⟨t0, t1, t2, t3, t4, t5, t6, t7, t8, t9⟩ := (⟨HB1'.out.thaw 0, HB1'.out.thaw 1, HB1'.out.thaw 2, HB1'.out.thaw 3, HB1'.out.thaw 4, HB1'.out.thaw 5, HB1'.out.thaw 6, HB1'.out.thaw 7, HB1'.out.thaw 8, HB1'.out.thaw 9⟩ : _ ∧ _ ∧ _ ∧ _ ∧ _ ∧ _ ∧ _ ∧ _ ∧ _ ∧ _)
  obtain ⟨u0, u1, u2, u3, u4, u5, u6, u7, u8, u9⟩ := (⟨HB2'.out.thaw 0, HB2'.out.thaw 1, HB2'.out.thaw 2, HB2'.out.thaw 3, HB2'.out.thaw 4, HB2'.out.thaw 5, HB2'.out.thaw 6, HB2'.out.thaw 7, HB2'.out.thaw 8, HB2'.out.thaw 9⟩ : _ ∧ _ ∧ _ ∧ _ ∧ _ ∧ _ ∧ _ ∧ _ ∧ _ ∧ _)
  go_wp2_with fail
  clear x0 x1 x2 x3 x4 x5 x6 x7 x8 x9 y0 y1 y2 y3 y4 y5 y6 y7 y8 y9 t0 t1 t2 t3 t4 t5 t6 t7 t8 t9 u0 u1 u2 u3 u4 u5 u6 u7 u8 u9
  obtain ⟨p1, p2⟩ := puts10 (v0 := .int .i64 f.pc) (v1 := .int .u32 (rk f 0)) (v2 := .int .u32 (rk f 1)) (v3 := .int .u32 (rk f 2)) (v4 := .int .u32 (rk f 3)) (v5 := .int .u32 (rk f 4)) (v6 := .int .u32 (rk f 5)) (v7 := .int .u32 (rk f 6)) (v8 := .int .u32 (rk f 7)) (v9 := .slice T' nT c') (w := w2.setCell ⟨w.heap.size, 9, none⟩ (.slice T' nT c')) (HB2'.out.chg ((Chg.refl (fun i => i = w.heap.size) w2).set (p := ⟨w.heap.size, 9, none⟩) (.inl rfl) _) (by omega))
  refine bodyPost_ret (v := .agg #[.int .i64 f.pc, .int .u32 (rk f 0), .int .u32 (rk f 1), .int .u32 (rk f 2), .int .u32 (rk f 3), .int .u32 (rk f 4), .int .u32 (rk f 5), .int .u32 (rk f 6), .int .u32 (rk f 7), .slice T' nT c']) (results_cell_row Tryd.results47 _ _ (w.heap.size + 1) 44 #[.int .i64 f.pc, .int .u32 (rk f 0), .int .u32 (rk f 1), .int .u32 (rk f 2), .int .u32 (rk f 3), .int .u32 (rk f 4), .int .u32 (rk f 5), .int .u32 (rk f 6), .int .u32 (rk f 7), .slice T' nT c'] (0, 0) _ rfl p1 Tryd.underlying44 rfl frm_size) rfl ?_
  have hc9 : Chg (fun i => i = w.heap.size) w2 (w2.setCell ⟨w.heap.size, 9, none⟩ (.slice T' nT c')) := (Chg.refl (fun i => i = w.heap.size) w2).set (p := ⟨w.heap.size, 9, none⟩) (.inl rfl) _
  refine ⟨T', c', rfl, ?_, chg_nw (chg_nw HS2.out hc9 (Nat.le_refl _)) p2 (Nat.le_succ _)⟩
  refine (HO.out.chg hc9 fun g hg he => ?_).chg p2 fun g hg he => ?_
  · exact HO.out.ne HB1'.out (by decide) g hg he
  · exact HO.out.ne HB2'.out (by decide) g hg he
end Go.Proofs.YtiipdeionmndcaaDoor.Fr
end
end
section
set_option linter.unusedVariables false
set_option linter.unusedSimpArgs false
namespace Go.Proofs.YtiipdeionmndcaaDoor.Fr
open Go.ChangeShapes Go.WideShapes Go.ChangeAt Go.RowKit Ws
open Go.Proofs.YtiipdeionmndcaaDoor.Fp (Ins at_ Fine at_some)
open Go.Proofs.YtiipdeionmndcaaDoor.Fw (Prg okB ckE check_any okB_fine rightI)
open Go.Proofs.YtiipdeionmndcaaDoor.Is (Tabs)
section
variable {w0 w : World} {R : Nat → Prop} {g gm : Nat} {s : SS} {T : Option Addr} {nT cT : Nat} {A : Option Addr} {m cA : Nat} {oa ol : Int}

def mayB (p : List Ins) (s : SS) (oa ol : Int) : Bool := rightF (okB p) p s.f && (decide (0 < ol) && Mm.inB s.ws.length oa ol)
theorem cst_len (l : List Nat) : (cst l).length = l.length := by unfold cst; simp
set_option maxRecDepth 100000 in
set_option maxHeartbeats 4000000 in
theorem may_any {p : List Ins} (h : W13 w0 w R g gm s T nT cT A m cA oa ol) (hp : Prg w0 A p) (ht : Tabs w0) (hl : p.length = m) (hm : m ≤ 5000) (hn : nT ≤ 5000) :
    Calls Tryd.prog 48 #[.pointer (some ⟨g, 0, none⟩)] w fun e w' => e = .returned (.bool (mayB p s oa ol)) ∧ Same w w' := by
  have H := Lib.hid h
  have RT := Lib.hid (fun (w' : World) (hs : Same w w') => fright_any s.f T nT cT A m cA p w' hl hm (hp.same (h.base.trans hs)) (ht.same (h.base.trans hs)) ((h.tn.row).same hs) h.len hn)
  obtain ⟨z0, z1, z2, z3, z4, z5, z6, z7, z8, z9, z10, z11, z12, z13⟩ := (⟨h.wk.cell 0, h.wk.cell 1, h.wk.cell 2, h.wk.cell 3, h.wk.cell 4, h.wk.cell 5, h.wk.cell 6, h.wk.cell 7, h.wk.cell 8, h.wk.cell 9, h.wk.cell 10, h.wk.cell 11, h.wk.cell 12, h.wk.cell 13⟩ : _ ∧ _ ∧ _ ∧ _ ∧ _ ∧ _ ∧ _ ∧ _ ∧ _ ∧ _ ∧ _ ∧ _ ∧ _ ∧ _)
  simp only [List.getElem?_toArray, List.getElem?_cons_zero, List.getElem?_cons_succ] at z0 z1 z2 z3 z4 z5 z6 z7 z8 z9 z10 z11 z12 z13
  have HB : mayB p s oa ol = (rightF (okB p) p s.f && (decide (0 < ol) && Mm.inB s.ws.length oa ol)) := rfl
  have LN := Lib.hid (fun (w' : World) (hs : Same w w') => Mm.len_any w' (h.mem.same hs))
  have IN := Lib.hid (fun (w' : World) => Mm.inside_any ((cst s.ws).length : Int) oa ol (by have := h.mem.short; omega) w')
  rw [← cst_len] at HB
  clear h hp ht hl
  obtain ⟨bb, hbb⟩ : ∃ b, b = mayB p s oa ol := ⟨_, rfl⟩
  rw [← hbb] at HB ⊢
  have HBB := Lib.hid HB
  clear hbb HB
  generalize (cst s.ws).length = nw at *
  cases hr : rightF (okB p) p s.f with
  | false =>
    rw [hr] at RT HBB
    clear hr
    go_enter Tryd.func48, Tryd.ntmps48
    go_wp2_with fail
    refine wp_region_held_drew (S := (fun w' => w'.cell? ⟨g, 0, none⟩ = some (.int .i64 s.f.pc) ∧ w'.cell? ⟨g, 1, none⟩ = some (.int .u32 (rk s.f 0)) ∧ w'.cell? ⟨g, 2, none⟩ = some (.int .u32 (rk s.f 1)) ∧ w'.cell? ⟨g, 3, none⟩ = some (.int .u32 (rk s.f 2)) ∧ w'.cell? ⟨g, 4, none⟩ = some (.int .u32 (rk s.f 3)) ∧ w'.cell? ⟨g, 5, none⟩ = some (.int .u32 (rk s.f 4)) ∧ w'.cell? ⟨g, 6, none⟩ = some (.int .u32 (rk s.f 5)) ∧ w'.cell? ⟨g, 7, none⟩ = some (.int .u32 (rk s.f 6)) ∧ w'.cell? ⟨g, 8, none⟩ = some (.int .u32 (rk s.f 7)) ∧ w'.cell? ⟨g, 9, none⟩ = some (.slice T nT cT) ∧ w'.cell? ⟨g, 10, none⟩ = some (.slice A m cA) ∧ w'.cell? ⟨g, 11, none⟩ = some (.pointer (some ⟨gm, 0, none⟩)) ∧ w'.cell? ⟨g, 12, none⟩ = some (.int .i64 oa) ∧ w'.cell? ⟨g, 13, none⟩ = some (.int .i64 ol))) (by kernel_rfl) ?_ (fun hHeld => ?_)
    · exact ⟨z0, z1, z2, z3, z4, z5, z6, z7, z8, z9, z10, z11, z12, z13⟩
    first
      | (refine Ro.take_off (i := 0) rfl (by kernel_rfl) (by kernel_rfl) (by kernel_rfl) (fun _ _ _ h => h) (by rfl) (by assumption) ?_)
      | (refine Ro.take_on (i := 0) (v := ?_) rfl (by kernel_rfl) (by kernel_rfl) (by kernel_rfl) (fun _ _ _ h => h) (by rfl) (by assumption) ?_ ?_; rotate_left; · (intro wS hSw; (try dsimp only at hSw); go_simp; try with_reducible rfl))
    try simp only [Act.put, List.setIfInBounds_toArray, List.set_cons_zero, List.set_cons_succ]
    first
      | (refine Ro.take_off (i := 1) rfl (by kernel_rfl) (by kernel_rfl) (by kernel_rfl) (fun _ _ _ h => h) (by rfl) (by assumption) ?_)
      | (refine Ro.take_on (i := 1) (v := ?_) rfl (by kernel_rfl) (by kernel_rfl) (by kernel_rfl) (fun _ _ _ h => h) (by rfl) (by assumption) ?_ ?_; rotate_left; · (intro wS hSw; (try dsimp only at hSw); go_simp; try with_reducible rfl))
    try simp only [Act.put, List.setIfInBounds_toArray, List.set_cons_zero, List.set_cons_succ]
    first
      | (refine Ro.take_off (i := 2) rfl (by kernel_rfl) (by kernel_rfl) (by kernel_rfl) (fun _ _ _ h => h) (by rfl) (by assumption) ?_)
      | (refine Ro.take_on (i := 2) (v := ?_) rfl (by kernel_rfl) (by kernel_rfl) (by kernel_rfl) (fun _ _ _ h => h) (by rfl) (by assumption) ?_ ?_; rotate_left; · (intro wS hSw; (try dsimp only at hSw); go_simp; try with_reducible rfl))
    try simp only [Act.put, List.setIfInBounds_toArray, List.set_cons_zero, List.set_cons_succ]
    first
      | (refine Ro.take_off (i := 3) rfl (by kernel_rfl) (by kernel_rfl) (by kernel_rfl) (fun _ _ _ h => h) (by rfl) (by assumption) ?_)
      | (refine Ro.take_on (i := 3) (v := ?_) rfl (by kernel_rfl) (by kernel_rfl) (by kernel_rfl) (fun _ _ _ h => h) (by rfl) (by assumption) ?_ ?_; rotate_left; · (intro wS hSw; (try dsimp only at hSw); go_simp; try with_reducible rfl))
    try simp only [Act.put, List.setIfInBounds_toArray, List.set_cons_zero, List.set_cons_succ]
    first
      | (refine Ro.take_off (i := 4) rfl (by kernel_rfl) (by kernel_rfl) (by kernel_rfl) (fun _ _ _ h => h) (by rfl) (by assumption) ?_)
      | (refine Ro.take_on (i := 4) (v := ?_) rfl (by kernel_rfl) (by kernel_rfl) (by kernel_rfl) (fun _ _ _ h => h) (by rfl) (by assumption) ?_ ?_; rotate_left; · (intro wS hSw; (try dsimp only at hSw); go_simp; try with_reducible rfl))
    try simp only [Act.put, List.setIfInBounds_toArray, List.set_cons_zero, List.set_cons_succ]
    first
      | (refine Ro.take_off (i := 5) rfl (by kernel_rfl) (by kernel_rfl) (by kernel_rfl) (fun _ _ _ h => h) (by rfl) (by assumption) ?_)
      | (refine Ro.take_on (i := 5) (v := ?_) rfl (by kernel_rfl) (by kernel_rfl) (by kernel_rfl) (fun _ _ _ h => h) (by rfl) (by assumption) ?_ ?_; rotate_left; · (intro wS hSw; (try dsimp only at hSw); go_simp; try with_reducible rfl))
    try simp only [Act.put, List.setIfInBounds_toArray, List.set_cons_zero, List.set_cons_succ]
    first
      | (refine Ro.take_off (i := 6) rfl (by kernel_rfl) (by kernel_rfl) (by kernel_rfl) (fun _ _ _ h => h) (by rfl) (by assumption) ?_)
      | (refine Ro.take_on (i := 6) (v := ?_) rfl (by kernel_rfl) (by kernel_rfl) (by kernel_rfl) (fun _ _ _ h => h) (by rfl) (by assumption) ?_ ?_; rotate_left; · (intro wS hSw; (try dsimp only at hSw); go_simp; try with_reducible rfl))
    try simp only [Act.put, List.setIfInBounds_toArray, List.set_cons_zero, List.set_cons_succ]
    first
      | (refine Ro.take_off (i := 7) rfl (by kernel_rfl) (by kernel_rfl) (by kernel_rfl) (fun _ _ _ h => h) (by rfl) (by assumption) ?_)
      | (refine Ro.take_on (i := 7) (v := ?_) rfl (by kernel_rfl) (by kernel_rfl) (by kernel_rfl) (fun _ _ _ h => h) (by rfl) (by assumption) ?_ ?_; rotate_left; · (intro wS hSw; (try dsimp only at hSw); go_simp; try with_reducible rfl))
    try simp only [Act.put, List.setIfInBounds_toArray, List.set_cons_zero, List.set_cons_succ]
    first
      | (refine Ro.take_off (i := 8) rfl (by kernel_rfl) (by kernel_rfl) (by kernel_rfl) (fun _ _ _ h => h) (by rfl) (by assumption) ?_)
      | (refine Ro.one_on (i := 8) rfl (by kernel_rfl) (by rfl) (fun K hK => ?_); go_simp; go_at_call 21; (refine (RT.out _ ((Same.refl w).drew)).mono ?_; rintro e w3 ⟨rfl, s3⟩); (first | refine hK.out _ _ ?_ (fun hNew => ?_) | (go_wp2_with fail; refine hK.out _ _ ?_ (fun hNew => ?_))); (· (exact ⟨s3.cell hHeld.1, s3.cell hHeld.2.1, s3.cell hHeld.2.2.1, s3.cell hHeld.2.2.2.1, s3.cell hHeld.2.2.2.2.1, s3.cell hHeld.2.2.2.2.2.1, s3.cell hHeld.2.2.2.2.2.2.1, s3.cell hHeld.2.2.2.2.2.2.2.1, s3.cell hHeld.2.2.2.2.2.2.2.2.1, s3.cell hHeld.2.2.2.2.2.2.2.2.2.1, s3.cell hHeld.2.2.2.2.2.2.2.2.2.2.1, s3.cell hHeld.2.2.2.2.2.2.2.2.2.2.2.1, s3.cell hHeld.2.2.2.2.2.2.2.2.2.2.2.2.1, s3.cell hHeld.2.2.2.2.2.2.2.2.2.2.2.2.2⟩)); clear hK K hHeld; have hHeld := hNew; clear hNew)
    try simp only [Act.put, List.setIfInBounds_toArray, List.set_cons_zero, List.set_cons_succ]
    first
      | (refine Ro.take_off (i := 9) rfl (by kernel_rfl) (by kernel_rfl) (by kernel_rfl) (fun _ _ _ h => h) (by rfl) (by assumption) ?_)
      | (refine Ro.take_on (i := 9) (v := ?_) rfl (by kernel_rfl) (by kernel_rfl) (by kernel_rfl) (fun _ _ _ h => h) (by rfl) (by assumption) ?_ ?_; rotate_left; · (intro wS hSw; (try dsimp only at hSw); go_simp; try with_reducible rfl))
    try simp only [Act.put, List.setIfInBounds_toArray, List.set_cons_zero, List.set_cons_succ]
    first
      | (refine Ro.take_off (i := 10) rfl (by kernel_rfl) (by kernel_rfl) (by kernel_rfl) (fun _ _ _ h => h) (by rfl) (by assumption) ?_)
      | (refine Ro.take_on (i := 10) (v := ?_) rfl (by kernel_rfl) (by kernel_rfl) (by kernel_rfl) (fun _ _ _ h => h) (by rfl) (by assumption) ?_ ?_; rotate_left; · (intro wS hSw; (try dsimp only at hSw); go_simp; try with_reducible rfl))
    try simp only [Act.put, List.setIfInBounds_toArray, List.set_cons_zero, List.set_cons_succ]
    first
      | (refine Ro.take_off (i := 11) rfl (by kernel_rfl) (by kernel_rfl) (by kernel_rfl) (fun _ _ _ h => h) (by rfl) (by assumption) ?_)
      | (refine Ro.take_on (i := 11) (v := ?_) rfl (by kernel_rfl) (by kernel_rfl) (by kernel_rfl) (fun _ _ _ h => h) (by rfl) (by assumption) ?_ ?_; rotate_left; · (intro wS hSw; (try dsimp only at hSw); go_simp; try with_reducible rfl))
    try simp only [Act.put, List.setIfInBounds_toArray, List.set_cons_zero, List.set_cons_succ]
    first
      | (refine Ro.take_off (i := 12) rfl (by kernel_rfl) (by kernel_rfl) (by kernel_rfl) (fun _ _ _ h => h) (by rfl) (by assumption) ?_)
      | (refine Ro.take_on (i := 12) (v := ?_) rfl (by kernel_rfl) (by kernel_rfl) (by kernel_rfl) (fun _ _ _ h => h) (by rfl) (by assumption) ?_ ?_; rotate_left; · (intro wS hSw; (try dsimp only at hSw); go_simp; try with_reducible rfl))
    try simp only [Act.put, List.setIfInBounds_toArray, List.set_cons_zero, List.set_cons_succ]
    first
      | (refine Ro.take_off (i := 13) rfl (by kernel_rfl) (by kernel_rfl) (by kernel_rfl) (fun _ _ _ h => h) (by rfl) (by assumption) ?_)
      | (refine Ro.take_on (i := 13) (v := ?_) rfl (by kernel_rfl) (by kernel_rfl) (by kernel_rfl) (fun _ _ _ h => h) (by rfl) (by assumption) ?_ ?_; rotate_left; · (intro wS hSw; (try dsimp only at hSw); go_simp; try with_reducible rfl))
    try simp only [Act.put, List.setIfInBounds_toArray, List.set_cons_zero, List.set_cons_succ]
    first
      | (refine Ro.take_off (i := 14) rfl (by kernel_rfl) (by kernel_rfl) (by kernel_rfl) (fun _ _ _ h => h) (by rfl) (by assumption) ?_)
      | (refine Ro.take_on (i := 14) (v := ?_) rfl (by kernel_rfl) (by kernel_rfl) (by kernel_rfl) (fun _ _ _ h => h) (by rfl) (by assumption) ?_ ?_; rotate_left; · (intro wS hSw; (try dsimp only at hSw); go_simp; try with_reducible rfl))
    try simp only [Act.put, List.setIfInBounds_toArray, List.set_cons_zero, List.set_cons_succ]
    first
      | (refine Ro.take_off (i := 15) rfl (by kernel_rfl) (by kernel_rfl) (by kernel_rfl) (fun _ _ _ h => h) (by rfl) (by assumption) ?_)
      | (refine Ro.take_on (i := 15) (v := ?_) rfl (by kernel_rfl) (by kernel_rfl) (by kernel_rfl) (fun _ _ _ h => h) (by rfl) (by assumption) ?_ ?_; rotate_left; · (intro wS hSw; (try dsimp only at hSw); go_simp; try with_reducible rfl))
    try simp only [Act.put, List.setIfInBounds_toArray, List.set_cons_zero, List.set_cons_succ]
    first
      | (refine Ro.take_off (i := 16) rfl (by kernel_rfl) (by kernel_rfl) (by kernel_rfl) (fun _ _ _ h => h) (by rfl) (by assumption) ?_)
      | (refine Ro.take_on (i := 16) (v := ?_) rfl (by kernel_rfl) (by kernel_rfl) (by kernel_rfl) (fun _ _ _ h => h) (by rfl) (by assumption) ?_ ?_; rotate_left; · (intro wS hSw; (try dsimp only at hSw); go_simp; try with_reducible rfl))
    try simp only [Act.put, List.setIfInBounds_toArray, List.set_cons_zero, List.set_cons_succ]
    first
      | (refine Ro.take_off (i := 17) rfl (by kernel_rfl) (by kernel_rfl) (by kernel_rfl) (fun _ _ _ h => h) (by rfl) (by assumption) ?_)
      | (refine Ro.take_on (i := 17) (v := ?_) rfl (by kernel_rfl) (by kernel_rfl) (by kernel_rfl) (fun _ _ _ h => h) (by rfl) (by assumption) ?_ ?_; rotate_left; · (intro wS hSw; (try dsimp only at hSw); go_simp; try with_reducible rfl))
    try simp only [Act.put, List.setIfInBounds_toArray, List.set_cons_zero, List.set_cons_succ]
    first
      | (refine Ro.take_off (i := 18) rfl (by kernel_rfl) (by kernel_rfl) (by kernel_rfl) (fun _ _ _ h => h) (by rfl) (by assumption) ?_)
      | (refine Ro.take_on (i := 18) (v := ?_) rfl (by kernel_rfl) (by kernel_rfl) (by kernel_rfl) (fun _ _ _ h => h) (by rfl) (by assumption) ?_ ?_; rotate_left; · (intro wS hSw; (try dsimp only at hSw); go_simp; try with_reducible rfl))
    try simp only [Act.put, List.setIfInBounds_toArray, List.set_cons_zero, List.set_cons_succ]
    first
      | (refine Ro.take_off (i := 19) rfl (by kernel_rfl) (by kernel_rfl) (by kernel_rfl) (fun _ _ _ h => h) (by rfl) (by assumption) ?_)
      | (refine Ro.take_on (i := 19) (v := ?_) rfl (by kernel_rfl) (by kernel_rfl) (by kernel_rfl) (fun _ _ _ h => h) (by rfl) (by assumption) ?_ ?_; rotate_left; · (intro wS hSw; (try dsimp only at hSw); go_simp; try with_reducible rfl))
    try simp only [Act.put, List.setIfInBounds_toArray, List.set_cons_zero, List.set_cons_succ]
    first
      | (refine Ro.take_off (i := 20) rfl (by kernel_rfl) (by kernel_rfl) (by kernel_rfl) (fun _ _ _ h => h) (by rfl) (by assumption) ?_)
      | (refine Ro.take_on (i := 20) (v := ?_) rfl (by kernel_rfl) (by kernel_rfl) (by kernel_rfl) (fun _ _ _ h => h) (by rfl) (by assumption) ?_ ?_; rotate_left; · (intro wS hSw; (try dsimp only at hSw); go_simp; try with_reducible rfl))
    try simp only [Act.put, List.setIfInBounds_toArray, List.set_cons_zero, List.set_cons_succ]
    first
      | (refine Ro.take_off (i := 21) rfl (by kernel_rfl) (by kernel_rfl) (by kernel_rfl) (fun _ _ _ h => h) (by rfl) (by assumption) ?_)
      | (refine Ro.take_on (i := 21) (v := ?_) rfl (by kernel_rfl) (by kernel_rfl) (by kernel_rfl) (fun _ _ _ h => h) (by rfl) (by assumption) ?_ ?_; rotate_left; · (intro wS hSw; (try dsimp only at hSw); go_simp; try with_reducible rfl))
    try simp only [Act.put, List.setIfInBounds_toArray, List.set_cons_zero, List.set_cons_succ]
    first
      | (refine Ro.take_off (i := 22) rfl (by kernel_rfl) (by kernel_rfl) (by kernel_rfl) (fun _ _ _ h => h) (by rfl) (by assumption) ?_)
      | (refine Ro.take_on (i := 22) (v := ?_) rfl (by kernel_rfl) (by kernel_rfl) (by kernel_rfl) (fun _ _ _ h => h) (by rfl) (by assumption) ?_ ?_; rotate_left; · (intro wS hSw; (try dsimp only at hSw); go_simp; try with_reducible rfl))
    try simp only [Act.put, List.setIfInBounds_toArray, List.set_cons_zero, List.set_cons_succ]
    first
      | (refine Ro.take_off (i := 23) rfl (by kernel_rfl) (by kernel_rfl) (by kernel_rfl) (fun _ _ _ h => h) (by rfl) (by assumption) ?_)
      | (refine Ro.take_on (i := 23) (v := ?_) rfl (by kernel_rfl) (by kernel_rfl) (by kernel_rfl) (fun _ _ _ h => h) (by rfl) (by assumption) ?_ ?_; rotate_left; · (intro wS hSw; (try dsimp only at hSw); go_simp; try with_reducible rfl))
    try simp only [Act.put, List.setIfInBounds_toArray, List.set_cons_zero, List.set_cons_succ]
    first
      | (refine Ro.take_off (i := 24) rfl (by kernel_rfl) (by kernel_rfl) (by kernel_rfl) (fun _ _ _ h => h) (by rfl) (by assumption) ?_)
      | (refine Ro.take_on (i := 24) (v := ?_) rfl (by kernel_rfl) (by kernel_rfl) (by kernel_rfl) (fun _ _ _ h => h) (by rfl) (by assumption) ?_ ?_; rotate_left; · (intro wS hSw; (try dsimp only at hSw); go_simp; try with_reducible rfl))
    try simp only [Act.put, List.setIfInBounds_toArray, List.set_cons_zero, List.set_cons_succ]
    first
      | (refine Ro.take_off (i := 25) rfl (by kernel_rfl) (by kernel_rfl) (by kernel_rfl) (fun _ _ _ h => h) (by rfl) (by assumption) ?_)
      | (refine Ro.take_on (i := 25) (v := ?_) rfl (by kernel_rfl) (by kernel_rfl) (by kernel_rfl) (fun _ _ _ h => h) (by rfl) (by assumption) ?_ ?_; rotate_left; · (intro wS hSw; (try dsimp only at hSw); go_simp; try with_reducible rfl))
    try simp only [Act.put, List.setIfInBounds_toArray, List.set_cons_zero, List.set_cons_succ]
    first
      | (refine Ro.take_off (i := 26) rfl (by kernel_rfl) (by kernel_rfl) (by kernel_rfl) (fun _ _ _ h => h) (by rfl) (by assumption) ?_)
      | (refine Ro.take_on (i := 26) (v := ?_) rfl (by kernel_rfl) (by kernel_rfl) (by kernel_rfl) (fun _ _ _ h => h) (by rfl) (by assumption) ?_ ?_; rotate_left; · (intro wS hSw; (try dsimp only at hSw); go_simp; try with_reducible rfl))
    try simp only [Act.put, List.setIfInBounds_toArray, List.set_cons_zero, List.set_cons_succ]
    first
      | (refine Ro.take_off (i := 27) rfl (by kernel_rfl) (by kernel_rfl) (by kernel_rfl) (fun _ _ _ h => h) (by rfl) (by assumption) ?_)
      | (refine Ro.take_on (i := 27) (v := ?_) rfl (by kernel_rfl) (by kernel_rfl) (by kernel_rfl) (fun _ _ _ h => h) (by rfl) (by assumption) ?_ ?_; rotate_left; · (intro wS hSw; (try dsimp only at hSw); go_simp; try with_reducible rfl))
    try simp only [Act.put, List.setIfInBounds_toArray, List.set_cons_zero, List.set_cons_succ]
    first
      | (refine Ro.take_off (i := 28) rfl (by kernel_rfl) (by kernel_rfl) (by kernel_rfl) (fun _ _ _ h => h) (by rfl) (by assumption) ?_)
      | (refine Ro.take_on (i := 28) (v := ?_) rfl (by kernel_rfl) (by kernel_rfl) (by kernel_rfl) (fun _ _ _ h => h) (by rfl) (by assumption) ?_ ?_; rotate_left; · (intro wS hSw; (try dsimp only at hSw); go_simp; try with_reducible rfl))
    try simp only [Act.put, List.setIfInBounds_toArray, List.set_cons_zero, List.set_cons_succ]
    first
      | (refine Ro.take_off (i := 29) rfl (by kernel_rfl) (by kernel_rfl) (by kernel_rfl) (fun _ _ _ h => h) (by rfl) (by assumption) ?_)
      | (refine Ro.take_on (i := 29) (v := ?_) rfl (by kernel_rfl) (by kernel_rfl) (by kernel_rfl) (fun _ _ _ h => h) (by rfl) (by assumption) ?_ ?_; rotate_left; · (intro wS hSw; (try dsimp only at hSw); go_simp; try with_reducible rfl))
    try simp only [Act.put, List.setIfInBounds_toArray, List.set_cons_zero, List.set_cons_succ]
    refine wpAnyH_done (by kernel_rfl) ?_ _
    go_wp2_with fail
    go_ret
    exact ⟨ret_bool HBB.out.symm, (Same.refl w).drew.trans s3⟩
  | true =>
    rw [hr] at RT HBB
    clear hr
    by_cases h0 : 0 < ol
    · have h0' : decide (ol > 0) = true := decide_eq_true h0
      have HB2 := Lib.hid (show bb = Mm.inB nw oa ol by rw [HBB.out, decide_eq_true h0]; rfl)
      clear h0 HBB
      go_enter Tryd.func48, Tryd.ntmps48
      go_wp2_with fail
      refine wp_region_held_drew (S := (fun w' => w'.cell? ⟨g, 0, none⟩ = some (.int .i64 s.f.pc) ∧ w'.cell? ⟨g, 1, none⟩ = some (.int .u32 (rk s.f 0)) ∧ w'.cell? ⟨g, 2, none⟩ = some (.int .u32 (rk s.f 1)) ∧ w'.cell? ⟨g, 3, none⟩ = some (.int .u32 (rk s.f 2)) ∧ w'.cell? ⟨g, 4, none⟩ = some (.int .u32 (rk s.f 3)) ∧ w'.cell? ⟨g, 5, none⟩ = some (.int .u32 (rk s.f 4)) ∧ w'.cell? ⟨g, 6, none⟩ = some (.int .u32 (rk s.f 5)) ∧ w'.cell? ⟨g, 7, none⟩ = some (.int .u32 (rk s.f 6)) ∧ w'.cell? ⟨g, 8, none⟩ = some (.int .u32 (rk s.f 7)) ∧ w'.cell? ⟨g, 9, none⟩ = some (.slice T nT cT) ∧ w'.cell? ⟨g, 10, none⟩ = some (.slice A m cA) ∧ w'.cell? ⟨g, 11, none⟩ = some (.pointer (some ⟨gm, 0, none⟩)) ∧ w'.cell? ⟨g, 12, none⟩ = some (.int .i64 oa) ∧ w'.cell? ⟨g, 13, none⟩ = some (.int .i64 ol))) (by kernel_rfl) ?_ (fun hHeld => ?_)
      · exact ⟨z0, z1, z2, z3, z4, z5, z6, z7, z8, z9, z10, z11, z12, z13⟩
      first
        | (refine Ro.take_off (i := 0) rfl (by kernel_rfl) (by kernel_rfl) (by kernel_rfl) (fun _ _ _ h => h) (by rfl) (by assumption) ?_)
        | (refine Ro.take_on (i := 0) (v := ?_) rfl (by kernel_rfl) (by kernel_rfl) (by kernel_rfl) (fun _ _ _ h => h) (by rfl) (by assumption) ?_ ?_; rotate_left; · (intro wS hSw; (try dsimp only at hSw); go_simp; try with_reducible rfl))
      try simp only [Act.put, List.setIfInBounds_toArray, List.set_cons_zero, List.set_cons_succ]
      first
        | (refine Ro.take_off (i := 1) rfl (by kernel_rfl) (by kernel_rfl) (by kernel_rfl) (fun _ _ _ h => h) (by rfl) (by assumption) ?_)
        | (refine Ro.take_on (i := 1) (v := ?_) rfl (by kernel_rfl) (by kernel_rfl) (by kernel_rfl) (fun _ _ _ h => h) (by rfl) (by assumption) ?_ ?_; rotate_left; · (intro wS hSw; (try dsimp only at hSw); go_simp; try with_reducible rfl))
      try simp only [Act.put, List.setIfInBounds_toArray, List.set_cons_zero, List.set_cons_succ]
      first
        | (refine Ro.take_off (i := 2) rfl (by kernel_rfl) (by kernel_rfl) (by kernel_rfl) (fun _ _ _ h => h) (by rfl) (by assumption) ?_)
        | (refine Ro.take_on (i := 2) (v := ?_) rfl (by kernel_rfl) (by kernel_rfl) (by kernel_rfl) (fun _ _ _ h => h) (by rfl) (by assumption) ?_ ?_; rotate_left; · (intro wS hSw; (try dsimp only at hSw); go_simp; try with_reducible rfl))
      try simp only [Act.put, List.setIfInBounds_toArray, List.set_cons_zero, List.set_cons_succ]
      first
        | (refine Ro.take_off (i := 3) rfl (by kernel_rfl) (by kernel_rfl) (by kernel_rfl) (fun _ _ _ h => h) (by rfl) (by assumption) ?_)
        | (refine Ro.take_on (i := 3) (v := ?_) rfl (by kernel_rfl) (by kernel_rfl) (by kernel_rfl) (fun _ _ _ h => h) (by rfl) (by assumption) ?_ ?_; rotate_left; · (intro wS hSw; (try dsimp only at hSw); go_simp; try with_reducible rfl))
      try simp only [Act.put, List.setIfInBounds_toArray, List.set_cons_zero, List.set_cons_succ]
      first
        | (refine Ro.take_off (i := 4) rfl (by kernel_rfl) (by kernel_rfl) (by kernel_rfl) (fun _ _ _ h => h) (by rfl) (by assumption) ?_)
        | (refine Ro.take_on (i := 4) (v := ?_) rfl (by kernel_rfl) (by kernel_rfl) (by kernel_rfl) (fun _ _ _ h => h) (by rfl) (by assumption) ?_ ?_; rotate_left; · (intro wS hSw; (try dsimp only at hSw); go_simp; try with_reducible rfl))
      try simp only [Act.put, List.setIfInBounds_toArray, List.set_cons_zero, List.set_cons_succ]
      first
        | (refine Ro.take_off (i := 5) rfl (by kernel_rfl) (by kernel_rfl) (by kernel_rfl) (fun _ _ _ h => h) (by rfl) (by assumption) ?_)
        | (refine Ro.take_on (i := 5) (v := ?_) rfl (by kernel_rfl) (by kernel_rfl) (by kernel_rfl) (fun _ _ _ h => h) (by rfl) (by assumption) ?_ ?_; rotate_left; · (intro wS hSw; (try dsimp only at hSw); go_simp; try with_reducible rfl))
      try simp only [Act.put, List.setIfInBounds_toArray, List.set_cons_zero, List.set_cons_succ]
      first
        | (refine Ro.take_off (i := 6) rfl (by kernel_rfl) (by kernel_rfl) (by kernel_rfl) (fun _ _ _ h => h) (by rfl) (by assumption) ?_)
        | (refine Ro.take_on (i := 6) (v := ?_) rfl (by kernel_rfl) (by kernel_rfl) (by kernel_rfl) (fun _ _ _ h => h) (by rfl) (by assumption) ?_ ?_; rotate_left; · (intro wS hSw; (try dsimp only at hSw); go_simp; try with_reducible rfl))
      try simp only [Act.put, List.setIfInBounds_toArray, List.set_cons_zero, List.set_cons_succ]
      first
        | (refine Ro.take_off (i := 7) rfl (by kernel_rfl) (by kernel_rfl) (by kernel_rfl) (fun _ _ _ h => h) (by rfl) (by assumption) ?_)
        | (refine Ro.take_on (i := 7) (v := ?_) rfl (by kernel_rfl) (by kernel_rfl) (by kernel_rfl) (fun _ _ _ h => h) (by rfl) (by assumption) ?_ ?_; rotate_left; · (intro wS hSw; (try dsimp only at hSw); go_simp; try with_reducible rfl))
      try simp only [Act.put, List.setIfInBounds_toArray, List.set_cons_zero, List.set_cons_succ]
      first
        | (refine Ro.take_off (i := 8) rfl (by kernel_rfl) (by kernel_rfl) (by kernel_rfl) (fun _ _ _ h => h) (by rfl) (by assumption) ?_)
        | (refine Ro.one_on (i := 8) rfl (by kernel_rfl) (by rfl) (fun K hK => ?_); go_simp; go_at_call 21; (refine (RT.out _ ((Same.refl w).drew)).mono ?_; rintro e w3 ⟨rfl, s3⟩; have S3 := Lib.hid (((Same.refl w).drew).trans s3)); (first | refine hK.out _ _ ?_ (fun hNew => ?_) | (go_wp2_with fail; refine hK.out _ _ ?_ (fun hNew => ?_))); (· (exact ⟨s3.cell hHeld.1, s3.cell hHeld.2.1, s3.cell hHeld.2.2.1, s3.cell hHeld.2.2.2.1, s3.cell hHeld.2.2.2.2.1, s3.cell hHeld.2.2.2.2.2.1, s3.cell hHeld.2.2.2.2.2.2.1, s3.cell hHeld.2.2.2.2.2.2.2.1, s3.cell hHeld.2.2.2.2.2.2.2.2.1, s3.cell hHeld.2.2.2.2.2.2.2.2.2.1, s3.cell hHeld.2.2.2.2.2.2.2.2.2.2.1, s3.cell hHeld.2.2.2.2.2.2.2.2.2.2.2.1, s3.cell hHeld.2.2.2.2.2.2.2.2.2.2.2.2.1, s3.cell hHeld.2.2.2.2.2.2.2.2.2.2.2.2.2⟩)); clear hK K hHeld; have hHeld := hNew; clear hNew)
      try simp only [Act.put, List.setIfInBounds_toArray, List.set_cons_zero, List.set_cons_succ]
      first
        | (refine Ro.take_off (i := 9) rfl (by kernel_rfl) (by kernel_rfl) (by kernel_rfl) (fun _ _ _ h => h) (by rfl) (by assumption) ?_)
        | (refine Ro.take_on (i := 9) (v := ?_) rfl (by kernel_rfl) (by kernel_rfl) (by kernel_rfl) (fun _ _ _ h => h) (by rfl) (by assumption) ?_ ?_; rotate_left; · (intro wS hSw; (try dsimp only at hSw); go_simp; try with_reducible rfl))
      try simp only [Act.put, List.setIfInBounds_toArray, List.set_cons_zero, List.set_cons_succ]
      first
        | (refine Ro.take_off (i := 10) rfl (by kernel_rfl) (by kernel_rfl) (by kernel_rfl) (fun _ _ _ h => h) (by rfl) (by assumption) ?_)
        | (refine Ro.take_on (i := 10) (v := ?_) rfl (by kernel_rfl) (by kernel_rfl) (by kernel_rfl) (fun _ _ _ h => h) (by rfl) (by assumption) ?_ ?_; rotate_left; · (intro wS hSw; (try dsimp only at hSw); go_simp; try with_reducible rfl))
      try simp only [Act.put, List.setIfInBounds_toArray, List.set_cons_zero, List.set_cons_succ]
      first
        | (refine Ro.take_off (i := 11) rfl (by kernel_rfl) (by kernel_rfl) (by kernel_rfl) (fun _ _ _ h => h) (by rfl) (by assumption) ?_)
        | (refine Ro.take_on (i := 11) (v := ?_) rfl (by kernel_rfl) (by kernel_rfl) (by kernel_rfl) (fun _ _ _ h => h) (by rfl) (by assumption) ?_ ?_; rotate_left; · (intro wS hSw; (try dsimp only at hSw); go_simp; try with_reducible rfl))
      try simp only [Act.put, List.setIfInBounds_toArray, List.set_cons_zero, List.set_cons_succ]
      first
        | (refine Ro.take_off (i := 12) rfl (by kernel_rfl) (by kernel_rfl) (by kernel_rfl) (fun _ _ _ h => h) (by rfl) (by assumption) ?_)
        | (refine Ro.take_on (i := 12) (v := ?_) rfl (by kernel_rfl) (by kernel_rfl) (by kernel_rfl) (fun _ _ _ h => h) (by rfl) (by assumption) ?_ ?_; rotate_left; · (intro wS hSw; (try dsimp only at hSw); go_simp; try with_reducible rfl))
      try simp only [Act.put, List.setIfInBounds_toArray, List.set_cons_zero, List.set_cons_succ]
      first
        | (refine Ro.take_off (i := 13) rfl (by kernel_rfl) (by kernel_rfl) (by kernel_rfl) (fun _ _ _ h => h) (by rfl) (by assumption) ?_)
        | (refine Ro.take_on (i := 13) (v := ?_) rfl (by kernel_rfl) (by kernel_rfl) (by kernel_rfl) (fun _ _ _ h => h) (by rfl) (by assumption) ?_ ?_; rotate_left; · (intro wS hSw; (try dsimp only at hSw); go_simp; try with_reducible rfl))
      try simp only [Act.put, List.setIfInBounds_toArray, List.set_cons_zero, List.set_cons_succ]
      first
        | (refine Ro.take_off (i := 14) rfl (by kernel_rfl) (by kernel_rfl) (by kernel_rfl) (fun _ _ _ h => h) (by rfl) (by assumption) ?_)
        | (refine Ro.take_on (i := 14) (v := ?_) rfl (by kernel_rfl) (by kernel_rfl) (by kernel_rfl) (fun _ _ _ h => h) (by rfl) (by assumption) ?_ ?_; rotate_left; · (intro wS hSw; (try dsimp only at hSw); go_simp; try with_reducible rfl))
      try simp only [Act.put, List.setIfInBounds_toArray, List.set_cons_zero, List.set_cons_succ]
      first
        | (refine Ro.take_off (i := 15) rfl (by kernel_rfl) (by kernel_rfl) (by kernel_rfl) (fun _ _ _ h => h) (by rfl) (by assumption) ?_)
        | (refine Ro.take_on (i := 15) (v := ?_) rfl (by kernel_rfl) (by kernel_rfl) (by kernel_rfl) (fun _ _ _ h => h) (by rfl) (by assumption) ?_ ?_; rotate_left; · (intro wS hSw; (try dsimp only at hSw); go_simp; try with_reducible rfl))
      try simp only [Act.put, List.setIfInBounds_toArray, List.set_cons_zero, List.set_cons_succ]
      first
        | (refine Ro.take_off (i := 16) rfl (by kernel_rfl) (by kernel_rfl) (by kernel_rfl) (fun _ _ _ h => h) (by rfl) (by assumption) ?_)
        | (refine Ro.take_on (i := 16) (v := ?_) rfl (by kernel_rfl) (by kernel_rfl) (by kernel_rfl) (fun _ _ _ h => h) (by rfl) (by assumption) ?_ ?_; rotate_left; · (intro wS hSw; (try dsimp only at hSw); go_simp; try with_reducible rfl))
      try simp only [Act.put, List.setIfInBounds_toArray, List.set_cons_zero, List.set_cons_succ]
      first
        | (refine Ro.take_off (i := 17) rfl (by kernel_rfl) (by kernel_rfl) (by kernel_rfl) (fun _ _ _ h => h) (by rfl) (by assumption) ?_)
        | (refine Ro.take_on (i := 17) (v := ?_) rfl (by kernel_rfl) (by kernel_rfl) (by kernel_rfl) (fun _ _ _ h => h) (by rfl) (by assumption) ?_ ?_; rotate_left; · (intro wS hSw; (try dsimp only at hSw); go_simp; try with_reducible rfl))
      try simp only [Act.put, List.setIfInBounds_toArray, List.set_cons_zero, List.set_cons_succ]
      first
        | (refine Ro.take_off (i := 18) rfl (by kernel_rfl) (by kernel_rfl) (by kernel_rfl) (fun _ _ _ h => h) (by rfl) (by assumption) ?_)
        | (refine Ro.take_on (i := 18) (v := ?_) rfl (by kernel_rfl) (by kernel_rfl) (by kernel_rfl) (fun _ _ _ h => h) (by rfl) (by assumption) ?_ ?_; rotate_left; · (intro wS hSw; (try dsimp only at hSw); go_simp; try with_reducible rfl))
      try simp only [Act.put, List.setIfInBounds_toArray, List.set_cons_zero, List.set_cons_succ]
      first
        | (refine Ro.take_off (i := 19) rfl (by kernel_rfl) (by kernel_rfl) (by kernel_rfl) (fun _ _ _ h => h) (by rfl) (by assumption) ?_)
        | (refine Ro.take_on (i := 19) (v := ?_) rfl (by kernel_rfl) (by kernel_rfl) (by kernel_rfl) (fun _ _ _ h => h) (by rfl) (by assumption) ?_ ?_; rotate_left; · (intro wS hSw; (try dsimp only at hSw); go_simp; try with_reducible rfl))
      try simp only [Act.put, List.setIfInBounds_toArray, List.set_cons_zero, List.set_cons_succ]
      first
        | (refine Ro.take_off (i := 20) rfl (by kernel_rfl) (by kernel_rfl) (by kernel_rfl) (fun _ _ _ h => h) (by rfl) (by assumption) ?_)
        | (refine Ro.take_on (i := 20) (v := ?_) rfl (by kernel_rfl) (by kernel_rfl) (by kernel_rfl) (fun _ _ _ h => h) (by rfl) (by assumption) ?_ ?_; rotate_left; · (intro wS hSw; (try dsimp only at hSw); go_simp; try with_reducible rfl))
      try simp only [Act.put, List.setIfInBounds_toArray, List.set_cons_zero, List.set_cons_succ]
      first
        | (refine Ro.take_off (i := 21) rfl (by kernel_rfl) (by kernel_rfl) (by kernel_rfl) (fun _ _ _ h => h) (by rfl) (by assumption) ?_)
        | (refine Ro.take_on (i := 21) (v := ?_) rfl (by kernel_rfl) (by kernel_rfl) (by kernel_rfl) (fun _ _ _ h => h) (by rfl) (by assumption) ?_ ?_; rotate_left; · (intro wS hSw; (try dsimp only at hSw); go_simp; try with_reducible rfl))
      try simp only [Act.put, List.setIfInBounds_toArray, List.set_cons_zero, List.set_cons_succ]
      first
        | (refine Ro.take_off (i := 23) rfl (by kernel_rfl) (by kernel_rfl) (by kernel_rfl) (fun _ _ _ h => h) (by rfl) (by assumption) ?_)
        | (refine Ro.take_on (i := 23) (v := ?_) rfl (by kernel_rfl) (by kernel_rfl) (by kernel_rfl) (fun _ _ _ h => h) (by rfl) (by assumption) ?_ ?_; rotate_left; · (intro wS hSw; (try dsimp only at hSw); go_simp; try with_reducible rfl))
      try simp only [Act.put, List.setIfInBounds_toArray, List.set_cons_zero, List.set_cons_succ]
      first
        | (refine Ro.take_off (i := 24) rfl (by kernel_rfl) (by kernel_rfl) (by kernel_rfl) (fun _ _ _ h => h) (by rfl) (by assumption) ?_)
        | (refine Ro.take_on (i := 24) (v := ?_) rfl (by kernel_rfl) (by kernel_rfl) (by kernel_rfl) (fun _ _ _ h => h) (by rfl) (by assumption) ?_ ?_; rotate_left; · (intro wS hSw; (try dsimp only at hSw); go_simp; try with_reducible rfl))
      try simp only [Act.put, List.setIfInBounds_toArray, List.set_cons_zero, List.set_cons_succ]
      first
        | (refine Ro.take_off (i := 25) rfl (by kernel_rfl) (by kernel_rfl) (by kernel_rfl) (fun _ _ _ h => h) (by rfl) (by assumption) ?_)
        | (refine Ro.take_on (i := 25) (v := ?_) rfl (by kernel_rfl) (by kernel_rfl) (by kernel_rfl) (fun _ _ _ h => h) (by rfl) (by assumption) ?_ ?_; rotate_left; · (intro wS hSw; (try dsimp only at hSw); go_simp; try with_reducible rfl))
      try simp only [Act.put, List.setIfInBounds_toArray, List.set_cons_zero, List.set_cons_succ]
      first
        | (refine Ro.take_off (i := 26) rfl (by kernel_rfl) (by kernel_rfl) (by kernel_rfl) (fun _ _ _ h => h) (by rfl) (by assumption) ?_)
        | (refine Ro.take_on (i := 26) (v := ?_) rfl (by kernel_rfl) (by kernel_rfl) (by kernel_rfl) (fun _ _ _ h => h) (by rfl) (by assumption) ?_ ?_; rotate_left; · (intro wS hSw; (try dsimp only at hSw); go_simp; try with_reducible rfl))
      try simp only [Act.put, List.setIfInBounds_toArray, List.set_cons_zero, List.set_cons_succ]
      first
        | (refine Ro.take_off (i := 22) rfl (by kernel_rfl) (by kernel_rfl) (by kernel_rfl) (fun _ _ _ h => h) (by rfl) (by assumption) ?_)
        | (refine Ro.one_on (i := 22) rfl (by kernel_rfl) (by rfl) (fun K hK => ?_); go_simp; go_at_call 53; (refine (LN.out _ S3.out).mono ?_; rintro e w4 ⟨rfl, rfl⟩); (first | refine hK.out _ _ ?_ (fun hNew => ?_) | (go_wp2_with fail; refine hK.out _ _ ?_ (fun hNew => ?_))); (· (exact hHeld)); clear hK K hHeld; have hHeld := hNew; clear hNew)
      try simp only [Act.put, List.setIfInBounds_toArray, List.set_cons_zero, List.set_cons_succ]
      first
        | (refine Ro.take_off (i := 27) rfl (by kernel_rfl) (by kernel_rfl) (by kernel_rfl) (fun _ _ _ h => h) (by rfl) (by assumption) ?_)
        | (refine Ro.one_on (i := 27) rfl (by kernel_rfl) (by rfl) (fun K hK => ?_); go_simp; go_at_call 74; (refine (IN.out _).mono ?_; rintro e w5 ⟨rfl, s5⟩); (first | refine hK.out _ _ ?_ (fun hNew => ?_) | (go_wp2_with fail; refine hK.out _ _ ?_ (fun hNew => ?_))); (· (exact ⟨s5.cell hHeld.1, s5.cell hHeld.2.1, s5.cell hHeld.2.2.1, s5.cell hHeld.2.2.2.1, s5.cell hHeld.2.2.2.2.1, s5.cell hHeld.2.2.2.2.2.1, s5.cell hHeld.2.2.2.2.2.2.1, s5.cell hHeld.2.2.2.2.2.2.2.1, s5.cell hHeld.2.2.2.2.2.2.2.2.1, s5.cell hHeld.2.2.2.2.2.2.2.2.2.1, s5.cell hHeld.2.2.2.2.2.2.2.2.2.2.1, s5.cell hHeld.2.2.2.2.2.2.2.2.2.2.2.1, s5.cell hHeld.2.2.2.2.2.2.2.2.2.2.2.2.1, s5.cell hHeld.2.2.2.2.2.2.2.2.2.2.2.2.2⟩)); clear hK K hHeld; have hHeld := hNew; clear hNew)
      try simp only [Act.put, List.setIfInBounds_toArray, List.set_cons_zero, List.set_cons_succ]
      first
        | (refine Ro.take_off (i := 28) rfl (by kernel_rfl) (by kernel_rfl) (by kernel_rfl) (fun _ _ _ h => h) (by rfl) (by assumption) ?_)
        | (refine Ro.take_on (i := 28) (v := ?_) rfl (by kernel_rfl) (by kernel_rfl) (by kernel_rfl) (fun _ _ _ h => h) (by rfl) (by assumption) ?_ ?_; rotate_left; · (intro wS hSw; (try dsimp only at hSw); go_simp; try with_reducible rfl))
      try simp only [Act.put, List.setIfInBounds_toArray, List.set_cons_zero, List.set_cons_succ]
      first
        | (refine Ro.take_off (i := 29) rfl (by kernel_rfl) (by kernel_rfl) (by kernel_rfl) (fun _ _ _ h => h) (by rfl) (by assumption) ?_)
        | (refine Ro.take_on (i := 29) (v := ?_) rfl (by kernel_rfl) (by kernel_rfl) (by kernel_rfl) (fun _ _ _ h => h) (by rfl) (by assumption) ?_ ?_; rotate_left; · (intro wS hSw; (try dsimp only at hSw); go_simp; try with_reducible rfl))
      try simp only [Act.put, List.setIfInBounds_toArray, List.set_cons_zero, List.set_cons_succ]
      refine wpAnyH_done (by kernel_rfl) ?_ _
      go_wp2_with fail
      go_ret
      exact ⟨ret_bool HB2.out.symm, S3.out.trans s5⟩
    · have h0' : decide (ol > 0) = false := decide_eq_false h0
      have HB2 := Lib.hid (show bb = false by rw [HBB.out, decide_eq_false h0]; rfl)
      clear h0 HBB
      go_enter Tryd.func48, Tryd.ntmps48
      go_wp2_with fail
      refine wp_region_held_drew (S := (fun w' => w'.cell? ⟨g, 0, none⟩ = some (.int .i64 s.f.pc) ∧ w'.cell? ⟨g, 1, none⟩ = some (.int .u32 (rk s.f 0)) ∧ w'.cell? ⟨g, 2, none⟩ = some (.int .u32 (rk s.f 1)) ∧ w'.cell? ⟨g, 3, none⟩ = some (.int .u32 (rk s.f 2)) ∧ w'.cell? ⟨g, 4, none⟩ = some (.int .u32 (rk s.f 3)) ∧ w'.cell? ⟨g, 5, none⟩ = some (.int .u32 (rk s.f 4)) ∧ w'.cell? ⟨g, 6, none⟩ = some (.int .u32 (rk s.f 5)) ∧ w'.cell? ⟨g, 7, none⟩ = some (.int .u32 (rk s.f 6)) ∧ w'.cell? ⟨g, 8, none⟩ = some (.int .u32 (rk s.f 7)) ∧ w'.cell? ⟨g, 9, none⟩ = some (.slice T nT cT) ∧ w'.cell? ⟨g, 10, none⟩ = some (.slice A m cA) ∧ w'.cell? ⟨g, 11, none⟩ = some (.pointer (some ⟨gm, 0, none⟩)) ∧ w'.cell? ⟨g, 12, none⟩ = some (.int .i64 oa) ∧ w'.cell? ⟨g, 13, none⟩ = some (.int .i64 ol))) (by kernel_rfl) ?_ (fun hHeld => ?_)
      · exact ⟨z0, z1, z2, z3, z4, z5, z6, z7, z8, z9, z10, z11, z12, z13⟩
      first
        | (refine Ro.take_off (i := 0) rfl (by kernel_rfl) (by kernel_rfl) (by kernel_rfl) (fun _ _ _ h => h) (by rfl) (by assumption) ?_)
        | (refine Ro.take_on (i := 0) (v := ?_) rfl (by kernel_rfl) (by kernel_rfl) (by kernel_rfl) (fun _ _ _ h => h) (by rfl) (by assumption) ?_ ?_; rotate_left; · (intro wS hSw; (try dsimp only at hSw); go_simp; try with_reducible rfl))
      try simp only [Act.put, List.setIfInBounds_toArray, List.set_cons_zero, List.set_cons_succ]
      first
        | (refine Ro.take_off (i := 1) rfl (by kernel_rfl) (by kernel_rfl) (by kernel_rfl) (fun _ _ _ h => h) (by rfl) (by assumption) ?_)
        | (refine Ro.take_on (i := 1) (v := ?_) rfl (by kernel_rfl) (by kernel_rfl) (by kernel_rfl) (fun _ _ _ h => h) (by rfl) (by assumption) ?_ ?_; rotate_left; · (intro wS hSw; (try dsimp only at hSw); go_simp; try with_reducible rfl))
      try simp only [Act.put, List.setIfInBounds_toArray, List.set_cons_zero, List.set_cons_succ]
      first
        | (refine Ro.take_off (i := 2) rfl (by kernel_rfl) (by kernel_rfl) (by kernel_rfl) (fun _ _ _ h => h) (by rfl) (by assumption) ?_)
        | (refine Ro.take_on (i := 2) (v := ?_) rfl (by kernel_rfl) (by kernel_rfl) (by kernel_rfl) (fun _ _ _ h => h) (by rfl) (by assumption) ?_ ?_; rotate_left; · (intro wS hSw; (try dsimp only at hSw); go_simp; try with_reducible rfl))
      try simp only [Act.put, List.setIfInBounds_toArray, List.set_cons_zero, List.set_cons_succ]
      first
        | (refine Ro.take_off (i := 3) rfl (by kernel_rfl) (by kernel_rfl) (by kernel_rfl) (fun _ _ _ h => h) (by rfl) (by assumption) ?_)
        | (refine Ro.take_on (i := 3) (v := ?_) rfl (by kernel_rfl) (by kernel_rfl) (by kernel_rfl) (fun _ _ _ h => h) (by rfl) (by assumption) ?_ ?_; rotate_left; · (intro wS hSw; (try dsimp only at hSw); go_simp; try with_reducible rfl))
      try simp only [Act.put, List.setIfInBounds_toArray, List.set_cons_zero, List.set_cons_succ]
      first
        | (refine Ro.take_off (i := 4) rfl (by kernel_rfl) (by kernel_rfl) (by kernel_rfl) (fun _ _ _ h => h) (by rfl) (by assumption) ?_)
        | (refine Ro.take_on (i := 4) (v := ?_) rfl (by kernel_rfl) (by kernel_rfl) (by kernel_rfl) (fun _ _ _ h => h) (by rfl) (by assumption) ?_ ?_; rotate_left; · (intro wS hSw; (try dsimp only at hSw); go_simp; try with_reducible rfl))
      try simp only [Act.put, List.setIfInBounds_toArray, List.set_cons_zero, List.set_cons_succ]
      first
        | (refine Ro.take_off (i := 5) rfl (by kernel_rfl) (by kernel_rfl) (by kernel_rfl) (fun _ _ _ h => h) (by rfl) (by assumption) ?_)
        | (refine Ro.take_on (i := 5) (v := ?_) rfl (by kernel_rfl) (by kernel_rfl) (by kernel_rfl) (fun _ _ _ h => h) (by rfl) (by assumption) ?_ ?_; rotate_left; · (intro wS hSw; (try dsimp only at hSw); go_simp; try with_reducible rfl))
      try simp only [Act.put, List.setIfInBounds_toArray, List.set_cons_zero, List.set_cons_succ]
      first
        | (refine Ro.take_off (i := 6) rfl (by kernel_rfl) (by kernel_rfl) (by kernel_rfl) (fun _ _ _ h => h) (by rfl) (by assumption) ?_)
        | (refine Ro.take_on (i := 6) (v := ?_) rfl (by kernel_rfl) (by kernel_rfl) (by kernel_rfl) (fun _ _ _ h => h) (by rfl) (by assumption) ?_ ?_; rotate_left; · (intro wS hSw; (try dsimp only at hSw); go_simp; try with_reducible rfl))
      try simp only [Act.put, List.setIfInBounds_toArray, List.set_cons_zero, List.set_cons_succ]
      first
        | (refine Ro.take_off (i := 7) rfl (by kernel_rfl) (by kernel_rfl) (by kernel_rfl) (fun _ _ _ h => h) (by rfl) (by assumption) ?_)
        | (refine Ro.take_on (i := 7) (v := ?_) rfl (by kernel_rfl) (by kernel_rfl) (by kernel_rfl) (fun _ _ _ h => h) (by rfl) (by assumption) ?_ ?_; rotate_left; · (intro wS hSw; (try dsimp only at hSw); go_simp; try with_reducible rfl))
      try simp only [Act.put, List.setIfInBounds_toArray, List.set_cons_zero, List.set_cons_succ]
      first
        | (refine Ro.take_off (i := 8) rfl (by kernel_rfl) (by kernel_rfl) (by kernel_rfl) (fun _ _ _ h => h) (by rfl) (by assumption) ?_)
        | (refine Ro.one_on (i := 8) rfl (by kernel_rfl) (by rfl) (fun K hK => ?_); go_simp; go_at_call 21; (refine (RT.out _ ((Same.refl w).drew)).mono ?_; rintro e w3 ⟨rfl, s3⟩); (first | refine hK.out _ _ ?_ (fun hNew => ?_) | (go_wp2_with fail; refine hK.out _ _ ?_ (fun hNew => ?_))); (· (exact ⟨s3.cell hHeld.1, s3.cell hHeld.2.1, s3.cell hHeld.2.2.1, s3.cell hHeld.2.2.2.1, s3.cell hHeld.2.2.2.2.1, s3.cell hHeld.2.2.2.2.2.1, s3.cell hHeld.2.2.2.2.2.2.1, s3.cell hHeld.2.2.2.2.2.2.2.1, s3.cell hHeld.2.2.2.2.2.2.2.2.1, s3.cell hHeld.2.2.2.2.2.2.2.2.2.1, s3.cell hHeld.2.2.2.2.2.2.2.2.2.2.1, s3.cell hHeld.2.2.2.2.2.2.2.2.2.2.2.1, s3.cell hHeld.2.2.2.2.2.2.2.2.2.2.2.2.1, s3.cell hHeld.2.2.2.2.2.2.2.2.2.2.2.2.2⟩)); clear hK K hHeld; have hHeld := hNew; clear hNew)
      try simp only [Act.put, List.setIfInBounds_toArray, List.set_cons_zero, List.set_cons_succ]
      first
        | (refine Ro.take_off (i := 9) rfl (by kernel_rfl) (by kernel_rfl) (by kernel_rfl) (fun _ _ _ h => h) (by rfl) (by assumption) ?_)
        | (refine Ro.take_on (i := 9) (v := ?_) rfl (by kernel_rfl) (by kernel_rfl) (by kernel_rfl) (fun _ _ _ h => h) (by rfl) (by assumption) ?_ ?_; rotate_left; · (intro wS hSw; (try dsimp only at hSw); go_simp; try with_reducible rfl))
      try simp only [Act.put, List.setIfInBounds_toArray, List.set_cons_zero, List.set_cons_succ]
      first
        | (refine Ro.take_off (i := 10) rfl (by kernel_rfl) (by kernel_rfl) (by kernel_rfl) (fun _ _ _ h => h) (by rfl) (by assumption) ?_)
        | (refine Ro.take_on (i := 10) (v := ?_) rfl (by kernel_rfl) (by kernel_rfl) (by kernel_rfl) (fun _ _ _ h => h) (by rfl) (by assumption) ?_ ?_; rotate_left; · (intro wS hSw; (try dsimp only at hSw); go_simp; try with_reducible rfl))
      try simp only [Act.put, List.setIfInBounds_toArray, List.set_cons_zero, List.set_cons_succ]
      first
        | (refine Ro.take_off (i := 11) rfl (by kernel_rfl) (by kernel_rfl) (by kernel_rfl) (fun _ _ _ h => h) (by rfl) (by assumption) ?_)
        | (refine Ro.take_on (i := 11) (v := ?_) rfl (by kernel_rfl) (by kernel_rfl) (by kernel_rfl) (fun _ _ _ h => h) (by rfl) (by assumption) ?_ ?_; rotate_left; · (intro wS hSw; (try dsimp only at hSw); go_simp; try with_reducible rfl))
      try simp only [Act.put, List.setIfInBounds_toArray, List.set_cons_zero, List.set_cons_succ]
      first
        | (refine Ro.take_off (i := 12) rfl (by kernel_rfl) (by kernel_rfl) (by kernel_rfl) (fun _ _ _ h => h) (by rfl) (by assumption) ?_)
        | (refine Ro.take_on (i := 12) (v := ?_) rfl (by kernel_rfl) (by kernel_rfl) (by kernel_rfl) (fun _ _ _ h => h) (by rfl) (by assumption) ?_ ?_; rotate_left; · (intro wS hSw; (try dsimp only at hSw); go_simp; try with_reducible rfl))
      try simp only [Act.put, List.setIfInBounds_toArray, List.set_cons_zero, List.set_cons_succ]
      first
        | (refine Ro.take_off (i := 13) rfl (by kernel_rfl) (by kernel_rfl) (by kernel_rfl) (fun _ _ _ h => h) (by rfl) (by assumption) ?_)
        | (refine Ro.take_on (i := 13) (v := ?_) rfl (by kernel_rfl) (by kernel_rfl) (by kernel_rfl) (fun _ _ _ h => h) (by rfl) (by assumption) ?_ ?_; rotate_left; · (intro wS hSw; (try dsimp only at hSw); go_simp; try with_reducible rfl))
      try simp only [Act.put, List.setIfInBounds_toArray, List.set_cons_zero, List.set_cons_succ]
      first
        | (refine Ro.take_off (i := 14) rfl (by kernel_rfl) (by kernel_rfl) (by kernel_rfl) (fun _ _ _ h => h) (by rfl) (by assumption) ?_)
        | (refine Ro.take_on (i := 14) (v := ?_) rfl (by kernel_rfl) (by kernel_rfl) (by kernel_rfl) (fun _ _ _ h => h) (by rfl) (by assumption) ?_ ?_; rotate_left; · (intro wS hSw; (try dsimp only at hSw); go_simp; try with_reducible rfl))
      try simp only [Act.put, List.setIfInBounds_toArray, List.set_cons_zero, List.set_cons_succ]
      first
        | (refine Ro.take_off (i := 15) rfl (by kernel_rfl) (by kernel_rfl) (by kernel_rfl) (fun _ _ _ h => h) (by rfl) (by assumption) ?_)
        | (refine Ro.take_on (i := 15) (v := ?_) rfl (by kernel_rfl) (by kernel_rfl) (by kernel_rfl) (fun _ _ _ h => h) (by rfl) (by assumption) ?_ ?_; rotate_left; · (intro wS hSw; (try dsimp only at hSw); go_simp; try with_reducible rfl))
      try simp only [Act.put, List.setIfInBounds_toArray, List.set_cons_zero, List.set_cons_succ]
      first
        | (refine Ro.take_off (i := 16) rfl (by kernel_rfl) (by kernel_rfl) (by kernel_rfl) (fun _ _ _ h => h) (by rfl) (by assumption) ?_)
        | (refine Ro.take_on (i := 16) (v := ?_) rfl (by kernel_rfl) (by kernel_rfl) (by kernel_rfl) (fun _ _ _ h => h) (by rfl) (by assumption) ?_ ?_; rotate_left; · (intro wS hSw; (try dsimp only at hSw); go_simp; try with_reducible rfl))
      try simp only [Act.put, List.setIfInBounds_toArray, List.set_cons_zero, List.set_cons_succ]
      first
        | (refine Ro.take_off (i := 17) rfl (by kernel_rfl) (by kernel_rfl) (by kernel_rfl) (fun _ _ _ h => h) (by rfl) (by assumption) ?_)
        | (refine Ro.take_on (i := 17) (v := ?_) rfl (by kernel_rfl) (by kernel_rfl) (by kernel_rfl) (fun _ _ _ h => h) (by rfl) (by assumption) ?_ ?_; rotate_left; · (intro wS hSw; (try dsimp only at hSw); go_simp; try with_reducible rfl))
      try simp only [Act.put, List.setIfInBounds_toArray, List.set_cons_zero, List.set_cons_succ]
      first
        | (refine Ro.take_off (i := 18) rfl (by kernel_rfl) (by kernel_rfl) (by kernel_rfl) (fun _ _ _ h => h) (by rfl) (by assumption) ?_)
        | (refine Ro.take_on (i := 18) (v := ?_) rfl (by kernel_rfl) (by kernel_rfl) (by kernel_rfl) (fun _ _ _ h => h) (by rfl) (by assumption) ?_ ?_; rotate_left; · (intro wS hSw; (try dsimp only at hSw); go_simp; try with_reducible rfl))
      try simp only [Act.put, List.setIfInBounds_toArray, List.set_cons_zero, List.set_cons_succ]
      first
        | (refine Ro.take_off (i := 19) rfl (by kernel_rfl) (by kernel_rfl) (by kernel_rfl) (fun _ _ _ h => h) (by rfl) (by assumption) ?_)
        | (refine Ro.take_on (i := 19) (v := ?_) rfl (by kernel_rfl) (by kernel_rfl) (by kernel_rfl) (fun _ _ _ h => h) (by rfl) (by assumption) ?_ ?_; rotate_left; · (intro wS hSw; (try dsimp only at hSw); go_simp; try with_reducible rfl))
      try simp only [Act.put, List.setIfInBounds_toArray, List.set_cons_zero, List.set_cons_succ]
      first
        | (refine Ro.take_off (i := 20) rfl (by kernel_rfl) (by kernel_rfl) (by kernel_rfl) (fun _ _ _ h => h) (by rfl) (by assumption) ?_)
        | (refine Ro.take_on (i := 20) (v := ?_) rfl (by kernel_rfl) (by kernel_rfl) (by kernel_rfl) (fun _ _ _ h => h) (by rfl) (by assumption) ?_ ?_; rotate_left; · (intro wS hSw; (try dsimp only at hSw); go_simp; try with_reducible rfl))
      try simp only [Act.put, List.setIfInBounds_toArray, List.set_cons_zero, List.set_cons_succ]
      first
        | (refine Ro.take_off (i := 21) rfl (by kernel_rfl) (by kernel_rfl) (by kernel_rfl) (fun _ _ _ h => h) (by rfl) (by assumption) ?_)
        | (refine Ro.take_on (i := 21) (v := ?_) rfl (by kernel_rfl) (by kernel_rfl) (by kernel_rfl) (fun _ _ _ h => h) (by rfl) (by assumption) ?_ ?_; rotate_left; · (intro wS hSw; (try dsimp only at hSw); go_simp; try with_reducible rfl))
      try simp only [Act.put, List.setIfInBounds_toArray, List.set_cons_zero, List.set_cons_succ]
      first
        | (refine Ro.take_off (i := 22) rfl (by kernel_rfl) (by kernel_rfl) (by kernel_rfl) (fun _ _ _ h => h) (by rfl) (by assumption) ?_)
        | (refine Ro.take_on (i := 22) (v := ?_) rfl (by kernel_rfl) (by kernel_rfl) (by kernel_rfl) (fun _ _ _ h => h) (by rfl) (by assumption) ?_ ?_; rotate_left; · (intro wS hSw; (try dsimp only at hSw); go_simp; try with_reducible rfl))
      try simp only [Act.put, List.setIfInBounds_toArray, List.set_cons_zero, List.set_cons_succ]
      first
        | (refine Ro.take_off (i := 23) rfl (by kernel_rfl) (by kernel_rfl) (by kernel_rfl) (fun _ _ _ h => h) (by rfl) (by assumption) ?_)
        | (refine Ro.take_on (i := 23) (v := ?_) rfl (by kernel_rfl) (by kernel_rfl) (by kernel_rfl) (fun _ _ _ h => h) (by rfl) (by assumption) ?_ ?_; rotate_left; · (intro wS hSw; (try dsimp only at hSw); go_simp; try with_reducible rfl))
      try simp only [Act.put, List.setIfInBounds_toArray, List.set_cons_zero, List.set_cons_succ]
      first
        | (refine Ro.take_off (i := 24) rfl (by kernel_rfl) (by kernel_rfl) (by kernel_rfl) (fun _ _ _ h => h) (by rfl) (by assumption) ?_)
        | (refine Ro.take_on (i := 24) (v := ?_) rfl (by kernel_rfl) (by kernel_rfl) (by kernel_rfl) (fun _ _ _ h => h) (by rfl) (by assumption) ?_ ?_; rotate_left; · (intro wS hSw; (try dsimp only at hSw); go_simp; try with_reducible rfl))
      try simp only [Act.put, List.setIfInBounds_toArray, List.set_cons_zero, List.set_cons_succ]
      first
        | (refine Ro.take_off (i := 25) rfl (by kernel_rfl) (by kernel_rfl) (by kernel_rfl) (fun _ _ _ h => h) (by rfl) (by assumption) ?_)
        | (refine Ro.take_on (i := 25) (v := ?_) rfl (by kernel_rfl) (by kernel_rfl) (by kernel_rfl) (fun _ _ _ h => h) (by rfl) (by assumption) ?_ ?_; rotate_left; · (intro wS hSw; (try dsimp only at hSw); go_simp; try with_reducible rfl))
      try simp only [Act.put, List.setIfInBounds_toArray, List.set_cons_zero, List.set_cons_succ]
      first
        | (refine Ro.take_off (i := 26) rfl (by kernel_rfl) (by kernel_rfl) (by kernel_rfl) (fun _ _ _ h => h) (by rfl) (by assumption) ?_)
        | (refine Ro.take_on (i := 26) (v := ?_) rfl (by kernel_rfl) (by kernel_rfl) (by kernel_rfl) (fun _ _ _ h => h) (by rfl) (by assumption) ?_ ?_; rotate_left; · (intro wS hSw; (try dsimp only at hSw); go_simp; try with_reducible rfl))
      try simp only [Act.put, List.setIfInBounds_toArray, List.set_cons_zero, List.set_cons_succ]
      first
        | (refine Ro.take_off (i := 27) rfl (by kernel_rfl) (by kernel_rfl) (by kernel_rfl) (fun _ _ _ h => h) (by rfl) (by assumption) ?_)
        | (refine Ro.take_on (i := 27) (v := ?_) rfl (by kernel_rfl) (by kernel_rfl) (by kernel_rfl) (fun _ _ _ h => h) (by rfl) (by assumption) ?_ ?_; rotate_left; · (intro wS hSw; (try dsimp only at hSw); go_simp; try with_reducible rfl))
      try simp only [Act.put, List.setIfInBounds_toArray, List.set_cons_zero, List.set_cons_succ]
      first
        | (refine Ro.take_off (i := 28) rfl (by kernel_rfl) (by kernel_rfl) (by kernel_rfl) (fun _ _ _ h => h) (by rfl) (by assumption) ?_)
        | (refine Ro.take_on (i := 28) (v := ?_) rfl (by kernel_rfl) (by kernel_rfl) (by kernel_rfl) (fun _ _ _ h => h) (by rfl) (by assumption) ?_ ?_; rotate_left; · (intro wS hSw; (try dsimp only at hSw); go_simp; try with_reducible rfl))
      try simp only [Act.put, List.setIfInBounds_toArray, List.set_cons_zero, List.set_cons_succ]
      first
        | (refine Ro.take_off (i := 29) rfl (by kernel_rfl) (by kernel_rfl) (by kernel_rfl) (fun _ _ _ h => h) (by rfl) (by assumption) ?_)
        | (refine Ro.take_on (i := 29) (v := ?_) rfl (by kernel_rfl) (by kernel_rfl) (by kernel_rfl) (fun _ _ _ h => h) (by rfl) (by assumption) ?_ ?_; rotate_left; · (intro wS hSw; (try dsimp only at hSw); go_simp; try with_reducible rfl))
      try simp only [Act.put, List.setIfInBounds_toArray, List.set_cons_zero, List.set_cons_succ]
      refine wpAnyH_done (by kernel_rfl) ?_ _
      go_wp2_with fail
      go_ret
      exact ⟨ret_bool HB2.out.symm, (Same.refl w).drew.trans s3⟩
end
end Go.Proofs.YtiipdeionmndcaaDoor.Fr
end
