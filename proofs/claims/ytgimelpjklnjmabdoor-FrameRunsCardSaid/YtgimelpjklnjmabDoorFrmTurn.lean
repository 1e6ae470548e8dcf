/-

  Layer 13: how often one went back (work.turned), a word swapped (work.swap).
-/
import Derived.Test.YtgimelpjklnjmabDoorFrmWork
set_option linter.unusedVariables false
set_option linter.unusedSimpArgs false
namespace Go.Proofs.YtgimelpjklnjmabDoor.Fr
open Go.ChangeShapes Go.WideShapes Go.ChangeAt Go.RowKit Ws
open Go.Proofs.YtgimelpjklnjmabDoor.Fp (Ins at_ Fine at_some)
open Go.Proofs.YtgimelpjklnjmabDoor.Fw (Prg okB ckE check_any okB_fine rightI)
open Go.Proofs.YtgimelpjklnjmabDoor.Is (Tabs)

/-- behind a call of the work -/
def Post13 (w0 w : World) (R : Nat → Prop) (g gm : Nat) (s' : SS) (T : Option Addr) (nT cT : Nat) (A : Option Addr) (m cA : Nat) (oa ol : Int) (v : Value) (e : Ending) (w' : World) : Prop :=
  e = .returned v ∧ W13 w0 w' R g gm s' T nT cT A m cA oa ol ∧ Chg (S13 R g T) w w'
section
variable {w0 w : World} {R : Nat → Prop} {g gm : Nat} {s : SS} {T : Option Addr} {nT cT : Nat} {A : Option Addr} {m cA : Nat} {oa ol : Int}
theorem W13.turn (h : W13 w0 w R g gm s T nT cT A m cA oa ol) {k : Nat} (hk : k < nT) : ∃ gt, T = some ⟨gt, 0, none⟩ ∧ w.cell? ⟨gt, k, none⟩ = some (.int .i64 (s.f.tn.getD k 0)) ∧ w.frozen? ⟨gt, k, none⟩ = false := by
  have hl : k < s.f.tn.length := by have := h.len; omega
  obtain ⟨gt, hT, _, _, hf⟩ := h.tn.thaw (by simp; omega)
  obtain ⟨b, o, hA, hc⟩ := h.tn.row k (.int .i64 (s.f.tn.getD k 0)) (by rw [List.getElem?_map, List.getElem?_eq_getElem hl, List.getD_eq_getElem?_getD, List.getElem?_eq_getElem hl]; rfl)
  have h2 := World.ownsRow.cells (show w.ownsRow w0.heap.size 3 1 (.slice (some ⟨gt, 0, none⟩) _ cT) _ _ from hT ▸ h.tn) (g := gt) rfl k (.int .i64 (s.f.tn.getD k 0)) (by rw [List.getElem?_map, List.getElem?_eq_getElem hl, List.getD_eq_getElem?_getD, List.getElem?_eq_getElem hl]; rfl)
  refine ⟨gt, hT, ?_, hf k⟩
  cases k with
  | zero => simpa [Addr.add] using h2
  | succ k => simpa [Addr.add] using h2
set_option maxRecDepth 100000 in
set_option maxHeartbeats 1000000 in
theorem turned_any (x : Ins) (h : W13 w0 w R g gm s T nT cT A m cA oa ol) (hk : 0 ≤ s.f.pc ∧ s.f.pc < nT) (hn : nT ≤ 5000) (hb : 0 ≤ tnv s.f ∧ tnv s.f ≤ 4611686018427387904) :
    Calls Tryd.prog 78 #[.pointer (some ⟨g, 0, none⟩), .agg #[.int .i64 x.op, .int .i64 x.a, .int .i64 x.b, .int .i64 x.c, .int .u32 x.n]] w
      (Post13 w0 w R g gm ⟨{ s.f with tn := if backB x s.f then s.f.tn.set s.f.pc.toNat (tnv s.f + 1) else s.f.tn.set s.f.pc.toNat 0 }, s.ws, s.st⟩ T nT cT A m cA oa ol (.bool (backB x s.f))) := by
  obtain ⟨w1, hw1⟩ : ∃ w1, w1 = w.alloc (.cells #[.int .i64 x.op, .int .i64 x.a, .int .i64 x.b, .int .i64 x.c, .int .u32 x.n] 40) := ⟨_, rfl⟩
  have hs1 : Same w w1 := hw1 ▸ (Same.refl w).alloc _
  have hb1 : Blk w1 w.heap.size 40 #[.int .i64 x.op, .int .i64 x.a, .int .i64 x.b, .int .i64 x.c, .int .u32 x.n] := hw1 ▸ Blk.new w _ _
  obtain ⟨k, hkk⟩ : ∃ k : Nat, s.f.pc = (k : Int) := ⟨s.f.pc.toNat, by omega⟩
  have hkn : k < nT := by omega
  have htn : s.f.pc.toNat = k := by omega
  have H1 := Lib.hid (h.of_same hs1)
  obtain ⟨gt, hT, ct, ft⟩ := H1.out.turn hkn
  have htv : tnv s.f = s.f.tn.getD k 0 := by unfold tnv; rw [htn]
  rw [← htv] at ct
  rw [htn]
  have y3 := hb1.cell 3
  have z0 := H1.out.wk.cell 0
  have z9 := H1.out.wk.cell 9
  simp only [List.getElem?_toArray, List.getElem?_cons_zero, List.getElem?_cons_succ] at y3 z0 z9
  rw [hkk] at z0
  subst hT
  have HS1 := Lib.hid hs1
  have E1 := Lib.hid hw1
  have HB := Lib.hid (show backB x s.f = decide (tnv s.f < x.c) from rfl)
  have HYES := Lib.hid (fun w' (hs : Same w1 w') => (H1.out.of_same hs).set_tn (gt := gt) rfl k (tnv s.f + 1))
  have HNO := Lib.hid (fun w' (hs : Same w1 w') => (H1.out.of_same hs).set_tn (gt := gt) rfl k 0)
  have i0 : (0 : Int) ≤ k := by omega
  have i1 : (k : Int) < nT := by omega
  have HK := Lib.hid hkk
  clear hs1 hw1 hb1 htv htn hkk hk h
  obtain ⟨hb0, hb2⟩ := hb
  generalize hvv : tnv s.f = v at *
  have HV := Lib.hid hvv
  clear hvv
  by_cases hlt : v < x.c
  · have hB : backB x s.f = true := by rw [HB.out]; exact decide_eq_true hlt
    rw [hB, if_pos rfl]
    clear HB hB HNO
    have hb3 : IntKind.i64.wrap (v + 1) = v + 1 := Go.IntWalk.i64_in _ (by omega)
    go_enter Tryd.func78, Tryd.ntmps78
    go_wp2_with fail
    rw [← E1.out]
    go_quiet (fail)
    have s2 : Same w1 (w1.drewN nq) := (Same.refl w1).drewN nq
    have S2 := Lib.hid s2
    have h2 := H1.out.of_same s2
    obtain ⟨y0, y9, _⟩ := h2.cs
    rw [HK.out] at y0
    have ct2 : (w1.drewN nq).cell? ⟨gt, k, none⟩ = some (.int .i64 v) := s2.cell ct
    have ft2 : (w1.drewN nq).frozen? ⟨gt, k, none⟩ = false := ft
    clear s2 h2 z0 z9 ct ft y3
    generalize w1.drewN nq = w2 at *
    go_wp2_with fail
    go_still_tail 14, (by kernel_rfl)
    change wpList _ _ _ _ _ w2.drew
    obtain ⟨h1, c1⟩ := HYES.out _ (S2.out.drew)
    have HH := Lib.hid h1
    have HC := Lib.hid ((HS1.out.chg _).trans (((S2.out.drew).chg _).trans c1))
    have ct3 : w2.drew.cell? ⟨gt, k, none⟩ = some (.int .i64 v) := ct2
    have ft3 : w2.drew.frozen? ⟨gt, k, none⟩ = false := ft2
    clear h1 c1 ct2 ft2 y0 y9
    go_wp2_with fail
    go_ret
    exact ⟨rfl, HH.out, HC.out⟩
  · have hB : backB x s.f = false := by rw [HB.out]; exact decide_eq_false hlt
    rw [hB, if_neg (by decide)]
    clear HB hB HYES
    go_enter Tryd.func78, Tryd.ntmps78
    go_wp2_with fail
    rw [← E1.out]
    go_quiet (fail)
    have s2 : Same w1 (w1.drewN nq) := (Same.refl w1).drewN nq
    have S2 := Lib.hid s2
    have h2 := H1.out.of_same s2
    obtain ⟨y0, y9, _⟩ := h2.cs
    rw [HK.out] at y0
    have ct2 : (w1.drewN nq).cell? ⟨gt, k, none⟩ = some (.int .i64 v) := s2.cell ct
    have ft2 : (w1.drewN nq).frozen? ⟨gt, k, none⟩ = false := ft
    clear s2 h2 z0 z9 ct ft y3
    generalize w1.drewN nq = w2 at *
    go_wp2_with fail
    go_still_tail 11, (by kernel_rfl)
    change wpList _ _ _ _ _ w2.drew
    obtain ⟨h1, c1⟩ := HNO.out _ (S2.out.drew)
    have HH := Lib.hid h1
    have HC := Lib.hid ((HS1.out.chg _).trans (((S2.out.drew).chg _).trans c1))
    have ct3 : w2.drew.cell? ⟨gt, k, none⟩ = some (.int .i64 v) := ct2
    have ft3 : w2.drew.frozen? ⟨gt, k, none⟩ = false := ft2
    clear h1 c1 ct2 ft2 y0 y9
    go_wp2_with fail
    go_ret
    exact ⟨rfl, HH.out, HC.out⟩
theorem mem_get (ws : List Nat) (j : Nat) (hj : j < (cst ws).length) : (cst ws)[j] = ((ws.getD j 0 : Nat) : Int) := by
  have h2 : j < ws.length := by simpa [cst] using hj
  simp [cst, h2]
theorem cst_set (ws : List Nat) (j v : Nat) : (cst ws).set j (v : Int) = cst (ws.set j v) := by unfold cst; rw [List.map_set]
theorem swap_any (j was now : Nat) (h : W13 w0 w R g gm s T nT cT A m cA oa ol) (hj : j < s.ws.length) (hst : 0 ≤ s.st ∧ s.st ≤ 4611686018427387904) :
    Calls Tryd.prog 81 #[.pointer (some ⟨g, 0, none⟩), .int .i64 (j : Int), .int .u32 (was : Int), .int .u32 (now : Int)] w
      (Post13 w0 w R g gm ⟨s.f, if s.ws.getD j 0 = was then s.ws.set j now else s.ws, s.st + 1⟩ T nT cT A m cA oa ol (.int .u32 (if s.ws.getD j 0 = was then 1 else 0))) := by
  have H := Lib.hid h
  have z11 := h.wk.cell 11
  simp only [List.getElem?_toArray, List.getElem?_cons_zero, List.getElem?_cons_succ] at z11
  have hjl : j < (cst s.ws).length := by unfold cst; simpa using hj
  have hw : wrap64 (s.st + 1) = s.st + 1 := Go.IntWalk.wrap64_in _ (by omega)
  by_cases he : s.ws.getD j 0 = was
  · rw [if_pos he, if_pos he]
    have CY := Lib.hid (Mm.cas_yes w h.mem j hjl (was : Int) (now : Int) (by rw [mem_get, he]; simp))
    rw [hw] at CY
    rw [cst_set] at CY
    clear he h hw hjl
    go_enter Tryd.func81, Tryd.ntmps81
    go_wp2_with fail
    refine CY.out.mono ?_
    rintro e w1 ⟨rfl, hm, hc⟩
    obtain ⟨h1, c1⟩ := H.out.set_mem hm hc
    have HH := Lib.hid h1
    have HC := Lib.hid c1
    clear hm hc h1 c1
    go_wp2_with fail
    go_ret
    exact ⟨rfl, HH.out, HC.out⟩
  · rw [if_neg he, if_neg he]
    have CN := Lib.hid (Mm.cas_no w h.mem j hjl (was : Int) (now : Int) (by rw [mem_get, bne_iff_ne]; intro h; exact he (by omega)))
    rw [hw] at CN
    clear he h hw hjl
    go_enter Tryd.func81, Tryd.ntmps81
    go_wp2_with fail
    refine CN.out.mono ?_
    rintro e w1 ⟨rfl, hm, hc⟩
    obtain ⟨h1, c1⟩ := H.out.set_mem hm hc
    have HH := Lib.hid h1
    have HC := Lib.hid c1
    clear hm hc h1 c1
    go_wp2_with fail
    go_ret
    exact ⟨rfl, HH.out, HC.out⟩
end
end Go.Proofs.YtgimelpjklnjmabDoor.Fr
