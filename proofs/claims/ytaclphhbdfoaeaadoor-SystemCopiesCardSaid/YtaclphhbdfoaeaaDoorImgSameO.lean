/-

  Layer 33: two objects held against each other.
-/
import Derived.Test.YtaclphhbdfoaeaaDoorImgOut
import Derived.Test.YtaclphhbdfoaeaaDoorObjIdx
import Derived.Deep.LoopGhost
import Derived.WalkKit
import Derived.WalkLawsBesides
import Derived.BigQuiet
import Derived.Test.YtaclphhbdfoaeaaDoorImgSame
section
section
section
set_option linter.unusedVariables false
set_option linter.unusedSimpArgs false
namespace Go.Proofs.YtaclphhbdfoaeaaDoor.Im
open Go.ChangeShapes Go.WideShapes Go.ChangeAt Go.RowKit Ws Cd

def may (s : St) (p : Item) : Prop := s.bad = false ∧ fit p = true ∧ s.bs.length + p.2 + 2 ≤ 65536
theorem lay1_yes {s : St} {p : Item} (h : may s p) : lay1 s p = ⟨s.bs ++ lo p.1 p.2, false⟩ := if_pos h
theorem lay1_no {s : St} {p : Item} (h : ¬ may s p) : lay1 s p = ⟨s.bs, true⟩ := if_neg h
end Go.Proofs.YtaclphhbdfoaeaaDoor.Im
end
section
set_option linter.unusedVariables false
set_option linter.unusedSimpArgs false
namespace Go.Proofs.YtaclphhbdfoaeaaDoor.Im
open Go.ChangeShapes Go.WideShapes Go.ChangeAt Go.RowKit Ws Cd

theorem sm_len (l : List Int) : (sm l).length = l.length := by simp [sm]
theorem lg_len (l : List Int) : (lg l).length = l.length := by simp [lg]
theorem fit_lo1 {s : St} {x : Int} (h : may s (x, 1)) : low (x % 4294967296) 1 = lo x 1 := by
  have h2 := h.2.1
  unfold fit at h2
  simp only [decide_eq_true_eq] at h2
  rw [Int.emod_eq_of_lt h2.1 (by omega)]
  rfl
theorem fit_lo4 {s : St} {x : Int} (h : may s (x, 4)) : low (x % 4294967296) 4 = lo x 4 := by
  have h2 := h.2.1
  unfold fit at h2
  simp only [decide_eq_true_eq] at h2
  rw [Int.emod_eq_of_lt h2.1 (by omega)]
  rfl
end Go.Proofs.YtaclphhbdfoaeaaDoor.Im
end
end
section
set_option linter.unusedVariables false
set_option linter.unusedSimpArgs false
namespace Go.Proofs.YtaclphhbdfoaeaaDoor.Im
open Go.ChangeShapes Go.WideShapes Go.ChangeAt Go.RowKit Ws Cd

theorem row_blk {w : World} {b : Nat} {t : TypeId} {cs : Array Value} (h : Blk w b t cs) : Row w (some ⟨b, 0, none⟩) cs.toList := by
  intro j u hj
  refine ⟨b, 0, rfl, ?_⟩
  rw [Nat.zero_add, h.cell j]
  simpa using hj
theorem ins_take {l : List Ins} {k : Nat} {x : Ins} (s : St) (h : l[k]? = some x) : lay (lay (lay s ((l.take k).flatMap itI)) (sm [x.op, x.a, x.b, x.c])) (lg [x.n]) = lay s ((l.take (k + 1)).flatMap itI) := by
  rw [List.take_add_one, h, List.flatMap_append, lay_app, ← lay_app]
  rfl
theorem task_all (s : St) (p : PT) : lay (lay (lay (lay s (sm [p.kind, p.prio])) (lg [p.per, p.off, p.dl])) (sm [p.own, p.code.length])) (p.code.flatMap itI) = lay s (itT p) := by
  unfold itT
  rw [lay_app, ← lay_app, ← lay_app]
  rfl
theorem ini_take {l : List Int} {k : Nat} {x : Int} (s : St) (h : l[k]? = some x) : lay (lay s (lg (l.take k))) (lg [x]) = lay s (lg (l.take (k + 1))) := by
  unfold lg
  rw [List.take_add_one, h, List.map_append, lay_app]
  rfl
theorem obj_all (s : St) (p : PO) : lay (lay (lay (lay (lay (lay s (sm [p.k, p.wd, p.sl, p.cp])) (lg [p.sa])) (sm [p.ow, p.rd.length])) (sm p.rd)) (sm [p.ini.length])) (lg p.ini) = lay s (itO p) := by
  have e : itO p = sm [p.k, p.wd, p.sl, p.cp] ++ (lg [p.sa] ++ (sm [p.ow, p.rd.length] ++ (sm p.rd ++ (sm [(p.ini.length : Int)] ++ lg p.ini)))) := rfl
  rw [e]
  simp only [lay_app]
theorem tc {w : World} {b : Nat} {T : TypeId} {v0 v1 v2 v3 v4 v5 v6 : Value} (h : Blk w b T #[v0, v1, v2, v3, v4, v5, v6]) : w.cell? ⟨b, 0, none⟩ = some v0 ∧ w.cell? ⟨b, 1, none⟩ = some v1 ∧ w.cell? ⟨b, 2, none⟩ = some v2 ∧ w.cell? ⟨b, 3, none⟩ = some v3 ∧ w.cell? ⟨b, 4, none⟩ = some v4 ∧ w.cell? ⟨b, 5, none⟩ = some v5 ∧ w.cell? ⟨b, 6, none⟩ = some v6 :=
  ⟨h.cell 0, h.cell 1, h.cell 2, h.cell 3, h.cell 4, h.cell 5, h.cell 6⟩
theorem oc {w : World} {b : Nat} {T : TypeId} {v0 v1 v2 v3 v4 v5 v6 v7 : Value} (h : Blk w b T #[v0, v1, v2, v3, v4, v5, v6, v7]) : w.cell? ⟨b, 0, none⟩ = some v0 ∧ w.cell? ⟨b, 1, none⟩ = some v1 ∧ w.cell? ⟨b, 2, none⟩ = some v2 ∧ w.cell? ⟨b, 3, none⟩ = some v3 ∧ w.cell? ⟨b, 4, none⟩ = some v4 ∧ w.cell? ⟨b, 5, none⟩ = some v5 ∧ w.cell? ⟨b, 6, none⟩ = some v6 ∧ w.cell? ⟨b, 7, none⟩ = some v7 :=
  ⟨h.cell 0, h.cell 1, h.cell 2, h.cell 3, h.cell 4, h.cell 5, h.cell 6, h.cell 7⟩
theorem ic {w : World} {b : Nat} {T : TypeId} {v0 v1 v2 v3 v4 : Value} (h : Blk w b T #[v0, v1, v2, v3, v4]) : w.cell? ⟨b, 0, none⟩ = some v0 ∧ w.cell? ⟨b, 1, none⟩ = some v1 ∧ w.cell? ⟨b, 2, none⟩ = some v2 ∧ w.cell? ⟨b, 3, none⟩ = some v3 ∧ w.cell? ⟨b, 4, none⟩ = some v4 :=
  ⟨h.cell 0, h.cell 1, h.cell 2, h.cell 3, h.cell 4⟩
end Go.Proofs.YtaclphhbdfoaeaaDoor.Im
end
end
section
set_option linter.unusedVariables false
set_option linter.unusedSimpArgs false
namespace Go.Proofs.YtaclphhbdfoaeaaDoor.Im
open Go.ChangeShapes Go.WideShapes Go.ChangeAt Go.RowKit Ws Cd

set_option maxRecDepth 100000 in
set_option maxHeartbeats 4000000 in
theorem objs_eq (a1 a2 a3 a4 a5 a6 b1 b2 b3 b4 b5 b6 : Int) (a7 b7 a8 b8 : List Int) (X Y Z V : Option Addr) (c d f g : Nat) (w : World) (h8 : Row w X (a8.map (Value.int .u32))) (k8 : Row w Z (b8.map (Value.int .u32))) (h7 : Row w Y (a7.map (Value.int .i64))) (k7 : Row w V (b7.map (Value.int .i64)))
    (l1 : a7.length ≤ 9223372036854775807 ∧ b7.length ≤ 9223372036854775807 ∧ a8.length ≤ 9223372036854775807 ∧ b8.length ≤ 9223372036854775807) (E : Bool) (hE : E = decide (a1 = b1 ∧ a2 = b2 ∧ a3 = b3 ∧ a4 = b4 ∧ a5 = b5 ∧ a8 = b8 ∧ a6 = b6 ∧ a7 = b7)) :
    Calls Tryd.prog 17 #[.agg #[.int .i64 a1, .int .i64 a2, .int .i64 a3, .int .i64 a4, .int .u32 a5, .slice X a8.length c, .int .i64 a6, .slice Y a7.length d], .agg #[.int .i64 b1, .int .i64 b2, .int .i64 b3, .int .i64 b4, .int .u32 b5, .slice Z b8.length f, .int .i64 b6, .slice V b7.length g]] w fun e w' => e = .returned (.bool E) ∧ Same w w' := by
  have EW := Lib.hid (fun w' (s : Same w w') => (words_eq X Z a8.length b8.length c f a8 b8 w' rfl rfl (h8.same s) (k8.same s) l1.2.2.1 l1.2.2.2).mono (fun e w2 ⟨h1, k, h2⟩ => (⟨h1, h2 ▸ (Same.refl w').drewN k⟩ : _ ∧ Same w' w2)))
  have EI := Lib.hid (fun w' (s : Same w w') => (ints_eq Y V a7.length b7.length d g a7 b7 w' rfl rfl (h7.same s) (k7.same s) l1.1 l1.2.1).mono (fun e w2 ⟨h1, k, h2⟩ => (⟨h1, h2 ▸ (Same.refl w').drewN k⟩ : _ ∧ Same w' w2)))
  have S2 := Lib.hid (((Same.refl w).alloc (.cells #[.int .i64 a1, .int .i64 a2, .int .i64 a3, .int .i64 a4, .int .u32 a5, .slice X a8.length c, .int .i64 a6, .slice Y a7.length d] 39)).alloc (.cells #[.int .i64 b1, .int .i64 b2, .int .i64 b3, .int .i64 b4, .int .u32 b5, .slice Z b8.length f, .int .i64 b6, .slice V b7.length g] 39))
  have hs2 := (Same.refl (w.alloc (.cells #[.int .i64 a1, .int .i64 a2, .int .i64 a3, .int .i64 a4, .int .u32 a5, .slice X a8.length c, .int .i64 a6, .slice Y a7.length d] 39))).alloc (.cells #[.int .i64 b1, .int .i64 b2, .int .i64 b3, .int .i64 b4, .int .u32 b5, .slice Z b8.length f, .int .i64 b6, .slice V b7.length g] 39)
  have hb2 := Blk.new (w.alloc (.cells #[.int .i64 a1, .int .i64 a2, .int .i64 a3, .int .i64 a4, .int .u32 a5, .slice X a8.length c, .int .i64 a6, .slice Y a7.length d] 39)) 39 #[.int .i64 b1, .int .i64 b2, .int .i64 b3, .int .i64 b4, .int .u32 b5, .slice Z b8.length f, .int .i64 b6, .slice V b7.length g]
  rw [show (w.alloc (.cells #[.int .i64 a1, .int .i64 a2, .int .i64 a3, .int .i64 a4, .int .u32 a5, .slice X a8.length c, .int .i64 a6, .slice Y a7.length d] 39)).heap.size = w.heap.size + 1 by simp] at hb2
  have HB1 := Lib.hid ((Blk.new w 39 #[.int .i64 a1, .int .i64 a2, .int .i64 a3, .int .i64 a4, .int .u32 a5, .slice X a8.length c, .int .i64 a6, .slice Y a7.length d]).same hs2)
  have HB2 := Lib.hid hb2
  clear h8 k8 h7 k7 l1 hs2 hb2
  by_cases h0 : a1 = b1
  rotate_left
  · have e0 : (a1 == b1) = false := by simpa using h0
    rw [decide_eq_false (fun h => h0 h.1)] at hE
    have HE := Lib.hid hE
    clear hE h0
    go_enter Tryd.func17, Tryd.ntmps17
    go_wp2_with fail
    go_ret
    exact ⟨ret_bool HE.out.symm, S2.out⟩
  have e0 : (a1 == b1) = true := by simpa using h0
  by_cases h1 : a2 = b2
  rotate_left
  · have e1 : (a2 == b2) = false := by simpa using h1
    rw [decide_eq_false (fun h => h1 h.2.1)] at hE
    have HE := Lib.hid hE
    clear hE h0 h1
    go_enter Tryd.func17, Tryd.ntmps17
    go_wp2_with fail
    go_ret
    exact ⟨ret_bool HE.out.symm, S2.out⟩
  have e1 : (a2 == b2) = true := by simpa using h1
  by_cases h2 : a3 = b3
  rotate_left
  · have e2 : (a3 == b3) = false := by simpa using h2
    rw [decide_eq_false (fun h => h2 h.2.2.1)] at hE
    have HE := Lib.hid hE
    clear hE h0 h1 h2
    go_enter Tryd.func17, Tryd.ntmps17
    go_wp2_with fail
    go_ret
    exact ⟨ret_bool HE.out.symm, S2.out⟩
  have e2 : (a3 == b3) = true := by simpa using h2
  by_cases h3 : a4 = b4
  rotate_left
  · have e3 : (a4 == b4) = false := by simpa using h3
    rw [decide_eq_false (fun h => h3 h.2.2.2.1)] at hE
    have HE := Lib.hid hE
    clear hE h0 h1 h2 h3
    go_enter Tryd.func17, Tryd.ntmps17
    go_wp2_with fail
    go_ret
    exact ⟨ret_bool HE.out.symm, S2.out⟩
  have e3 : (a4 == b4) = true := by simpa using h3
  by_cases h4 : a5 = b5
  rotate_left
  · have e4 : (a5 == b5) = false := by simpa using h4
    rw [decide_eq_false (fun h => h4 h.2.2.2.2.1)] at hE
    have HE := Lib.hid hE
    clear hE h0 h1 h2 h3 h4
    go_enter Tryd.func17, Tryd.ntmps17
    go_wp2_with fail
    go_ret
    exact ⟨ret_bool HE.out.symm, S2.out⟩
  have e4 : (a5 == b5) = true := by simpa using h4
  by_cases gEW : a8 = b8
  rotate_left
  · rw [decide_eq_false (fun h => gEW h.2.2.2.2.2.1)] at hE
    have HE := Lib.hid hE
    have HG := Lib.hid gEW
    clear hE gEW h0 h1 h2 h3 h4
    go_enter Tryd.func17, Tryd.ntmps17
    go_wp2_with fail
    refine (EW.out _ (S2.out)).mono ?_
    rintro e wEW ⟨rfl, sEW⟩
    obtain ⟨u0, u1, u2, u3, u4, u5, u6, u7⟩ := oc (HB1.out.same sEW)
    obtain ⟨v0, v1, v2, v3, v4, v5, v6, v7⟩ := oc (HB2.out.same sEW)
    go_wp2_with fail
    go_ret
    exact ⟨ret_bool HE.out.symm, (S2.out).trans sEW⟩
  have GEW := Lib.hid gEW
  clear gEW
  by_cases h6 : a6 = b6
  rotate_left
  · have e6 : (a6 == b6) = false := by simpa using h6
    rw [decide_eq_false (fun h => h6 h.2.2.2.2.2.2.1)] at hE
    have HE := Lib.hid hE
    clear hE h0 h1 h2 h3 h4 h6
    go_enter Tryd.func17, Tryd.ntmps17
    go_wp2_with fail
    refine (EW.out _ (S2.out)).mono ?_
    rintro e wEW ⟨rfl, sEW⟩
    rw [decide_eq_true GEW.out]
    obtain ⟨u0, u1, u2, u3, u4, u5, u6, u7⟩ := oc (HB1.out.same sEW)
    obtain ⟨v0, v1, v2, v3, v4, v5, v6, v7⟩ := oc (HB2.out.same sEW)
    go_wp2_with fail
    go_ret
    exact ⟨ret_bool HE.out.symm, (S2.out).trans sEW⟩
  have e6 : (a6 == b6) = true := by simpa using h6
  have hE2 : E = decide (a7 = b7) := by rw [hE, Bool.eq_iff_iff]; simp [h0, h1, h2, h3, h4, h6, GEW.out]
  have HE := Lib.hid hE2
  clear hE hE2 h0 h1 h2 h3 h4 h6
  go_enter Tryd.func17, Tryd.ntmps17
  go_wp2_with fail
  refine (EW.out _ (S2.out)).mono ?_
  rintro e wEW ⟨rfl, sEW⟩
  rw [decide_eq_true GEW.out]
  obtain ⟨u0, u1, u2, u3, u4, u5, u6, u7⟩ := oc (HB1.out.same sEW)
  obtain ⟨v0, v1, v2, v3, v4, v5, v6, v7⟩ := oc (HB2.out.same sEW)
  go_wp2_with fail
  refine (EI.out _ ((S2.out).trans sEW)).mono ?_
  rintro e wEI ⟨rfl, sEI⟩
  go_wp2_with fail
  go_ret
  exact ⟨ret_bool HE.out.symm, ((S2.out).trans sEW).trans sEI⟩
end Go.Proofs.YtaclphhbdfoaeaaDoor.Im
end
