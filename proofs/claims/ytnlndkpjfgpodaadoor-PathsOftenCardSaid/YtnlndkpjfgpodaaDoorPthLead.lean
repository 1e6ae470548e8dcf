/-

  Package paths (layer 11): ways are laid at a place (the closure lead of once).
-/
import Derived.Test.YtnlndkpjfgpodaaDoorPthRep
import Derived.Test.YtnlndkpjfgpodaaDoorPthCnt
import Derived.StillTailTactics
set_option linter.unusedVariables false
set_option linter.unusedSimpArgs false
namespace Go.Proofs.YtnlndkpjfgpodaaDoor.Pt
open Go.ChangeShapes Go.WideShapes Go.ChangeAt Go.RowKit Ws
open Go.Proofs.YtnlndkpjfgpodaaDoor.Wd (addv mulv wadd wmul)
open Go.Proofs.YtnlndkpjfgpodaaDoor.Wk (leadC)

set_option maxRecDepth 100000 in
theorem lead_any (q6 C c m : Nat) (l : List Int) (to : Nat) (n : Int) (w : World) (hm : l.length = m) (hto : to < m) (hmb : m ≤ 100000)
    (h6 : w.cell? ⟨q6, 0, none⟩ = some (.slice (some ⟨C, 0, none⟩) m c))
    (ho : Own w 0 3 (some ⟨C, 0, none⟩) c (l.map (Value.int .i64))) :
    Calls Tryd.prog 91 #[.int .i64 to, .int .i64 n, .pointer (some ⟨q6, 0, none⟩)] w fun e w' =>
      e = .returned (.tuple #[]) ∧ Own w' 0 3 (some ⟨C, 0, none⟩) c ((leadC l to n).map (Value.int .i64)) ∧ w' = w.drew.setCell ⟨C, to, none⟩ (.int .i64 (addv (l.getD to 0) n)) := by
  have B := Lib.hid (wadd (l.getD to 0) n)
  have HO := Lib.hid ho
  have k1 : (to : Int) < m := by omega
  have k0 : (0 : Int) ≤ to := by omega
  have x0 : w.cell? ⟨C, to, none⟩ = some (.int .i64 (l.getD to 0)) := by
    have := ho.row to (.int .i64 (l.getD to 0)) (by rw [List.getElem?_map, List.getD_eq_getElem?_getD, List.getElem?_eq_getElem (by omega)]; rfl)
    obtain ⟨b, o, e, hb⟩ := this
    injection e with e
    injection e with e1 e2
    subst e1 e2
    simpa using hb
  have f0 : w.frozen? ⟨C, to, none⟩ = false := by
    obtain ⟨g, e, _, _, hf⟩ := ho.thaw (by rw [List.length_map]; omega)
    injection e with e
    injection e with e1
    subst e1
    exact hf to
  have HE := Lib.hid (show leadC l to n = l.set to (addv (l.getD to 0) n) from by simp [leadC])
  clear ho hm hto
  generalize l.getD to 0 = v at *
  go_enter Tryd.func91, Tryd.ntmps91
  go_wp2_with fail
  go_still_tail 8, (by kernel_rfl)
  still_call (still_of (B.out _))
  refine wpStill_nil ?_
  change wpList _ _ _ _ _ w.drew
  have HOD := Lib.hid (HO.out.same (Same.refl _).drew)
  have x1 : w.drew.cell? ⟨C, to, none⟩ = some (.int .i64 v) := x0
  have f1 : w.drew.frozen? ⟨C, to, none⟩ = false := f0
  have E1 := Lib.hid (show w.drew = w.drew from rfl)
  clear x0 f0 h6
  obtain ⟨wd, hwd⟩ : ∃ wd, wd = w.drew := ⟨_, rfl⟩
  rw [← hwd] at HOD x1 f1
  rw [← hwd]
  have ED := Lib.hid hwd
  clear hwd E1
  go_wp2_with fail
  go_end0
  refine ⟨rfl, ?_, ?_⟩
  · have h := HOD.out.put to (.int .i64 (addv v n))
    rw [HE.out, List.map_set]
    exact h
  · rw [ED.out]
end Go.Proofs.YtnlndkpjfgpodaaDoor.Pt
