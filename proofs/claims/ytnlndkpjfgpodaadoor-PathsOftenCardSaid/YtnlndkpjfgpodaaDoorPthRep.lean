/-

  Package paths (layer 11): the ways of a part that is gone through so many times (repeat).
-/
import Derived.Test.YtnlndkpjfgpodaaDoorPthOften
import Derived.StillTailTactics
set_option linter.unusedVariables false
set_option linter.unusedSimpArgs false
namespace Go.Proofs.YtnlndkpjfgpodaaDoor.Pt
open Go.ChangeShapes Go.WideShapes Go.ChangeAt Go.RowKit Ws
open Go.Proofs.YtnlndkpjfgpodaaDoor.Wd (addv mulv wmul wadd ret_bool ret_int)
/-- ways through a part, and ways that end within it -/
structure Cw where
  thru : Int
  fin : Int
def repC (x : Cw) : Nat → Cw
  | 0 => ⟨1, 0⟩
  | n + 1 => ⟨mulv (repC x n).thru x.thru, addv (repC x n).fin (mulv (repC x n).thru x.fin)⟩
theorem still_of {P : Program} {f : FuncId} {l : Array Value} {w : World} {r : Value} (h : Calls P f l w fun e w' => e = .returned r ∧ w = w') : Calls P f l w fun e w' => e = .returned r ∧ w' = w := h.mono fun e w' ⟨h1, h2⟩ => ⟨h1, h2.symm⟩
def wyA (x : Cw) : Array Value := #[.int .i64 x.thru, .int .i64 x.fin]
set_option maxRecDepth 100000 in
theorem rep_any (x : Cw) (t : Int) (w : World) (ht : t ≤ 1000000) :
    Calls Tryd.prog 61 #[.agg #[.int .i64 x.thru, .int .i64 x.fin], .int .i64 t] w fun e w' =>
      e = .returned (.agg #[.int .i64 (repC x t.toNat).thru, .int .i64 (repC x t.toNat).fin]) ∧ Same w w' := by
  go_enter Tryd.func61, Tryd.ntmps61
  go_wp2_with fail
  go_loopg [8] t.toNat (fun gk iv wx => ∃ (k : Nat), k + gk = t.toNat ∧ iv = .int .i64 k ∧ Blk wx w.heap.size 109 (wyA x) ∧ (∃ u, Blk wx (w.heap.size + 1) 109 u ∧ u.size = 2) ∧ Blk wx (w.heap.size + 2) 109 (wyA (repC x k)) ∧ Same w wx)
  case atStart =>
    refine ⟨0, by omega, rfl, ?_, ⟨#[.int .i64 0, .int .i64 0], ?_, rfl⟩, ?_, ?_⟩
    · exact ((Blk.new w _ _).same ((Same.refl _).alloc _)).same ((Same.refl _).alloc _)
    · exact (show Blk _ (w.heap.size + 1) 109 _ from (by
        have h := Blk.new (w.alloc (.cells (wyA x) 109)) 109 #[.int .i64 0, .int .i64 0]
        rw [World.size_alloc] at h
        exact h.same ((Same.refl _).alloc _)))
    · have h := Blk.new ((w.alloc (.cells (wyA x) 109)).alloc (.cells #[.int .i64 0, .int .i64 0] 109)) 109 #[.int .i64 1, .int .i64 0]
      rw [World.size_alloc, World.size_alloc] at h
      exact h
    · exact (((Same.refl _).alloc _).alloc _).alloc _
  case round =>
    obtain ⟨k, hk, rfl, h4, ⟨u, h6, h6s⟩, h7, hs⟩ := hrel
    have H4 := Lib.hid h4
    have H6 := Lib.hid h6
    have H7 := Lib.hid h7
    have HS := Lib.hid hs
    clear h4 h7 h6 hs
    cases gk with
    | zero =>
      have hge : ¬ (k : Int) < t := by omega
      obtain rfl : k = t.toNat := by omega
      have y0 := H7.out.cell 0
      have y1 := H7.out.cell 1
      simp only [wyA, List.getElem?_toArray, List.getElem?_cons_zero, List.getElem?_cons_succ] at y0 y1
      obtain ⟨u0, u1, rfl⟩ : ∃ u0 u1, u = #[u0, u1] := by
        obtain ⟨l⟩ := u
        match l, h6s with
        | [a, b], _ => exact ⟨a, b, rfl⟩
      have z0 := H6.out.cell 0
      have z1 := H6.out.cell 1
      have f0 := H6.out.thaw 0
      have f1 := H6.out.thaw 1
      simp only [List.getElem?_toArray, List.getElem?_cons_zero, List.getElem?_cons_succ] at z0 z1
      obtain ⟨r, hr⟩ : ∃ r, r = repC x t.toNat := ⟨_, rfl⟩
      rw [← hr] at y0 y1
      have HR := Lib.hid hr
      clear hr
      go_wp2_with fail
      have hb1 := (H6.out.put 0 (.int .i64 r.thru)).put 1 (.int .i64 r.fin)
      have hs1 := HS.out.size
      refine bodyPost_ret (v := .agg #[.int .i64 r.thru, .int .i64 r.fin]) (results_cell_row Tryd.results61 _ _ (w.heap.size + 1) 109 #[.int .i64 r.thru, .int .i64 r.fin] (0, 0) _ rfl hb1 Tryd.underlying109 rfl (by kernel_rfl)) rfl ?_
      exact ⟨by rw [HR.out], Same.more (Same.more HS.out ((Chg.refl (fun i => i = w.heap.size + 1) _).set (p := ⟨w.heap.size + 1, 0, none⟩) (.inl rfl) _) (fun i hi => by omega)) ((Chg.refl (fun i => i = w.heap.size + 1) _).set (p := ⟨w.heap.size + 1, 1, none⟩) (.inl rfl) _) (fun i hi => by omega)⟩
    | succ GK =>
      have hlt : (k : Int) < t := by omega
      have HK := Lib.hid hk
      have x0 := H4.out.cell 0
      have x1 := H4.out.cell 1
      have y0 := H7.out.cell 0
      have y1 := H7.out.cell 1
      have u1 := H7.out.thaw 1
      have u0 := H7.out.thaw 0
      simp only [wyA, List.getElem?_toArray, List.getElem?_cons_zero, List.getElem?_cons_succ] at x0 x1 y0 y1
      have HR := Lib.hid (show repC x (k + 1) = ⟨mulv (repC x k).thru x.thru, addv (repC x k).fin (mulv (repC x k).thru x.fin)⟩ from rfl)
      have B1 := Lib.hid (wmul (repC x k).thru x.fin)
      have B2 := Lib.hid (wmul (repC x k).thru x.thru)
      have B3 := Lib.hid (wadd (repC x k).fin (mulv (repC x k).thru x.fin))
      generalize repC x k = r at *
      go_wp2_with fail
      go_still_tail 9, (by kernel_rfl)
      still_call (still_of (B1.out _))
      still_call (still_of (B3.out _))
      still_step
      refine wpStill_nil ?_
      change wpList _ _ _ _ _ wr.drew
      have sd : Same wr wr.drew := (Same.refl _).drew
      have HD4 := Lib.hid (H4.out.same sd)
      have HD6 := Lib.hid (H6.out.same sd)
      have HD7 := Lib.hid (H7.out.same sd)
      have HDS := Lib.hid (HS.out.trans sd)
      clear sd x0 x1 y0 y1 u0 u1
      generalize wr.drew = wd at *
      have x0 := HD4.out.cell 0
      have y0 := HD7.out.cell 0
      have y1 := HD7.out.cell 1
      have u1 := HD7.out.thaw 1
      have u0 := HD7.out.thaw 0
      simp only [wyA, List.getElem?_toArray, List.getElem?_cons_zero, List.getElem?_cons_succ] at x0 y0 y1
      go_wp2_with fail
      refine (B2.out _).mono ?_
      rintro e w' ⟨rfl, rfl⟩
      go_wp2_with fail
      go_roundg GK
      case measure => omega
      case rel =>
        have hz := HDS.out.size
        have hq : Chg (fun i => i = w.heap.size + 2) wd ((wd.setCell ⟨w.heap.size + 1 + 1, 1, none⟩ (.int .i64 (addv r.fin (mulv r.thru x.fin)))).setCell ⟨w.heap.size + 1 + 1, 0, none⟩ (.int .i64 (mulv r.thru x.thru))) :=
          ((Chg.refl (fun i => i = w.heap.size + 2) wd).set (p := ⟨w.heap.size + 1 + 1, 1, none⟩) (.inl rfl) _).set (p := ⟨w.heap.size + 1 + 1, 0, none⟩) (.inl rfl) _
        refine ⟨k + 1, by have := HK.out; omega, by go_num, ?_, ⟨u, ?_, h6s⟩, ?_, ?_⟩
        · exact HD4.out.chg hq (by omega)
        · exact HD6.out.chg hq (by omega)
        · rw [HR.out]
          exact (HD7.out.put 1 (.int .i64 (addv r.fin (mulv r.thru x.fin)))).put 0 (.int .i64 (mulv r.thru x.thru))
        · exact Same.more HDS.out hq (fun i hi => by omega)
end Go.Proofs.YtnlndkpjfgpodaaDoor.Pt
