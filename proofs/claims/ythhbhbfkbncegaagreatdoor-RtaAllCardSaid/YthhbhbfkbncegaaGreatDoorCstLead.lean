/-

 Package cost (layer 12): the better one of two ways is laid at a place (the closure lead of once).
-/
import Derived.Test.YthhbhbfkbncegaaGreatDoorCstPure
import Derived.Test.YthhbhbfkbncegaaGreatDoorFlowUse
import Derived.Test.YthhbhbfkbncegaaGreatDoorWordBase
import Derived.StillTailTactics
section
set_option linter.unusedVariables false
set_option linter.unusedSimpArgs false
namespace Go.Proofs.YthhbhbfkbncegaaGreatDoor.Cs
open Go.ChangeShapes Go.WideShapes Go.ChangeAt Go.RowKit Ws
open Go.Proofs.YthhbhbfkbncegaaGreatDoor.Fp (Ins at_ Fine at_some)
open Go.Proofs.YthhbhbfkbncegaaGreatDoor.Fw (Prg Spn spanCells)

theorem ret_int {a b : Int} (h : a = b) : Ending.returned (.int .i64 a) = .returned (.int .i64 b) := by rw [h]
/-- the dearest walk, or the cheapest one -/
def btB (mx : Bool) : Int → Int → Bool := fun a b => if mx then decide (a > b) else decide (a > b)
def fvB : Bool → Value
 | true => .func (.func 94) #[] #[]
 | false => .func (.func 94) #[] #[]
theorem most1 (a b : Int) (w : World) : Calls Tryz.prog 94 #[.int .i64 a, .int .i64 b] w fun e w' => e = .returned (.bool (decide (a > b))) ∧ w = w' := by
 go_enter Tryz.func94, Tryz.ntmps94
 go_wp2
 go_ret
 exact ⟨rfl, rfl⟩
theorem least1 (a b : Int) (w : World) : Calls Tryz.prog 94 #[.int .i64 a, .int .i64 b] w fun e w' => e = .returned (.bool (decide (a > b))) ∧ w = w' := by
 go_enter Tryz.func94, Tryz.ntmps94
 go_wp2
 go_ret
 exact ⟨rfl, rfl⟩
theorem both_any (a b : Int) (w : World) : Calls Tryz.prog 126 #[.int .i64 a, .int .i64 b] w fun e w' => e = .returned (.int .i64 (bothI a b)) ∧ w = w' := by
 have WA := Lib.hid (Wd.wadd a b w)
 have HE := Lib.hid (show Wd.addv a b = adI a b from rfl)
 by_cases h : a = -1 ∨ b = -1
 ·have h2 : bothI a b = -1 := if_pos h
  rw [h2]
  by_cases ha : a = -1
  ·have a1 : (a == -1) = true := by simpa using ha
   clear h h2 ha
   go_enter Tryz.func126, Tryz.ntmps126
   go_wp2
   go_ret
   exact ⟨rfl, rfl⟩
  ·have a1 : (a == -1) = false := by simpa using ha
   have b1 : (b == -1) = true := by rcases h with h | h; exact absurd h ha; simpa using h
   clear h h2 ha
   go_enter Tryz.func126, Tryz.ntmps126
   go_wp2
   go_ret
   exact ⟨rfl, rfl⟩
 ·have h2 : bothI a b = adI a b := if_neg h
  have a1 : (a == -1) = false := by simp; omega
  have b1 : (b == -1) = false := by simp; omega
  rw [h2]
  clear h h2
  go_enter Tryz.func126, Tryz.ntmps126
  go_wp2_with fail
  refine WA.out.mono ?_
  rintro e w' ⟨rfl, rfl⟩
  go_wp2
  go_ret
  exact ⟨ret_int HE.out, rfl⟩
theorem best_any (mx : Bool) (q : Nat) (a b : Int) (w : World) (hc : w.cell? ⟨q, 2, none⟩ = some (fvB mx)) :
 Calls Tryz.prog 125 #[.pointer (some ⟨q, 0, none⟩), .int .i64 a, .int .i64 b] w fun e w' => e = .returned (.int .i64 (bestI (btB mx) a b)) ∧ w = w' := by
 by_cases hb : b = -1
 ·have b1 : (b == -1) = true := by simpa using hb
  rw [show bestI (btB mx) a b = a from if_pos (.inl hb)]
  clear hb
  go_enter Tryz.func125, Tryz.ntmps125
  go_wp2
  go_ret
  exact ⟨rfl, rfl⟩
 ·have b1 : (b == -1) = false := by simpa using hb
  by_cases ha : a = -1
  ·have a1 : (a == -1) = true := by simpa using ha
   have a2 : (a != -1) = false := by simpa using ha
   rw [show bestI (btB mx) a b = b from if_neg (fun h => h.elim hb fun h => h.1 ha)]
   clear hb ha
   go_enter Tryz.func125, Tryz.ntmps125
   go_wp2
   go_ret
   exact ⟨rfl, rfl⟩
  ·have a1 : (a == -1) = false := by simpa using ha
   have a2 : (a != -1) = true := by simpa using ha
   have HE : Hid (bestI (btB mx) a b = if btB mx a b = true then a else b) := Lib.hid (by
    unfold bestI
    by_cases h : btB mx a b = true
    ·rw [if_pos (.inr ⟨ha, h⟩), if_pos h]
    ·rw [if_neg (fun h' => h'.elim hb fun h' => h h'.2), if_neg h])
   clear ha hb
   cases mx with
   | true =>
    have M1 := Lib.hid (fun w' => most1 a b w')
    have hc' : w.cell? ⟨q, 2, none⟩ = some (.func (.func 94) #[] #[]) := hc
    clear hc
    by_cases hk : a > b
    ·have d1 : decide (a > b) = true := decide_eq_true hk
     rw [d1] at M1
     rw [HE.out, show btB true a b = true from d1]
     clear HE d1 hk
     go_enter Tryz.func125, Tryz.ntmps125
     go_wp2_with fail
     refine (M1.out _).mono ?_
     rintro e w' ⟨rfl, rfl⟩
     go_wp2
     go_ret
     exact ⟨rfl, rfl⟩
    ·have d1 : decide (a > b) = false := decide_eq_false hk
     rw [d1] at M1
     rw [HE.out, show btB true a b = false from d1]
     clear HE d1 hk
     go_enter Tryz.func125, Tryz.ntmps125
     go_wp2_with fail
     refine (M1.out _).mono ?_
     rintro e w' ⟨rfl, rfl⟩
     go_wp2
     go_ret
     exact ⟨rfl, rfl⟩
   | false =>
    have M1 := Lib.hid (fun w' => least1 a b w')
    have hc' : w.cell? ⟨q, 2, none⟩ = some (.func (.func 94) #[] #[]) := hc
    clear hc
    by_cases hk : a > b
    ·have d1 : decide (a > b) = true := decide_eq_true hk
     rw [d1] at M1
     rw [HE.out, show btB false a b = true from d1]
     clear HE d1 hk
     go_enter Tryz.func125, Tryz.ntmps125
     go_wp2_with fail
     refine (M1.out _).mono ?_
     rintro e w' ⟨rfl, rfl⟩
     go_wp2
     go_ret
     exact ⟨rfl, rfl⟩
    ·have d1 : decide (a > b) = false := decide_eq_false hk
     rw [d1] at M1
     rw [HE.out, show btB false a b = false from d1]
     clear HE d1 hk
     go_enter Tryz.func125, Tryz.ntmps125
     go_wp2_with fail
     refine (M1.out _).mono ?_
     rintro e w' ⟨rfl, rfl⟩
     go_wp2
     go_ret
     exact ⟨rfl, rfl⟩
theorem still_of {P : Program} {f : FuncId} {l : Array Value} {w : World} {r : Value} (h : Calls P f l w fun e w' => e = .returned r ∧ w = w') : Calls P f l w fun e w' => e = .returned r ∧ w' = w := h.mono fun e w' ⟨h1, h2⟩ => ⟨h1, h2.symm⟩
def wyA (x : Wy) : Array Value := #[.int .i64 x.thru, .int .i64 x.fin]
set_option maxRecDepth 100000 in
theorem rep_any (mx : Bool) (q : Nat) (x : Wy) (t : Int) (w : World) (hc : w.cell? ⟨q, 2, none⟩ = some (fvB mx)) (ht : t ≤ 1000000) :
 Calls Tryz.prog 113 #[.pointer (some ⟨q, 0, none⟩), .agg #[.int .i64 x.thru, .int .i64 x.fin], .int .i64 t] w fun e w' =>
  e = .returned (.agg #[.int .i64 (repW (btB mx) x t.toNat).thru, .int .i64 (repW (btB mx) x t.toNat).fin]) ∧ Same w w' := by
 have HC := Lib.hid hc
 clear hc
 go_enter Tryz.func113, Tryz.ntmps113
 go_wp2_with fail
 go_loopg [10] t.toNat (fun gk iv wx => ∃ (k : Nat), k + gk = t.toNat ∧ iv = .int .i64 k ∧ Blk wx w.heap.size 123 (wyA x) ∧ (∃ u, Blk wx (w.heap.size + 1) 123 u ∧ u.size = 2) ∧ Blk wx (w.heap.size + 2) 123 (wyA (repW (btB mx) x k)) ∧ Same w wx)
 case atStart =>
  refine ⟨0, by omega, rfl, ?_, ⟨#[.int .i64 0, .int .i64 0], ?_, rfl⟩, ?_, ?_⟩
  ·exact ((Blk.new w _ _).same ((Same.refl _).alloc _)).same ((Same.refl _).alloc _)
  ·exact (show Blk _ (w.heap.size + 1) 123 _ from (by
    have h := Blk.new (w.alloc (.cells (wyA x) 123)) 123 #[.int .i64 0, .int .i64 0]
    rw [World.size_alloc] at h
    exact h.same ((Same.refl _).alloc _)))
  ·have h := Blk.new ((w.alloc (.cells (wyA x) 123)).alloc (.cells #[.int .i64 0, .int .i64 0] 123)) 123 #[.int .i64 0, .int .i64 (-1)]
   rw [World.size_alloc, World.size_alloc] at h
   exact h
  ·exact (((Same.refl _).alloc _).alloc _).alloc _
 case round =>
  obtain ⟨k, hk, rfl, h4, ⟨u, h6, h6s⟩, h7, hs⟩ := hrel
  have H4 := Lib.hid h4
  have H6 := Lib.hid h6
  have H7 := Lib.hid h7
  have HS := Lib.hid hs
  clear h4 h7 h6 hs
  cases gk with
  | zero =>
   have hge : ¬ (k : Int) < t := by omega
   obtain rfl : k = t.toNat := by omega
   have y0 := H7.out.cell 0
   have y1 := H7.out.cell 1
   simp only [wyA, List.getElem?_toArray, List.getElem?_cons_zero, List.getElem?_cons_succ] at y0 y1
   obtain ⟨u0, u1, rfl⟩ : ∃ u0 u1, u = #[u0, u1] := by
    obtain ⟨l⟩ := u
    match l, h6s with
    | [a, b], _ => exact ⟨a, b, rfl⟩
   have z0 := H6.out.cell 0
   have z1 := H6.out.cell 1
   have f0 := H6.out.thaw 0
   have f1 := H6.out.thaw 1
   simp only [Ws.q_] at z0 z1
   obtain ⟨r, hr⟩ : ∃ r, r = repW (btB mx) x t.toNat := ⟨_, rfl⟩
   rw [← hr] at y0 y1
   have HR := Lib.hid hr
   clear hr
   go_wp2_with fail
   have hb1 := (H6.out.put 0 (.int .i64 r.thru)).put 1 (.int .i64 r.fin)
   have hs1 := HS.out.size
   refine bodyPost_ret (v := .agg #[.int .i64 r.thru, .int .i64 r.fin]) (results_cell_row Tryz.results113 _ _ (w.heap.size + 1) 123 #[.int .i64 r.thru, .int .i64 r.fin] (0, 0) _ rfl hb1 Tryz.underlying123 rfl (by kernel_rfl)) rfl ?_
   exact ⟨by rw [HR.out], Same.more (Same.more HS.out ((Chg.refl (fun i => i = w.heap.size + 1) _).set (p := ⟨w.heap.size + 1, 0, none⟩) (.inl rfl) _) (fun i hi => by omega)) ((Chg.refl (fun i => i = w.heap.size + 1) _).set (p := ⟨w.heap.size + 1, 1, none⟩) (.inl rfl) _) (fun i hi => by omega)⟩
  | succ GK =>
   have hlt : (k : Int) < t := by omega
   have HK := Lib.hid hk
   have x0 := H4.out.cell 0
   have x1 := H4.out.cell 1
   have y0 := H7.out.cell 0
   have y1 := H7.out.cell 1
   have u1 := H7.out.thaw 1
   have u0 := H7.out.thaw 0
   simp only [wyA, List.getElem?_toArray, List.getElem?_cons_zero, List.getElem?_cons_succ] at x0 x1 y0 y1
   have HR := Lib.hid (show repW (btB mx) x (k + 1) = ⟨bothI (repW (btB mx) x k).thru x.thru, bestI (btB mx) (repW (btB mx) x k).fin (bothI (repW (btB mx) x k).thru x.fin)⟩ from rfl)
   have B1 := Lib.hid (both_any (repW (btB mx) x k).thru x.fin)
   have B2 := Lib.hid (both_any (repW (btB mx) x k).thru x.thru)
   have B3 := Lib.hid (fun W (hs : Same wr W) => best_any mx q (repW (btB mx) x k).fin (bothI (repW (btB mx) x k).thru x.fin) W ((HS.out.trans hs).cell HC.out))
   generalize repW (btB mx) x k = r at *
   go_wp2_with fail
   go_still_tail 10, (by kernel_rfl)
   still_call (still_of (B1.out _))
   still_call (still_of (B3.out _ (Same.refl _).drew))
   still_step
   refine wpStill_nil ?_
   change wpList _ _ _ _ _ wr.drew
   have sd : Same wr wr.drew := (Same.refl _).drew
   have HD4 := Lib.hid (H4.out.same sd)
   have HD6 := Lib.hid (H6.out.same sd)
   have HD7 := Lib.hid (H7.out.same sd)
   have HDS := Lib.hid (HS.out.trans sd)
   clear sd x0 x1 y0 y1 u0 u1
   generalize wr.drew = wd at *
   have x0 := HD4.out.cell 0
   have y0 := HD7.out.cell 0
   have y1 := HD7.out.cell 1
   have u1 := HD7.out.thaw 1
   have u0 := HD7.out.thaw 0
   simp only [wyA, List.getElem?_toArray, List.getElem?_cons_zero, List.getElem?_cons_succ] at x0 y0 y1
   go_wp2_with fail
   refine (B2.out _).mono ?_
   rintro e w' ⟨rfl, rfl⟩
   go_wp2_with fail
   go_roundg GK
   case measure => omega
   case rel =>
    have hz := HDS.out.size
    have hq : Chg (fun i => i = w.heap.size + 2) wd ((wd.setCell ⟨w.heap.size + 1 + 1, 1, none⟩ (.int .i64 (bestI (btB mx) r.fin (bothI r.thru x.fin)))).setCell ⟨w.heap.size + 1 + 1, 0, none⟩ (.int .i64 (bothI r.thru x.thru))) :=
     ((Chg.refl (fun i => i = w.heap.size + 2) wd).set (p := ⟨w.heap.size + 1 + 1, 1, none⟩) (.inl rfl) _).set (p := ⟨w.heap.size + 1 + 1, 0, none⟩) (.inl rfl) _
    refine ⟨k + 1, by have := HK.out; omega, by go_num, ?_, ⟨u, ?_, h6s⟩, ?_, ?_⟩
    ·exact HD4.out.chg hq (by omega)
    ·exact HD6.out.chg hq (by omega)
    ·rw [HR.out]
     exact (HD7.out.put 1 (.int .i64 (bestI (btB mx) r.fin (bothI r.thru x.fin)))).put 0 (.int .i64 (bothI r.thru x.thru))
    ·exact Same.more HDS.out hq (fun i hi => by omega)
end Go.Proofs.YthhbhbfkbncegaaGreatDoor.Cs
end
section
set_option linter.unusedVariables false
set_option linter.unusedSimpArgs false
namespace Go.Proofs.YthhbhbfkbncegaaGreatDoor.Cs
open Go.ChangeShapes Go.WideShapes Go.ChangeAt Go.RowKit Ws

set_option maxRecDepth 100000 in
theorem lead_any (mx : Bool) (q q2 q6 C c m : Nat) (l : List Int) (to : Nat) (n : Int) (w : World) (hm : l.length = m) (hto : to < m) (hmb : m ≤ 100000)
 (h2 : w.cell? ⟨q2, 0, none⟩ = some (.pointer (some ⟨q, 0, none⟩))) (h6 : w.cell? ⟨q6, 0, none⟩ = some (.slice (some ⟨C, 0, none⟩) m c))
 (ho : Own w 0 3 (some ⟨C, 0, none⟩) c (l.map (Value.int .i64))) (hc : w.cell? ⟨q, 2, none⟩ = some (fvB mx)) :
 Calls Tryz.prog 128 #[.int .i64 to, .int .i64 n, .pointer (some ⟨q2, 0, none⟩), .pointer (some ⟨q6, 0, none⟩)] w fun e w' =>
  e = .returned (.tuple #[]) ∧ Own w' 0 3 (some ⟨C, 0, none⟩) c ((leadI (btB mx) l to n).map (Value.int .i64)) ∧ w' = w.drew.setCell ⟨C, to, none⟩ (.int .i64 (bestI (btB mx) (l.getD to 0) n)) := by
 have B := Lib.hid (fun W (hs : Same w W) => best_any mx q (l.getD to 0) n W (hs.cell hc))
 have HO := Lib.hid ho
 have k1 : (to : Int) < m := by omega
 have k0 : (0 : Int) ≤ to := by omega
 have x0 : w.cell? ⟨C, to, none⟩ = some (.int .i64 (l.getD to 0)) := by
  have := ho.row to (.int .i64 (l.getD to 0)) (by rw [List.getElem?_map, List.getD_eq_getElem?_getD, List.getElem?_eq_getElem (by omega)]; rfl)
  obtain ⟨b, o, e, hb⟩ := this
  injection e with e
  injection e with e1 e2
  subst e1 e2
  simpa using hb
 have f0 : w.frozen? ⟨C, to, none⟩ = false := by
  obtain ⟨g, e, _, _, hf⟩ := ho.thaw (by rw [List.length_map]; omega)
  injection e with e
  injection e with e1
  subst e1
  exact hf to
 have HE := Lib.hid (show leadI (btB mx) l to n = l.set to (bestI (btB mx) (l.getD to 0) n) from by simp [leadI])
 clear ho hc hm hto
 generalize l.getD to 0 = v at *
 go_enter Tryz.func128, Tryz.ntmps128
 go_wp2_with fail
 go_still_tail 9, (by kernel_rfl)
 still_call (still_of (B.out _ (Same.refl _).drew))
 refine wpStill_nil ?_
 change wpList _ _ _ _ _ w.drew
 have HOD := Lib.hid (HO.out.same (Same.refl _).drew)
 have x1 : w.drew.cell? ⟨C, to, none⟩ = some (.int .i64 v) := x0
 have f1 : w.drew.frozen? ⟨C, to, none⟩ = false := f0
 have E1 := Lib.hid (show w.drew = w.drew from rfl)
 clear x0 f0 h2 h6
 obtain ⟨wd, hwd⟩ : ∃ wd, wd = w.drew := ⟨_, rfl⟩
 rw [← hwd] at HOD x1 f1
 rw [← hwd]
 have ED := Lib.hid hwd
 clear hwd E1
 go_wp2_with fail
 go_end0
 refine ⟨rfl, ?_, ?_⟩
 ·have h := HOD.out.put to (.int .i64 (bestI (btB mx) v n))
  rw [HE.out, List.map_set]
  exact h
 ·rw [ED.out]
end Go.Proofs.YthhbhbfkbncegaaGreatDoor.Cs
end
