/-

 Who goes ahead of whom (layer 26), of a system's tasks, whoever is asked for: the program and the document.
-/
import Derived.Test.YthhbhbfkbncegaaGreatDoorImgIn
import Derived.Test.YthhbhbfkbncegaaGreatDoorWordBase
import Derived.WalkKit
import Derived.Deep.LoopGhost
import Derived.BigQuiet
set_option linter.unusedVariables false
set_option linter.unusedSimpArgs false
namespace Go.Proofs.YthhbhbfkbncegaaGreatDoor.Ah
open Go.ChangeShapes Go.WideShapes Go.ChangeAt Go.RowKit Ws
open Im (PT PO PS TsAt OsAt SysAt tcells ocells)
open Go.Proofs.YthhbhbfkbncegaaGreatDoor.Wd (ret_bool ret_int)

def pt (ts : List PT) (k : Nat) : PT := ts.getD k default
theorem pt_at {ts : List PT} {a : Nat} (h : a < ts.length) : ts[a]? = some (pt ts a) := by
 unfold pt
 rw [List.getD_eq_getElem?_getD, List.getElem?_eq_getElem h]
 rfl
theorem place_any (A : Option Addr) (m c a : Nat) (ha : a < m) (w : World) :
 Calls Tryz.prog 86 #[.slice A m c, .int .i64 a] w fun e w' => e = .returned (.bool true) ∧ Same w w' := by
 have h0 : (0 : Int) ≤ a := by omega
 have h1 : (a : Int) < m := by omega
 go_enter Tryz.func86, Tryz.ntmps86
 go_wp2_with fail
 go_ret
 exact ⟨rfl, Same.refl _⟩

def aheadB (ts : List PT) (a b : Nat) : Bool := if (pt ts a).prio = (pt ts b).prio then decide (a < b) else decide ((pt ts b).prio < (pt ts a).prio)
set_option maxRecDepth 100000 in
theorem ahead_any (A : Option Addr) (m c : Nat) (ts : List PT) (a b : Nat) (w : World) (hl : ts.length = m) (ha : a < m) (hb : b < m) (ht : TsAt w A ts) :
 Calls Tryz.prog 62 #[.slice A m c, .int .i64 a, .int .i64 b] w fun e w' => e = .returned (.bool (aheadB ts a b)) ∧ Same w w' := by
 have PA := Lib.hid (place_any A m c a ha)
 have PB := Lib.hid (place_any A m c b hb)
 have HT := Lib.hid ht
 have HL := Lib.hid hl
 clear ht hl
 have ha0 : (0 : Int) ≤ a := by omega
 have ha1 : (a : Int) < m := by omega
 have hb0 : (0 : Int) ≤ b := by omega
 have hb1 : (b : Int) < m := by omega
 go_enter Tryz.func62, Tryz.ntmps62
 go_wp2_with fail
 refine (PA.out _).mono ?_
 rintro e w1 ⟨rfl, s1⟩
 have HS1 := Lib.hid s1
 clear s1 PA
 go_wp2_with fail
 refine (PB.out _).mono ?_
 rintro e w2 ⟨rfl, s2⟩
 have HS2 := Lib.hid (HS1.out.trans s2)
 clear s2 PB
 obtain ⟨ba, oa, rfl, _, _, _, c1, _⟩ := (HT.out.same HS2.out).at_ (pt_at (ts := ts) (a := a) (by have := HL.out; omega))
 obtain ⟨bb, ob, hbb, _, _, _, d1, _⟩ := (HT.out.same HS2.out).at_ (pt_at (ts := ts) (a := b) (by have := HL.out; omega))
 injection hbb with hbb
 injection hbb with h1 h2
 subst h1
 subst h2
 have hE : aheadB ts a b = if (pt ts a).prio = (pt ts b).prio then decide (a < b) else decide ((pt ts b).prio < (pt ts a).prio) := rfl
 generalize (pt ts a).prio = x at *
 generalize (pt ts b).prio = y at *
 by_cases hxy : x = y
 ·rw [if_pos hxy] at hE
  have e1 : (x != y) = false := by simpa using hxy
  clear hxy
  by_cases hab : a < b
  ·have hab' : (a : Int) < b := by omega
   rw [decide_eq_true hab] at hE
   have HE := Lib.hid hE
   clear hE
   go_wp2_with fail
   go_quiet (fail)
   have HS3 := Lib.hid (HS2.out.drewN nq)
   go_wp2_with fail
   go_ret
   exact ⟨ret_bool HE.out.symm, HS3.out⟩
  ·have hab' : ¬ (a : Int) < b := by omega
   rw [decide_eq_false hab] at hE
   have HE := Lib.hid hE
   clear hE
   go_wp2_with fail
   go_quiet (fail)
   have HS3 := Lib.hid (HS2.out.drewN nq)
   go_wp2_with fail
   go_ret
   exact ⟨ret_bool HE.out.symm, HS3.out⟩
 ·rw [if_neg hxy] at hE
  have e1 : (x != y) = true := by simpa using hxy
  clear hxy
  by_cases hab : y < x
  ·rw [decide_eq_true hab] at hE
   have HE := Lib.hid hE
   clear hE
   go_wp2_with fail
   go_quiet (fail)
   have HS3 := Lib.hid (HS2.out.drewN nq)
   go_wp2_with fail
   go_quiet (fail)
   go_wp2_with fail
   go_ret
   exact ⟨ret_bool HE.out.symm, HS3.out.drewN _⟩
  ·rw [decide_eq_false hab] at hE
   have HE := Lib.hid hE
   clear hE
   go_wp2_with fail
   go_quiet (fail)
   have HS3 := Lib.hid (HS2.out.drewN nq)
   go_wp2_with fail
   go_quiet (fail)
   go_wp2_with fail
   go_ret
   exact ⟨ret_bool (by rw [HE.out]; exact decide_eq_false (by omega)), HS3.out.drewN _⟩

theorem place_no (A : Option Addr) (m c : Nat) (x : Int) (h : x < 0 ∨ (m : Int) ≤ x) (w : World) :
 Calls Tryz.prog 86 #[.slice A m c, .int .i64 x] w fun e w' => e = .returned (.bool false) ∧ Same w w' := by
 by_cases h0 : x < 0
 ·have d0 : decide ((0 : Int) ≤ x) = false := decide_eq_false (by omega)
  clear h
  go_enter Tryz.func86, Tryz.ntmps86
  go_wp2_with fail
  go_ret
  exact ⟨rfl, Same.refl _⟩
 ·have d0 : decide ((0 : Int) ≤ x) = true := decide_eq_true (by omega)
  have d1 : decide (x < (m : Int)) = false := decide_eq_false (by omega)
  clear h
  go_enter Tryz.func86, Tryz.ntmps86
  go_wp2_with fail
  go_ret
  exact ⟨rfl, Same.refl _⟩
def inI (m : Nat) (x : Int) : Prop := 0 ≤ x ∧ x < m
instance (m : Nat) (x : Int) : Decidable (inI m x) := by unfold inI; infer_instance
def aheadI (ts : List PT) (x y : Int) : Bool := if inI ts.length x ∧ inI ts.length y then aheadB ts x.toNat y.toNat else false
theorem aheadI_yes {ts : List PT} {a b : Nat} (ha : a < ts.length) (hb : b < ts.length) : aheadI ts a b = aheadB ts a b := by
 unfold aheadI inI
 rw [if_pos ⟨by omega, by omega⟩, Int.toNat_natCast, Int.toNat_natCast]
theorem aheadI_no {ts : List PT} {x y : Int} (h : ¬ (inI ts.length x ∧ inI ts.length y)) : aheadI ts x y = false := by
 unfold aheadI
 rw [if_neg h]
set_option maxRecDepth 100000 in
theorem ahead_gen (A : Option Addr) (m c : Nat) (ts : List PT) (x y : Int) (w : World) (hl : ts.length = m) (ht : TsAt w A ts) :
 Calls Tryz.prog 62 #[.slice A m c, .int .i64 x, .int .i64 y] w fun e w' => e = .returned (.bool (aheadI ts x y)) ∧ Same w w' := by
 by_cases hx : inI m x
 ·by_cases hy : inI m y
  ·obtain ⟨a, rfl⟩ := Int.eq_ofNat_of_zero_le hx.1
   obtain ⟨b, rfl⟩ := Int.eq_ofNat_of_zero_le hy.1
   have h1 := hx.2
   have h2 := hy.2
   rw [aheadI_yes (by omega) (by omega)]
   exact ahead_any A m c ts a b w hl (by omega) (by omega) ht
  ·rw [aheadI_no (by rw [hl]; exact fun h => hy h.2)]
   obtain ⟨a, rfl⟩ := Int.eq_ofNat_of_zero_le hx.1
   have h1 := hx.2
   have PA := Lib.hid (place_any A m c a (by omega))
   have PB := Lib.hid (fun w => place_no A m c y (by unfold inI at hy; omega) w)
   clear hx hy hl ht h1
   go_enter Tryz.func62, Tryz.ntmps62
   go_wp2_with fail
   refine (PA.out _).mono ?_
   rintro e w1 ⟨rfl, s1⟩
   go_wp2_with fail
   refine (PB.out _).mono ?_
   rintro e w2 ⟨rfl, s2⟩
   go_wp2_with fail
   go_ret
   exact ⟨rfl, s1.trans s2⟩
 ·rw [aheadI_no (by rw [hl]; exact fun h => hx h.1)]
  have PB := Lib.hid (fun w => place_no A m c x (by unfold inI at hx; omega) w)
  clear hx hl ht
  go_enter Tryz.func62, Tryz.ntmps62
  go_wp2_with fail
  refine (PB.out _).mono ?_
  rintro e w1 ⟨rfl, s1⟩
  go_wp2_with fail
  go_ret
  exact ⟨rfl, s1⟩
set_option maxRecDepth 100000 in
theorem rahead_gen (A : Option Addr) (m c : Nat) (ts : List PT) (x y : Int) (w : World) (hl : ts.length = m) (ht : TsAt w A ts) :
 Calls Tryz.prog 20 #[.slice A m c, .int .i64 x, .int .i64 y] w fun e w' => e = .returned (.bool (aheadI ts x y)) ∧ Same w w' := by
 by_cases h0 : x < 0
 ·rw [aheadI_no (by unfold inI; omega)]
  have d0 : decide (x < 0) = true := decide_eq_true h0
  clear h0 hl ht
  go_enter Tryz.func20, Tryz.ntmps20
  go_wp2_with fail
  go_ret
  exact ⟨rfl, Same.refl _⟩
 have d0 : decide (x < 0) = false := decide_eq_false h0
 by_cases h1 : y < 0
 ·rw [aheadI_no (by unfold inI; omega)]
  have d1 : decide (y < 0) = true := decide_eq_true h1
  clear h0 h1 hl ht
  go_enter Tryz.func20, Tryz.ntmps20
  go_wp2_with fail
  go_ret
  exact ⟨rfl, Same.refl _⟩
 have d1 : decide (y < 0) = false := decide_eq_false h1
 by_cases h2 : (m : Int) ≤ x
 ·rw [aheadI_no (by unfold inI; omega)]
  have d2 : decide ((m : Int) ≤ x) = true := decide_eq_true h2
  clear h0 h1 h2 hl ht
  go_enter Tryz.func20, Tryz.ntmps20
  go_wp2_with fail
  go_ret
  exact ⟨rfl, Same.refl _⟩
 have d2 : decide ((m : Int) ≤ x) = false := decide_eq_false h2
 by_cases h3 : (m : Int) ≤ y
 ·rw [aheadI_no (by unfold inI; omega)]
  have d3 : decide ((m : Int) ≤ y) = true := decide_eq_true h3
  clear h0 h1 h2 h3 hl ht
  go_enter Tryz.func20, Tryz.ntmps20
  go_wp2_with fail
  go_ret
  exact ⟨rfl, Same.refl _⟩
 have d3 : decide ((m : Int) ≤ y) = false := decide_eq_false h3
 obtain ⟨a, rfl⟩ := Int.eq_ofNat_of_zero_le (show 0 ≤ x by omega)
 obtain ⟨b, rfl⟩ := Int.eq_ofNat_of_zero_le (show 0 ≤ y by omega)
 rw [aheadI_yes (by omega) (by omega)]
 have ha0 : (0 : Int) ≤ a := by omega
 have ha1 : (a : Int) < m := by omega
 have hb0 : (0 : Int) ≤ b := by omega
 have hb1 : (b : Int) < m := by omega
 obtain ⟨ba, oa, rfl, _, _, _, c1, _⟩ := ht.at_ (pt_at (ts := ts) (a := a) (by omega))
 obtain ⟨bb, ob, hbb, _, _, _, e1, _⟩ := ht.at_ (pt_at (ts := ts) (a := b) (by omega))
 injection hbb with hbb
 injection hbb with g1 g2
 subst g1
 subst g2
 have hE : aheadB ts a b = if (pt ts a).prio = (pt ts b).prio then decide (a < b) else decide ((pt ts b).prio < (pt ts a).prio) := rfl
 clear ht hl h0 h1 h2 h3
 generalize (pt ts a).prio = u at *
 generalize (pt ts b).prio = v at *
 by_cases huv : u = v
 ·rw [if_pos huv] at hE
  have f1 : (u == v) = true := by simpa using huv
  have HE := Lib.hid hE
  clear hE huv
  go_enter Tryz.func20, Tryz.ntmps20
  go_wp2_with fail
  go_quiet (fail)
  go_wp2_with fail
  go_ret
  exact ⟨ret_bool (by rw [HE.out]), (Same.refl _).drewN _⟩
 ·rw [if_neg huv] at hE
  have f1 : (u == v) = false := by simpa using huv
  have HE := Lib.hid hE
  clear hE huv
  generalize hd : decide (v < u) = d at *
  go_enter Tryz.func20, Tryz.ntmps20
  go_wp2_with fail
  go_quiet (fail)
  have HS3 := Lib.hid ((Same.refl w).drewN nq)
  go_wp2_with fail
  go_quiet (fail)
  go_wp2_with fail
  go_ret
  exact ⟨ret_bool (by rw [HE.out]), HS3.out.drewN _⟩
end Go.Proofs.YthhbhbfkbncegaaGreatDoor.Ah
