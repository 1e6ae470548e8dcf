/-

  What spoil.Of and spoil.JobOf answer of any system, plainly; and the document's words of it (layer 37).
-/
import Derived.Test.YthhbhbfkbncegaaGreatDoorImgIn
import Derived.Test.YthhbhbfkbncegaaGreatDoorWordBase
import Derived.WalkKit
import Derived.Deep.LoopGhost
import Derived.BigQuiet
import Derived.Test.YthhbhbfkbncegaaGreatDoorDmdMost
import Derived.Test.YthhbhbfkbncegaaGreatDoorWlkSum
import Derived.Test.YthhbhbfkbncegaaGreatDoorSplPure
import Derived.Test.YthhbhbfkbncegaaGreatDoorSysRole
section
set_option linter.unusedVariables false
set_option linter.unusedSimpArgs false
namespace Go.Proofs.YthhbhbfkbncegaaGreatDoor.Ah
open Go.ChangeShapes Go.WideShapes Go.ChangeAt Go.RowKit Ws
open Im (PT PO PS TsAt OsAt SysAt tcells ocells)
open Go.Proofs.YthhbhbfkbncegaaGreatDoor.Wd (ret_bool ret_int)

def pt (ts : List PT) (k : Nat) : PT := ts.getD k default
theorem pt_at {ts : List PT} {a : Nat} (h : a < ts.length) : ts[a]? = some (pt ts a) := by
  unfold pt
  rw [List.getD_eq_getElem?_getD, List.getElem?_eq_getElem h]
  rfl
theorem place_any (A : Option Addr) (m c a : Nat) (ha : a < m) (w : World) :
    Calls Tryz.prog 86 #[.slice A m c, .int .i64 a] w fun e w' => e = .returned (.bool true) ∧ Same w w' := by
  have h0 : (0 : Int) ≤ a := by omega
  have h1 : (a : Int) < m := by omega
  go_enter Tryz.func86, Tryz.ntmps86
  go_wp2_with fail
  go_ret
  exact ⟨rfl, Same.refl _⟩

def aheadB (ts : List PT) (a b : Nat) : Bool := if (pt ts a).prio = (pt ts b).prio then decide (a < b) else decide ((pt ts b).prio < (pt ts a).prio)
set_option maxRecDepth 100000 in
theorem ahead_any (A : Option Addr) (m c : Nat) (ts : List PT) (a b : Nat) (w : World) (hl : ts.length = m) (ha : a < m) (hb : b < m) (ht : TsAt w A ts) :
    Calls Tryz.prog 62 #[.slice A m c, .int .i64 a, .int .i64 b] w fun e w' => e = .returned (.bool (aheadB ts a b)) ∧ Same w w' := by
  have PA := Lib.hid (place_any A m c a ha)
  have PB := Lib.hid (place_any A m c b hb)
  have HT := Lib.hid ht
  have HL := Lib.hid hl
  clear ht hl
  have ha0 : (0 : Int) ≤ a := by omega
  have ha1 : (a : Int) < m := by omega
  have hb0 : (0 : Int) ≤ b := by omega
  have hb1 : (b : Int) < m := by omega
  go_enter Tryz.func62, Tryz.ntmps62
  go_wp2_with fail
  refine (PA.out _).mono ?_
  rintro e w1 ⟨rfl, s1⟩
  have HS1 := Lib.hid s1
  clear s1 PA
  go_wp2_with fail
  refine (PB.out _).mono ?_
  rintro e w2 ⟨rfl, s2⟩
  have HS2 := Lib.hid (HS1.out.trans s2)
  clear s2 PB
  obtain ⟨ba, oa, rfl, _, _, _, c1, _⟩ := (HT.out.same HS2.out).at_ (pt_at (ts := ts) (a := a) (by have := HL.out; omega))
  obtain ⟨bb, ob, hbb, _, _, _, d1, _⟩ := (HT.out.same HS2.out).at_ (pt_at (ts := ts) (a := b) (by have := HL.out; omega))
  injection hbb with hbb
  injection hbb with h1 h2
  subst h1
  subst h2
  have hE : aheadB ts a b = if (pt ts a).prio = (pt ts b).prio then decide (a < b) else decide ((pt ts b).prio < (pt ts a).prio) := rfl
  generalize (pt ts a).prio = x at *
  generalize (pt ts b).prio = y at *
  by_cases hxy : x = y
  · rw [if_pos hxy] at hE
    have e1 : (x != y) = false := by simpa using hxy
    clear hxy
    by_cases hab : a < b
    · have hab' : (a : Int) < b := by omega
      rw [decide_eq_true hab] at hE
      have HE := Lib.hid hE
      clear hE
      go_wp2_with fail
      go_quiet (fail)
      have HS3 := Lib.hid (HS2.out.drewN nq)
      go_wp2_with fail
      go_ret
      exact ⟨ret_bool HE.out.symm, HS3.out⟩
    · have hab' : ¬ (a : Int) < b := by omega
      rw [decide_eq_false hab] at hE
      have HE := Lib.hid hE
      clear hE
      go_wp2_with fail
      go_quiet (fail)
      have HS3 := Lib.hid (HS2.out.drewN nq)
      go_wp2_with fail
      go_ret
      exact ⟨ret_bool HE.out.symm, HS3.out⟩
  · rw [if_neg hxy] at hE
    have e1 : (x != y) = true := by simpa using hxy
    clear hxy
    by_cases hab : y < x
    · rw [decide_eq_true hab] at hE
      have HE := Lib.hid hE
      clear hE
      go_wp2_with fail
      go_quiet (fail)
      have HS3 := Lib.hid (HS2.out.drewN nq)
      go_wp2_with fail
      go_quiet (fail)
      go_wp2_with fail
      go_ret
      exact ⟨ret_bool HE.out.symm, HS3.out.drewN _⟩
    · rw [decide_eq_false hab] at hE
      have HE := Lib.hid hE
      clear hE
      go_wp2_with fail
      go_quiet (fail)
      have HS3 := Lib.hid (HS2.out.drewN nq)
      go_wp2_with fail
      go_quiet (fail)
      go_wp2_with fail
      go_ret
      exact ⟨ret_bool (by rw [HE.out]; exact decide_eq_false (by omega)), HS3.out.drewN _⟩

theorem place_no (A : Option Addr) (m c : Nat) (x : Int) (h : x < 0 ∨ (m : Int) ≤ x) (w : World) :
    Calls Tryz.prog 86 #[.slice A m c, .int .i64 x] w fun e w' => e = .returned (.bool false) ∧ Same w w' := by
  by_cases h0 : x < 0
  · have d0 : decide ((0 : Int) ≤ x) = false := decide_eq_false (by omega)
    clear h
    go_enter Tryz.func86, Tryz.ntmps86
    go_wp2_with fail
    go_ret
    exact ⟨rfl, Same.refl _⟩
  · have d0 : decide ((0 : Int) ≤ x) = true := decide_eq_true (by omega)
    have d1 : decide (x < (m : Int)) = false := decide_eq_false (by omega)
    clear h
    go_enter Tryz.func86, Tryz.ntmps86
    go_wp2_with fail
    go_ret
    exact ⟨rfl, Same.refl _⟩
def inI (m : Nat) (x : Int) : Prop := 0 ≤ x ∧ x < m
instance (m : Nat) (x : Int) : Decidable (inI m x) := by unfold inI; infer_instance
def aheadI (ts : List PT) (x y : Int) : Bool := if inI ts.length x ∧ inI ts.length y then aheadB ts x.toNat y.toNat else false
theorem aheadI_yes {ts : List PT} {a b : Nat} (ha : a < ts.length) (hb : b < ts.length) : aheadI ts a b = aheadB ts a b := by
  unfold aheadI inI
  rw [if_pos ⟨by omega, by omega⟩, Int.toNat_natCast, Int.toNat_natCast]
theorem aheadI_no {ts : List PT} {x y : Int} (h : ¬ (inI ts.length x ∧ inI ts.length y)) : aheadI ts x y = false := by
  unfold aheadI
  rw [if_neg h]
set_option maxRecDepth 100000 in
theorem ahead_gen (A : Option Addr) (m c : Nat) (ts : List PT) (x y : Int) (w : World) (hl : ts.length = m) (ht : TsAt w A ts) :
    Calls Tryz.prog 62 #[.slice A m c, .int .i64 x, .int .i64 y] w fun e w' => e = .returned (.bool (aheadI ts x y)) ∧ Same w w' := by
  by_cases hx : inI m x
  · by_cases hy : inI m y
    · obtain ⟨a, rfl⟩ := Int.eq_ofNat_of_zero_le hx.1
      obtain ⟨b, rfl⟩ := Int.eq_ofNat_of_zero_le hy.1
      have h1 := hx.2
      have h2 := hy.2
      rw [aheadI_yes (by omega) (by omega)]
      exact ahead_any A m c ts a b w hl (by omega) (by omega) ht
    · rw [aheadI_no (by rw [hl]; exact fun h => hy h.2)]
      obtain ⟨a, rfl⟩ := Int.eq_ofNat_of_zero_le hx.1
      have h1 := hx.2
      have PA := Lib.hid (place_any A m c a (by omega))
      have PB := Lib.hid (fun w => place_no A m c y (by unfold inI at hy; omega) w)
      clear hx hy hl ht h1
      go_enter Tryz.func62, Tryz.ntmps62
      go_wp2_with fail
      refine (PA.out _).mono ?_
      rintro e w1 ⟨rfl, s1⟩
      go_wp2_with fail
      refine (PB.out _).mono ?_
      rintro e w2 ⟨rfl, s2⟩
      go_wp2_with fail
      go_ret
      exact ⟨rfl, s1.trans s2⟩
  · rw [aheadI_no (by rw [hl]; exact fun h => hx h.1)]
    have PB := Lib.hid (fun w => place_no A m c x (by unfold inI at hx; omega) w)
    clear hx hl ht
    go_enter Tryz.func62, Tryz.ntmps62
    go_wp2_with fail
    refine (PB.out _).mono ?_
    rintro e w1 ⟨rfl, s1⟩
    go_wp2_with fail
    go_ret
    exact ⟨rfl, s1⟩
set_option maxRecDepth 100000 in
theorem rahead_gen (A : Option Addr) (m c : Nat) (ts : List PT) (x y : Int) (w : World) (hl : ts.length = m) (ht : TsAt w A ts) :
    Calls Tryz.prog 20 #[.slice A m c, .int .i64 x, .int .i64 y] w fun e w' => e = .returned (.bool (aheadI ts x y)) ∧ Same w w' := by
  by_cases h0 : x < 0
  · rw [aheadI_no (by unfold inI; omega)]
    have d0 : decide (x < 0) = true := decide_eq_true h0
    clear h0 hl ht
    go_enter Tryz.func20, Tryz.ntmps20
    go_wp2_with fail
    go_ret
    exact ⟨rfl, Same.refl _⟩
  have d0 : decide (x < 0) = false := decide_eq_false h0
  by_cases h1 : y < 0
  · rw [aheadI_no (by unfold inI; omega)]
    have d1 : decide (y < 0) = true := decide_eq_true h1
    clear h0 h1 hl ht
    go_enter Tryz.func20, Tryz.ntmps20
    go_wp2_with fail
    go_ret
    exact ⟨rfl, Same.refl _⟩
  have d1 : decide (y < 0) = false := decide_eq_false h1
  by_cases h2 : (m : Int) ≤ x
  · rw [aheadI_no (by unfold inI; omega)]
    have d2 : decide ((m : Int) ≤ x) = true := decide_eq_true h2
    clear h0 h1 h2 hl ht
    go_enter Tryz.func20, Tryz.ntmps20
    go_wp2_with fail
    go_ret
    exact ⟨rfl, Same.refl _⟩
  have d2 : decide ((m : Int) ≤ x) = false := decide_eq_false h2
  by_cases h3 : (m : Int) ≤ y
  · rw [aheadI_no (by unfold inI; omega)]
    have d3 : decide ((m : Int) ≤ y) = true := decide_eq_true h3
    clear h0 h1 h2 h3 hl ht
    go_enter Tryz.func20, Tryz.ntmps20
    go_wp2_with fail
    go_ret
    exact ⟨rfl, Same.refl _⟩
  have d3 : decide ((m : Int) ≤ y) = false := decide_eq_false h3
  obtain ⟨a, rfl⟩ := Int.eq_ofNat_of_zero_le (show 0 ≤ x by omega)
  obtain ⟨b, rfl⟩ := Int.eq_ofNat_of_zero_le (show 0 ≤ y by omega)
  rw [aheadI_yes (by omega) (by omega)]
  have ha0 : (0 : Int) ≤ a := by omega
  have ha1 : (a : Int) < m := by omega
  have hb0 : (0 : Int) ≤ b := by omega
  have hb1 : (b : Int) < m := by omega
  obtain ⟨ba, oa, rfl, _, _, _, c1, _⟩ := ht.at_ (pt_at (ts := ts) (a := a) (by omega))
  obtain ⟨bb, ob, hbb, _, _, _, e1, _⟩ := ht.at_ (pt_at (ts := ts) (a := b) (by omega))
  injection hbb with hbb
  injection hbb with g1 g2
  subst g1
  subst g2
  have hE : aheadB ts a b = if (pt ts a).prio = (pt ts b).prio then decide (a < b) else decide ((pt ts b).prio < (pt ts a).prio) := rfl
  clear ht hl h0 h1 h2 h3
  generalize (pt ts a).prio = u at *
  generalize (pt ts b).prio = v at *
  by_cases huv : u = v
  · rw [if_pos huv] at hE
    have f1 : (u == v) = true := by simpa using huv
    have HE := Lib.hid hE
    clear hE huv
    go_enter Tryz.func20, Tryz.ntmps20
    go_wp2_with fail
    go_quiet (fail)
    go_wp2_with fail
    go_ret
    exact ⟨ret_bool (by rw [HE.out]), (Same.refl _).drewN _⟩
  · rw [if_neg huv] at hE
    have f1 : (u == v) = false := by simpa using huv
    have HE := Lib.hid hE
    clear hE huv
    generalize hd : decide (v < u) = d at *
    go_enter Tryz.func20, Tryz.ntmps20
    go_wp2_with fail
    go_quiet (fail)
    have HS3 := Lib.hid ((Same.refl w).drewN nq)
    go_wp2_with fail
    go_quiet (fail)
    go_wp2_with fail
    go_ret
    exact ⟨ret_bool (by rw [HE.out]), HS3.out.drewN _⟩
end Go.Proofs.YthhbhbfkbncegaaGreatDoor.Ah
end
section
section
set_option linter.unusedSimpArgs false
set_option linter.unusedVariables false
namespace Go.Proofs.YthhbhbfkbncegaaGreatDoor.Sl
open Go.ChangeShapes Go.WideShapes Go.ChangeAt Go.RowKit Ws
open Im (PT PO PS TsAt OsAt SysAt)
open Dm

theorem weigh_in {P : List Fp.Ins} (hok : Fw.okB P = true) (hnn : ∀ j, j < P.length → 0 ≤ (Fp.at_ P j).n) (ws : List Int) : 0 ≤ Cs.weighW Cs.btG P ws ∧ Cs.weighW Cs.btG P ws ≤ 1099511627776 := by
  have hF := Fw.okB_fine hok
  have hbc : ∀ k, k < P.length → (Fp.at_ P k).op = 16 → 0 ≤ (Fp.at_ P k).c ∧ (Fp.at_ P k).c < 1099511627776 := fun k hk h16 => by
    have := Cs.back_c (hF.right k hk) h16
    omega
  have hCl : ∀ j, j < (Fp.loopsL P).length → 0 ≤ (Fp.at_ P (Fp.lp (Fp.loopsL P) j).2.toNat).c := fun j hj => by
    have h1 := Cs.lp_in hF hnn hj
    exact (hbc _ (by omega) (Cs.lp_back hF hnn hj)).1
  have h0 := Wk.max_walk hF hnn hCl ws [] (n := 0) (fun i hi => by omega)
  have h2 : Wk.sumL ws (Wk.pcs P [] 0) = 0 := rfl
  have h1 := Cs.weigh_ok hF hnn hbc ws
  unfold Cs.Ok at h1
  omega
theorem wei_bd {P : List Fp.Ins} (hnn : ∀ j, j < P.length → 0 ≤ (Fp.at_ P j).n) (ws : List Int) : 0 ≤ Cs.weI true P ws ∧ Cs.weI true P ws ≤ 1099511627776 := by
  by_cases he : Cs.weE P ws.length = 0
  · have hok : Fw.okB P = true := by
      unfold Fw.okB
      rw [decide_eq_true_eq]
      unfold Cs.weE at he
      split at he
      · assumption
      · exact he
    have := weigh_in hok hnn ws
    unfold Cs.weI
    rw [if_pos he]
    exact this
  · rw [Cs.wei_bad he]
    omega
theorem pI_nn {w : World} {A : Option Addr} {p : PT} (h : Im.Code w A p.code) : ∀ j, j < (pI p).length → 0 ≤ (Fp.at_ (pI p) j).n := (prgI h).nn
theorem dear_bd {A : Option Addr} {s : PS} {w : World} (ht : TsAt w A s.ts) (i fails : Int) : 0 ≤ dearI s i fails ∧ dearI s i fails ≤ 1099511627776 := by
  by_cases h : i < 0 ∨ (s.ts.length : Int) ≤ i
  · rw [(dear_out (fails := fails) h).1]
    omega
  · obtain ⟨k, rfl⟩ : ∃ k : Nat, i = k := ⟨i.toNat, by omega⟩
    have hk : k < s.ts.length := by omega
    obtain ⟨p, hp⟩ : ∃ p, s.ts[k]? = some p := ⟨s.ts[k], List.getElem?_eq_getElem hk⟩
    rw [(dear_in (fails := fails) hp).1]
    obtain ⟨_, _, _, _, _, _, _, _, _, _, _, _, hc, _⟩ := ht.at_ hp
    exact wei_bd (pI_nn hc) _
theorem dem_bd {A : Option Addr} {s : PS} {w : World} (ht : TsAt w A s.ts) (i k x y : Int) : 0 ≤ demI s i k x y ∧ demI s i k x y ≤ 1099511627776 := by
  by_cases h : (i < 0 ∨ (s.ts.length : Int) ≤ i) ∨ (k < 0 ∨ (s.os.length : Int) ≤ k)
  · rw [dem_out h]
    omega
  · obtain ⟨a, rfl⟩ : ∃ a : Nat, i = a := ⟨i.toNat, by omega⟩
    obtain ⟨b, rfl⟩ : ∃ b : Nat, k = b := ⟨k.toNat, by omega⟩
    have ha : a < s.ts.length := by omega
    obtain ⟨p, hp⟩ : ∃ p, s.ts[a]? = some p := ⟨s.ts[a], List.getElem?_eq_getElem ha⟩
    rw [dem_in hp (by omega)]
    obtain ⟨_, _, _, _, _, _, _, _, _, _, _, _, hc, _⟩ := ht.at_ hp
    exact wei_bd (pI_nn hc) _
end Go.Proofs.YthhbhbfkbncegaaGreatDoor.Sl
end
section
set_option linter.unusedSimpArgs false
set_option linter.unusedVariables false
namespace Go.Proofs.YthhbhbfkbncegaaGreatDoor.Sl
open Im (PT PO PS TsAt OsAt SysAt)
open Dm (demI dearI dearE)
open Go.Proofs.YthhbhbfkbncegaaGreatDoor.Wd (addv mulv ceilv)

noncomputable def readsP (s : PS) (i k : Int) : Bool := decide (Sy.roleF s i k = 1 ∧ demI s i k 17 20 ≠ 0)
def obj (s : PS) (k : Int) : PO := s.os.getD k.toNat default
def aheadP (s : PS) (i k : Int) : Bool := Ah.aheadI s.ts (obj s k).ow i
def failO (o : PO) : Int := Bd.failI o.k o.wd o.sl o.cp o.sa o.ini.length o.rd.length 1
noncomputable def ofR (s : PS) (i k : Int) : SR :=
  if readsP s i k = true then
    if aheadP s i k = true then ⟨(obj s k).k, (obj s k).sl, failO (obj s k), true, demI s (obj s k).ow k 18 19, (Ah.pt s.ts (obj s k).ow.toNat).per⟩
    else ⟨(obj s k).k, (obj s k).sl, failO (obj s k), false, 0, 0⟩
  else zeroR
noncomputable def jobL (s : PS) (i : Int) (n : Nat) : List SR := (List.range n).map (fun (k : Nat) => ofR s i k)
noncomputable def jobI (s : PS) (i r : Int) : Int := if dearE s i 0 = 0 then stepsR (dearI s i 0) (jobL s i s.os.length) r else 0
theorem jobL_len (s : PS) (i : Int) (n : Nat) : (jobL s i n).length = n := by simp [jobL]
theorem jobL_succ (s : PS) (i : Int) (n : Nat) : jobL s i (n + 1) = jobL s i n ++ [ofR s i n] := by
  unfold jobL
  rw [List.range_succ, List.map_append]
  rfl
theorem of_no {s : PS} {i k : Int} (h : readsP s i k = false) : ofR s i k = zeroR := if_neg (by rw [h]; exact Bool.noConfusion)
theorem of_behind {s : PS} {i k : Int} (h : readsP s i k = true) (g : aheadP s i k = false) : ofR s i k = ⟨(obj s k).k, (obj s k).sl, failO (obj s k), false, 0, 0⟩ := by
  unfold ofR
  rw [if_pos h, if_neg (by rw [g]; exact Bool.noConfusion)]
theorem of_ahead {s : PS} {i k : Int} (h : readsP s i k = true) (g : aheadP s i k = true) : ofR s i k = ⟨(obj s k).k, (obj s k).sl, failO (obj s k), true, demI s (obj s k).ow k 18 19, (Ah.pt s.ts (obj s k).ow.toNat).per⟩ := by
  unfold ofR
  rw [if_pos h, if_pos g]
theorem wr_zero (r : Int) : wrR zeroR r = 0 := wr_none rfl r
theorem fl_zero (r : Int) : flR zeroR r = 0 := fl_none rfl r
/-- the document's Writes -/
theorem wr_doc (s : PS) (i k r : Int) : wrR (ofR s i k) r = if readsP s i k = true ∧ aheadP s i k = true then mulv (ceilv r (Ah.pt s.ts (obj s k).ow.toNat).per) (demI s (obj s k).ow k 18 19) else 0 := by
  cases h : readsP s i k with
  | false =>
    rw [of_no h, wr_zero, if_neg (fun g => by cases g.1)]
  | true =>
    cases g : aheadP s i k with
    | false => rw [of_behind h g, wr_none rfl, if_neg (fun g => by cases g.2)]
    | true =>
      rw [of_ahead h g, if_pos ⟨rfl, rfl⟩, mulv_comm]
      rfl
theorem of_k {s : PS} {i k : Int} (h : readsP s i k = true) : (ofR s i k).k = (obj s k).k ∧ (ofR s i k).sl = (obj s k).sl ∧ (ofR s i k).fl = failO (obj s k) := by
  cases g : aheadP s i k with
  | false => rw [of_behind h g]; exact ⟨rfl, rfl, rfl⟩
  | true => rw [of_ahead h g]; exact ⟨rfl, rfl, rfl⟩
/-- the document's Fails -/
theorem fl_doc (s : PS) (i k r : Int) : flR (ofR s i k) r = if wrR (ofR s i k) r = 0 ∨ (¬ (obj s k).k = 3 ∧ ¬ (obj s k).k = 5 ∧ ¬ (obj s k).k = 4) then 0 else if (obj s k).k = 4 ∧ 2 < (obj s k).sl then wrR (ofR s i k) r / ((obj s k).sl - 1) else wrR (ofR s i k) r := by
  cases h : readsP s i k with
  | false =>
    have e : wrR (ofR s i k) r = 0 := by rw [of_no h, wr_zero]
    rw [if_pos (.inl e), of_no h, fl_zero]
  | true =>
    obtain ⟨e1, e2, _⟩ := of_k h
    unfold flR
    rw [e1, e2]
    generalize wrR (ofR s i k) r = n
    by_cases h0 : n = 0
    · subst h0
      have hl : (if (obj s k).k = 3 ∨ (obj s k).k = 5 then (0 : Int) else if (obj s k).k = 4 then 0 / (max (obj s k).sl 2 - 1) else 0) = 0 := by
        split
        · rfl
        · split
          · exact Int.zero_ediv _
          · rfl
      rw [hl, if_pos (.inl rfl)]
    · by_cases h1 : (obj s k).k = 3 ∨ (obj s k).k = 5
      · rw [if_pos h1, if_neg (by omega), if_neg (by omega)]
      · by_cases h2 : (obj s k).k = 4
        · rw [if_neg h1, if_pos h2, if_neg (by omega)]
          by_cases h3 : 2 < (obj s k).sl
          · rw [if_pos ⟨h2, h3⟩, show max (obj s k).sl 2 = (obj s k).sl from by omega]
          · rw [if_neg (fun h => h3 h.2), show max (obj s k).sl 2 - 1 = 1 from by omega, Int.ediv_one]
        · rw [if_neg h1, if_neg h2, if_pos (by omega)]
theorem steps_bd (n : Int) (hn : 0 ≤ n ∧ n ≤ 1099511627776) (l : List SR) (r : Int) : 0 ≤ stepsR n l r ∧ stepsR n l r ≤ 1099511627776 := by
  induction l generalizing n with
  | nil => exact hn
  | cons x l ih => exact ih _ (addv_bd _ _)
/-- a round of the document's Job -/
theorem job_no {s : PS} {i : Int} {k : Nat} {r n : Int} (hn : 0 ≤ n ∧ n ≤ 1099511627776) (h : readsP s i k = false) : stepsR n (jobL s i (k + 1)) r = stepsR n (jobL s i k) r := by
  rw [jobL_succ, steps_snoc, of_no h, fl_zero, mulv_zero, addv_zero (steps_bd n hn _ _)]
theorem job_yes {s : PS} {i : Int} {k : Nat} {r n : Int} (h : readsP s i k = true) : stepsR n (jobL s i (k + 1)) r = addv (stepsR n (jobL s i k) r) (mulv (flR (ofR s i k) r) (failO (obj s k))) := by
  rw [jobL_succ, steps_snoc, (of_k h).2.2]
/-- for more ticks nothing is less -/
theorem job_mono {s : PS} {i r q : Int} (h : r ≤ q) : jobI s i r ≤ jobI s i q := by
  unfold jobI
  split
  · exact steps_mono _ (Int.le_refl _) h
  · exact Int.le_refl _
/-- of whom nobody goes ahead -/
theorem first_of {s : PS} {i : Int} (h : ∀ x, Ah.aheadI s.ts x i = false) (k : Int) : (ofR s i k).wr = 0 := by
  cases g : readsP s i k with
  | false => rw [of_no g]; rfl
  | true => rw [of_behind g (h _)]
theorem job_first {A : Option Addr} {w : World} {s : PS} {i : Int} (ht : TsAt w A s.ts) (h : ∀ x, Ah.aheadI s.ts x i = false) (he : dearE s i 0 = 0) (r : Int) : jobI s i r = dearI s i 0 := by
  unfold jobI
  rw [if_pos he]
  refine steps_none _ (fun x hx => ?_) (dear_bd ht i 0)
  unfold jobL at hx
  obtain ⟨k, _, rfl⟩ := List.mem_map.1 hx
  exact fl_none (first_of h _) r
theorem first_all {s : PS} {i : Int} (h : ∀ j : Nat, j < s.ts.length → Ah.aheadI s.ts j i = false) : ∀ x, Ah.aheadI s.ts x i = false := fun x => by
  by_cases g : Ah.inI s.ts.length x ∧ Ah.inI s.ts.length i
  · obtain ⟨a, rfl⟩ := Int.eq_ofNat_of_zero_le g.1.1
    have h2 := g.1.2
    exact h a (by omega)
  · exact Ah.aheadI_no g
end Go.Proofs.YthhbhbfkbncegaaGreatDoor.Sl
end
end
