/-

  The walk of the law FlowTells, first part: programs that are too long, and programs that may not be; what its loop tells.
-/
import Derived.Test.YtejajmdmfipplaaDoorFlowRreach
import Derived.Test.YtejajmdmfipplaaDoorFlowAwake
set_option linter.unusedVariables false
set_option linter.unusedSimpArgs false
namespace Go.Proofs.YtejajmdmfipplaaDoor.Fw
open Go.ChangeShapes Go.WideShapes Go.ChangeAt Go.RowKit Ws Fp
open Go.Proofs.YtejajmdmfipplaaDoor.Is (Tabs ins rightB leadB)

set_option maxRecDepth 100000 in
theorem tells_long (A : Option Addr) (m c : Nat) (x : Int) (w : World) (ht : Tabs w) (h2 : (200 : Int) < m) :
    Calls Tryd.prog 7 #[.slice A m c, .int .i64 x] w fun e w' => e = .returned (.bool true) ∧ Same w w' := by
  have AW := Lib.hid (awake10 w ht)
  clear ht
  go_enter Tryd.func7, Tryd.ntmps7
  go_wp2_with fail
  refine AW.out.mono ?_
  rintro e w3 ⟨rfl, s3⟩
  go_wp2
  go_ret
  exact ⟨rfl, s3⟩

theorem told_bad {p : List Ins} (h : okB p = false) : toldL p = [] := by unfold toldL; rw [h]; rfl
theorem nexts_bad {p : List Ins} (h : okB p = false) (x : Int) : nextsL p x = [] := by unfold nextsL; rw [if_neg (fun h' => by rw [h] at h'; exact Bool.false_ne_true h'.1)]
theorem reach_bad {p : List Ins} (h : okB p = false) : reachL p = [] := by unfold reachL; rw [h]; rfl
set_option maxRecDepth 100000 in
theorem tells_bad (A : Option Addr) (m c : Nat) (p : List Ins) (x : Int) (w : World) (hl : p.length = m) (hm : m ≤ 200) (hp : Prg w A p) (ht : Tabs w) (hok : okB p = false) :
    Calls Tryd.prog 7 #[.slice A m c, .int .i64 x] w fun e w' => e = .returned (.bool true) ∧ Same w w' := by
  have h2 : ¬ (200 : Int) < m := by omega
  have IN := inner_any A m c p x w hl (by omega) hp ht
  have RF := fun w' (s : Same w w') => rfine_any A m c p w' hl (by omega) (hp.same s)
  have TL := fun w' (s : Same w w') => told_any A m c p w' hl (by omega) (hp.same s) (ht.same s)
  have DP := fun w' (s : Same w w') => depth_any A m c p x w' hl (by omega) (hp.same s) (ht.same s)
  have NX := fun w' (s : Same w w') => nexts_any A m c p x w' hl (by omega) (hp.same s) (ht.same s)
  have RE := fun w' (s : Same w w') => reached_any A m c p w' hl (by omega) (hp.same s) (ht.same s)
  have AW := Lib.hid (fun w' (s : Same w w') => awake10 w' (ht.same s))
  rw [told_bad hok] at IN
  rw [hok] at RF
  rw [told_bad hok] at TL DP
  rw [nexts_bad hok] at NX
  rw [reach_bad hok] at RE
  have HIN := Lib.hid IN
  have HRF := Lib.hid RF
  have HTL := Lib.hid TL
  have HDP := Lib.hid DP
  have HNX := Lib.hid NX
  have HRE := Lib.hid RE
  clear IN RF TL DP NX RE hl hp ht hok
  go_enter Tryd.func7, Tryd.ntmps7
  go_wp2_with fail
  refine HIN.out.mono ?_
  rintro e w1 ⟨he, s1⟩
  have he' : e = .returned (.tuple #[.agg #[.int .i64 0, .int .i64 0], .bool false]) := he
  subst he'
  have hs2 := s1.alloc (.cells #[.int .i64 0, .int .i64 0] 50)
  have HS2 := Lib.hid hs2
  have HB2 := Lib.hid (Blk.new w1 50 #[.int .i64 0, .int .i64 0])
  clear he s1 hs2 HIN
  go_wp2_with fail
  generalize w1.alloc (.cells #[.int .i64 0, .int .i64 0] 50) = w2 at *
  generalize w1.heap.size = q at *
  refine (HRF.out _ HS2.out).mono ?_
  rintro e w3 ⟨rfl, s3⟩
  have HS3 := Lib.hid (HS2.out.trans s3)
  have HB3 := Lib.hid (HB2.out.same s3)
  clear s3 HS2 HB2 HRF
  go_wp2_with fail
  refine (HTL.out _ HS3.out).mono ?_
  rintro e w4 ⟨A4, c4, rfl, _, s4⟩
  have HS4 := Lib.hid (HS3.out.trans s4)
  have HB4 := Lib.hid (HB3.out.same s4)
  have z0 : w4.cell? ⟨q, 0, none⟩ = some (.int .i64 0) := HB4.out.cell 0
  have z1 : w4.cell? ⟨q, 1, none⟩ = some (.int .i64 0) := HB4.out.cell 1
  clear s4 HS3 HB3 HTL HB4
  go_wp2_with fail
  refine (HDP.out _ HS4.out).mono ?_
  rintro e w5 ⟨rfl, s5⟩
  have HS5 := Lib.hid (HS4.out.trans s5)
  clear s5 HS4 HDP z0 z1
  go_wp2_with fail
  refine (HNX.out _ HS5.out).mono ?_
  rintro e w6 ⟨A6, c6, rfl, _, s6⟩
  have HS6 := Lib.hid (HS5.out.trans s6)
  clear s6 HS5 HNX
  go_wp2_with fail
  refine (HRE.out _ HS6.out).mono ?_
  rintro e w7 ⟨A7, c7, rfl, _, s7⟩
  have HS7 := Lib.hid (HS6.out.trans s7)
  clear s7 HS6 HRE
  go_wp2_with fail
  refine (AW.out _ HS7.out).mono ?_
  rintro e w8 ⟨rfl, s8⟩
  go_wp2
  go_ret
  exact ⟨rfl, HS7.out.trans s8⟩

/-- the best loop of the first k: -1, if none has the place -/
def bestI (l : List (Int × Int)) (x : Int) (k : Nat) : Int := match first k (fun j => hasB (lp l j) x) with | some j => (j : Int) | none => -1
theorem first_succ {f : Nat → Bool} {k : Nat} : first (k + 1) f = match first k f with | some j => some j | none => if f k = true then some k else none := by
  unfold first
  rw [List.range_succ, List.find?_append]
  cases h : (List.range k).find? f with
  | some j => rfl
  | none => simp [List.find?_cons]; split <;> simp_all
theorem best_keep {l : List (Int × Int)} {x : Int} {k j : Nat} (h : first k (fun j => hasB (lp l j) x) = some j) : bestI l x k = (j : Int) ∧ bestI l x (k + 1) = (j : Int) := by
  unfold bestI
  rw [first_succ, h]
  exact ⟨rfl, rfl⟩
theorem best_new {l : List (Int × Int)} {x : Int} {k : Nat} (h : first k (fun j => hasB (lp l j) x) = none) (hk : hasB (lp l k) x = true) : bestI l x k = -1 ∧ bestI l x (k + 1) = (k : Int) := by
  unfold bestI
  refine ⟨by rw [h], ?_⟩
  have h2 : first (k + 1) (fun j => hasB (lp l j) x) = some k := by
    rw [first_succ, h]
    simp [hk]
  rw [h2]
theorem best_skip {l : List (Int × Int)} {x : Int} {k : Nat} (hk : hasB (lp l k) x = false) : bestI l x (k + 1) = bestI l x k := by
  unfold bestI
  rw [first_succ]
  cases h : first k (fun j => hasB (lp l j) x) with
  | some j => rfl
  | none => simp only; rw [if_neg (by rw [hk]; exact Bool.false_ne_true)]

end Go.Proofs.YtejajmdmfipplaaDoor.Fw
