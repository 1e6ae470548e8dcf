/-

 The law RtaAll.
-/
import Derived.Test.YthhbhbfkbncegaaGreatDoorSplSpec
import Derived.Test.YthhbhbfkbncegaaGreatDoorAhead
import Derived.Test.YthhbhbfkbncegaaGreatDoorDmdMost
import Derived.Test.YthhbhbfkbncegaaGreatDoorRegionOff
import Derived.Laws.Tables
import Derived.Deep.RegionHeld3
import Derived.Test.YthhbhbfkbncegaaGreatDoorSplSteps
import Derived.Test.YthhbhbfkbncegaaGreatDoorOperApp
import Derived.Test.YthhbhbfkbncegaaGreatDoorHeldB
import Derived.Test.YthhbhbfkbncegaaGreatDoorCstWeigh
import Derived.Test.YthhbhbfkbncegaaGreatDoorRowInt
import Derived.RangeFuncNested
import Derived.RangeFuncBound
import Derived.RangeFuncCalls
import Derived.RangeFuncLeaves
import Derived.RangeFuncKeeps
import Derived.RangeFuncFrom
import Derived.Shelf.Abstract
import Derived.Shelf.RegionOpen
import Derived.OwnWalkIn
import Derived.TacticsInMore
import Derived.LoopNIn
import Derived.LoopIn
import Derived.BigQuiet
import Derived.WalkKit
import Derived.Test.YthhbhbfkbncegaaGreatDoorCstOnce
import Derived.Test.YthhbhbfkbncegaaGreatDoorBitOrd
import Derived.Test.YthhbhbfkbncegaaGreatDoorOrders
import Derived.Test.YthhbhbfkbncegaaGreatDoorSplRjob
import Derived.Test.YthhbhbfkbncegaaGreatDoorFlowUse
import Derived.Test.YthhbhbfkbncegaaGreatDoorSysFew
import Derived.Test.YthhbhbfkbncegaaGreatDoorSysIn3
section
set_option linter.unusedSimpArgs false
set_option linter.unusedVariables false
namespace Go.Proofs.YthhbhbfkbncegaaGreatDoor.Rt
open Im (PT PO PS TsAt OsAt SysAt)
open Dm (demI dearI dearE)
open Go.Proofs.YthhbhbfkbncegaaGreatDoor.Wd (addv mulv ceilv sm)
open Sl (jobI)

/-- what comes in r ticks, of the first k tasks that go ahead and the task itself -/
noncomputable def loadT (s : PS) (i : Int) (costs : List Int) (r : Int) : Nat → Int
 | 0 => jobI s i r
 | k + 1 => if Ah.aheadI s.ts k i = true then addv (loadT s i costs r k) (mulv (costs.getD k 0) (ceilv r (Ah.pt s.ts k).per)) else loadT s i costs r k
noncomputable def loadI (s : PS) (i : Int) (costs : List Int) (r : Int) : Int := loadT s i costs r s.ts.length
theorem load_yes {s : PS} {i : Int} {costs : List Int} {r : Int} {k : Nat} (h : Ah.aheadI s.ts k i = true) : loadT s i costs r (k + 1) = addv (loadT s i costs r k) (mulv (costs.getD k 0) (ceilv r (Ah.pt s.ts k).per)) := if_pos h
theorem load_no {s : PS} {i : Int} {costs : List Int} {r : Int} {k : Nat} (h : Ah.aheadI s.ts k i = false) : loadT s i costs r (k + 1) = loadT s i costs r k := if_neg (by rw [h]; exact Bool.noConfusion)
theorem job_bd {A : Option Addr} {w : World} {s : PS} (ht : TsAt w A s.ts) (i r : Int) : 0 ≤ jobI s i r ∧ jobI s i r ≤ 1099511627776 := by
 unfold jobI
 split
 ·exact Sl.steps_bd _ (Sl.dear_bd ht i 0) _ _
 ·omega
theorem loadT_bd {A : Option Addr} {w : World} {s : PS} (ht : TsAt w A s.ts) (i : Int) (costs : List Int) (r : Int) : ∀ k, 0 ≤ loadT s i costs r k ∧ loadT s i costs r k ≤ 1099511627776
 | 0 => job_bd ht i r
 | k + 1 => by
  unfold loadT
  split
  ·exact Sl.addv_bd _ _
  ·exact loadT_bd ht i costs r k
/-- where no cost is told nothing is added -/
theorem load_far {A : Option Addr} {w : World} {s : PS} (ht : TsAt w A s.ts) {i : Int} {costs : List Int} {r : Int} {k : Nat} (h : costs.length ≤ k) : loadT s i costs r (k + 1) = loadT s i costs r k := by
 cases g : Ah.aheadI s.ts k i with
 | false => exact load_no g
 | true => rw [load_yes g, List.getD_eq_getElem?_getD, List.getElem?_eq_none h, Option.getD_none, Sl.mulv_zero, Sl.addv_zero (loadT_bd ht i costs r k)]
theorem job_away {s : PS} {i : Int} (h : ¬ (0 ≤ i ∧ i < s.ts.length)) (r : Int) : jobI s i r = 0 := if_neg (by rw [(Dm.dear_out (fails := 0) (by omega : i < 0 ∨ (s.ts.length : Int) ≤ i)).2]; decide)
theorem loadT_away {s : PS} {i : Int} (h : ¬ (0 ≤ i ∧ i < s.ts.length)) (costs : List Int) (r : Int) : ∀ k, loadT s i costs r k = 0
 | 0 => job_away h r
 | k + 1 => by rw [load_no (Ah.aheadI_no fun g => h g.2)]; exact loadT_away h costs r k
/-- the search: from r on, so many rounds at most -/
def respG (ld : Int → Int) (dl : Int) : Nat → Int → Int × Int
 | 0, _ => (0, 14)
 | f + 1, r => if r > dl then (0, 13) else if ld r = r then (r, 0) else respG ld dl f (ld r)
noncomputable def respI (s : PS) (i : Int) (costs : List Int) : Int × Int :=
 if 0 ≤ i ∧ i < s.ts.length then respG (loadI s i costs) (Ah.pt s.ts i.toNat).dl 10001 1 else (0, 1)
section
variable {ld : Int → Int} {dl : Int}
theorem resp_late {f : Nat} {r : Int} (h : r > dl) : respG ld dl (f + 1) r = (0, 13) := if_pos h
theorem resp_hit {f : Nat} {r : Int} (h : ¬ r > dl) (g : ld r = r) : respG ld dl (f + 1) r = (r, 0) := by
 unfold respG
 rw [if_neg h, if_pos g]
theorem resp_step {f : Nat} {r : Int} (h : ¬ r > dl) (g : ¬ ld r = r) : respG ld dl (f + 1) r = respG ld dl f (ld r) := by
 show (if r > dl then _ else if ld r = r then _ else _) = _
 rw [if_neg h, if_neg g]
end
end Go.Proofs.YthhbhbfkbncegaaGreatDoor.Rt
end
section
section
set_option linter.unusedVariables false
set_option linter.unusedSimpArgs false
namespace Go.Proofs.YthhbhbfkbncegaaGreatDoor.Rt
open Go.ChangeShapes Go.WideShapes Go.ChangeAt Go.RowKit Ws
open Im (PT PO PS TsAt OsAt SysAt)
open Go.Proofs.YthhbhbfkbncegaaGreatDoor.Wd (ret_bool ret_int addv mulv ceilv)
theorem int_info : (Tryz.prog.info? 3).map (fun i => (i.zero, i.size, i.bytes)) = some (some (.int .i64 0), 1, 8) := by kernel_rfl
theorem own_nil (w : World) (B : Nat) (e : TypeId) : Ws.Own w B e none 0 [] := ⟨by simp, .inl ⟨rfl, rfl⟩⟩
/-- a row of numbers that was told -/
def Nums (w : World) (l : List Int) (e : Ending) (w' : World) : Prop := ∃ A c, e = .returned (.slice A l.length c) ∧ Row w' A (l.map (Value.int .i64)) ∧ Same w w' ∧ ∀ b o, A = some ⟨b, o, none⟩ → w.heap.size ≤ b ∧ b < w'.heap.size
theorem nums_mk {w w' : World} {l : List Int} {A : Option Addr} {n c : Nat} (hn : n = l.length) (hr : Row w' A (l.map (Value.int .i64))) (hs : Same w w') (hf : ∀ b o, A = some ⟨b, o, none⟩ → w.heap.size ≤ b ∧ b < w'.heap.size) : Nums w l (.returned (.slice A n c)) w' := by
 subst hn
 exact ⟨A, c, rfl, hr, hs, hf⟩
theorem own_in {w : World} {B : Nat} {e : TypeId} {A : Option Addr} {c : Nat} {l : List Value} (h : Ws.Own w B e A c l) (b o : Nat) (hA : A = some ⟨b, o, none⟩) : B ≤ b ∧ b < w.heap.size := by
 subst hA
 rcases h.2 with ⟨h2, _⟩ | ⟨g2, cap, cur, hv, hb2, hg, _⟩
 ·cases h2
 ·injection hv with hv
  injection hv with hv
  injection hv with hv
  subst hv
  exact ⟨hb2, Blk.lt (show Blk w _ e cur from hg)⟩
/-- who goes ahead of whoever is asked for, of the first k -/
def aboveI (ts : List PT) (y : Int) : Nat → List Int
 | 0 => []
 | k + 1 => aboveI ts y k ++ (if Ah.aheadI ts k y = true then [(k : Int)] else [])
theorem aboveI_len (ts : List PT) (y : Int) : ∀ k, (aboveI ts y k).length ≤ k
 | 0 => Nat.le_refl _
 | k + 1 => by
  have := aboveI_len ts y k
  unfold aboveI
  rw [List.length_append]
  split <;> simp <;> omega
set_option maxRecDepth 100000 in
theorem above_gen (A : Option Addr) (m c : Nat) (ts : List PT) (b : Int) (w : World) (hl : ts.length = m) (hm : m ≤ 1000) (ht : TsAt w A ts) :
 Calls Tryz.prog 72 #[.slice A m c, .int .i64 b] w (Nums w (aboveI ts b m)) := by
 obtain ⟨i0, hi, hz0, hz1, hz2⟩ := info_parts int_info
 have AH := Lib.hid (fun (a : Nat) (ha : a < m) w' (s : Same w w') => Ah.ahead_gen A m c ts a b w' hl (ht.same s))
 clear ht hl
 go_enter Tryz.func72, Tryz.ntmps72
 go_wp2_with fail
 go_loopg [9, 5] m (fun gk iv lv wx => ∃ (k : Nat) (A' : Option Addr) (n' c' : Nat), k + gk = m ∧ iv = .int .i64 k ∧ lv = .slice A' n' c' ∧ n' = (aboveI ts b k).length ∧ Ws.Own wx w.heap.size 3 A' c' ((aboveI ts b k).map (Value.int .i64)) ∧ Same w wx)
 case atStart => exact ⟨0, none, 0, 0, by omega, rfl, rfl, rfl, own_nil _ _ _, Same.refl _⟩
 case round =>
  obtain ⟨k, A', n', c', hk, rfl, rfl, hn, ho, sx⟩ := hrel
  have HO := Lib.hid ho
  have HS := Lib.hid sx
  have HN := Lib.hid hn
  clear ho sx hn
  cases gk with
  | zero =>
   obtain rfl : k = m := by omega
   have hge : ¬ (k : Int) < (k : Int) := by omega
   go_wp2_with fail
   go_ret
   exact nums_mk HN.out HO.out.row HS.out (own_in HO.out)
  | succ GK =>
   have hlt : (k : Int) < m := by omega
   have hE : aboveI ts b (k + 1) = aboveI ts b k ++ (if Ah.aheadI ts k b = true then [(k : Int)] else []) := rfl
   have HE := Lib.hid hE
   clear hE
   have AK := Lib.hid (AH.out k (by omega) _ HS.out)
   go_wp2_with fail
   refine AK.out.mono ?_
   rintro e w1 ⟨rfl, s1⟩
   have HS1 := Lib.hid (HS.out.trans s1)
   have HO1 := Lib.hid (HO.out.same s1)
   clear s1 AK
   cases hab : Ah.aheadI ts k b
   ·have hE := HE.out
    rw [hab, if_neg Bool.false_ne_true, List.append_nil] at hE
    have HE' := Lib.hid hE
    clear hE hab
    go_wp2_with fail
    go_roundg GK
    case rel => exact ⟨k + 1, A', n', c', by omega, by go_num, rfl, by rw [HE'.out]; exact HN.out, by rw [HE'.out]; exact HO1.out, HS1.out⟩
    case measure => omega
   ·have hE := HE.out
    rw [hab, if_pos rfl] at hE
    have HE' := Lib.hid hE
    clear hE hab
    go_wp2_with (at_builtin; go_loud (refine wpList_app rfl (.tmp 16) (.tmp 18) 32 rfl w.heap.size 3 i0 _ 8 Tryz.underlying32 hi hz0 hz1 hz2 rfl A' n' c' ((aboveI ts b k).map (Value.int .i64)) rfl ?c1 (HO1.out.same ((Same.refl _).alloc _)) _ 1 1 [.int .i64 (k : Int)] rfl rfl (row_new _ _ _) ?c2 ?c3 (by omega) ?c4 ?_))
    case c1 => rw [List.length_map]; exact HN.out.symm
    case c2 => intro u hu; simp at hu; subst hu; rfl
    case c3 => have := aboveI_len ts b k; rw [List.length_map]; simp; omega
    case c4 => have := HS1.out.size; simp at this ⊢; omega
    intro A2 c2' w2 ho2 hc2 _
    have HS2 := Lib.hid (Same.more (HS1.out.alloc _) hc2 fun g hg => by
     have hg : A' = some ⟨g, 0, none⟩ := hg
     subst hg
     rcases HO.out.2 with ⟨h2, _⟩ | ⟨g2, cap, cur, hv, hb2, _⟩
     ·cases h2
     ·injection hv with hv
      injection hv with hv
      injection hv with hv
      omega)
    rw [show (aboveI ts b k).map (Value.int .i64) ++ [.int .i64 (k : Int)] = (aboveI ts b (k + 1)).map (Value.int .i64) by rw [HE'.out, List.map_append]; rfl] at ho2
    have HO2 := Lib.hid ho2
    clear ho2 hc2
    go_wp2_with fail
    go_roundg GK
    case rel => exact ⟨k + 1, A2, n' + 1, c2', by omega, by go_num, rfl, by rw [HE'.out, List.length_append, HN.out]; rfl, HO2.out, HS2.out⟩
    case measure => omega

/-- the sum over those that are listed is the sum over all -/
noncomputable def loadL (s : PS) (costs : List Int) (r : Int) (l : List Int) (x : Int) : Int := l.foldl (fun x a => addv x (mulv (costs.getD a.toNat 0) (ceilv r (Ah.pt s.ts a.toNat).per))) x
theorem load_above (s : PS) (i : Int) (costs : List Int) (r : Int) : ∀ k, loadL s costs r (aboveI s.ts i k) (Sl.jobI s i r) = loadT s i costs r k
 | 0 => rfl
 | k + 1 => by
  have ih := load_above s i costs r k
  unfold loadL at ih ⊢
  unfold aboveI
  rw [List.foldl_append, ih]
  cases h : Ah.aheadI s.ts k i with
  | false => rw [load_no h]; rfl
  | true => rw [load_yes h]; rfl
theorem above_in {ts : List PT} {y : Int} : ∀ (k : Nat), k ≤ ts.length → ∀ a ∈ aboveI ts y k, 0 ≤ a ∧ a < ts.length
 | 0, _, a, h => by cases h
 | k + 1, hk, a, h => by
  unfold aboveI at h
  rcases List.mem_append.1 h with h | h
  ·exact above_in k (by omega) a h
  ·split at h
   ·rw [List.mem_singleton] at h
    omega
   ·cases h
theorem loadL_take {s : PS} {costs : List Int} {r : Int} {l : List Int} {x : Int} {k : Nat} {a : Int} (h : l[k]? = some a) : loadL s costs r (l.take (k + 1)) x = addv (loadL s costs r (l.take k) x) (mulv (costs.getD a.toNat 0) (ceilv r (Ah.pt s.ts a.toNat).per)) := by
 unfold loadL
 rw [List.take_add_one, h, List.foldl_append]
 rfl
end Go.Proofs.YthhbhbfkbncegaaGreatDoor.Rt
end
section
section
section
set_option linter.unusedVariables false
set_option linter.unusedSimpArgs false
namespace Go.Proofs.YthhbhbfkbncegaaGreatDoor.Sl
open Go.ChangeShapes Go.WideShapes Go.ChangeAt Go.RowKit Ws
open Im (PT PO PS TsAt OsAt SysAt tcells ocells)
open Dm (demI dearI dearE)
theorem res_cell1 {P : Program} {fn : Func} {p : Tmp} {ty : TypeId} (h : fn.results = #[.cell p ty]) (tmps : Array Value) (w : World) (g : Nat) (T : TypeId) (cs : Array Value) (fr : Nat × Nat) (d : TypeDesc)
 (hp : tmps.getD p undef = .pointer (some ⟨g, 0, none⟩)) (hg : w.heap[g]? = some (.cells cs T fr))
 (hu : P.underlying ty = some d) (hd : (match d with | .struct _ | .array _ _ => true | _ => false) = true) (hi : (P.info? ty).map (·.size) = some cs.size) :
 (results fn tmps).run P w = .ok (.agg cs) w := by
 have hp' : tmps[p]?.getD undef = .pointer (some ⟨g, 0, none⟩) := by simpa using hp
 simp [results, h, hp', asAddr, run_loadVar_row w g T ty cs fr d hg hu hd hi]
theorem role_in {s : PS} {i k : Int} (h : Sy.roleF s i k ≠ 0) : (0 ≤ i ∧ i < s.ts.length) ∧ 0 ≤ k ∧ k < s.os.length := by
 by_cases g : (0 ≤ i ∧ i < s.ts.length) ∧ 0 ≤ k ∧ k < s.os.length
 ·exact g
 ·exact absurd (if_neg g) h
set_option maxRecDepth 100000 in
set_option maxHeartbeats 4000000 in
theorem of_any (A B : Option Addr) (n c m d : Nat) (s : PS) (i k : Int) (w : World) (hs : SysAt w A n B m s) (hnm : n ≤ maxLen ∧ m ≤ maxLen) (hf : ∀ p ∈ s.ts, p.code.length ≤ 200) (ho : Sy.OFew s.os 5000) (hT : Is.Tabs w) :
 Calls Tryz.prog 35 #[.agg #[.slice A n c, .slice B m d], .int .i64 i, .int .i64 k] w fun e w' => e = .returned (.agg (rcells (ofR s i k)).toArray) ∧ Same w w' := by
 obtain ⟨w0, hw0⟩ : ∃ w0, w0 = w.alloc (.cells #[.slice A n c, .slice B m d] 25) := ⟨_, rfl⟩
 obtain ⟨g, hg⟩ : ∃ g, g = w0.heap.size := ⟨_, rfl⟩
 obtain ⟨w1, hw1⟩ : ∃ w1, w1 = w0.alloc (.cells #[.int .i64 0, .int .i64 0, .int .i64 0, .bool false, .int .i64 0, .int .i64 0] 59) := ⟨_, rfl⟩
 have s0 : Same w w0 := hw0 ▸ (Same.refl w).alloc _
 have s1 : Same w0 w1 := hw1 ▸ (Same.refl w0).alloc _
 have b0 : Blk w0 w.heap.size 25 #[.slice A n c, .slice B m d] := hw0 ▸ Blk.new w _ _
 have b1 : Blk w1 g 59 #[.int .i64 0, .int .i64 0, .int .i64 0, .bool false, .int .i64 0, .int .i64 0] := by rw [hw1, hg]; exact Blk.new w0 _ _
 have HE0 := Lib.hid hw0
 have HE1 := Lib.hid hw1
 have HG := Lib.hid (show w.heap.size + 1 = g by rw [hg, hw0]; show _ = (w.heap.push _).size; rw [Array.size_push])
 have S1 := Lib.hid (s0.trans s1)
 have HS := Lib.hid (hs.same (s0.trans s1))
 have HF := Lib.hid hf
 have HT := Lib.hid (hT.same (s0.trans s1))
 have HGW := Lib.hid (show w.heap.size ≤ g by rw [hg]; exact s0.size)
 have B0 := Lib.hid (b0.same s1)
 have B1 := Lib.hid b1
 have RO := Lib.hid (Sy.role_any A B n c m d s i k w1 (hs.same (s0.trans s1)) ho)
 have RD := Lib.hid (fun W (h : Same w1 W) => Dm.reads_any A B n c m d s i k W (hs.same ((s0.trans s1).trans h)) hnm hf (hT.same ((s0.trans s1).trans h)))
 obtain ⟨c0, c1⟩ := (⟨(b0.same s1).cell 0, (b0.same s1).cell 1⟩ : _ ∧ _)
 simp only [Ws.q_] at c0 c1
 clear hw0 hw1 hg s0 s1 b0 b1 hs hT hf ho
 go_enter Tryz.func35, Tryz.ntmps35
 go_upto_region 1 with fail
 rw [HG.out, ← HE0.out, ← HE1.out]
 clear HE0 HE1
 go_wp2_with fail
 refine RO.out.mono ?_
 rintro e w2 ⟨rfl, s2⟩
 clear RO
 have HS2 := Lib.hid s2
 have c0 := s2.cell c0
 have c1 := s2.cell c1
 have B0 := Lib.hid (B0.out.same s2)
 have B1 := Lib.hid (B1.out.same s2)
 have HIF := Lib.hid (show (Tryz.prog.info? 59).map (·.size) = some (#[.int .i64 0, .int .i64 0, .int .i64 0, .bool false, .int .i64 0, .int .i64 0] : Array Value).size by kernel_rfl)
 clear s2
 by_cases hr : Sy.roleF s i k = 1
 ·have er : (Sy.roleF s i k != 1) = false := by simpa using hr
  have HR := Lib.hid hr
  have HK := Lib.hid (role_in (by rw [hr]; decide))
  have HRX := Lib.hid (show ¬ demI s i k 17 20 = 0 → readsP s i k = true from fun h => decide_eq_true ⟨hr, h⟩)
  clear hr
  generalize Sy.roleF s i k = ro at *
  go_wp2_with fail
  refine (RD.out _ HS2.out).mono ?_
  rintro e w3 ⟨rfl, s3⟩
  have HS2 := Lib.hid (HS2.out.trans s3)
  have c0 := s3.cell c0
  have c1 := s3.cell c1
  have B0 := Lib.hid (B0.out.same s3)
  have B1 := Lib.hid (B1.out.same s3)
  clear s3 RD
  by_cases hd : demI s i k 17 20 = 0
  ·have ed : (demI s i k 17 20 == 0) = true := by simpa using hd
   have HD := Lib.hid (show ofR s i k = zeroR from of_no (decide_eq_false (fun h => h.2 hd)))
   clear hd
   generalize demI s i k 17 20 = de at *
   go_wp2_with (first | (refine wpList_store_row rfl 59 (.tmp 6) (.tmp 27) rfl g #[.int .i64 0, .int .i64 0, .int .i64 0, .bool false, .int .i64 0, .int .i64 0] rfl rfl 59 #[.int .i64 0, .int .i64 0, .int .i64 0, .bool false, .int .i64 0, .int .i64 0] B1.out HIF.out rfl (by simp [Value.oneCell']) ?_))
   refine bodyPost_ret (v := .agg #[.int .i64 0, .int .i64 0, .int .i64 0, .bool false, .int .i64 0, .int .i64 0]) (res_cell1 Tryz.results35 _ _ g 59 #[.int .i64 0, .int .i64 0, .int .i64 0, .bool false, .int .i64 0, .int .i64 0] (0, 0) _ rfl (Dm.rowb B1.out) Tryz.underlying59 rfl HIF.out) rfl ?_
   exact ⟨by rw [HD.out]; rfl, Dm.chgRow (S1.out.trans HS2.out) (.inr HGW.out) _⟩
  ·have ed : (demI s i k 17 20 == 0) = false := by simpa using hd
   have HRP := Lib.hid (show readsP s i k = true from HRX.out hd)
   clear hd HRX
   generalize demI s i k 17 20 = de at *
   obtain ⟨k0, k1⟩ := HK.out.2
   obtain ⟨kk, rfl⟩ : ∃ kk : Nat, k = kk := ⟨k.toNat, by omega⟩
   obtain ⟨o, hox⟩ : ∃ o, s.os[kk]? = some o := ⟨s.os[kk]'(by omega), List.getElem?_eq_getElem _⟩
   have HOX := Lib.hid hox
   have HOB := Lib.hid (show obj s kk = o by unfold obj; rw [Int.toNat_natCast, List.getD_eq_getElem?_getD, hox]; rfl)
   have k2 : (kk : Int) < m := by have := HS.out.hm; omega
   obtain ⟨bB, oB, rfl, Xo, co, Yo, do_, o0, o1, o2, o3, o4, o5, o6, o7, hsa, _⟩ := (HS.out.ho.same HS2.out).at_ hox
   have FA := Lib.hid (fun W => Bd.fail_any o.k o.wd o.sl o.cp o.sa o.ow Xo Yo o.ini.length co o.rd.length do_ 1 W hsa)
   have HOC := Lib.hid (Blk.new w3 34 #[.int .i64 o.k, .int .i64 o.wd, .int .i64 o.sl, .int .i64 o.cp, .int .u32 o.sa, .slice Xo o.ini.length co, .int .i64 o.ow, .slice Yo o.rd.length do_])
   have HX4 := Lib.hid (HS2.out.alloc (.cells #[.int .i64 o.k, .int .i64 o.wd, .int .i64 o.sl, .int .i64 o.cp, .int .u32 o.sa, .slice Xo o.ini.length co, .int .i64 o.ow, .slice Yo o.rd.length do_] 34))
   have HX34 := Lib.hid ((Same.refl w3).alloc (.cells #[.int .i64 o.k, .int .i64 o.wd, .int .i64 o.sl, .int .i64 o.cp, .int .u32 o.sa, .slice Xo o.ini.length co, .int .i64 o.ow, .slice Yo o.rd.length do_] 34))
   have AH := Lib.hid (fun W (h : Same w1 W) => Ah.ahead_gen A n c s.ts o.ow i W HS.out.hn ((HS.out.same h).ht))
   have WA := Lib.hid (fun W (h : Same w1 W) => Dm.writes_any A (some ⟨bB, oB, none⟩) n c m d s o.ow (kk : Int) W (HS.out.same h) hnm HF.out (HT.out.same h))
   clear hox
   go_upto_region 5 with fail
   generalize w3.alloc (.cells #[.int .i64 o.k, .int .i64 o.wd, .int .i64 o.sl, .int .i64 o.cp, .int .u32 o.sa, .slice Xo o.ini.length co, .int .i64 o.ow, .slice Yo o.rd.length do_] 34) = w4 at *
   generalize w3.heap.size = q4 at *
   clear o0 o1 o2 o3 o4 o5 o6 o7
   refine wp_region_held_drew (S := fun w' => Same w4 w') (by kernel_rfl) ?_ (fun hHeld => ?_)
   ·exact (Same.refl w4).drew
   refine Ro.tn 0 ?_ ?_ ?_
   rotate_left
   ·intro wS hSw; (try dsimp only at hSw); go_simp; try with_reducible rfl
   try simp only [Ro.p]
   refine Ro.tn 1 ?_ ?_ ?_
   rotate_left
   ·intro wS hSw; (try dsimp only at hSw); obtain ⟨v0, v1, v2, v3, v4, v5, v6, v7⟩ := (⟨(HOC.out.same hSw).cell 0, (HOC.out.same hSw).cell 1, (HOC.out.same hSw).cell 2, (HOC.out.same hSw).cell 3, (HOC.out.same hSw).cell 4, (HOC.out.same hSw).cell 5, (HOC.out.same hSw).cell 6, (HOC.out.same hSw).cell 7⟩ : _ ∧ _ ∧ _ ∧ _ ∧ _ ∧ _ ∧ _ ∧ _); simp only [Ws.q_] at v0 v1 v2 v3 v4 v5 v6 v7; go_simp; try with_reducible rfl
   try simp only [Ro.p]
   refine Ro.tn 2 ?_ ?_ ?_
   rotate_left
   ·intro wS hSw; (try dsimp only at hSw); go_simp; try with_reducible rfl
   try simp only [Ro.p]
   refine Ro.tn 3 ?_ ?_ ?_
   rotate_left
   ·intro wS hSw; (try dsimp only at hSw); obtain ⟨v0, v1, v2, v3, v4, v5, v6, v7⟩ := (⟨(HOC.out.same hSw).cell 0, (HOC.out.same hSw).cell 1, (HOC.out.same hSw).cell 2, (HOC.out.same hSw).cell 3, (HOC.out.same hSw).cell 4, (HOC.out.same hSw).cell 5, (HOC.out.same hSw).cell 6, (HOC.out.same hSw).cell 7⟩ : _ ∧ _ ∧ _ ∧ _ ∧ _ ∧ _ ∧ _ ∧ _); simp only [Ws.q_] at v0 v1 v2 v3 v4 v5 v6 v7; go_simp; try with_reducible rfl
   try simp only [Ro.p]
   refine Ro.tn 4 ?_ ?_ ?_
   rotate_left
   ·intro wS hSw; (try dsimp only at hSw); obtain ⟨v0, v1, v2, v3, v4, v5, v6, v7⟩ := (⟨(HOC.out.same hSw).cell 0, (HOC.out.same hSw).cell 1, (HOC.out.same hSw).cell 2, (HOC.out.same hSw).cell 3, (HOC.out.same hSw).cell 4, (HOC.out.same hSw).cell 5, (HOC.out.same hSw).cell 6, (HOC.out.same hSw).cell 7⟩ : _ ∧ _ ∧ _ ∧ _ ∧ _ ∧ _ ∧ _ ∧ _); simp only [Ws.q_] at v0 v1 v2 v3 v4 v5 v6 v7; go_simp; try with_reducible rfl
   try simp only [Ro.p]
   have HKP := Lib.hid hHeld
   refine Ra.two_on (i := 5) (j := 7) rfl rfl (by kernel_rfl) (by rfl) (by rfl) (fun K hK => ?_) (fun K hK => ?_)
   ·go_simp
    go_at_call 61
    refine (FA.out _).mono ?_
    rintro e w5 ⟨rfl, s5⟩
    refine hK.out _ _ ?_ (fun hNew => ?_)
    ·exact hHeld.trans s5
    clear hK K hHeld; have hHeld := hNew; clear hNew
    try simp only [Ro.p]
    refine Ro.tn 6 ?_ ?_ ?_
    rotate_left
    ·intro wS hSw; (try dsimp only at hSw); go_simp; try with_reducible rfl
    try simp only [Ro.p]
    have HKP := Lib.hid hHeld
    refine Ro.one_on (i := 7) rfl (by kernel_rfl) (by rfl) (fun K hK => ?_)
    go_simp
    refine hK.out _ _ ?_ (fun hNew => ?_)
    ·exact hHeld.alloc _
    clear hK K hHeld; have hHeld := hNew; clear hNew
    try simp only [Ro.p]
    obtain ⟨wA, hwA⟩ : ∃ wA, wA = w5.alloc (.cells #[.int .i64 0, .int .i64 0, .int .i64 0, .bool false, .int .i64 0, .int .i64 0] 59) := ⟨_, rfl⟩
    obtain ⟨gx, hgx⟩ : ∃ gx, gx = w5.heap.size := ⟨_, rfl⟩
    have HBA := Lib.hid (show Blk wA gx 59 #[.int .i64 0, .int .i64 0, .int .i64 0, .bool false, .int .i64 0, .int .i64 0] by rw [hwA, hgx]; exact Blk.new _ _ _)
    have HSA := Lib.hid (show Same w5 wA by rw [hwA]; exact (Same.refl _).alloc _)
    have HGX := Lib.hid (show w4.heap.size ≤ gx by rw [hgx]; exact HKP.out.size)
    rw [← hwA, ← hgx]
    clear hHeld
    have hHeld : Same w4 wA := HKP.out.trans HSA.out
    clear hwA hgx HKP
    refine Ro.one_on (i := 8) rfl (by kernel_rfl) (by rfl) (fun K hK => ?_)
    refine wp_store_row 59 (.tmp 10) (.tmp 39) rfl gx #[.int .i64 o.k, .int .i64 o.sl, .int .i64 (failO o), .bool false, .int .i64 0, .int .i64 0] rfl rfl 59 #[.int .i64 0, .int .i64 0, .int .i64 0, .bool false, .int .i64 0, .int .i64 0] HBA.out HIF.out rfl (by simp [Value.oneCell']) ?_
    refine hK.out _ _ ?_ (fun hNew => ?_)
    ·exact Dm.chgRow hHeld (.inr HGX.out) _
    clear hK K hHeld; have hHeld := hNew; clear hNew
    try simp only [Ro.p]
    refine wpAnyH_done (by kernel_rfl) ?_ _
    have HBX := Lib.hid (show Blk (World.setRow wA gx #[.int .i64 o.k, .int .i64 o.sl, .int .i64 (failO o), .bool false, .int .i64 0, .int .i64 0]) gx 59 #[.int .i64 o.k, .int .i64 o.sl, .int .i64 (failO o), .bool false, .int .i64 0, .int .i64 0] from Dm.rowb HBA.out)
    have HX5 := Lib.hid hHeld
    clear hHeld
    generalize World.setRow wA gx #[.int .i64 o.k, .int .i64 o.sl, .int .i64 (failO o), .bool false, .int .i64 0, .int .i64 0] = w6 at *
    have B14 := Lib.hid (B1.out.same HX34.out)
    have HS36 := Lib.hid (HX34.out.trans HX5.out)
    have HS16 := Lib.hid (HX4.out.trans HX5.out)
    have c03 := c0
    have c13 := c1
    have c0 := HS36.out.cell c0
    have c1 := HS36.out.cell c1
    have HOC4 := Lib.hid HOC.out
    have HX46 := Lib.hid HX5.out
    have HOC := Lib.hid (HOC.out.same HX5.out)
    have B1 := Lib.hid (B1.out.same HS36.out)
    obtain ⟨o0, o1, o2, o3, o4, o5, o6, o7⟩ := (⟨HOC.out.cell 0, HOC.out.cell 1, HOC.out.cell 2, HOC.out.cell 3, HOC.out.cell 4, HOC.out.cell 5, HOC.out.cell 6, HOC.out.cell 7⟩ : _ ∧ _ ∧ _ ∧ _ ∧ _ ∧ _ ∧ _ ∧ _)
    simp only [Ws.q_] at o0 o1 o2 o3 o4 o5 o6 o7
    have AHW := Lib.hid (AH.out w6 HS16.out)
    have HC04 := Lib.hid (HX34.out.cell c03)
    have HC14 := Lib.hid (HX34.out.cell c13)
    clear AH FA HX34 HX5
    cases ha : Ah.aheadI s.ts o.ow i with
    | false =>
     have HD := Lib.hid (show ofR s i (kk : Int) = ⟨o.k, o.sl, failO o, false, 0, 0⟩ by rw [of_behind HRP.out (by unfold aheadP; rw [HOB.out]; exact ha), HOB.out])
     rw [ha] at AHW
     clear ha
     go_wp2_with fail
     refine AHW.out.mono ?_
     rintro e w7 ⟨rfl, s7⟩
     have B1 := Lib.hid (B1.out.same s7)
     have HS17 := Lib.hid (HS16.out.trans s7)
     have HBX := Lib.hid (HBX.out.same s7)
     clear s7 AHW o0 o1 o2 o3 o4 o5 o6 o7
     obtain ⟨x0, x1, x2, x3, x4, x5⟩ := (⟨HBX.out.cell 0, HBX.out.cell 1, HBX.out.cell 2, HBX.out.cell 3, HBX.out.cell 4, HBX.out.cell 5⟩ : _ ∧ _ ∧ _ ∧ _ ∧ _ ∧ _)
     simp only [Ws.q_] at x0 x1 x2 x3 x4 x5
     go_wp2_with (first | (refine wpList_store_row rfl 59 (.tmp 6) (.tmp 61) rfl g #[.int .i64 o.k, .int .i64 o.sl, .int .i64 (failO o), .bool false, .int .i64 0, .int .i64 0] rfl rfl 59 #[.int .i64 0, .int .i64 0, .int .i64 0, .bool false, .int .i64 0, .int .i64 0] B1.out HIF.out rfl (by simp [Value.oneCell']) ?_))
     refine bodyPost_ret (v := .agg #[.int .i64 o.k, .int .i64 o.sl, .int .i64 (failO o), .bool false, .int .i64 0, .int .i64 0]) (res_cell1 Tryz.results35 _ _ g 59 #[.int .i64 o.k, .int .i64 o.sl, .int .i64 (failO o), .bool false, .int .i64 0, .int .i64 0] (0, 0) _ rfl (Dm.rowb B1.out) Tryz.underlying59 rfl HIF.out) rfl ?_
     exact ⟨by rw [HD.out]; rfl, Dm.chgRow (S1.out.trans HS17.out) (.inr HGW.out) _⟩
    | true =>
     have HD := Lib.hid (show ofR s i (kk : Int) = ⟨o.k, o.sl, failO o, true, demI s o.ow (kk : Int) 18 19, (Ah.pt s.ts o.ow.toNat).per⟩ by rw [of_ahead HRP.out (by unfold aheadP; rw [HOB.out]; exact ha), HOB.out])
     have hin : Ah.inI s.ts.length o.ow := by
      by_cases g : Ah.inI s.ts.length o.ow ∧ Ah.inI s.ts.length i
      ·exact g.1
      ·rw [Ah.aheadI_no g] at ha; cases ha
     obtain ⟨kw, hkw⟩ := Int.eq_ofNat_of_zero_le hin.1
     have hkn : kw < s.ts.length := by have := hin.2; omega
     have w1' : (kw : Int) < n := by have := HS.out.hn; omega
     have w0' : (0 : Int) ≤ kw := by omega
     obtain ⟨p, hp⟩ : ∃ p, s.ts[kw]? = some p := ⟨s.ts[kw], List.getElem?_eq_getElem hkn⟩
     have HPT := Lib.hid (show (Ah.pt s.ts o.ow.toNat).per = p.per by rw [hkw]; unfold Ah.pt; rw [Int.toNat_natCast, List.getD_eq_getElem?_getD, hp]; rfl)
     obtain ⟨bA, oA, rfl, _, _, _, _, t2, _⟩ := (HS.out.ht.same HX4.out).at_ hp
     have HT2 := Lib.hid t2
     rw [ha] at AHW
     rw [hkw] at WA AHW o6
     have HKW := Lib.hid hkw
     clear ha hin hkw hkn hp t2
     go_wp2_with fail
     refine AHW.out.mono ?_
     rintro e w7 ⟨rfl, s7⟩
     have HS67 := Lib.hid s7
     have B1 := Lib.hid (B1.out.same s7)
     have HBX := Lib.hid (HBX.out.same s7)
     clear s7 AHW o0 o1 o2 o3 o4 o5 o6 o7
     go_wp2_with fail
     refine wp_region_held_drew (S := fun w' => Same w4 w') (by kernel_rfl) ?_ (fun hHeld => ?_)
     ·exact (HX46.out.trans HS67.out).drew
     refine Ro.tn 0 ?_ ?_ ?_
     rotate_left
     ·intro wS hSw; (try dsimp only at hSw); have z0 := hSw.cell HC04.out; have z1 := hSw.cell HC14.out; go_simp; try with_reducible rfl
     try simp only [Ro.p]
     refine Ro.tn 1 ?_ ?_ ?_
     rotate_left
     ·intro wS hSw; (try dsimp only at hSw); go_simp; try with_reducible rfl
     try simp only [Ro.p]
     refine Ro.tn 2 ?_ ?_ ?_
     rotate_left
     ·intro wS hSw; (try dsimp only at hSw); have z6 := (HOC4.out.same hSw).cell 6; simp only [Ws.q_] at z6; rw [HKW.out] at z6; go_simp; try with_reducible rfl
     try simp only [Ro.p]
     refine Ro.tn 3 ?_ ?_ ?_
     rotate_left
     ·intro wS hSw; (try dsimp only at hSw); go_simp; try with_reducible rfl
     try simp only [Ro.p]
     refine Ro.tn 5 ?_ ?_ ?_
     rotate_left
     ·intro wS hSw; (try dsimp only at hSw); go_simp; try with_reducible rfl
     try simp only [Ro.p]
     refine Ro.tn 6 ?_ ?_ ?_
     rotate_left
     ·intro wS hSw; (try dsimp only at hSw); have z0 := hSw.cell HC04.out; go_simp; try with_reducible rfl
     try simp only [Ro.p]
     refine Ro.tn 7 ?_ ?_ ?_
     rotate_left
     ·intro wS hSw; (try dsimp only at hSw); go_simp; try with_reducible rfl
     try simp only [Ro.p]
     refine Ro.tn 8 ?_ ?_ ?_
     rotate_left
     ·intro wS hSw; (try dsimp only at hSw); have z6 := (HOC4.out.same hSw).cell 6; simp only [Ws.q_] at z6; rw [HKW.out] at z6; go_simp; try with_reducible rfl
     try simp only [Ro.p]
     refine Ro.tn 9 ?_ ?_ ?_
     rotate_left
     ·intro wS hSw; (try dsimp only at hSw); go_simp; try with_reducible rfl
     try simp only [Ro.p]
     refine Ro.tn 10 ?_ ?_ ?_
     rotate_left
     ·intro wS hSw; (try dsimp only at hSw); go_simp; try with_reducible rfl
     try simp only [Ro.p]
     refine Ro.tn 11 ?_ ?_ ?_
     rotate_left
     ·intro wS hSw; (try dsimp only at hSw); have z2 := hSw.cell HT2.out; go_simp; try with_reducible rfl
     try simp only [Ro.p]
     refine Ro.tn 12 ?_ ?_ ?_
     rotate_left
     ·intro wS hSw; (try dsimp only at hSw); go_simp; try with_reducible rfl
     try simp only [Ro.p]
     refine Ro.one_on (i := 4) rfl (by kernel_rfl) (by rfl) (fun K hK => ?_)
     go_simp
     go_at_call 63
     refine (WA.out _ (HX4.out.trans hHeld)).mono ?_
     rintro e w8 ⟨rfl, s8⟩
     have HB8 := Lib.hid (show Blk w8 gx 59 #[.int .i64 o.k, .int .i64 o.sl, .int .i64 (failO o), .bool false, .int .i64 0, .int .i64 0] from by first | exact HBX.out.same s8 | exact HBX.out.same ((Same.refl w7).drew.trans s8))
     refine hK.out _ _ ?_ (fun hNew => ?_)
     ·exact hHeld.trans s8
     clear hK K hHeld; have hHeld := hNew; clear hNew
     try simp only [Ro.p]
     have tz := HB8.out.thaw 3
     have yz := HB8.out.cell 3
     simp only [Ws.q_] at yz
     refine Ro.one_on (i := 13) rfl (by kernel_rfl) (by rfl) (fun K hK => ?_)
     go_simp
     refine hK.out _ _ ?_ (fun hNew => ?_)
     ·exact Chg.set hHeld (.inr HGX.out) _
     clear hK K hHeld; have hHeld := hNew; clear hNew
     try simp only [Ro.p]
     clear tz yz
     obtain ⟨w9, hwz⟩ : ∃ w9, w9 = World.setCell w8 ⟨gx, 3, none⟩ (.bool true) := ⟨_, rfl⟩
     have HB9 := Lib.hid (show Blk w9 gx 59 #[.int .i64 o.k, .int .i64 o.sl, .int .i64 (failO o), .bool true, .int .i64 0, .int .i64 0] from by rw [hwz]; exact HB8.out.put 3 _)
     rw [← hwz] at hHeld ⊢
     clear hwz
     refine Ro.tn 14 ?_ ?_ ?_
     rotate_left
     ·intro wS hSw; (try dsimp only at hSw); go_simp; try with_reducible rfl
     try simp only [Ro.p]
     have tz := HB9.out.thaw 4
     have yz := HB9.out.cell 4
     simp only [Ws.q_] at yz
     refine Ro.one_on (i := 15) rfl (by kernel_rfl) (by rfl) (fun K hK => ?_)
     go_simp
     refine hK.out _ _ ?_ (fun hNew => ?_)
     ·exact Chg.set hHeld (.inr HGX.out) _
     clear hK K hHeld; have hHeld := hNew; clear hNew
     try simp only [Ro.p]
     clear tz yz
     obtain ⟨w10, hwz⟩ : ∃ w10, w10 = World.setCell w9 ⟨gx, 4, none⟩ (.int .i64 (demI s (kw : Int) (kk : Int) 18 19)) := ⟨_, rfl⟩
     have HB10 := Lib.hid (show Blk w10 gx 59 #[.int .i64 o.k, .int .i64 o.sl, .int .i64 (failO o), .bool true, .int .i64 (demI s (kw : Int) (kk : Int) 18 19), .int .i64 0] from by rw [hwz]; exact HB9.out.put 4 _)
     rw [← hwz] at hHeld ⊢
     clear hwz
     refine Ro.tn 16 ?_ ?_ ?_
     rotate_left
     ·intro wS hSw; (try dsimp only at hSw); go_simp; try with_reducible rfl
     try simp only [Ro.p]
     have tz := HB10.out.thaw 5
     have yz := HB10.out.cell 5
     simp only [Ws.q_] at yz
     refine Ro.one_on (i := 17) rfl (by kernel_rfl) (by rfl) (fun K hK => ?_)
     go_simp
     refine hK.out _ _ ?_ (fun hNew => ?_)
     ·exact Chg.set hHeld (.inr HGX.out) _
     clear hK K hHeld; have hHeld := hNew; clear hNew
     try simp only [Ro.p]
     clear tz yz
     obtain ⟨w11, hwz⟩ : ∃ w11, w11 = World.setCell w10 ⟨gx, 5, none⟩ (.int .i64 p.per) := ⟨_, rfl⟩
     have HB11 := Lib.hid (show Blk w11 gx 59 #[.int .i64 o.k, .int .i64 o.sl, .int .i64 (failO o), .bool true, .int .i64 (demI s (kw : Int) (kk : Int) 18 19), .int .i64 p.per] from by rw [hwz]; exact HB10.out.put 5 _)
     rw [← hwz] at hHeld ⊢
     clear hwz
     refine wpAnyH_done (by kernel_rfl) ?_ _
     have B1 := Lib.hid (B14.out.same hHeld)
     have HEND := Lib.hid (HX4.out.trans hHeld)
     clear hHeld
     obtain ⟨x0, x1, x2, x3, x4, x5⟩ := (⟨HB11.out.cell 0, HB11.out.cell 1, HB11.out.cell 2, HB11.out.cell 3, HB11.out.cell 4, HB11.out.cell 5⟩ : _ ∧ _ ∧ _ ∧ _ ∧ _ ∧ _)
     simp only [Ws.q_] at x0 x1 x2 x3 x4 x5
     go_wp2_with (first | (refine wpList_store_row rfl 59 (.tmp 6) (.tmp 61) rfl g #[.int .i64 o.k, .int .i64 o.sl, .int .i64 (failO o), .bool true, .int .i64 (demI s (kw : Int) (kk : Int) 18 19), .int .i64 p.per] rfl rfl 59 #[.int .i64 0, .int .i64 0, .int .i64 0, .bool false, .int .i64 0, .int .i64 0] B1.out HIF.out rfl (by simp [Value.oneCell']) ?_))
     refine bodyPost_ret (v := .agg #[.int .i64 o.k, .int .i64 o.sl, .int .i64 (failO o), .bool true, .int .i64 (demI s (kw : Int) (kk : Int) 18 19), .int .i64 p.per]) (res_cell1 Tryz.results35 _ _ g 59 #[.int .i64 o.k, .int .i64 o.sl, .int .i64 (failO o), .bool true, .int .i64 (demI s (kw : Int) (kk : Int) 18 19), .int .i64 p.per] (0, 0) _ rfl (Dm.rowb B1.out) Tryz.underlying59 rfl HIF.out) rfl ?_
     exact ⟨by rw [HD.out, HPT.out, HKW.out]; rfl, Dm.chgRow (S1.out.trans HEND.out) (.inr HGW.out) _⟩
   ·go_simp
    refine hK.out _ _ ?_ (fun hNew => ?_)
    ·exact hHeld.alloc _
    clear hK K hHeld; have hHeld := hNew; clear hNew
    try simp only [Ro.p]
    obtain ⟨wA, hwA⟩ : ∃ wA, wA = (w4.alloc (.cells #[.int .i64 0, .int .i64 0, .int .i64 0, .bool false, .int .i64 0, .int .i64 0] 59)).drew := ⟨_, rfl⟩
    obtain ⟨gx, hgx⟩ : ∃ gx, gx = w4.heap.size := ⟨_, rfl⟩
    have HBA := Lib.hid (show Blk wA gx 59 #[.int .i64 0, .int .i64 0, .int .i64 0, .bool false, .int .i64 0, .int .i64 0] by rw [hwA, hgx]; exact Blk.new _ _ _)
    have HSA := Lib.hid (show Same w4 wA by rw [hwA]; exact ((Same.refl _).alloc _).drew)
    have HGX := Lib.hid (show w4.heap.size ≤ gx by rw [hgx]; exact Nat.le_refl _)
    rw [← hwA, ← hgx]
    clear hHeld
    have hHeld : Same w4 wA := HSA.out
    clear hwA hgx HKP
    refine Ro.one_on (i := 5) rfl (by kernel_rfl) (by rfl) (fun K hK => ?_)
    go_simp
    go_at_call 61
    refine (FA.out _).mono ?_
    rintro e w5 ⟨rfl, s5⟩
    have HBA := Lib.hid (HBA.out.same s5)
    refine hK.out _ _ ?_ (fun hNew => ?_)
    ·exact hHeld.trans s5
    clear hK K hHeld; have hHeld := hNew; clear hNew
    try simp only [Ro.p]
    refine Ro.tn 6 ?_ ?_ ?_
    rotate_left
    ·intro wS hSw; (try dsimp only at hSw); go_simp; try with_reducible rfl
    try simp only [Ro.p]
    refine Ro.one_on (i := 8) rfl (by kernel_rfl) (by rfl) (fun K hK => ?_)
    refine wp_store_row 59 (.tmp 10) (.tmp 39) rfl gx #[.int .i64 o.k, .int .i64 o.sl, .int .i64 (failO o), .bool false, .int .i64 0, .int .i64 0] rfl rfl 59 #[.int .i64 0, .int .i64 0, .int .i64 0, .bool false, .int .i64 0, .int .i64 0] HBA.out HIF.out rfl (by simp [Value.oneCell']) ?_
    refine hK.out _ _ ?_ (fun hNew => ?_)
    ·exact Dm.chgRow hHeld (.inr HGX.out) _
    clear hK K hHeld; have hHeld := hNew; clear hNew
    try simp only [Ro.p]
    refine wpAnyH_done (by kernel_rfl) ?_ _
    have HBX := Lib.hid (show Blk (World.setRow w5 gx #[.int .i64 o.k, .int .i64 o.sl, .int .i64 (failO o), .bool false, .int .i64 0, .int .i64 0]) gx 59 #[.int .i64 o.k, .int .i64 o.sl, .int .i64 (failO o), .bool false, .int .i64 0, .int .i64 0] from Dm.rowb HBA.out)
    have HX5 := Lib.hid hHeld
    clear hHeld
    generalize World.setRow w5 gx #[.int .i64 o.k, .int .i64 o.sl, .int .i64 (failO o), .bool false, .int .i64 0, .int .i64 0] = w6 at *
    have B14 := Lib.hid (B1.out.same HX34.out)
    have HS36 := Lib.hid (HX34.out.trans HX5.out)
    have HS16 := Lib.hid (HX4.out.trans HX5.out)
    have c03 := c0
    have c13 := c1
    have c0 := HS36.out.cell c0
    have c1 := HS36.out.cell c1
    have HOC4 := Lib.hid HOC.out
    have HX46 := Lib.hid HX5.out
    have HOC := Lib.hid (HOC.out.same HX5.out)
    have B1 := Lib.hid (B1.out.same HS36.out)
    obtain ⟨o0, o1, o2, o3, o4, o5, o6, o7⟩ := (⟨HOC.out.cell 0, HOC.out.cell 1, HOC.out.cell 2, HOC.out.cell 3, HOC.out.cell 4, HOC.out.cell 5, HOC.out.cell 6, HOC.out.cell 7⟩ : _ ∧ _ ∧ _ ∧ _ ∧ _ ∧ _ ∧ _ ∧ _)
    simp only [Ws.q_] at o0 o1 o2 o3 o4 o5 o6 o7
    have AHW := Lib.hid (AH.out w6 HS16.out)
    have HC04 := Lib.hid (HX34.out.cell c03)
    have HC14 := Lib.hid (HX34.out.cell c13)
    clear AH FA HX34 HX5
    cases ha : Ah.aheadI s.ts o.ow i with
    | false =>
     have HD := Lib.hid (show ofR s i (kk : Int) = ⟨o.k, o.sl, failO o, false, 0, 0⟩ by rw [of_behind HRP.out (by unfold aheadP; rw [HOB.out]; exact ha), HOB.out])
     rw [ha] at AHW
     clear ha
     go_wp2_with fail
     refine AHW.out.mono ?_
     rintro e w7 ⟨rfl, s7⟩
     have B1 := Lib.hid (B1.out.same s7)
     have HS17 := Lib.hid (HS16.out.trans s7)
     have HBX := Lib.hid (HBX.out.same s7)
     clear s7 AHW o0 o1 o2 o3 o4 o5 o6 o7
     obtain ⟨x0, x1, x2, x3, x4, x5⟩ := (⟨HBX.out.cell 0, HBX.out.cell 1, HBX.out.cell 2, HBX.out.cell 3, HBX.out.cell 4, HBX.out.cell 5⟩ : _ ∧ _ ∧ _ ∧ _ ∧ _ ∧ _)
     simp only [Ws.q_] at x0 x1 x2 x3 x4 x5
     go_wp2_with (first | (refine wpList_store_row rfl 59 (.tmp 6) (.tmp 61) rfl g #[.int .i64 o.k, .int .i64 o.sl, .int .i64 (failO o), .bool false, .int .i64 0, .int .i64 0] rfl rfl 59 #[.int .i64 0, .int .i64 0, .int .i64 0, .bool false, .int .i64 0, .int .i64 0] B1.out HIF.out rfl (by simp [Value.oneCell']) ?_))
     refine bodyPost_ret (v := .agg #[.int .i64 o.k, .int .i64 o.sl, .int .i64 (failO o), .bool false, .int .i64 0, .int .i64 0]) (res_cell1 Tryz.results35 _ _ g 59 #[.int .i64 o.k, .int .i64 o.sl, .int .i64 (failO o), .bool false, .int .i64 0, .int .i64 0] (0, 0) _ rfl (Dm.rowb B1.out) Tryz.underlying59 rfl HIF.out) rfl ?_
     exact ⟨by rw [HD.out]; rfl, Dm.chgRow (S1.out.trans HS17.out) (.inr HGW.out) _⟩
    | true =>
     have HD := Lib.hid (show ofR s i (kk : Int) = ⟨o.k, o.sl, failO o, true, demI s o.ow (kk : Int) 18 19, (Ah.pt s.ts o.ow.toNat).per⟩ by rw [of_ahead HRP.out (by unfold aheadP; rw [HOB.out]; exact ha), HOB.out])
     have hin : Ah.inI s.ts.length o.ow := by
      by_cases g : Ah.inI s.ts.length o.ow ∧ Ah.inI s.ts.length i
      ·exact g.1
      ·rw [Ah.aheadI_no g] at ha; cases ha
     obtain ⟨kw, hkw⟩ := Int.eq_ofNat_of_zero_le hin.1
     have hkn : kw < s.ts.length := by have := hin.2; omega
     have w1' : (kw : Int) < n := by have := HS.out.hn; omega
     have w0' : (0 : Int) ≤ kw := by omega
     obtain ⟨p, hp⟩ : ∃ p, s.ts[kw]? = some p := ⟨s.ts[kw], List.getElem?_eq_getElem hkn⟩
     have HPT := Lib.hid (show (Ah.pt s.ts o.ow.toNat).per = p.per by rw [hkw]; unfold Ah.pt; rw [Int.toNat_natCast, List.getD_eq_getElem?_getD, hp]; rfl)
     obtain ⟨bA, oA, rfl, _, _, _, _, t2, _⟩ := (HS.out.ht.same HX4.out).at_ hp
     have HT2 := Lib.hid t2
     rw [ha] at AHW
     rw [hkw] at WA AHW o6
     have HKW := Lib.hid hkw
     clear ha hin hkw hkn hp t2
     go_wp2_with fail
     refine AHW.out.mono ?_
     rintro e w7 ⟨rfl, s7⟩
     have HS67 := Lib.hid s7
     have B1 := Lib.hid (B1.out.same s7)
     have HBX := Lib.hid (HBX.out.same s7)
     clear s7 AHW o0 o1 o2 o3 o4 o5 o6 o7
     go_wp2_with fail
     refine wp_region_held_drew (S := fun w' => Same w4 w') (by kernel_rfl) ?_ (fun hHeld => ?_)
     ·exact (HX46.out.trans HS67.out).drew
     refine Ro.tn 0 ?_ ?_ ?_
     rotate_left
     ·intro wS hSw; (try dsimp only at hSw); have z0 := hSw.cell HC04.out; have z1 := hSw.cell HC14.out; go_simp; try with_reducible rfl
     try simp only [Ro.p]
     refine Ro.tn 1 ?_ ?_ ?_
     rotate_left
     ·intro wS hSw; (try dsimp only at hSw); go_simp; try with_reducible rfl
     try simp only [Ro.p]
     refine Ro.tn 2 ?_ ?_ ?_
     rotate_left
     ·intro wS hSw; (try dsimp only at hSw); have z6 := (HOC4.out.same hSw).cell 6; simp only [Ws.q_] at z6; rw [HKW.out] at z6; go_simp; try with_reducible rfl
     try simp only [Ro.p]
     refine Ro.tn 3 ?_ ?_ ?_
     rotate_left
     ·intro wS hSw; (try dsimp only at hSw); go_simp; try with_reducible rfl
     try simp only [Ro.p]
     refine Ro.tn 5 ?_ ?_ ?_
     rotate_left
     ·intro wS hSw; (try dsimp only at hSw); go_simp; try with_reducible rfl
     try simp only [Ro.p]
     refine Ro.tn 6 ?_ ?_ ?_
     rotate_left
     ·intro wS hSw; (try dsimp only at hSw); have z0 := hSw.cell HC04.out; go_simp; try with_reducible rfl
     try simp only [Ro.p]
     refine Ro.tn 7 ?_ ?_ ?_
     rotate_left
     ·intro wS hSw; (try dsimp only at hSw); go_simp; try with_reducible rfl
     try simp only [Ro.p]
     refine Ro.tn 8 ?_ ?_ ?_
     rotate_left
     ·intro wS hSw; (try dsimp only at hSw); have z6 := (HOC4.out.same hSw).cell 6; simp only [Ws.q_] at z6; rw [HKW.out] at z6; go_simp; try with_reducible rfl
     try simp only [Ro.p]
     refine Ro.tn 9 ?_ ?_ ?_
     rotate_left
     ·intro wS hSw; (try dsimp only at hSw); go_simp; try with_reducible rfl
     try simp only [Ro.p]
     refine Ro.tn 10 ?_ ?_ ?_
     rotate_left
     ·intro wS hSw; (try dsimp only at hSw); go_simp; try with_reducible rfl
     try simp only [Ro.p]
     refine Ro.tn 11 ?_ ?_ ?_
     rotate_left
     ·intro wS hSw; (try dsimp only at hSw); have z2 := hSw.cell HT2.out; go_simp; try with_reducible rfl
     try simp only [Ro.p]
     refine Ro.tn 12 ?_ ?_ ?_
     rotate_left
     ·intro wS hSw; (try dsimp only at hSw); go_simp; try with_reducible rfl
     try simp only [Ro.p]
     refine Ro.one_on (i := 4) rfl (by kernel_rfl) (by rfl) (fun K hK => ?_)
     go_simp
     go_at_call 63
     refine (WA.out _ (HX4.out.trans hHeld)).mono ?_
     rintro e w8 ⟨rfl, s8⟩
     have HB8 := Lib.hid (show Blk w8 gx 59 #[.int .i64 o.k, .int .i64 o.sl, .int .i64 (failO o), .bool false, .int .i64 0, .int .i64 0] from by first | exact HBX.out.same s8 | exact HBX.out.same ((Same.refl w7).drew.trans s8))
     refine hK.out _ _ ?_ (fun hNew => ?_)
     ·exact hHeld.trans s8
     clear hK K hHeld; have hHeld := hNew; clear hNew
     try simp only [Ro.p]
     have tz := HB8.out.thaw 3
     have yz := HB8.out.cell 3
     simp only [Ws.q_] at yz
     refine Ro.one_on (i := 13) rfl (by kernel_rfl) (by rfl) (fun K hK => ?_)
     go_simp
     refine hK.out _ _ ?_ (fun hNew => ?_)
     ·exact Chg.set hHeld (.inr HGX.out) _
     clear hK K hHeld; have hHeld := hNew; clear hNew
     try simp only [Ro.p]
     clear tz yz
     obtain ⟨w9, hwz⟩ : ∃ w9, w9 = World.setCell w8 ⟨gx, 3, none⟩ (.bool true) := ⟨_, rfl⟩
     have HB9 := Lib.hid (show Blk w9 gx 59 #[.int .i64 o.k, .int .i64 o.sl, .int .i64 (failO o), .bool true, .int .i64 0, .int .i64 0] from by rw [hwz]; exact HB8.out.put 3 _)
     rw [← hwz] at hHeld ⊢
     clear hwz
     refine Ro.tn 14 ?_ ?_ ?_
     rotate_left
     ·intro wS hSw; (try dsimp only at hSw); go_simp; try with_reducible rfl
     try simp only [Ro.p]
     have tz := HB9.out.thaw 4
     have yz := HB9.out.cell 4
     simp only [Ws.q_] at yz
     refine Ro.one_on (i := 15) rfl (by kernel_rfl) (by rfl) (fun K hK => ?_)
     go_simp
     refine hK.out _ _ ?_ (fun hNew => ?_)
     ·exact Chg.set hHeld (.inr HGX.out) _
     clear hK K hHeld; have hHeld := hNew; clear hNew
     try simp only [Ro.p]
     clear tz yz
     obtain ⟨w10, hwz⟩ : ∃ w10, w10 = World.setCell w9 ⟨gx, 4, none⟩ (.int .i64 (demI s (kw : Int) (kk : Int) 18 19)) := ⟨_, rfl⟩
     have HB10 := Lib.hid (show Blk w10 gx 59 #[.int .i64 o.k, .int .i64 o.sl, .int .i64 (failO o), .bool true, .int .i64 (demI s (kw : Int) (kk : Int) 18 19), .int .i64 0] from by rw [hwz]; exact HB9.out.put 4 _)
     rw [← hwz] at hHeld ⊢
     clear hwz
     refine Ro.tn 16 ?_ ?_ ?_
     rotate_left
     ·intro wS hSw; (try dsimp only at hSw); go_simp; try with_reducible rfl
     try simp only [Ro.p]
     have tz := HB10.out.thaw 5
     have yz := HB10.out.cell 5
     simp only [Ws.q_] at yz
     refine Ro.one_on (i := 17) rfl (by kernel_rfl) (by rfl) (fun K hK => ?_)
     go_simp
     refine hK.out _ _ ?_ (fun hNew => ?_)
     ·exact Chg.set hHeld (.inr HGX.out) _
     clear hK K hHeld; have hHeld := hNew; clear hNew
     try simp only [Ro.p]
     clear tz yz
     obtain ⟨w11, hwz⟩ : ∃ w11, w11 = World.setCell w10 ⟨gx, 5, none⟩ (.int .i64 p.per) := ⟨_, rfl⟩
     have HB11 := Lib.hid (show Blk w11 gx 59 #[.int .i64 o.k, .int .i64 o.sl, .int .i64 (failO o), .bool true, .int .i64 (demI s (kw : Int) (kk : Int) 18 19), .int .i64 p.per] from by rw [hwz]; exact HB10.out.put 5 _)
     rw [← hwz] at hHeld ⊢
     clear hwz
     refine wpAnyH_done (by kernel_rfl) ?_ _
     have B1 := Lib.hid (B14.out.same hHeld)
     have HEND := Lib.hid (HX4.out.trans hHeld)
     clear hHeld
     obtain ⟨x0, x1, x2, x3, x4, x5⟩ := (⟨HB11.out.cell 0, HB11.out.cell 1, HB11.out.cell 2, HB11.out.cell 3, HB11.out.cell 4, HB11.out.cell 5⟩ : _ ∧ _ ∧ _ ∧ _ ∧ _ ∧ _)
     simp only [Ws.q_] at x0 x1 x2 x3 x4 x5
     go_wp2_with (first | (refine wpList_store_row rfl 59 (.tmp 6) (.tmp 61) rfl g #[.int .i64 o.k, .int .i64 o.sl, .int .i64 (failO o), .bool true, .int .i64 (demI s (kw : Int) (kk : Int) 18 19), .int .i64 p.per] rfl rfl 59 #[.int .i64 0, .int .i64 0, .int .i64 0, .bool false, .int .i64 0, .int .i64 0] B1.out HIF.out rfl (by simp [Value.oneCell']) ?_))
     refine bodyPost_ret (v := .agg #[.int .i64 o.k, .int .i64 o.sl, .int .i64 (failO o), .bool true, .int .i64 (demI s (kw : Int) (kk : Int) 18 19), .int .i64 p.per]) (res_cell1 Tryz.results35 _ _ g 59 #[.int .i64 o.k, .int .i64 o.sl, .int .i64 (failO o), .bool true, .int .i64 (demI s (kw : Int) (kk : Int) 18 19), .int .i64 p.per] (0, 0) _ rfl (Dm.rowb B1.out) Tryz.underlying59 rfl HIF.out) rfl ?_
     exact ⟨by rw [HD.out, HPT.out, HKW.out]; rfl, Dm.chgRow (S1.out.trans HEND.out) (.inr HGW.out) _⟩
 ·have er : (Sy.roleF s i k != 1) = true := by simpa using hr
  have HD := Lib.hid (show ofR s i k = zeroR from of_no (decide_eq_false (fun h => hr h.1)))
  clear hr
  generalize Sy.roleF s i k = ro at *
  go_wp2_with (first | (refine wpList_store_row rfl 59 (.tmp 6) (.tmp 27) rfl g #[.int .i64 0, .int .i64 0, .int .i64 0, .bool false, .int .i64 0, .int .i64 0] rfl rfl 59 #[.int .i64 0, .int .i64 0, .int .i64 0, .bool false, .int .i64 0, .int .i64 0] B1.out HIF.out rfl (by simp [Value.oneCell']) ?_))
  refine bodyPost_ret (v := .agg #[.int .i64 0, .int .i64 0, .int .i64 0, .bool false, .int .i64 0, .int .i64 0]) (res_cell1 Tryz.results35 _ _ g 59 #[.int .i64 0, .int .i64 0, .int .i64 0, .bool false, .int .i64 0, .int .i64 0] (0, 0) _ rfl (Dm.rowb B1.out) Tryz.underlying59 rfl HIF.out) rfl ?_
  exact ⟨by rw [HD.out]; rfl, Dm.chgRow (S1.out.trans HS2.out) (.inr HGW.out) _⟩
end Go.Proofs.YthhbhbfkbncegaaGreatDoor.Sl
end
section
section
section
set_option linter.unusedVariables false
set_option linter.unusedSimpArgs false
namespace Go.Proofs.YthhbhbfkbncegaaGreatDoor.Sl
open Go.ChangeShapes Go.WideShapes Go.ChangeAt Go.RowKit Ws
open Im (PT PO PS TsAt OsAt SysAt tcells ocells)
open Dm (demI dearI dearE)
theorem reads_info3 : (Tryz.prog.info? 59).map (fun i => (i.zero, i.size, i.bytes)) = some (some (.agg #[.int .i64 0, .int .i64 0, .int .i64 0, .bool false, .int .i64 0, .int .i64 0]), 6, 48) := by kernel_rfl
theorem rcells_one (x : SR) : ∀ u ∈ rcells x, u.oneCell' = true := by
 intro u hu
 simp only [rcells, List.mem_cons, List.not_mem_nil, or_false] at hu
 rcases hu with rfl | rfl | rfl | rfl | rfl | rfl <;> rfl
noncomputable def jobC (s : PS) (i : Int) : Int := if dearE s i 0 = 0 then dearI s i 0 else 0
noncomputable def jobR (s : PS) (i : Int) : List SR := if dearE s i 0 = 0 then jobL s i s.os.length else []
theorem job_is (s : PS) (i r : Int) : stepsR (jobC s i) (jobR s i) r = jobI s i r := by
 unfold jobC jobR jobI
 split <;> rfl
theorem job_no' {s : PS} {i : Int} (h : ¬ dearE s i 0 = 0) : jobC s i = 0 ∧ jobR s i = [] := ⟨if_neg h, if_neg h⟩
theorem job_yes' {s : PS} {i : Int} (h : dearE s i 0 = 0) : jobC s i = dearI s i 0 ∧ jobR s i = jobL s i s.os.length := ⟨if_pos h, if_pos h⟩
def JobP (w : World) (s : PS) (i : Int) (e : Ending) (w' : World) : Prop := ∃ RA rc, e = .returned (.agg #[.int .i64 (jobC s i), .slice RA (jobR s i).length rc]) ∧ Row w' RA ((jobR s i).flatMap rcells) ∧ Same w w'
theorem jobP_mk {w w' : World} {s : PS} {i cl : Int} {RA : Option Addr} {k rc : Nat} (h1 : cl = jobC s i) (h2 : k = (jobR s i).length) (h3 : Row w' RA ((jobR s i).flatMap rcells)) (h4 : Same w w') : JobP w s i (.returned (.agg #[.int .i64 cl, .slice RA k rc])) w' := by
 subst h1 h2
 exact ⟨RA, rc, rfl, h3, h4⟩
theorem of_sl' {s : PS} {i k : Int} (h : ∀ o ∈ s.os, o.sl ≤ 9223372036854775807) : (ofR s i k).sl ≤ 9223372036854775807 := by
 cases g : readsP s i k with
 | false => rw [of_no g]; decide
 | true =>
  rw [(of_k g).2.1]
  unfold obj
  rw [List.getD_eq_getElem?_getD]
  cases e : s.os[k.toNat]? with
  | none => decide
  | some o => exact h o (List.mem_of_getElem? e)
theorem job_sl {s : PS} {i : Int} (h : ∀ o ∈ s.os, o.sl ≤ 9223372036854775807) : ∀ x ∈ jobR s i, x.sl ≤ 9223372036854775807 := by
 intro x hx
 unfold jobR at hx
 split at hx
 ·unfold jobL at hx
  obtain ⟨k, _, rfl⟩ := List.mem_map.1 hx
  exact of_sl' h
 ·cases hx
theorem job_len {s : PS} {i : Int} {m : Nat} (hm : s.os.length = m) (ho : Sy.OFew s.os 5000) : ((jobR s i).length : Int) ≤ 9223372036854775807 := by
 have := ho.1
 unfold jobR
 split
 ·rw [jobL_len]; omega
 ·simp
theorem row_set {w : World} {B : Nat} {e : TypeId} {s : Nat} {A : Option Addr} {n c : Nat} {l : List Value} (h : OwnK w B e s A n c l) {g : Nat} (hg : g < B) (cs : Array Value) : Row (World.setRow w g cs) A l := by
 have hc : Chg (fun i => i = g) w (World.setRow w g cs) := Dm.chgRow (S := fun i => i = g) (Chg.refl _ w) (.inl rfl) cs
 exact (h.chg hc (fun g' e' f => by subst f; have := h.base_ge _ e'; omega)).row
/-- what stands between two objects -/
structure JI (w1 : World) (gj gB : Nat) (s : PS) (i cl : Int) (RA : Option Addr) (k rc : Nat) (W : World) : Prop where
 b : Blk W gj 65 #[.int .i64 cl, .slice RA k rc]
 o : OwnK W gB 59 6 RA k rc ((jobL s i k).flatMap rcells)
 same : Same w1 W
 sz : gB ≤ W.heap.size
set_option maxRecDepth 100000 in
set_option maxHeartbeats 4000000 in
theorem jobof_any (A B : Option Addr) (n c m d : Nat) (s : PS) (i : Int) (w : World) (hs : SysAt w A n B m s) (hnm : n ≤ maxLen ∧ m ≤ maxLen) (hf : ∀ p ∈ s.ts, p.code.length ≤ 200) (ho : Sy.OFew s.os 5000) (hT : Is.Tabs w) :
 Calls Tryz.prog 41 #[.agg #[.slice A n c, .slice B m d], .int .i64 i] w (JobP w s i) := by
 obtain ⟨i0, hi, hz0, hz1, hz2⟩ := info_parts reads_info3
 have hmb : m ≤ 5000 := by have := ho.1; rw [hs.hm] at this; omega
 obtain ⟨w0, hw0⟩ : ∃ w0, w0 = w.alloc (.cells #[.slice A n c, .slice B m d] 25) := ⟨_, rfl⟩
 obtain ⟨q0, hq0⟩ : ∃ q0, q0 = w.heap.size := ⟨_, rfl⟩
 obtain ⟨g, hg⟩ : ∃ g, g = w0.heap.size := ⟨_, rfl⟩
 obtain ⟨w1, hw1⟩ : ∃ w1, w1 = w0.alloc (.cells #[.int .i64 0, .slice none 0 0] 65) := ⟨_, rfl⟩
 have s0 : Same w w0 := hw0 ▸ (Same.refl w).alloc _
 have s1 : Same w0 w1 := hw1 ▸ (Same.refl w0).alloc _
 have b0 : Blk w0 q0 25 #[.slice A n c, .slice B m d] := by rw [hw0, hq0]; exact Blk.new w _ _
 have b1 : Blk w1 g 65 #[.int .i64 0, .slice none 0 0] := by rw [hw1, hg]; exact Blk.new w0 _ _
 have HE0 := Lib.hid hw0
 have HE1 := Lib.hid hw1
 have HQ0 := Lib.hid hq0
 have HG := Lib.hid (show q0 + 1 = g by rw [hg, hw0, hq0]; show _ = (w.heap.push _).size; rw [Array.size_push])
 have S1 := Lib.hid (s0.trans s1)
 have HGW := Lib.hid (show w.heap.size ≤ g by rw [hg]; exact s0.size)
 have HM := Lib.hid hs.hm
 have B0 := Lib.hid (b0.same s1)
 have B1 := Lib.hid b1
 have B1o := Lib.hid b1
 have HQ1 := Lib.hid (show q0 < w1.heap.size from (b0.same s1).lt)
 have CL := Lib.hid (Dm.clean36_any A B n c m d s i w1 (hs.same (s0.trans s1)) hf (hT.same (s0.trans s1)))
 have OF := Lib.hid (fun (k : Int) W (h : Same w1 W) => of_any A B n c m d s i k W (hs.same ((s0.trans s1).trans h)) hnm hf ho (hT.same ((s0.trans s1).trans h)))
 obtain ⟨c0, c1⟩ := (⟨(b0.same s1).cell 0, (b0.same s1).cell 1⟩ : _ ∧ _)
 simp only [Ws.q_] at c0 c1
 have HIF := Lib.hid (show (Tryz.prog.info? 65).map (·.size) = some (#[.int .i64 0, .slice none 0 0] : Array Value).size by kernel_rfl)
 have HG1 := Lib.hid (show g < w1.heap.size from b1.lt)
 clear hw0 hw1 hg hq0 s0 s1 b0 b1 hs hT hf ho
 go_enter Tryz.func41, Tryz.ntmps41
 go_upto_region 1 with fail
 rw [← HQ0.out, HG.out, ← HE0.out, ← HE1.out]
 clear HE0 HE1
 go_wp2_with fail
 refine CL.out.mono ?_
 rintro e w2 ⟨rfl, s2⟩
 clear CL
 have HS2 := Lib.hid s2
 have c0 := s2.cell c0
 have c1 := s2.cell c1
 have B1 := Lib.hid (B1.out.same s2)
 clear s2
 by_cases he : dearE s i 0 = 0
 ·have HJ := Lib.hid (job_yes' he)
  have ee : (dearE s i 0 != 0) = false := by simpa using he
  clear he
  generalize dearE s i 0 = de at *
  generalize dearI s i 0 = cl at *
  have BN := Lib.hid (Blk.new w2 65 #[.int .i64 0, .slice none 0 0])
  have HX := Lib.hid ((Same.refl w2).alloc (.cells #[.int .i64 0, .slice none 0 0] 65))
  obtain ⟨gj, hgj⟩ : ∃ gj, gj = w2.heap.size := ⟨_, rfl⟩
  have HGJ := Lib.hid hgj
  clear hgj
  go_upto_region 5 with (first | (refine wpList_store_row rfl 65 (.tmp 7) (.tmp 19) rfl w2.heap.size #[.int .i64 cl, .slice none 0 0] rfl rfl 65 #[.int .i64 0, .slice none 0 0] BN.out HIF.out rfl (by simp [Value.oneCell']) ?_))
  obtain ⟨wJ, hwJ⟩ : ∃ x, x = World.setRow (w2.alloc (.cells #[.int .i64 0, .slice none 0 0] 65)) w2.heap.size #[.int .i64 cl, .slice none 0 0] := ⟨_, rfl⟩
  have BJ := Lib.hid (show Blk wJ gj 65 #[.int .i64 cl, .slice none 0 0] by rw [hwJ, HGJ.out]; exact Dm.rowb BN.out)
  have SJ := Lib.hid (show Same w2 wJ by rw [hwJ]; exact Dm.chgRow HX.out (.inr (Nat.le_refl _)) _)
  rw [← hwJ, ← HGJ.out]
  have c0 := SJ.out.cell c0
  have c1 := SJ.out.cell c1
  have HGB := Lib.hid (show w1.heap.size ≤ gj from by rw [HGJ.out]; exact HS2.out.size)
  clear hwJ HX BN
  obtain ⟨gB, hgB⟩ : ∃ gB, gB = wJ.heap.size := ⟨_, rfl⟩
  have W0 := Lib.hid (show JI w1 gj gB s i cl none 0 0 wJ from ⟨BJ.out, OwnK.none _ _ _ _, HS2.out.trans SJ.out, by rw [hgB]; exact Nat.le_refl _⟩)
  have HLT := Lib.hid (show gj < gB from by rw [hgB]; exact BJ.out.lt)
  clear hgB BJ
  go_wp2_with fail
  go_loopg [23] m (fun gk iv wx => ∃ (k : Nat) (RA : Option Addr) (rc : Nat), k + gk = m ∧ iv = .int .i64 (k : Int) ∧ Hid (JI w1 gj gB s i cl RA k rc wx))
  case atStart => exact ⟨0, none, 0, by omega, rfl, W0⟩
  case round =>
   obtain ⟨k, RA, rc, hk, rfl, HW⟩ := hrel
   clear W0 c0 c1 SJ
   cases gk with
   | zero =>
    obtain rfl : k = m := by omega
    have hge : ¬ (k : Int) < k := by omega
    have BQ := Lib.hid (HW.out.b)
    obtain ⟨z0, z1⟩ := (⟨BQ.out.cell 0, BQ.out.cell 1⟩ : _ ∧ _)
    simp only [Ws.q_] at z0 z1
    have BR := Lib.hid (show Blk wr g 65 #[.int .i64 0, .slice none 0 0] from B1o.out.same HW.out.same)
    go_wp2_with (first | (refine wpList_store_row rfl 65 (.tmp 4) (.tmp 36) rfl g #[.int .i64 cl, .slice RA k rc] rfl rfl 65 #[.int .i64 0, .slice none 0 0] BR.out HIF.out rfl (by simp [Value.oneCell']) ?_))
    refine bodyPost_ret (v := .agg #[.int .i64 cl, .slice RA k rc]) (res_cell1 Tryz.results41 _ _ g 65 #[.int .i64 cl, .slice RA k rc] (0, 0) _ rfl (Dm.rowb BR.out) Tryz.underlying65 rfl HIF.out) rfl ?_
    have hc : Same w1 wr := HW.out.same
    refine jobP_mk HJ.out.1.symm (by rw [HJ.out.2, jobL_len, HM.out]) ?_ (Dm.chgRow (S1.out.trans hc) (.inr HGW.out) _)
    ·rw [HJ.out.2, HM.out]
     exact row_set HW.out.o (by have := HG1.out; have := HGB.out; have := HLT.out; omega) _
   | succ GK =>
    have hlt : (k : Int) < m := by omega
    have hk0 : (0 : Int) ≤ k := by omega
    have HKK := Lib.hid hk
    have hgg := HGB.out
    have hgl := HLT.out
    have hq1 := HQ1.out
    have hkb : k ≤ 5000 := by omega
    clear hk
    obtain ⟨x, hx⟩ : ∃ x, x = ofR s i (k : Int) := ⟨_, rfl⟩
    have OFK := Lib.hid (OF.out (k : Int))
    rw [← hx] at OFK
    have HX := Lib.hid hx
    clear hx
    obtain ⟨xk, xs, xf, xa, xw, xp⟩ := x
    replace OFK := Lib.hid (show ∀ W, Same w1 W → Calls Tryz.prog 35 #[.agg #[.slice A n c, .slice B m d], .int .i64 i, .int .i64 (k : Int)] W fun e w' => e = .returned (.agg #[.int .i64 xk, .int .i64 xs, .int .i64 xf, .bool xa, .int .i64 xw, .int .i64 xp]) ∧ Same W w' from OFK.out)
    go_wp2_with fail
    refine Hb.region_b (S := fun w' => w'.cell? ⟨q0, 0, none⟩ = some (.slice A n c) ∧ w'.cell? ⟨q0, 1, none⟩ = some (.slice B m d)) (T := fun w' => w'.cell? ⟨gj, 1, none⟩ = some (.slice RA k rc)) (Hd := fun i => decide (i < 9)) (by kernel_rfl) ?_
    have hs : Same wr wr.drew := (Same.refl _).drew
    have BJ := Lib.hid (HW.out.b.same hs)
    have OR := Lib.hid (HW.out.o.same hs)
    have SM := Lib.hid (HW.out.same.trans hs)
    have SZ := Lib.hid (Nat.le_trans HW.out.sz hs.size)
    have B0 := Lib.hid (B0.out.same (HW.out.same.trans hs))
    clear hs HW
    obtain ⟨wd, hwd⟩ : ∃ wd, wd = wr.drew := ⟨_, rfl⟩
    rw [← hwd] at BJ OR SM SZ B0
    rw [← hwd]
    clear hwd
    have hHeld' := (show wd.cell? ⟨q0, 0, none⟩ = some (.slice A n c) ∧ wd.cell? ⟨q0, 1, none⟩ = some (.slice B m d) from ⟨B0.out.cell 0, B0.out.cell 1⟩)
    have hTop' := (show wd.cell? ⟨gj, 1, none⟩ = some (.slice RA k rc) from BJ.out.cell 1)
    have hHeld := hHeld'
    have hTop := hTop'
    clear hHeld' hTop'
    refine Hb.b_take (i := 0) (v := ?_) rfl (by kernel_rfl) (by kernel_rfl) (by kernel_rfl) (fun _ _ _ h => h) (by rfl) hHeld ?_ ?_
    rotate_left
    ·intro wS hSw; (try dsimp only at hSw); go_simp; try with_reducible rfl
    try simp only [Ro.p]
    refine Hb.b_take (i := 2) (v := ?_) rfl (by kernel_rfl) (by kernel_rfl) (by kernel_rfl) (fun _ _ _ h => h) (by rfl) hHeld ?_ ?_
    rotate_left
    ·intro wS hSw; (try dsimp only at hSw); go_simp; try with_reducible rfl
    try simp only [Ro.p]
    refine Hb.b_take (i := 3) (v := ?_) rfl (by kernel_rfl) (by kernel_rfl) (by kernel_rfl) (fun _ _ _ h => h) (by rfl) hHeld ?_ ?_
    rotate_left
    ·intro wS hSw; (try dsimp only at hSw); go_simp; try with_reducible rfl
    try simp only [Ro.p]
    refine Hb.b_take (i := 4) (v := ?_) rfl (by kernel_rfl) (by kernel_rfl) (by kernel_rfl) (fun _ _ _ h => h) (by rfl) hHeld ?_ ?_
    rotate_left
    ·intro wS hSw; (try dsimp only at hSw); go_simp; try with_reducible rfl
    try simp only [Ro.p]
    refine Hb.b_take_t (i := 1) (v := ?_) (by kernel_rfl) rfl (by kernel_rfl) (by kernel_rfl) (by kernel_rfl) (fun _ _ _ h => h) (by rfl) hHeld hTop ?_ ?_
    rotate_left
    ·intro wS hSw hTw; (try dsimp only at hSw hTw); go_simp; try with_reducible rfl
    try simp only [Ro.p]
    refine Hb.b_one (i := 5) rfl (by kernel_rfl) (by rfl) (fun K hK => ?_)
    go_simp
    go_at_call 35
    refine (OFK.out _ SM.out).mono ?_
    rintro e wo ⟨rfl, so⟩
    have BJ := Lib.hid (BJ.out.same so)
    have OR := Lib.hid (OR.out.same so)
    have B0 := Lib.hid (B0.out.same so)
    have SM := Lib.hid (SM.out.trans so)
    have SZ := Lib.hid (Nat.le_trans SZ.out so.size)
    clear so
    have hHeld' := (show wo.cell? ⟨q0, 0, none⟩ = some (.slice A n c) ∧ wo.cell? ⟨q0, 1, none⟩ = some (.slice B m d) from ⟨B0.out.cell 0, B0.out.cell 1⟩)
    have hTop' := (show wo.cell? ⟨gj, 1, none⟩ = some (.slice RA k rc) from BJ.out.cell 1)
    refine hK.out _ _ hHeld' (fun _ _ => hTop') ?_
    clear hK K hHeld hTop
    have hHeld := hHeld'
    have hTop := hTop'
    clear hHeld' hTop'
    try simp only [Ro.p]
    refine Hb.b_one (i := 6) rfl (by kernel_rfl) (by rfl) (fun K hK => ?_)
    go_simp
    obtain ⟨wb, hn⟩ : ∃ x, x = wo.alloc (.cells #[.int .i64 xk, .int .i64 xs, .int .i64 xf, .bool xa, .int .i64 xw, .int .i64 xp] 59) := ⟨_, rfl⟩
    obtain ⟨gb, hg⟩ : ∃ g, g = wo.heap.size := ⟨_, rfl⟩
    have hs : Same wo wb := by rw [hn]; exact (Same.refl _).alloc _
    have RB := Lib.hid (show Blk wb gb 59 #[.int .i64 xk, .int .i64 xs, .int .i64 xf, .bool xa, .int .i64 xw, .int .i64 xp] from by rw [hn, hg]; exact Blk.new wo _ _)
    rw [← hn, ← hg]
    clear hn hg
    have BJ := Lib.hid (BJ.out.same hs)
    have OR := Lib.hid (OR.out.same hs)
    have B0 := Lib.hid (B0.out.same hs)
    have SM := Lib.hid (SM.out.trans hs)
    have SZ := Lib.hid (Nat.le_trans SZ.out hs.size)
    clear hs
    have hHeld' := (show wb.cell? ⟨q0, 0, none⟩ = some (.slice A n c) ∧ wb.cell? ⟨q0, 1, none⟩ = some (.slice B m d) from ⟨B0.out.cell 0, B0.out.cell 1⟩)
    have hTop' := (show wb.cell? ⟨gj, 1, none⟩ = some (.slice RA k rc) from BJ.out.cell 1)
    refine hK.out _ _ hHeld' (fun _ _ => hTop') ?_
    clear hK K hHeld hTop
    have hHeld := hHeld'
    have hTop := hTop'
    clear hHeld' hTop'
    try simp only [Ro.p]
    refine Hb.b_one (i := 7) rfl (by kernel_rfl) (by rfl) (fun K hK => ?_)
    refine Ra.oper_app (.tmp 27) (.tmp 32) 63 rfl gB 59 i0 _ 6 48 Tryz.underlying63 hi hz0 hz1 hz2 rfl (by omega) RA k rc _ rfl OR.out (some ⟨gb, 0, none⟩) 1 1 [.int .i64 xk, .int .i64 xs, .int .i64 xf, .bool xa, .int .i64 xw, .int .i64 xp] rfl rfl (Cs.blk_row RB.out) (rcells_one ⟨xk, xs, xf, xa, xw, xp⟩) (by omega) (by omega) SZ.out (k + 1) rfl ?_
    intro R1 r1 wa ho hc
    try simp only [Ro.p]
    have BJ := Lib.hid (BJ.out.chg hc (fun h => by have := OR.out.base_ge gj h; omega))
    have B0 := Lib.hid (B0.out.chg hc (fun h => by have := OR.out.base_ge q0 h; omega))
    have SM := Lib.hid (Same.more SM.out hc (fun g h => by have := OR.out.base_ge g h; omega))
    have SZ := Lib.hid (Nat.le_trans SZ.out hc.size)
    have OR := Lib.hid ho
    clear ho hc
    have hHeld' := (show wa.cell? ⟨q0, 0, none⟩ = some (.slice A n c) ∧ wa.cell? ⟨q0, 1, none⟩ = some (.slice B m d) from ⟨B0.out.cell 0, B0.out.cell 1⟩)
    have hTop' := (show wa.cell? ⟨gj, 1, none⟩ = some (.slice RA k rc) from BJ.out.cell 1)
    refine hK.out _ _ hHeld' (fun _ _ => hTop') ?_
    clear hK K hHeld hTop
    have hHeld := hHeld'
    have hTop := hTop'
    clear hHeld' hTop'
    try simp only [Ro.p]
    refine Hb.b_take (i := 8) (v := ?_) rfl (by kernel_rfl) (by kernel_rfl) (by kernel_rfl) (fun _ _ _ h => h) (by rfl) hHeld ?_ ?_
    rotate_left
    ·intro wS hSw; (try dsimp only at hSw); go_simp; try with_reducible rfl
    try simp only [Ro.p]
    refine Hb.b_one (i := 9) rfl (by kernel_rfl) (by rfl) (fun K hK => ?_)
    have z1 := BJ.out.cell 1
    simp only [Ws.q_] at z1
    have f1 := BJ.out.thaw 1
    go_simp
    obtain ⟨we, hn⟩ : ∃ x, x = wa.setCell ⟨gj, 1, none⟩ (.slice R1 (k + 1) r1) := ⟨_, rfl⟩
    have hc : Chg (fun i => i = gj) wa we := by rw [hn]; exact (Chg.refl (fun i => i = gj) wa).set (p := ⟨gj, 1, none⟩) (.inl rfl) _
    have BJ := Lib.hid (show Blk we gj 65 _ from by rw [hn]; exact BJ.out.put 1 _)
    rw [← hn]
    clear hn z1 f1
    have B0 := Lib.hid (B0.out.chg hc (by omega))
    have OR := Lib.hid (OR.out.chg hc (fun g h e => by have := OR.out.base_ge g h; omega))
    have SM := Lib.hid (Same.more SM.out hc (fun g h => by omega))
    have SZ := Lib.hid (Nat.le_trans SZ.out hc.size)
    clear hc
    have hHeld' := (show we.cell? ⟨q0, 0, none⟩ = some (.slice A n c) ∧ we.cell? ⟨q0, 1, none⟩ = some (.slice B m d) from ⟨B0.out.cell 0, B0.out.cell 1⟩)
    refine hK.out _ _ hHeld' (fun h => by simp at h) ?_
    clear hK K hHeld hTop
    try simp only [Ro.p]
    refine Hb.anyB_done (by kernel_rfl) ?_ _
    clear hHeld'
    go_wp2_with fail
    go_roundg GK
    case measure => omega
    case rel =>
     refine ⟨k + 1, R1, r1, by have := HKK.out; omega, by go_num, Lib.hid ⟨BJ.out, ?_, SM.out, SZ.out⟩⟩
     have h := OR.out
     rw [jobL_succ, List.flatMap_append, ← HX.out]
     simpa [rcells] using h
 ·have HJ := Lib.hid (job_no' he)
  have ee : (dearE s i 0 != 0) = true := by simpa using he
  clear he
  generalize dearE s i 0 = de at *
  generalize dearI s i 0 = cl at *
  go_wp2_with (first | (refine wpList_store_row rfl 65 (.tmp 4) (.tmp 17) rfl g #[.int .i64 0, .slice none 0 0] rfl rfl 65 #[.int .i64 0, .slice none 0 0] B1.out HIF.out rfl (by simp [Value.oneCell']) ?_))
  refine bodyPost_ret (v := .agg #[.int .i64 0, .slice none 0 0]) (res_cell1 Tryz.results41 _ _ g 65 #[.int .i64 0, .slice none 0 0] (0, 0) _ rfl (Dm.rowb B1.out) Tryz.underlying65 rfl HIF.out) rfl ?_
  exact jobP_mk HJ.out.1.symm (by rw [HJ.out.2]; rfl) (by rw [HJ.out.2]; intro j u hj; cases hj) (Dm.chgRow (S1.out.trans HS2.out) (.inr HGW.out) _)

set_option maxRecDepth 100000 in
theorem ijob_any (A B : Option Addr) (n c m d : Nat) (s : PS) (i : Int) (r : Int) (br : -9223372036854775808 ≤ r ∧ r ≤ 9223372036854775807) (hsl : ∀ o ∈ s.os, o.sl ≤ 9223372036854775807) (w : World) (hs : SysAt w A n B m s) (hnm : n ≤ maxLen ∧ m ≤ maxLen) (hf : ∀ p ∈ s.ts, p.code.length ≤ 200) (ho : Sy.OFew s.os 5000) (hT : Is.Tabs w) :
 Calls Tryz.prog 18 #[.agg #[.slice A n c, .slice B m d], .int .i64 i, .int .i64 r] w fun e w' => e = .returned (.int .i64 (jobI s i r)) ∧ Same w w' := by
 obtain ⟨w0, hw0⟩ : ∃ w0, w0 = w.alloc (.cells #[.slice A n c, .slice B m d] 25) := ⟨_, rfl⟩
 obtain ⟨g, hg⟩ : ∃ g, g = w.heap.size := ⟨_, rfl⟩
 have s0 : Same w w0 := hw0 ▸ (Same.refl w).alloc _
 have b0 : Blk w0 g 25 #[.slice A n c, .slice B m d] := by rw [hw0, hg]; exact Blk.new w _ _
 have HE0 := Lib.hid hw0
 have HG := Lib.hid hg
 have S0 := Lib.hid s0
 obtain ⟨c0, c1⟩ := (⟨b0.cell 0, b0.cell 1⟩ : _ ∧ _)
 simp only [Ws.q_] at c0 c1
 have JO := Lib.hid (jobof_any A B n c m d s i w0 (hs.same s0) hnm hf ho (hT.same s0))
 have LM := Lib.hid (fun RA rc W (h : Row W RA ((jobR s i).flatMap rcells)) => steps_any (jobC s i) RA (jobR s i).length rc (jobR s i) r br (job_sl hsl) W rfl (job_len hs.hm ho) h)
 have HJ := Lib.hid (job_is s i r)
 clear hw0 hg s0 b0 hs hT hf ho
 unfold JobP at JO
 generalize jobC s i = cl at *
 generalize jobR s i = l at *
 go_enter Tryz.func18, Tryz.ntmps18
 go_upto_region 1 with fail
 rw [← HE0.out, ← HG.out]
 clear HE0 HG
 go_wp2_with fail
 refine JO.out.mono ?_
 rintro e w1 ⟨RA, rc, rfl, hr, s1⟩
 have LR := Lib.hid (LM.out RA rc w1 hr)
 clear hr
 go_wp2_with fail
 refine LR.out.mono ?_
 rintro e w2 ⟨rfl, s2⟩
 go_wp2_with fail
 go_ret
 exact ⟨Wd.ret_int HJ.out, S0.out.trans (s1.trans s2)⟩
end Go.Proofs.YthhbhbfkbncegaaGreatDoor.Sl
end
section
set_option linter.unusedVariables false
set_option linter.unusedSimpArgs false
namespace Go.Proofs.YthhbhbfkbncegaaGreatDoor.Rt
open Go.ChangeShapes Go.WideShapes Go.ChangeAt Go.RowKit Ws
open Im (PT PO PS TsAt OsAt SysAt tcells ocells)
open Go.Proofs.YthhbhbfkbncegaaGreatDoor.Wd (ret_bool ret_int addv mulv ceilv)
open Sl (jobC jobR jobI rcells)
/-- what the closure of load stands on -/
structure LdAt (W : World) (s : PS) (i : Int) (costs : List Int) (A B C : Option Addr) (n c m d cl cc g7 g8 q5 q3 : Nat) (RA AA : Option Addr) (rc al ac : Nat) : Prop where
 b7 : Blk W g7 65 #[.int .i64 (jobC s i), .slice RA (jobR s i).length rc]
 r7 : Row W RA ((jobR s i).flatMap rcells)
 b8 : Blk W g8 32 #[.slice AA al ac]
 l8 : (aboveI s.ts i s.ts.length).length = al
 r8 : Row W AA ((aboveI s.ts i s.ts.length).map (Value.int .i64))
 b5 : Blk W q5 32 #[.slice C cl cc]
 l5 : costs.length = cl
 r5 : Row W C (costs.map (Value.int .i64))
 b3 : Blk W q3 25 #[.slice A n c, .slice B m d]
 hs : SysAt W A n B m s
theorem LdAt.same {W W' : World} {s : PS} {i : Int} {costs : List Int} {A B C : Option Addr} {n c m d cl cc g7 g8 q5 q3 : Nat} {RA AA : Option Addr} {rc al ac : Nat} (h : LdAt W s i costs A B C n c m d cl cc g7 g8 q5 q3 RA AA rc al ac) (hs : Same W W') : LdAt W' s i costs A B C n c m d cl cc g7 g8 q5 q3 RA AA rc al ac :=
 ⟨h.b7.same hs, h.r7.same hs, h.b8.same hs, h.l8, h.r8.same hs, h.b5.same hs, h.l5, h.r5.same hs, h.b3.same hs, h.hs.same hs⟩
theorem gI_nat (l : List Int) (k : Nat) : Sz.gI l k = l.getD k 0 := by
 unfold Sz.gI
 rw [if_pos (by omega), Int.toNat_natCast]
set_option maxRecDepth 100000 in
set_option maxHeartbeats 4000000 in
theorem load1_any (s : PS) (i : Int) (costs : List Int) (A B C : Option Addr) (n c m d cl cc g7 g8 q5 q3 : Nat) (RA AA : Option Addr) (rc al ac : Nat) (r : Int) (br : -9223372036854775808 ≤ r ∧ r ≤ 9223372036854775807) (hsl : ∀ o ∈ s.os, o.sl ≤ 9223372036854775807) (ho : Sy.OFew s.os 5000) (hn5 : n ≤ 5000) (w : World) (h : LdAt w s i costs A B C n c m d cl cc g7 g8 q5 q3 RA AA rc al ac) :
 Calls Tryz.prog 73 #[.int .i64 r, .pointer (some ⟨g7, 0, none⟩), .pointer (some ⟨g8, 0, none⟩), .pointer (some ⟨q5, 0, none⟩), .pointer (some ⟨q3, 0, none⟩)] w fun e w' => e = .returned (.int .i64 (loadI s i costs r)) ∧ Same w w' := by
 have HD := Lib.hid h
 have HJ := Lib.hid (Sl.job_is s i r)
 have ST := Lib.hid (Sl.steps_any (jobC s i) RA (jobR s i).length rc (jobR s i) r br (Sl.job_sl hsl) w rfl (Sl.job_len h.hs.hm ho) h.r7)
 have HL := Lib.hid (show loadL s costs r ((aboveI s.ts i s.ts.length).take al) (jobI s i r) = loadI s i costs r by
  rw [List.take_of_length_le (by rw [h.l8]; exact Nat.le_refl _), load_above]
  rfl)
 have HIN := Lib.hid (above_in (ts := s.ts) (y := i) s.ts.length (Nat.le_refl _))
 have hal : al ≤ 5000 := by
  have h1 := aboveI_len s.ts i s.ts.length
  rw [h.l8, h.hs.hn] at h1
  omega
 have hnn := h.hs.hn
 have HTA := Lib.hid (fun (j : Nat) (a : Int) (g : (aboveI s.ts i s.ts.length)[j]? = some a) => loadL_take (s := s) (costs := costs) (r := r) (x := jobI s i r) g)
 obtain ⟨j0, j1⟩ := (⟨h.b7.cell 0, h.b7.cell 1⟩ : _ ∧ _)
 have a0 := h.b8.cell 0
 simp only [Ws.q_] at j0 j1 a0
 clear h
 rw [HJ.out] at ST
 generalize jobC s i = jc at *
 generalize (jobR s i).length = jl at *
 go_enter Tryz.func73, Tryz.ntmps73
 go_wp2_with fail
 refine ST.out.mono ?_
 rintro e w1 ⟨rfl, s1⟩
 have HS1 := Lib.hid s1
 have a0 := s1.cell a0
 clear s1 ST j0 j1
 go_wp2_with fail
 go_loopg [17, 7] al (fun gk iv nv wx => ∃ j : Nat, j + gk = al ∧ iv = .int .i64 (j : Int) ∧ nv = .int .i64 (loadL s costs r ((aboveI s.ts i s.ts.length).take j) (jobI s i r)) ∧ Same w wx)
 case atStart => exact ⟨0, by omega, rfl, rfl, HS1.out⟩
 case round =>
  obtain ⟨j, hk, rfl, rfl, sx⟩ := hrel
  have HSX := Lib.hid sx
  clear a0
  cases gk with
  | zero =>
   obtain rfl : j = al := by omega
   have hge : ¬ (j : Int) < (j : Int) := by omega
   rw [HL.out]
   clear sx
   go_wp2_with fail
   go_ret
   exact ⟨rfl, HSX.out⟩
  | succ GK =>
   have hlt : (j : Int) < al := by omega
   have hj0 : (0 : Int) ≤ j := by omega
   have HKK := Lib.hid hk
   obtain ⟨a, ha⟩ : ∃ a, (aboveI s.ts i s.ts.length)[j]? = some a := ⟨(aboveI s.ts i s.ts.length)[j]'(by rw [HD.out.l8]; omega), List.getElem?_eq_getElem _⟩
   have hin := HIN.out a (List.mem_of_getElem? ha)
   obtain ⟨ka, rfl⟩ : ∃ ka : Nat, a = ka := ⟨a.toNat, by omega⟩
   obtain ⟨bY, oY, rfl, y0⟩ := (HD.out.r8.same sx) j (.int .i64 (ka : Int)) (by rw [List.getElem?_map, ha]; rfl)
   have HTJ := Lib.hid (HTA.out j ka ha)
   have RI := Lib.hid (fun W (h : Same w W) => Sz.rowi_any C cl cc costs ka W HD.out.l5 (HD.out.r5.same h))
   rw [gI_nat] at RI
   obtain ⟨p, hp⟩ : ∃ p, s.ts[ka]? = some p := ⟨s.ts[ka]'(by omega), List.getElem?_eq_getElem _⟩
   have HPT := Lib.hid (show (Ah.pt s.ts ka).per = p.per by unfold Ah.pt; rw [List.getD_eq_getElem?_getD, hp]; rfl)
   have WC := Lib.hid (fun W => Wd.wceil r p.per br W)
   have d5 := (HD.out.b5.same sx).cell 0
   simp only [List.getElem?_toArray, List.getElem?_cons_zero] at d5
   have hka : (ka : Int) < n := by omega
   have hka0 : (0 : Int) ≤ ka := by omega
   have HTS := Lib.hid (fun W (h : Same w W) => (HD.out.hs.ht.same h).at_ hp)
   rw [Int.toNat_natCast] at HTJ
   rw [HPT.out] at HTJ
   clear hk ha hin hp HIN sx
   generalize loadL s costs r ((aboveI s.ts i s.ts.length).take j) (jobI s i r) = v at *
   generalize costs.getD ka 0 = cv at *
   go_wp2_with fail
   refine (RI.out _ HSX.out).mono ?_
   rintro e w2 ⟨⟨b, rfl⟩, s2⟩
   have HS2 := Lib.hid (HSX.out.trans s2)
   obtain ⟨bA, oA, rfl, X, cX, _, _, t2, _⟩ := HTS.out _ HS2.out
   have d3 := (HD.out.b3.same HS2.out).cell 0
   simp only [List.getElem?_toArray, List.getElem?_cons_zero] at d3
   clear s2 RI y0 d5 HTS
   go_wp2_with fail
   refine (WC.out _).mono ?_
   rintro e w3 ⟨rfl, rfl⟩
   go_wp2_with fail
   refine (Wd.wmul _ _ _).mono ?_
   rintro e w4 ⟨rfl, rfl⟩
   go_wp2_with fail
   refine (Wd.wadd _ _ _).mono ?_
   rintro e w5 ⟨rfl, rfl⟩
   go_wp2_with fail
   go_roundg GK
   case rel => exact ⟨j + 1, by have := HKK.out; omega, by go_num, by rw [HTJ.out], HS2.out⟩
   case measure => omega
end Go.Proofs.YthhbhbfkbncegaaGreatDoor.Rt
end
end
section
set_option linter.unusedVariables false
set_option linter.unusedSimpArgs false
namespace Go.Proofs.YthhbhbfkbncegaaGreatDoor.Rt
open Go.ChangeShapes Go.WideShapes Go.ChangeAt Go.RowKit Ws
open Im (PT PO PS TsAt OsAt SysAt tcells ocells)
open Go.Proofs.YthhbhbfkbncegaaGreatDoor.Wd (ret_bool ret_int addv mulv ceilv)
open Sl (jobC jobR jobI rcells)
theorem three_on {P : Program} {l : List Oper} {Q : Exit → Act → World → Prop} {md : Region.Mode} {S : World → Prop} {i j k : Nat} {oi oj ok : Oper} {ri rj rk : List Oper} {fuel : Nat} {listed : Array Bool} {a : Act} {w : World} (hi : l.drop i = oi :: ri) (hj : l.drop j = oj :: rj) (hk : l.drop k = ok :: rk)
 (hr : Region.ready md l.toArray listed = [i, j, k]) (hwi : Region.wanted oi (yielded l.toArray a.tmps) = true) (hwj : Region.wanted oj (yielded l.toArray a.tmps) = true) (hwk : Region.wanted ok (yielded l.toArray a.tmps) = true)
 (h1 : ∀ K' : Act → World → Prop, Shut (∀ a w, S w → (S w → wpAnyH P md l.toArray Q S fuel (listed.setIfInBounds i true) a w) → K' a w) → Oper.wp P oi a w K' Q)
 (h2 : ∀ K' : Act → World → Prop, Shut (∀ a w, S w → (S w → wpAnyH P md l.toArray Q S fuel (listed.setIfInBounds j true) a w) → K' a w) → Oper.wp P oj a w K' Q)
 (h3 : ∀ K' : Act → World → Prop, Shut (∀ a w, S w → (S w → wpAnyH P md l.toArray Q S fuel (listed.setIfInBounds k true) a w) → K' a w) → Oper.wp P ok a w K' Q) : wpAnyH P md l.toArray Q S (fuel + 1) listed a w :=
 wpAnyH_ready hr (by simp) (AllReadyH.cons (Ro.at_drop hi) (fun K' hK => by rw [if_pos hwi]; exact h1 K' hK) (AllReadyH.cons (Ro.at_drop hj) (fun K' hK => by rw [if_pos hwj]; exact h2 K' hK) (AllReadyH.cons (Ro.at_drop hk) (fun K' hK => by rw [if_pos hwk]; exact h3 K' hK) AllReadyH.nil)))
theorem row_chg {w w' : World} {g : Nat} {A : Option Addr} {l : List Value} (h : Row w A l) (hc : Chg (fun i => i = g) w w') (hne : ∀ b o, A = some ⟨b, o, none⟩ → l ≠ [] → ¬ b = g) : Row w' A l := by
 intro j u hj
 obtain ⟨b, o, hA, hcell⟩ := h j u hj
 exact ⟨b, o, hA, hc.cell hcell (hne b o hA (fun e => by subst e; cases hj))⟩
theorem row6_ne {w : World} {g : Nat} {T : TypeId} {cs : Array Value} {A : Option Addr} {l : List Sl.SR} (h : Row w A (l.flatMap rcells)) (hb : Blk w g T cs) (hs : cs.size ≤ 2) (b o : Nat) (hA : A = some ⟨b, o, none⟩) (hne : l.flatMap rcells ≠ []) : ¬ b = g := by
 rintro rfl
 cases l with
 | nil => exact hne rfl
 | cons x l =>
  obtain ⟨b', o', hA', hcell⟩ := h 5 (.int .i64 x.pr) rfl
  rw [hA] at hA'
  injection hA' with hA'
  injection hA' with e1 e2
  subst e1 e2
  have h2 := hb.cell (o + 5)
  rw [h2, Array.getElem?_eq_none (by omega)] at hcell
  cases hcell
def LoadP (w : World) (s : PS) (i : Int) (costs : List Int) (A B C : Option Addr) (n c m d cl cc : Nat) (e : Ending) (w' : World) : Prop := ∃ g7 g8 q5 q3 RA AA rc al ac, e = .returned (.func (.func 73) #[] #[.pointer (some ⟨g7, 0, none⟩), .pointer (some ⟨g8, 0, none⟩), .pointer (some ⟨q5, 0, none⟩), .pointer (some ⟨q3, 0, none⟩)]) ∧ LdAt w' s i costs A B C n c m d cl cc g7 g8 q5 q3 RA AA rc al ac ∧ Same w w'
theorem loadP_mk {w w' : World} {s : PS} {i : Int} {costs : List Int} {A B C : Option Addr} {n c m d cl cc g7 g8 q5 q3 : Nat} {RA AA : Option Addr} {rc al ac : Nat} (h : LdAt w' s i costs A B C n c m d cl cc g7 g8 q5 q3 RA AA rc al ac) (hs : Same w w') : LoadP w s i costs A B C n c m d cl cc (.returned (.func (.func 73) #[] #[.pointer (some ⟨g7, 0, none⟩), .pointer (some ⟨g8, 0, none⟩), .pointer (some ⟨q5, 0, none⟩), .pointer (some ⟨q3, 0, none⟩)])) w' := ⟨_, _, _, _, _, _, _, _, _, rfl, h, hs⟩
set_option maxRecDepth 100000 in
set_option maxHeartbeats 8000000 in
theorem load_any (A B C : Option Addr) (n c m d cl cc : Nat) (s : PS) (i : Int) (costs : List Int) (w : World) (hs : SysAt w A n B m s) (hnm : n ≤ 1000 ∧ m ≤ maxLen) (hf : ∀ p ∈ s.ts, p.code.length ≤ 200) (ho : Sy.OFew s.os 5000) (hT : Is.Tabs w) (hcl : costs.length = cl) (hr : Row w C (costs.map (Value.int .i64))) :
 Calls Tryz.prog 49 #[.agg #[.slice A n c, .slice B m d], .int .i64 i, .slice C cl cc] w (LoadP w s i costs A B C n c m d cl cc) := by
 have hnm' : n ≤ maxLen ∧ m ≤ maxLen := ⟨by unfold maxLen; omega, hnm.2⟩
 obtain ⟨w0, hw0⟩ : ∃ w0, w0 = w.alloc (.cells #[.slice A n c, .slice B m d] 25) := ⟨_, rfl⟩
 obtain ⟨q3, hq3⟩ : ∃ q3, q3 = w.heap.size := ⟨_, rfl⟩
 obtain ⟨q5, hq5⟩ : ∃ g, g = w0.heap.size := ⟨_, rfl⟩
 obtain ⟨w1, hw1⟩ : ∃ w1, w1 = w0.alloc (.cells #[.slice C cl cc] 32) := ⟨_, rfl⟩
 have s0 : Same w w0 := hw0 ▸ (Same.refl w).alloc _
 have s1 : Same w0 w1 := hw1 ▸ (Same.refl w0).alloc _
 have b3 : Blk w0 q3 25 #[.slice A n c, .slice B m d] := by rw [hw0, hq3]; exact Blk.new w _ _
 have b5 : Blk w1 q5 32 #[.slice C cl cc] := by rw [hw1, hq5]; exact Blk.new w0 _ _
 have HE0 := Lib.hid hw0
 have HE1 := Lib.hid hw1
 have HQ3 := Lib.hid hq3
 have HQ5 := Lib.hid (show q3 + 1 = q5 by rw [hq5, hw0, hq3]; show _ = (w.heap.push _).size; rw [Array.size_push])
 have S1 := Lib.hid (s0.trans s1)
 have HB3 := Lib.hid (b3.same s1)
 have HB5 := Lib.hid b5
 have HS := Lib.hid (hs.same (s0.trans s1))
 have HCL := Lib.hid hcl
 have HRC := Lib.hid (hr.same (s0.trans s1))
 have HIF := Lib.hid (show (Tryz.prog.info? 65).map (·.size) = some (#[.int .i64 0, .slice none 0 0] : Array Value).size by kernel_rfl)
 have JO := Lib.hid (fun W (h : Same w1 W) => Sl.jobof_any A B n c m d s i W (hs.same ((s0.trans s1).trans h)) hnm' hf ho (hT.same ((s0.trans s1).trans h)))
 have AB := Lib.hid (fun W (h : Same w1 W) => above_gen A n c s.ts i W hs.hn hnm.1 (hs.ht.same ((s0.trans s1).trans h)))
 clear hw0 hw1 hq3 hq5 s0 s1 b3 b5 hs hT hf ho hr hcl
 go_enter Tryz.func49, Tryz.ntmps49
 go_upto_region 1 with fail
 rw [← HQ3.out, HQ5.out, ← HE0.out, ← HE1.out]
 clear HE0 HE1 HQ3 HQ5
 refine wp_region_held_drew (S := fun w' => Same w1 w') (by kernel_rfl) ?_ (fun hHeld => ?_)
 ·exact (Same.refl w1).drew
 refine Ro.tn 0 ?_ ?_ ?_
 rotate_left
 ·intro wS hSw; (try dsimp only at hSw); obtain ⟨v0, v1⟩ := (⟨(HB3.out.same hSw).cell 0, (HB3.out.same hSw).cell 1⟩ : _ ∧ _); simp only [Ws.q_] at v0 v1; go_simp; try with_reducible rfl
 try simp only [Ro.p]
 refine Ro.tn 1 ?_ ?_ ?_
 rotate_left
 ·intro wS hSw; (try dsimp only at hSw); go_simp; try with_reducible rfl
 try simp only [Ro.p]
 refine Ro.tn 3 ?_ ?_ ?_
 rotate_left
 ·intro wS hSw; (try dsimp only at hSw); go_simp; try with_reducible rfl
 try simp only [Ro.p]
 refine Ro.tn 4 ?_ ?_ ?_
 rotate_left
 ·intro wS hSw; (try dsimp only at hSw); obtain ⟨v0, v1⟩ := (⟨(HB3.out.same hSw).cell 0, (HB3.out.same hSw).cell 1⟩ : _ ∧ _); simp only [Ws.q_] at v0 v1; go_simp; try with_reducible rfl
 try simp only [Ro.p]
 refine Ro.tn 5 ?_ ?_ ?_
 rotate_left
 ·intro wS hSw; (try dsimp only at hSw); go_simp; try with_reducible rfl
 try simp only [Ro.p]
 obtain ⟨wd, hwd⟩ : ∃ x, x = w1.drew := ⟨_, rfl⟩
 rw [← hwd] at hHeld
 rw [← hwd]
 clear hwd
 refine three_on (i := 2) (j := 7) (k := 8) rfl rfl rfl (by kernel_rfl) (by rfl) (by rfl) (by rfl) ?g1_2 ?g1_7 ?g1_8
 case' g1_2 =>
  intro K hK
  go_simp
  go_at_call 41
  refine (JO.out _ hHeld).mono ?_
  rintro e y2 ⟨RA, rc, rfl, hj, hs⟩
  have RJ := Lib.hid hj
  refine hK.out _ _ ?_ (fun hNew => ?_)
  ·exact hHeld.trans hs
  clear hj hs
  clear hK K hHeld; have hHeld := hNew; clear hNew
  try simp only [Ro.p]
  refine three_on (i := 6) (j := 7) (k := 8) rfl rfl rfl (by kernel_rfl) (by rfl) (by rfl) (by rfl) ?g3_6 ?g3_7 ?g3_8
  case' g3_6 =>
   intro K hK
   go_simp
   go_at_call 72
   refine (AB.out _ hHeld).mono ?_
   rintro e y4 ⟨AA, ac, rfl, ha, hs, hf⟩
   have RJ := Lib.hid (RJ.out.same hs)
   have RA_ := Lib.hid ha
   have HL6 := Lib.hid (fun b o e => (hf b o e).2)
   refine hK.out _ _ ?_ (fun hNew => ?_)
   ·exact hHeld.trans hs
   clear ha hs hf
   clear hK K hHeld; have hHeld := hNew; clear hNew
   try simp only [Ro.p]
   refine Ra.two_on (i := 7) (j := 8) rfl rfl (by kernel_rfl) (by rfl) (by rfl) ?g5_7 ?g5_8
   case' g5_7 =>
    intro K hK
    go_simp
    obtain ⟨y6, hn⟩ : ∃ x, x = y4.alloc (.cells #[.int .i64 0, .slice none 0 0] 65) := ⟨_, rfl⟩
    obtain ⟨g7, hg⟩ : ∃ g, g = y4.heap.size := ⟨_, rfl⟩
    have hs : Same y4 y6 := by rw [hn]; exact (Same.refl _).alloc _
    have hge : w1.heap.size ≤ g7 := by rw [hg]; exact hHeld.size
    have F7 := Lib.hid (fun b o e => by have := HL6.out b o e; omega : ∀ b o, AA = some ⟨b, o, none⟩ → ¬ b = g7)
    have RJ := Lib.hid (RJ.out.same hs)
    have RA_ := Lib.hid (RA_.out.same hs)
    have HL6 := Lib.hid (fun b o e => Nat.lt_of_lt_of_le (HL6.out b o e) hs.size)
    have B7 := Lib.hid (show Blk y6 g7 65 #[.int .i64 0, .slice none 0 0] by rw [hn, hg]; exact Blk.new _ _ _)
    have Hg7 := Lib.hid hge
    rw [← hn, ← hg]
    refine hK.out _ _ ?_ (fun hNew => ?_)
    ·exact hHeld.trans hs
    clear hn hg hs hge
    clear hK K hHeld; have hHeld := hNew; clear hNew
    try simp only [Ro.p]
    refine Ro.one_on (i := 8) rfl (by kernel_rfl) (by rfl) (fun K hK => ?_)
    go_simp
    obtain ⟨wz, hn⟩ : ∃ x, x = y6.alloc (.cells #[.slice none 0 0] 32) := ⟨_, rfl⟩
    obtain ⟨g8, hg⟩ : ∃ g, g = y6.heap.size := ⟨_, rfl⟩
    have hs : Same y6 wz := by rw [hn]; exact (Same.refl _).alloc _
    have hge : w1.heap.size ≤ g8 := by rw [hg]; exact hHeld.size
    have F8 := Lib.hid (fun b o e => by have := HL6.out b o e; omega : ∀ b o, AA = some ⟨b, o, none⟩ → ¬ b = g8)
    have B7 := Lib.hid (B7.out.same hs)
    have RJ := Lib.hid (RJ.out.same hs)
    have RA_ := Lib.hid (RA_.out.same hs)
    have HL6 := Lib.hid (fun b o e => Nat.lt_of_lt_of_le (HL6.out b o e) hs.size)
    have B8 := Lib.hid (show Blk wz g8 32 #[.slice none 0 0] by rw [hn, hg]; exact Blk.new _ _ _)
    have Hg8 := Lib.hid hge
    rw [← hn, ← hg]
    refine hK.out _ _ ?_ (fun hNew => ?_)
    ·exact hHeld.trans hs
    clear hn hg hs hge
    clear hK K hHeld; have hHeld := hNew; clear hNew
    try simp only [Ro.p]
   case' g5_8 =>
    intro K hK
    go_simp
    obtain ⟨y8, hn⟩ : ∃ x, x = y4.alloc (.cells #[.slice none 0 0] 32) := ⟨_, rfl⟩
    obtain ⟨g8, hg⟩ : ∃ g, g = y4.heap.size := ⟨_, rfl⟩
    have hs : Same y4 y8 := by rw [hn]; exact (Same.refl _).alloc _
    have hge : w1.heap.size ≤ g8 := by rw [hg]; exact hHeld.size
    have F8 := Lib.hid (fun b o e => by have := HL6.out b o e; omega : ∀ b o, AA = some ⟨b, o, none⟩ → ¬ b = g8)
    have RJ := Lib.hid (RJ.out.same hs)
    have RA_ := Lib.hid (RA_.out.same hs)
    have HL6 := Lib.hid (fun b o e => Nat.lt_of_lt_of_le (HL6.out b o e) hs.size)
    have B8 := Lib.hid (show Blk y8 g8 32 #[.slice none 0 0] by rw [hn, hg]; exact Blk.new _ _ _)
    have Hg8 := Lib.hid hge
    rw [← hn, ← hg]
    refine hK.out _ _ ?_ (fun hNew => ?_)
    ·exact hHeld.trans hs
    clear hn hg hs hge
    clear hK K hHeld; have hHeld := hNew; clear hNew
    try simp only [Ro.p]
    refine Ro.one_on (i := 7) rfl (by kernel_rfl) (by rfl) (fun K hK => ?_)
    go_simp
    obtain ⟨wz, hn⟩ : ∃ x, x = y8.alloc (.cells #[.int .i64 0, .slice none 0 0] 65) := ⟨_, rfl⟩
    obtain ⟨g7, hg⟩ : ∃ g, g = y8.heap.size := ⟨_, rfl⟩
    have hs : Same y8 wz := by rw [hn]; exact (Same.refl _).alloc _
    have hge : w1.heap.size ≤ g7 := by rw [hg]; exact hHeld.size
    have F7 := Lib.hid (fun b o e => by have := HL6.out b o e; omega : ∀ b o, AA = some ⟨b, o, none⟩ → ¬ b = g7)
    have B8 := Lib.hid (B8.out.same hs)
    have RJ := Lib.hid (RJ.out.same hs)
    have RA_ := Lib.hid (RA_.out.same hs)
    have HL6 := Lib.hid (fun b o e => Nat.lt_of_lt_of_le (HL6.out b o e) hs.size)
    have B7 := Lib.hid (show Blk wz g7 65 #[.int .i64 0, .slice none 0 0] by rw [hn, hg]; exact Blk.new _ _ _)
    have Hg7 := Lib.hid hge
    rw [← hn, ← hg]
    refine hK.out _ _ ?_ (fun hNew => ?_)
    ·exact hHeld.trans hs
    clear hn hg hs hge
    clear hK K hHeld; have hHeld := hNew; clear hNew
    try simp only [Ro.p]
  case' g3_7 =>
   intro K hK
   go_simp
   obtain ⟨y10, hn⟩ : ∃ x, x = y2.alloc (.cells #[.int .i64 0, .slice none 0 0] 65) := ⟨_, rfl⟩
   obtain ⟨g7, hg⟩ : ∃ g, g = y2.heap.size := ⟨_, rfl⟩
   have hs : Same y2 y10 := by rw [hn]; exact (Same.refl _).alloc _
   have hge : w1.heap.size ≤ g7 := by rw [hg]; exact hHeld.size
   have RJ := Lib.hid (RJ.out.same hs)
   have B7 := Lib.hid (show Blk y10 g7 65 #[.int .i64 0, .slice none 0 0] by rw [hn, hg]; exact Blk.new _ _ _)
   have Hg7 := Lib.hid hge
   rw [← hn, ← hg]
   refine hK.out _ _ ?_ (fun hNew => ?_)
   ·exact hHeld.trans hs
   clear hn hg hs hge
   clear hK K hHeld; have hHeld := hNew; clear hNew
   try simp only [Ro.p]
   refine Ra.two_on (i := 6) (j := 8) rfl rfl (by kernel_rfl) (by rfl) (by rfl) ?g11_6 ?g11_8
   case' g11_6 =>
    intro K hK
    go_simp
    go_at_call 72
    refine (AB.out _ hHeld).mono ?_
    rintro e y12 ⟨AA, ac, rfl, ha, hs, hf⟩
    have F7 := Lib.hid (fun b o e => by have := (hf b o e).1; have := B7.out.lt; omega : ∀ b o, AA = some ⟨b, o, none⟩ → ¬ b = g7)
    have B7 := Lib.hid (B7.out.same hs)
    have RJ := Lib.hid (RJ.out.same hs)
    have RA_ := Lib.hid ha
    have HL6 := Lib.hid (fun b o e => (hf b o e).2)
    refine hK.out _ _ ?_ (fun hNew => ?_)
    ·exact hHeld.trans hs
    clear ha hs hf
    clear hK K hHeld; have hHeld := hNew; clear hNew
    try simp only [Ro.p]
    refine Ro.one_on (i := 8) rfl (by kernel_rfl) (by rfl) (fun K hK => ?_)
    go_simp
    obtain ⟨wz, hn⟩ : ∃ x, x = y12.alloc (.cells #[.slice none 0 0] 32) := ⟨_, rfl⟩
    obtain ⟨g8, hg⟩ : ∃ g, g = y12.heap.size := ⟨_, rfl⟩
    have hs : Same y12 wz := by rw [hn]; exact (Same.refl _).alloc _
    have hge : w1.heap.size ≤ g8 := by rw [hg]; exact hHeld.size
    have F8 := Lib.hid (fun b o e => by have := HL6.out b o e; omega : ∀ b o, AA = some ⟨b, o, none⟩ → ¬ b = g8)
    have B7 := Lib.hid (B7.out.same hs)
    have RJ := Lib.hid (RJ.out.same hs)
    have RA_ := Lib.hid (RA_.out.same hs)
    have HL6 := Lib.hid (fun b o e => Nat.lt_of_lt_of_le (HL6.out b o e) hs.size)
    have B8 := Lib.hid (show Blk wz g8 32 #[.slice none 0 0] by rw [hn, hg]; exact Blk.new _ _ _)
    have Hg8 := Lib.hid hge
    rw [← hn, ← hg]
    refine hK.out _ _ ?_ (fun hNew => ?_)
    ·exact hHeld.trans hs
    clear hn hg hs hge
    clear hK K hHeld; have hHeld := hNew; clear hNew
    try simp only [Ro.p]
   case' g11_8 =>
    intro K hK
    go_simp
    obtain ⟨y14, hn⟩ : ∃ x, x = y10.alloc (.cells #[.slice none 0 0] 32) := ⟨_, rfl⟩
    obtain ⟨g8, hg⟩ : ∃ g, g = y10.heap.size := ⟨_, rfl⟩
    have hs : Same y10 y14 := by rw [hn]; exact (Same.refl _).alloc _
    have hge : w1.heap.size ≤ g8 := by rw [hg]; exact hHeld.size
    have B7 := Lib.hid (B7.out.same hs)
    have RJ := Lib.hid (RJ.out.same hs)
    have B8 := Lib.hid (show Blk y14 g8 32 #[.slice none 0 0] by rw [hn, hg]; exact Blk.new _ _ _)
    have Hg8 := Lib.hid hge
    rw [← hn, ← hg]
    refine hK.out _ _ ?_ (fun hNew => ?_)
    ·exact hHeld.trans hs
    clear hn hg hs hge
    clear hK K hHeld; have hHeld := hNew; clear hNew
    try simp only [Ro.p]
    refine Ro.one_on (i := 6) rfl (by kernel_rfl) (by rfl) (fun K hK => ?_)
    go_simp
    go_at_call 72
    refine (AB.out _ hHeld).mono ?_
    rintro e wz ⟨AA, ac, rfl, ha, hs, hf⟩
    have F7 := Lib.hid (fun b o e => by have := (hf b o e).1; have := B7.out.lt; omega : ∀ b o, AA = some ⟨b, o, none⟩ → ¬ b = g7)
    have F8 := Lib.hid (fun b o e => by have := (hf b o e).1; have := B8.out.lt; omega : ∀ b o, AA = some ⟨b, o, none⟩ → ¬ b = g8)
    have B7 := Lib.hid (B7.out.same hs)
    have B8 := Lib.hid (B8.out.same hs)
    have RJ := Lib.hid (RJ.out.same hs)
    have RA_ := Lib.hid ha
    have HL6 := Lib.hid (fun b o e => (hf b o e).2)
    refine hK.out _ _ ?_ (fun hNew => ?_)
    ·exact hHeld.trans hs
    clear ha hs hf
    clear hK K hHeld; have hHeld := hNew; clear hNew
    try simp only [Ro.p]
  case' g3_8 =>
   intro K hK
   go_simp
   obtain ⟨y16, hn⟩ : ∃ x, x = y2.alloc (.cells #[.slice none 0 0] 32) := ⟨_, rfl⟩
   obtain ⟨g8, hg⟩ : ∃ g, g = y2.heap.size := ⟨_, rfl⟩
   have hs : Same y2 y16 := by rw [hn]; exact (Same.refl _).alloc _
   have hge : w1.heap.size ≤ g8 := by rw [hg]; exact hHeld.size
   have RJ := Lib.hid (RJ.out.same hs)
   have B8 := Lib.hid (show Blk y16 g8 32 #[.slice none 0 0] by rw [hn, hg]; exact Blk.new _ _ _)
   have Hg8 := Lib.hid hge
   rw [← hn, ← hg]
   refine hK.out _ _ ?_ (fun hNew => ?_)
   ·exact hHeld.trans hs
   clear hn hg hs hge
   clear hK K hHeld; have hHeld := hNew; clear hNew
   try simp only [Ro.p]
   refine Ra.two_on (i := 6) (j := 7) rfl rfl (by kernel_rfl) (by rfl) (by rfl) ?g17_6 ?g17_7
   case' g17_6 =>
    intro K hK
    go_simp
    go_at_call 72
    refine (AB.out _ hHeld).mono ?_
    rintro e y18 ⟨AA, ac, rfl, ha, hs, hf⟩
    have F8 := Lib.hid (fun b o e => by have := (hf b o e).1; have := B8.out.lt; omega : ∀ b o, AA = some ⟨b, o, none⟩ → ¬ b = g8)
    have B8 := Lib.hid (B8.out.same hs)
    have RJ := Lib.hid (RJ.out.same hs)
    have RA_ := Lib.hid ha
    have HL6 := Lib.hid (fun b o e => (hf b o e).2)
    refine hK.out _ _ ?_ (fun hNew => ?_)
    ·exact hHeld.trans hs
    clear ha hs hf
    clear hK K hHeld; have hHeld := hNew; clear hNew
    try simp only [Ro.p]
    refine Ro.one_on (i := 7) rfl (by kernel_rfl) (by rfl) (fun K hK => ?_)
    go_simp
    obtain ⟨wz, hn⟩ : ∃ x, x = y18.alloc (.cells #[.int .i64 0, .slice none 0 0] 65) := ⟨_, rfl⟩
    obtain ⟨g7, hg⟩ : ∃ g, g = y18.heap.size := ⟨_, rfl⟩
    have hs : Same y18 wz := by rw [hn]; exact (Same.refl _).alloc _
    have hge : w1.heap.size ≤ g7 := by rw [hg]; exact hHeld.size
    have F7 := Lib.hid (fun b o e => by have := HL6.out b o e; omega : ∀ b o, AA = some ⟨b, o, none⟩ → ¬ b = g7)
    have B8 := Lib.hid (B8.out.same hs)
    have RJ := Lib.hid (RJ.out.same hs)
    have RA_ := Lib.hid (RA_.out.same hs)
    have HL6 := Lib.hid (fun b o e => Nat.lt_of_lt_of_le (HL6.out b o e) hs.size)
    have B7 := Lib.hid (show Blk wz g7 65 #[.int .i64 0, .slice none 0 0] by rw [hn, hg]; exact Blk.new _ _ _)
    have Hg7 := Lib.hid hge
    rw [← hn, ← hg]
    refine hK.out _ _ ?_ (fun hNew => ?_)
    ·exact hHeld.trans hs
    clear hn hg hs hge
    clear hK K hHeld; have hHeld := hNew; clear hNew
    try simp only [Ro.p]
   case' g17_7 =>
    intro K hK
    go_simp
    obtain ⟨y20, hn⟩ : ∃ x, x = y16.alloc (.cells #[.int .i64 0, .slice none 0 0] 65) := ⟨_, rfl⟩
    obtain ⟨g7, hg⟩ : ∃ g, g = y16.heap.size := ⟨_, rfl⟩
    have hs : Same y16 y20 := by rw [hn]; exact (Same.refl _).alloc _
    have hge : w1.heap.size ≤ g7 := by rw [hg]; exact hHeld.size
    have B8 := Lib.hid (B8.out.same hs)
    have RJ := Lib.hid (RJ.out.same hs)
    have B7 := Lib.hid (show Blk y20 g7 65 #[.int .i64 0, .slice none 0 0] by rw [hn, hg]; exact Blk.new _ _ _)
    have Hg7 := Lib.hid hge
    rw [← hn, ← hg]
    refine hK.out _ _ ?_ (fun hNew => ?_)
    ·exact hHeld.trans hs
    clear hn hg hs hge
    clear hK K hHeld; have hHeld := hNew; clear hNew
    try simp only [Ro.p]
    refine Ro.one_on (i := 6) rfl (by kernel_rfl) (by rfl) (fun K hK => ?_)
    go_simp
    go_at_call 72
    refine (AB.out _ hHeld).mono ?_
    rintro e wz ⟨AA, ac, rfl, ha, hs, hf⟩
    have F7 := Lib.hid (fun b o e => by have := (hf b o e).1; have := B7.out.lt; omega : ∀ b o, AA = some ⟨b, o, none⟩ → ¬ b = g7)
    have F8 := Lib.hid (fun b o e => by have := (hf b o e).1; have := B8.out.lt; omega : ∀ b o, AA = some ⟨b, o, none⟩ → ¬ b = g8)
    have B7 := Lib.hid (B7.out.same hs)
    have B8 := Lib.hid (B8.out.same hs)
    have RJ := Lib.hid (RJ.out.same hs)
    have RA_ := Lib.hid ha
    have HL6 := Lib.hid (fun b o e => (hf b o e).2)
    refine hK.out _ _ ?_ (fun hNew => ?_)
    ·exact hHeld.trans hs
    clear ha hs hf
    clear hK K hHeld; have hHeld := hNew; clear hNew
    try simp only [Ro.p]
 case' g1_7 =>
  intro K hK
  go_simp
  obtain ⟨y22, hn⟩ : ∃ x, x = wd.alloc (.cells #[.int .i64 0, .slice none 0 0] 65) := ⟨_, rfl⟩
  obtain ⟨g7, hg⟩ : ∃ g, g = wd.heap.size := ⟨_, rfl⟩
  have hs : Same wd y22 := by rw [hn]; exact (Same.refl _).alloc _
  have hge : w1.heap.size ≤ g7 := by rw [hg]; exact hHeld.size
  have B7 := Lib.hid (show Blk y22 g7 65 #[.int .i64 0, .slice none 0 0] by rw [hn, hg]; exact Blk.new _ _ _)
  have Hg7 := Lib.hid hge
  rw [← hn, ← hg]
  refine hK.out _ _ ?_ (fun hNew => ?_)
  ·exact hHeld.trans hs
  clear hn hg hs hge
  clear hK K hHeld; have hHeld := hNew; clear hNew
  try simp only [Ro.p]
  refine Ra.two_on (i := 2) (j := 8) rfl rfl (by kernel_rfl) (by rfl) (by rfl) ?g23_2 ?g23_8
  case' g23_2 =>
   intro K hK
   go_simp
   go_at_call 41
   refine (JO.out _ hHeld).mono ?_
   rintro e y24 ⟨RA, rc, rfl, hj, hs⟩
   have B7 := Lib.hid (B7.out.same hs)
   have RJ := Lib.hid hj
   refine hK.out _ _ ?_ (fun hNew => ?_)
   ·exact hHeld.trans hs
   clear hj hs
   clear hK K hHeld; have hHeld := hNew; clear hNew
   try simp only [Ro.p]
   refine Ra.two_on (i := 6) (j := 8) rfl rfl (by kernel_rfl) (by rfl) (by rfl) ?g25_6 ?g25_8
   case' g25_6 =>
    intro K hK
    go_simp
    go_at_call 72
    refine (AB.out _ hHeld).mono ?_
    rintro e y26 ⟨AA, ac, rfl, ha, hs, hf⟩
    have F7 := Lib.hid (fun b o e => by have := (hf b o e).1; have := B7.out.lt; omega : ∀ b o, AA = some ⟨b, o, none⟩ → ¬ b = g7)
    have B7 := Lib.hid (B7.out.same hs)
    have RJ := Lib.hid (RJ.out.same hs)
    have RA_ := Lib.hid ha
    have HL6 := Lib.hid (fun b o e => (hf b o e).2)
    refine hK.out _ _ ?_ (fun hNew => ?_)
    ·exact hHeld.trans hs
    clear ha hs hf
    clear hK K hHeld; have hHeld := hNew; clear hNew
    try simp only [Ro.p]
    refine Ro.one_on (i := 8) rfl (by kernel_rfl) (by rfl) (fun K hK => ?_)
    go_simp
    obtain ⟨wz, hn⟩ : ∃ x, x = y26.alloc (.cells #[.slice none 0 0] 32) := ⟨_, rfl⟩
    obtain ⟨g8, hg⟩ : ∃ g, g = y26.heap.size := ⟨_, rfl⟩
    have hs : Same y26 wz := by rw [hn]; exact (Same.refl _).alloc _
    have hge : w1.heap.size ≤ g8 := by rw [hg]; exact hHeld.size
    have F8 := Lib.hid (fun b o e => by have := HL6.out b o e; omega : ∀ b o, AA = some ⟨b, o, none⟩ → ¬ b = g8)
    have B7 := Lib.hid (B7.out.same hs)
    have RJ := Lib.hid (RJ.out.same hs)
    have RA_ := Lib.hid (RA_.out.same hs)
    have HL6 := Lib.hid (fun b o e => Nat.lt_of_lt_of_le (HL6.out b o e) hs.size)
    have B8 := Lib.hid (show Blk wz g8 32 #[.slice none 0 0] by rw [hn, hg]; exact Blk.new _ _ _)
    have Hg8 := Lib.hid hge
    rw [← hn, ← hg]
    refine hK.out _ _ ?_ (fun hNew => ?_)
    ·exact hHeld.trans hs
    clear hn hg hs hge
    clear hK K hHeld; have hHeld := hNew; clear hNew
    try simp only [Ro.p]
   case' g25_8 =>
    intro K hK
    go_simp
    obtain ⟨y28, hn⟩ : ∃ x, x = y24.alloc (.cells #[.slice none 0 0] 32) := ⟨_, rfl⟩
    obtain ⟨g8, hg⟩ : ∃ g, g = y24.heap.size := ⟨_, rfl⟩
    have hs : Same y24 y28 := by rw [hn]; exact (Same.refl _).alloc _
    have hge : w1.heap.size ≤ g8 := by rw [hg]; exact hHeld.size
    have B7 := Lib.hid (B7.out.same hs)
    have RJ := Lib.hid (RJ.out.same hs)
    have B8 := Lib.hid (show Blk y28 g8 32 #[.slice none 0 0] by rw [hn, hg]; exact Blk.new _ _ _)
    have Hg8 := Lib.hid hge
    rw [← hn, ← hg]
    refine hK.out _ _ ?_ (fun hNew => ?_)
    ·exact hHeld.trans hs
    clear hn hg hs hge
    clear hK K hHeld; have hHeld := hNew; clear hNew
    try simp only [Ro.p]
    refine Ro.one_on (i := 6) rfl (by kernel_rfl) (by rfl) (fun K hK => ?_)
    go_simp
    go_at_call 72
    refine (AB.out _ hHeld).mono ?_
    rintro e wz ⟨AA, ac, rfl, ha, hs, hf⟩
    have F7 := Lib.hid (fun b o e => by have := (hf b o e).1; have := B7.out.lt; omega : ∀ b o, AA = some ⟨b, o, none⟩ → ¬ b = g7)
    have F8 := Lib.hid (fun b o e => by have := (hf b o e).1; have := B8.out.lt; omega : ∀ b o, AA = some ⟨b, o, none⟩ → ¬ b = g8)
    have B7 := Lib.hid (B7.out.same hs)
    have B8 := Lib.hid (B8.out.same hs)
    have RJ := Lib.hid (RJ.out.same hs)
    have RA_ := Lib.hid ha
    have HL6 := Lib.hid (fun b o e => (hf b o e).2)
    refine hK.out _ _ ?_ (fun hNew => ?_)
    ·exact hHeld.trans hs
    clear ha hs hf
    clear hK K hHeld; have hHeld := hNew; clear hNew
    try simp only [Ro.p]
  case' g23_8 =>
   intro K hK
   go_simp
   obtain ⟨y30, hn⟩ : ∃ x, x = y22.alloc (.cells #[.slice none 0 0] 32) := ⟨_, rfl⟩
   obtain ⟨g8, hg⟩ : ∃ g, g = y22.heap.size := ⟨_, rfl⟩
   have hs : Same y22 y30 := by rw [hn]; exact (Same.refl _).alloc _
   have hge : w1.heap.size ≤ g8 := by rw [hg]; exact hHeld.size
   have B7 := Lib.hid (B7.out.same hs)
   have B8 := Lib.hid (show Blk y30 g8 32 #[.slice none 0 0] by rw [hn, hg]; exact Blk.new _ _ _)
   have Hg8 := Lib.hid hge
   rw [← hn, ← hg]
   refine hK.out _ _ ?_ (fun hNew => ?_)
   ·exact hHeld.trans hs
   clear hn hg hs hge
   clear hK K hHeld; have hHeld := hNew; clear hNew
   try simp only [Ro.p]
   refine Ro.one_on (i := 2) rfl (by kernel_rfl) (by rfl) (fun K hK => ?_)
   go_simp
   go_at_call 41
   refine (JO.out _ hHeld).mono ?_
   rintro e y31 ⟨RA, rc, rfl, hj, hs⟩
   have B7 := Lib.hid (B7.out.same hs)
   have B8 := Lib.hid (B8.out.same hs)
   have RJ := Lib.hid hj
   refine hK.out _ _ ?_ (fun hNew => ?_)
   ·exact hHeld.trans hs
   clear hj hs
   clear hK K hHeld; have hHeld := hNew; clear hNew
   try simp only [Ro.p]
   refine Ro.one_on (i := 6) rfl (by kernel_rfl) (by rfl) (fun K hK => ?_)
   go_simp
   go_at_call 72
   refine (AB.out _ hHeld).mono ?_
   rintro e wz ⟨AA, ac, rfl, ha, hs, hf⟩
   have F7 := Lib.hid (fun b o e => by have := (hf b o e).1; have := B7.out.lt; omega : ∀ b o, AA = some ⟨b, o, none⟩ → ¬ b = g7)
   have F8 := Lib.hid (fun b o e => by have := (hf b o e).1; have := B8.out.lt; omega : ∀ b o, AA = some ⟨b, o, none⟩ → ¬ b = g8)
   have B7 := Lib.hid (B7.out.same hs)
   have B8 := Lib.hid (B8.out.same hs)
   have RJ := Lib.hid (RJ.out.same hs)
   have RA_ := Lib.hid ha
   have HL6 := Lib.hid (fun b o e => (hf b o e).2)
   refine hK.out _ _ ?_ (fun hNew => ?_)
   ·exact hHeld.trans hs
   clear ha hs hf
   clear hK K hHeld; have hHeld := hNew; clear hNew
   try simp only [Ro.p]
 case' g1_8 =>
  intro K hK
  go_simp
  obtain ⟨y33, hn⟩ : ∃ x, x = wd.alloc (.cells #[.slice none 0 0] 32) := ⟨_, rfl⟩
  obtain ⟨g8, hg⟩ : ∃ g, g = wd.heap.size := ⟨_, rfl⟩
  have hs : Same wd y33 := by rw [hn]; exact (Same.refl _).alloc _
  have hge : w1.heap.size ≤ g8 := by rw [hg]; exact hHeld.size
  have B8 := Lib.hid (show Blk y33 g8 32 #[.slice none 0 0] by rw [hn, hg]; exact Blk.new _ _ _)
  have Hg8 := Lib.hid hge
  rw [← hn, ← hg]
  refine hK.out _ _ ?_ (fun hNew => ?_)
  ·exact hHeld.trans hs
  clear hn hg hs hge
  clear hK K hHeld; have hHeld := hNew; clear hNew
  try simp only [Ro.p]
  refine Ra.two_on (i := 2) (j := 7) rfl rfl (by kernel_rfl) (by rfl) (by rfl) ?g34_2 ?g34_7
  case' g34_2 =>
   intro K hK
   go_simp
   go_at_call 41
   refine (JO.out _ hHeld).mono ?_
   rintro e y35 ⟨RA, rc, rfl, hj, hs⟩
   have B8 := Lib.hid (B8.out.same hs)
   have RJ := Lib.hid hj
   refine hK.out _ _ ?_ (fun hNew => ?_)
   ·exact hHeld.trans hs
   clear hj hs
   clear hK K hHeld; have hHeld := hNew; clear hNew
   try simp only [Ro.p]
   refine Ra.two_on (i := 6) (j := 7) rfl rfl (by kernel_rfl) (by rfl) (by rfl) ?g36_6 ?g36_7
   case' g36_6 =>
    intro K hK
    go_simp
    go_at_call 72
    refine (AB.out _ hHeld).mono ?_
    rintro e y37 ⟨AA, ac, rfl, ha, hs, hf⟩
    have F8 := Lib.hid (fun b o e => by have := (hf b o e).1; have := B8.out.lt; omega : ∀ b o, AA = some ⟨b, o, none⟩ → ¬ b = g8)
    have B8 := Lib.hid (B8.out.same hs)
    have RJ := Lib.hid (RJ.out.same hs)
    have RA_ := Lib.hid ha
    have HL6 := Lib.hid (fun b o e => (hf b o e).2)
    refine hK.out _ _ ?_ (fun hNew => ?_)
    ·exact hHeld.trans hs
    clear ha hs hf
    clear hK K hHeld; have hHeld := hNew; clear hNew
    try simp only [Ro.p]
    refine Ro.one_on (i := 7) rfl (by kernel_rfl) (by rfl) (fun K hK => ?_)
    go_simp
    obtain ⟨wz, hn⟩ : ∃ x, x = y37.alloc (.cells #[.int .i64 0, .slice none 0 0] 65) := ⟨_, rfl⟩
    obtain ⟨g7, hg⟩ : ∃ g, g = y37.heap.size := ⟨_, rfl⟩
    have hs : Same y37 wz := by rw [hn]; exact (Same.refl _).alloc _
    have hge : w1.heap.size ≤ g7 := by rw [hg]; exact hHeld.size
    have F7 := Lib.hid (fun b o e => by have := HL6.out b o e; omega : ∀ b o, AA = some ⟨b, o, none⟩ → ¬ b = g7)
    have B8 := Lib.hid (B8.out.same hs)
    have RJ := Lib.hid (RJ.out.same hs)
    have RA_ := Lib.hid (RA_.out.same hs)
    have HL6 := Lib.hid (fun b o e => Nat.lt_of_lt_of_le (HL6.out b o e) hs.size)
    have B7 := Lib.hid (show Blk wz g7 65 #[.int .i64 0, .slice none 0 0] by rw [hn, hg]; exact Blk.new _ _ _)
    have Hg7 := Lib.hid hge
    rw [← hn, ← hg]
    refine hK.out _ _ ?_ (fun hNew => ?_)
    ·exact hHeld.trans hs
    clear hn hg hs hge
    clear hK K hHeld; have hHeld := hNew; clear hNew
    try simp only [Ro.p]
   case' g36_7 =>
    intro K hK
    go_simp
    obtain ⟨y39, hn⟩ : ∃ x, x = y35.alloc (.cells #[.int .i64 0, .slice none 0 0] 65) := ⟨_, rfl⟩
    obtain ⟨g7, hg⟩ : ∃ g, g = y35.heap.size := ⟨_, rfl⟩
    have hs : Same y35 y39 := by rw [hn]; exact (Same.refl _).alloc _
    have hge : w1.heap.size ≤ g7 := by rw [hg]; exact hHeld.size
    have B8 := Lib.hid (B8.out.same hs)
    have RJ := Lib.hid (RJ.out.same hs)
    have B7 := Lib.hid (show Blk y39 g7 65 #[.int .i64 0, .slice none 0 0] by rw [hn, hg]; exact Blk.new _ _ _)
    have Hg7 := Lib.hid hge
    rw [← hn, ← hg]
    refine hK.out _ _ ?_ (fun hNew => ?_)
    ·exact hHeld.trans hs
    clear hn hg hs hge
    clear hK K hHeld; have hHeld := hNew; clear hNew
    try simp only [Ro.p]
    refine Ro.one_on (i := 6) rfl (by kernel_rfl) (by rfl) (fun K hK => ?_)
    go_simp
    go_at_call 72
    refine (AB.out _ hHeld).mono ?_
    rintro e wz ⟨AA, ac, rfl, ha, hs, hf⟩
    have F7 := Lib.hid (fun b o e => by have := (hf b o e).1; have := B7.out.lt; omega : ∀ b o, AA = some ⟨b, o, none⟩ → ¬ b = g7)
    have F8 := Lib.hid (fun b o e => by have := (hf b o e).1; have := B8.out.lt; omega : ∀ b o, AA = some ⟨b, o, none⟩ → ¬ b = g8)
    have B7 := Lib.hid (B7.out.same hs)
    have B8 := Lib.hid (B8.out.same hs)
    have RJ := Lib.hid (RJ.out.same hs)
    have RA_ := Lib.hid ha
    have HL6 := Lib.hid (fun b o e => (hf b o e).2)
    refine hK.out _ _ ?_ (fun hNew => ?_)
    ·exact hHeld.trans hs
    clear ha hs hf
    clear hK K hHeld; have hHeld := hNew; clear hNew
    try simp only [Ro.p]
  case' g34_7 =>
   intro K hK
   go_simp
   obtain ⟨y41, hn⟩ : ∃ x, x = y33.alloc (.cells #[.int .i64 0, .slice none 0 0] 65) := ⟨_, rfl⟩
   obtain ⟨g7, hg⟩ : ∃ g, g = y33.heap.size := ⟨_, rfl⟩
   have hs : Same y33 y41 := by rw [hn]; exact (Same.refl _).alloc _
   have hge : w1.heap.size ≤ g7 := by rw [hg]; exact hHeld.size
   have B8 := Lib.hid (B8.out.same hs)
   have B7 := Lib.hid (show Blk y41 g7 65 #[.int .i64 0, .slice none 0 0] by rw [hn, hg]; exact Blk.new _ _ _)
   have Hg7 := Lib.hid hge
   rw [← hn, ← hg]
   refine hK.out _ _ ?_ (fun hNew => ?_)
   ·exact hHeld.trans hs
   clear hn hg hs hge
   clear hK K hHeld; have hHeld := hNew; clear hNew
   try simp only [Ro.p]
   refine Ro.one_on (i := 2) rfl (by kernel_rfl) (by rfl) (fun K hK => ?_)
   go_simp
   go_at_call 41
   refine (JO.out _ hHeld).mono ?_
   rintro e y42 ⟨RA, rc, rfl, hj, hs⟩
   have B7 := Lib.hid (B7.out.same hs)
   have B8 := Lib.hid (B8.out.same hs)
   have RJ := Lib.hid hj
   refine hK.out _ _ ?_ (fun hNew => ?_)
   ·exact hHeld.trans hs
   clear hj hs
   clear hK K hHeld; have hHeld := hNew; clear hNew
   try simp only [Ro.p]
   refine Ro.one_on (i := 6) rfl (by kernel_rfl) (by rfl) (fun K hK => ?_)
   go_simp
   go_at_call 72
   refine (AB.out _ hHeld).mono ?_
   rintro e wz ⟨AA, ac, rfl, ha, hs, hf⟩
   have F7 := Lib.hid (fun b o e => by have := (hf b o e).1; have := B7.out.lt; omega : ∀ b o, AA = some ⟨b, o, none⟩ → ¬ b = g7)
   have F8 := Lib.hid (fun b o e => by have := (hf b o e).1; have := B8.out.lt; omega : ∀ b o, AA = some ⟨b, o, none⟩ → ¬ b = g8)
   have B7 := Lib.hid (B7.out.same hs)
   have B8 := Lib.hid (B8.out.same hs)
   have RJ := Lib.hid (RJ.out.same hs)
   have RA_ := Lib.hid ha
   have HL6 := Lib.hid (fun b o e => (hf b o e).2)
   refine hK.out _ _ ?_ (fun hNew => ?_)
   ·exact hHeld.trans hs
   clear ha hs hf
   clear hK K hHeld; have hHeld := hNew; clear hNew
   try simp only [Ro.p]
 all_goals
  refine Ro.one_on (i := 9) rfl (by kernel_rfl) (by rfl) (fun K hK => ?_)
  refine wp_store_row 65 (.tmp 7) (.tmp 11) rfl g7 #[.int .i64 (jobC s i), .slice RA (jobR s i).length rc] rfl rfl 65 #[.int .i64 0, .slice none 0 0] B7.out HIF.out rfl (by simp [Value.oneCell']) ?_
  obtain ⟨w8, hn⟩ : ∃ x, x = World.setRow wz g7 #[.int .i64 (jobC s i), .slice RA (jobR s i).length rc] := ⟨_, rfl⟩
  have hc : Chg (fun i => i = g7) wz w8 := by rw [hn]; exact Dm.chgRow (S := fun i => i = g7) (Chg.refl _ _) (.inl rfl) _
  have B8 := Lib.hid (B8.out.chg hc (B8.out.ne B7.out (by decide)))
  have RJ := Lib.hid (row_chg RJ.out hc (fun b o e h => row6_ne RJ.out B7.out (by simp) b o e h))
  have RA_ := Lib.hid (row_chg RA_.out hc (fun b o e _ => F7.out b o e))
  have B7 := Lib.hid (show Blk w8 g7 65 #[.int .i64 (jobC s i), .slice RA (jobR s i).length rc] by rw [hn]; exact Dm.rowb B7.out)
  have hs8 : Same w1 w8 := Same.more hHeld hc (fun i hi => by have := Hg7.out; omega)
  rw [← hn]
  refine hK.out _ _ hs8 (fun hNew => ?_)
  clear hn hc hs8
  clear hK K hHeld; have hHeld := hNew; clear hNew
  try simp only [Ro.p]
  refine Ro.one_on (i := 10) rfl (by kernel_rfl) (by rfl) (fun K hK => ?_)
  have z8 := B8.out.cell 0
  simp only [List.getElem?_toArray, List.getElem?_cons_zero] at z8
  have f8 := B8.out.thaw 0
  go_simp
  obtain ⟨w9, hn⟩ : ∃ x, x = w8.setCell ⟨g8, 0, none⟩ (.slice AA (aboveI s.ts i n).length ac) := ⟨_, rfl⟩
  have hc : Chg (fun i => i = g8) w8 w9 := by rw [hn]; exact (Chg.refl (fun i => i = g8) w8).set (p := ⟨g8, 0, none⟩) (.inl rfl) _
  have B7 := Lib.hid (B7.out.chg hc (B7.out.ne B8.out (by decide)))
  have RJ := Lib.hid (row_chg RJ.out hc (fun b o e h => row6_ne RJ.out B8.out (by simp) b o e h))
  have RA_ := Lib.hid (row_chg RA_.out hc (fun b o e _ => F8.out b o e))
  have B8 := Lib.hid (show Blk w9 g8 32 #[.slice AA (aboveI s.ts i n).length ac] by rw [hn]; exact B8.out.put 0 _)
  have hs9 : Same w1 w9 := Same.more hHeld hc (fun i hi => by have := Hg8.out; omega)
  rw [← hn]
  refine hK.out _ _ hs9 (fun hNew => ?_)
  clear hn hc z8 f8
  clear hK K hHeld hNew
  try simp only [Ro.p]
  refine wpAnyH_done (by kernel_rfl) ?_ _
  have HLD := Lib.hid (show LdAt w9 s i costs A B C n c m d cl cc g7 g8 q5 q3 RA AA rc (aboveI s.ts i n).length ac from ⟨B7.out, RJ.out, B8.out, by rw [HS.out.hn], by rw [HS.out.hn]; exact RA_.out, HB5.out.same hs9, HCL.out, HRC.out.same hs9, HB3.out.same hs9, HS.out.same hs9⟩)
  have HSF := Lib.hid hs9
  clear hs9 B7 B8 RJ RA_ HS
  go_wp2_with fail
  go_ret
  exact loadP_mk HLD.out (S1.out.trans HSF.out)
end Go.Proofs.YthhbhbfkbncegaaGreatDoor.Rt
end
end
end
section
section
set_option linter.unusedSimpArgs false
set_option linter.unusedVariables false
namespace Go.Proofs.YthhbhbfkbncegaaGreatDoor.Rt
open Im (PT PO PS TsAt OsAt SysAt)
/-- the number of ticks that is tried in round k -/
def rS (ld : Int → Int) : Nat → Int
 | 0 => 1
 | k + 1 => ld (rS ld k)
def encT (ld : Int → Int) (k : Nat) : Array Value := #[.int .i64 (rS ld k), .int .i64 (rS ld (k + 1))]
def passS (ld : Int → Int) (dl : Int) (k : Nat) : Prop := ¬ rS ld k > dl ∧ ¬ rS ld (k + 1) = rS ld k
theorem resp_pass {ld : Int → Int} {dl : Int} : ∀ (k f : Nat), (∀ y, y < k → passS ld dl y) → respG ld dl (k + f) 1 = respG ld dl f (rS ld k)
 | 0, f, _ => by rw [Nat.zero_add]; rfl
 | k + 1, f, h => by
  obtain ⟨h1, h2⟩ := h k (by omega)
  rw [show k + 1 + f = k + (f + 1) by omega, resp_pass k (f + 1) (fun y hy => h y (by omega)), resp_step h1 h2]
  rfl
theorem resp_all {ld : Int → Int} {dl : Int} (h : ∀ y ∈ List.range 10001, passS ld dl y) : respG ld dl 10001 1 = (0, 14) := by
 have := resp_pass (ld := ld) (dl := dl) 10001 0 (fun y hy => h y (List.mem_range.2 hy))
 exact this
theorem resp_stop {ld : Int → Int} {dl : Int} {p0 : List Nat} {x : Nat} (hp : p0 ++ [x] <+: List.range 10001) (h : ∀ y ∈ p0, passS ld dl y) : respG ld dl 10001 1 = respG ld dl (10000 - x + 1) (rS ld x) := by
 obtain ⟨t, ht⟩ := hp
 have hx : (List.range 10001)[p0.length]? = some x := by
  rw [← ht, List.append_assoc, List.getElem?_append_right (Nat.le_refl _), Nat.sub_self]
  rfl
 have hl : p0.length < 10001 := by
  rcases Nat.lt_or_ge p0.length 10001 with g | g
  ·exact g
  ·rw [List.getElem?_eq_none (by rw [List.length_range]; exact g)] at hx
   cases hx
 rw [List.getElem?_range hl] at hx
 obtain rfl : p0.length = x := Option.some.inj hx
 have h0 : ∀ y, y < p0.length → passS ld dl y := fun y hy => by
  have hy2 : (List.range 10001)[y]? = p0[y]? := by
   rw [← ht, List.append_assoc, List.getElem?_append_left hy]
  rw [List.getElem?_range (by omega)] at hy2
  exact h y (List.mem_of_getElem? hy2.symm)
 have := resp_pass p0.length (10000 - p0.length + 1) h0
 rwa [show p0.length + (10000 - p0.length + 1) = 10001 by omega] at this
theorem rS_bd {ld : Int → Int} (h : ∀ r, 0 ≤ ld r ∧ ld r ≤ 1099511627776) : ∀ k, -9223372036854775808 ≤ rS ld k ∧ rS ld k ≤ 9223372036854775807
 | 0 => ⟨by show (-9223372036854775808 : Int) ≤ 1; omega, by show (1 : Int) ≤ 9223372036854775807; omega⟩
 | k + 1 => by
  have := h (rS ld k)
  show -9223372036854775808 ≤ ld (rS ld k) ∧ ld (rS ld k) ≤ 9223372036854775807
  omega
end Go.Proofs.YthhbhbfkbncegaaGreatDoor.Rt
end
section
section
section
section
set_option linter.unusedVariables false
set_option linter.unusedSimpArgs false
namespace Go.Proofs.YthhbhbfkbncegaaGreatDoor.Rt
open Go.ChangeShapes Go.WideShapes Go.ChangeAt Go.RowKit Ws
open Im (PT PO PS TsAt OsAt SysAt tcells ocells)
open Go.Proofs.YthhbhbfkbncegaaGreatDoor.Wd (ret_bool ret_int addv mulv ceilv)
open Sl (jobC jobR jobI rcells)
open Go.Shelf
theorem tries_any (g7 g8 q5 q3 : Nat) (w : World) :
 Calls Tryz.prog 50 #[.func (.func 73) #[] #[.pointer (some ⟨g7, 0, none⟩), .pointer (some ⟨g8, 0, none⟩), .pointer (some ⟨q5, 0, none⟩), .pointer (some ⟨q3, 0, none⟩)]] w fun e w' => e = .returned (.func (.func 75) #[] #[.pointer (some ⟨w.heap.size, 0, none⟩)]) ∧ ∃ t, w' = w.alloc (.cells #[.func (.func 73) #[] #[.pointer (some ⟨g7, 0, none⟩), .pointer (some ⟨g8, 0, none⟩), .pointer (some ⟨q5, 0, none⟩), .pointer (some ⟨q3, 0, none⟩)]] t) := by
 go_enter Tryz.func50, Tryz.ntmps50
 go_wp2_with fail
 go_ret
 exact ⟨rfl, _, rfl⟩
theorem same_grown {a b : World} (h : Same a b) : a.grownBy b none := ⟨h.os, h.tape, h.output, h.size, fun k hk _ => h.block k hk id⟩
theorem below_same {n₀ : Nat} {a b : World} (h : Same a b) (hn : n₀ ≤ a.heap.size) : Below n₀ a b := h.below.mono hn
theorem range_pre {a b : Nat} (h : a ≤ b) : List.range a <+: List.range b := by
 refine ⟨(List.range (b - a)).map (a + ·), ?_⟩
 rw [← List.range_add]
 congr 1
 omega
set_option maxRecDepth 100000 in
set_option maxHeartbeats 2000000 in
theorem tries_in (f : Nat) (hf : 1 ≤ f) (l Bm : Nat) (s : PS) (i : Int) (costs : List Int) (A B C : Option Addr) (n c m d cl cc g7 g8 q5 q3 : Nat) (RA AA : Option Addr) (rc al ac : Nat) (hsl : ∀ o ∈ s.os, o.sl ≤ 9223372036854775807) (ho : Sy.OFew s.os 5000) (hn5 : n ≤ 5000) (w0 : World) (h : LdAt w0 s i costs A B C n c m d cl cc g7 g8 q5 q3 RA AA rc al ac) (hBm : Bm < w0.heap.size) (hB : w0.cell? ⟨Bm, 0, none⟩ = some (.func (.func 73) #[] #[.pointer (some ⟨g7, 0, none⟩), .pointer (some ⟨g8, 0, none⟩), .pointer (some ⟨q5, 0, none⟩), .pointer (some ⟨q3, 0, none⟩)])) (J Jx : List Nat → World → Prop) (bJ : Nat) (hJ : AbidesFrom bJ J)
 (hY : ∀ (pre : List Nat) (x : Nat) (W : World), J pre W → pre.length < 10001 → YieldAt Fence.wide (f - 1) Tryz.prog l (encT (loadI s i costs) x) W fun e W' =>
  (e = .returned (.bool true) ∧ J (pre ++ [x]) W' ∧ Below w0.heap.size W W') ∨ (e = .returned (.bool false) ∧ Jx (pre ++ [x]) W'))
 (W : World) (hW : Below w0.heap.size w0 W) (h0 : J [] W) :
 CallsIn Fence.wide f Tryz.prog 75 #[.func (.yield l) #[] #[], .pointer (some ⟨Bm, 0, none⟩)] W fun e W' => (∃ v, e = .returned v) ∧
  ((∃ xs, xs = List.range 10001 ∧ J xs W') ∨ (∃ pre, pre <+: List.range 10001 ∧ Jx pre W')) := by
 have HRB := Lib.hid (rS_bd (ld := loadI s i costs) (fun r => loadT_bd h.hs.ht i costs r _))
 have L1 := Lib.hid (fun (r : Int) (br : -9223372036854775808 ≤ r ∧ r ≤ 9223372036854775807) W (hs : Same w0 W) => load1_any s i costs A B C n c m d cl cc g7 g8 q5 q3 RA AA rc al ac r br hsl ho hn5 W (h.same hs))
 generalize loadI s i costs = ld at *
 refine callsIn_of_wp Tryz.func75 rfl trivial ?_ rfl
 simp only [Tryz.ntmps75, List.size_toArray, List.length_cons, List.length_nil, Nat.reduceAdd, Nat.reduceSub, Array.replicate_succ, Array.replicate_zero, List.push_toArray, List.append_toArray, List.nil_append, List.cons_append]
 gi_wp2
 gi_loopw [5, 3] (fun v5 v3 wr => ∃ k : Nat, v5 = .int .i64 (k : Int) ∧ v3 = .int .i64 (rS ld k) ∧ k ≤ 10001 ∧ J (List.range k) wr ∧ Below w0.heap.size w0 wr)
  (fun v5 v3 wr => (10001 - intOf v5).toNat)
 case atStart => exact ⟨0, rfl, rfl, by omega, h0, hW⟩
 case round =>
  obtain ⟨k, rfl, rfl, hk, hJs, hbw⟩ := hrel
  have hcb := (hbw.cell (p := ⟨Bm, 0, none⟩) hBm).trans hB
  by_cases hlt : (k : Int) < 10001
  ·have HK := Lib.hid hlt
   have LX := Lib.hid (L1.out (rS ld k) (HRB.out k) wr (Same.of_below hbw))
   have HR1 := Lib.hid (show ld (rS ld k) = rS ld (k + 1) from rfl)
   rw [HR1.out] at LX
   have HYK := Lib.hid (fun W' hJ' => hY (List.range k) k W' hJ' (by rw [List.length_range]; omega))
   unfold encT at HYK
   generalize rS ld k = r0 at *
   generalize hr1 : rS ld (k + 1) = r1 at *
   have HRR := Lib.hid hr1
   clear hr1
   gi_wp2_with (refine ⟨trivial, ?_⟩; gi_at_call 73; refine (callsIn_wide.2 LX.out).mono ?_; rintro e w2 ⟨rfl, s2⟩; obtain ⟨fn, tmps, assign, body, hy, hR⟩ := HYK.out w2 (hJ _ _ _ none hJs (same_grown s2) (fun r e => by cases e)))
   refine hR.mono ?_
   rintro e W3 (⟨rfl, hJ3, hk3⟩ | ⟨rfl, hJx3⟩)
   ·gi_wp2
    go_roundw
    case rel => exact ⟨k + 1, by go_num, by rw [HRR.out], by have := HK.out; omega, by rw [List.range_succ]; exact hJ3, (hbw.trans (below_same s2 hbw.size)).trans hk3⟩
    case measure => have := HK.out; simp only [intOf]; omega
   ·gi_wp2
    refine bodyPost_ret (results_none rfl _ _ _) rfl ?_
    exact ⟨⟨_, rfl⟩, .inr ⟨List.range k ++ [k], by rw [← List.range_succ]; exact range_pre (by have := HK.out; omega), hJx3⟩⟩
  ·obtain rfl : k = 10001 := by omega
   gi_wp2
   refine bodyPost_end (results_none rfl _ _ _) rfl ?_
   exact ⟨⟨_, rfl⟩, .inl ⟨_, rfl, hJs⟩⟩
theorem tries_stops (f : Nat) (hf : 1 ≤ f) (Bm : Nat) (s : PS) (i : Int) (costs : List Int) (A B C : Option Addr) (n c m d cl cc g7 g8 q5 q3 : Nat) (RA AA : Option Addr) (rc al ac : Nat) (hsl : ∀ o ∈ s.os, o.sl ≤ 9223372036854775807) (ho : Sy.OFew s.os 5000) (hn5 : n ≤ 5000) (w0 : World) (h : LdAt w0 s i costs A B C n c m d cl cc g7 g8 q5 q3 RA AA rc al ac) (hBm : Bm < w0.heap.size) (hB : w0.cell? ⟨Bm, 0, none⟩ = some (.func (.func 73) #[] #[.pointer (some ⟨g7, 0, none⟩), .pointer (some ⟨g8, 0, none⟩), .pointer (some ⟨q5, 0, none⟩), .pointer (some ⟨q3, 0, none⟩)])) :
 SeqStopsK Fence.wide f Tryz.prog 75 #[.pointer (some ⟨Bm, 0, none⟩)] (encT (loadI s i costs)) (Below w0.heap.size) (fun xs => xs = List.range 10001) (fun pre => pre <+: List.range 10001) 10001 w0 := by
 intro l J Jx W hW hJ _ hY h0
 exact tries_in f hf l Bm s i costs A B C n c m d cl cc g7 g8 q5 q3 RA AA rc al ac hsl ho hn5 w0 h hBm hB J Jx _ hJ hY W hW h0
end Go.Proofs.YthhbhbfkbncegaaGreatDoor.Rt
end
section
section
set_option linter.unusedVariables false
set_option linter.unusedSimpArgs false
namespace Go.Proofs.YthhbhbfkbncegaaGreatDoor.Rt
open Go.ChangeShapes Go.WideShapes Go.ChangeAt Go.RowKit Ws
open Im (PT PO PS TsAt OsAt SysAt tcells ocells)
open Go.Proofs.YthhbhbfkbncegaaGreatDoor.Wd (ret_bool ret_int addv mulv ceilv)
open Sl (jobC jobR jobI rcells)
open Go.Shelf
attribute [local go_sem] Oper.semAt_some
theorem res_two {P : Program} {fn : Func} {p q : Tmp} {t u : TypeId} (h : fn.results = #[.cell p t, .cell q u]) (tmps : Array Value) (w : World) (g g' : Nat) (v v' : Value) (hp : tmps.getD p undef = .pointer (some ⟨g, 0, none⟩)) (hq : tmps.getD q undef = .pointer (some ⟨g', 0, none⟩))
 (h1 : (loadVar t ⟨g, 0, none⟩).run P w = .ok v w) (h2 : (loadVar u ⟨g', 0, none⟩).run P w = .ok v' w) : (results fn tmps).run P w = .ok (.tuple #[v, v']) w := by
 have hp' : tmps[p]?.getD undef = .pointer (some ⟨g, 0, none⟩) := by simpa using hp
 have hq' : tmps[q]?.getD undef = .pointer (some ⟨g', 0, none⟩) := by simpa using hq
 simp [results, h, hp', hq', asAddr, h1, h2]
theorem load_int {P : Program} {t : TypeId} {k : IntKind} (hu : P.underlying t = some (.int k)) {w : World} {g : Nat} {v : Value} (hc : w.cell? ⟨g, 0, none⟩ = some v) : (loadVar t ⟨g, 0, none⟩).run P w = .ok v w := by
 unfold loadVar
 simp [run_isAgg_plain hu rfl w, hc]
set_option maxRecDepth 100000 in
set_option maxHeartbeats 4000000 in
theorem resp_in (A B C : Option Addr) (n c m d cl cc : Nat) (s : PS) (ki : Nat) (costs : List Int) (p : PT) (hp : s.ts[ki]? = some p) (hsl : ∀ o ∈ s.os, o.sl ≤ 9223372036854775807) (w : World) (hs : SysAt w A n B m s) (hnm : n ≤ 1000 ∧ m ≤ maxLen) (hf : ∀ p ∈ s.ts, p.code.length ≤ 200) (ho : Sy.OFew s.os 5000) (hT : Is.Tabs w) (hcl : costs.length = cl) (hr : Row w C (costs.map (Value.int .i64))) :
 Calls Tryz.prog 25 #[.agg #[.slice A n c, .slice B m d], .int .i64 (ki : Int), .slice C cl cc] w fun e w' => e = .returned (.tuple #[.int .i64 (respG (loadI s ki costs) p.dl 10001 1).1, .int .i64 (respG (loadI s ki costs) p.dl 10001 1).2]) ∧ Same w w' := by
 obtain ⟨w0, hw0⟩ : ∃ x, x = w.alloc (.cells #[.slice A n c, .slice B m d] 25) := ⟨_, rfl⟩
 obtain ⟨q, hq⟩ : ∃ g, g = w.heap.size := ⟨_, rfl⟩
 obtain ⟨w1, hw1⟩ : ∃ x, x = w0.alloc (.cells #[.int .i64 0] 3) := ⟨_, rfl⟩
 obtain ⟨r6, hr6⟩ : ∃ g, g = w0.heap.size := ⟨_, rfl⟩
 obtain ⟨w2, hw2⟩ : ∃ x, x = w1.alloc (.cells #[.int .i64 0] 40) := ⟨_, rfl⟩
 obtain ⟨r7, hr7⟩ : ∃ g, g = w1.heap.size := ⟨_, rfl⟩
 have s0 : Same w w0 := hw0 ▸ (Same.refl w).alloc _
 have s1 : Same w0 w1 := hw1 ▸ (Same.refl w0).alloc _
 have s2 : Same w1 w2 := hw2 ▸ (Same.refl w1).alloc _
 have b0 : Blk w0 q 25 #[.slice A n c, .slice B m d] := by rw [hw0, hq]; exact Blk.new w _ _
 have b6 : Blk w1 r6 3 #[.int .i64 0] := by rw [hw1, hr6]; exact Blk.new w0 _ _
 have b7 : Blk w2 r7 40 #[.int .i64 0] := by rw [hw2, hr7]; exact Blk.new w1 _ _
 have S2 := Lib.hid (s0.trans (s1.trans s2))
 have B0 := Lib.hid (b0.same (s1.trans s2))
 have B6 := Lib.hid (b6.same s2)
 have B7 := Lib.hid b7
 have HGE := Lib.hid (show w.heap.size ≤ r6 ∧ w.heap.size ≤ r7 ∧ ¬ r7 = r6 from ⟨by rw [hr6]; exact s0.size, by rw [hr7]; exact (s0.trans s1).size, by have := b6.lt; omega⟩)
 have HE0 := Lib.hid hw0
 have HE1 := Lib.hid hw1
 have HE2 := Lib.hid hw2
 have HQ0 := Lib.hid hq
 have HQ6 := Lib.hid (show q + 1 = r6 by rw [hr6, hw0, hq]; show _ = (w.heap.push _).size; rw [Array.size_push])
 have HQ7 := Lib.hid (show r6 + 1 = r7 by rw [hr7, hw1, hr6]; show _ = (w0.heap.push _).size; rw [Array.size_push])
 have RT := Lib.hid (Dm.rowt_any A n c s.ts ki w2 (hs.ht.same S2.out) hs.hn)
 have LO := Lib.hid (fun W (h : Same w2 W) => load_any A B C n c m d cl cc s ki costs W (hs.same (S2.out.trans h)) hnm hf ho (hT.same (S2.out.trans h)) hcl (hr.same (S2.out.trans h)))
 have HP := Lib.hid hp
 have HSL := Lib.hid hsl
 have HO := Lib.hid ho
 have hkn : ki < s.ts.length := (List.getElem?_eq_some_iff.1 hp).1
 obtain ⟨c0, c1⟩ := (⟨B0.out.cell 0, B0.out.cell 1⟩ : _ ∧ _)
 simp only [Ws.q_] at c0 c1
 clear hw0 hw1 hw2 hq hr6 hr7 s0 s1 s2 b0 b6 b7 hs hT hf ho hcl hr hp hsl
 refine (callsIn_wide (n := 6)).1 ?_
 refine callsIn_of_wp_marks Tryz.func25 rfl trivial ?_ rfl
 refine wpIn_wide.2 ?_
 simp only [Tryz.ntmps25, List.size_toArray, List.length_cons, List.length_nil, Nat.reduceAdd, Nat.reduceSub, Array.replicate_succ, Array.replicate_zero, List.push_toArray, List.append_toArray, List.nil_append, List.cons_append]
 generalize hQ : bodyPostM Fence.wide 6 Tryz.prog Tryz.f25 _ = Q'
 have HQ := Lib.hid hQ
 clear hQ
 go_upto_region 1 with fail
 rw [← HQ0.out, HQ6.out, HQ7.out, ← HE0.out, ← HE1.out, ← HE2.out]
 clear HE0 HE1 HE2 HQ0 HQ6 HQ7
 go_wp2_with fail
 refine RT.out.mono ?_
 rintro e w3 ⟨s3, ht⟩
 have S3 := Lib.hid s3
 have B3 := Lib.hid (B0.out.same s3)
 clear s3 RT c0 c1 B0
 rcases ht with ⟨k2, p2, X, cX, hk2, hp2, _, _, rfl⟩ | ⟨hout, rfl⟩
 case inr => exact absurd hout (by omega)
 obtain rfl : ki = k2 := by omega
 obtain rfl : p = p2 := by rw [HP.out] at hp2; exact Option.some.inj hp2
 clear hk2 hp2 HP hkn
 have B4 := Lib.hid (B3.out.same ((Same.refl w3).alloc (.cells #[.int .i64 p.kind, .int .i64 p.prio, .int .i64 p.per, .int .i64 p.off, .int .i64 p.dl, .int .i64 p.own, .slice X p.code.length cX] 47)))
 have S4 := Lib.hid (S3.out.alloc (.cells #[.int .i64 p.kind, .int .i64 p.prio, .int .i64 p.per, .int .i64 p.off, .int .i64 p.dl, .int .i64 p.own, .slice X p.code.length cX] 47))
 have Q4 := Lib.hid (Blk.new w3 47 #[.int .i64 p.kind, .int .i64 p.prio, .int .i64 p.per, .int .i64 p.off, .int .i64 p.dl, .int .i64 p.own, .slice X p.code.length cX])
 go_upto_region 2 with fail
 generalize w3.alloc (.cells #[.int .i64 p.kind, .int .i64 p.prio, .int .i64 p.per, .int .i64 p.off, .int .i64 p.dl, .int .i64 p.own, .slice X p.code.length cX] 47) = w4 at *
 generalize w3.heap.size = q1 at *
 obtain ⟨c0, c1⟩ := (⟨B4.out.cell 0, B4.out.cell 1⟩ : _ ∧ _)
 simp only [Ws.q_] at c0 c1
 go_wp2_with fail
 refine (LO.out _ S4.out).mono ?_
 rintro e w5 ⟨g7, g8, q5, q3, RA, AA, rc, al, ac, rfl, hld, s5⟩
 have S5 := Lib.hid (S4.out.trans s5)
 have Q5 := Lib.hid (Q4.out.same s5)
 have HLD := Lib.hid hld
 clear s5 hld LO c0 c1 B3 B4 S3 S4 Q4
 go_wp2_with fail
 refine (tries_any g7 g8 q5 q3 w5).mono ?_
 rintro e w6 ⟨rfl, t, rfl⟩
 go_wp2_with fail
 obtain ⟨wL, hwL⟩ : ∃ x, x = w5.alloc (.cells #[.func (.func 73) #[] #[.pointer (some ⟨g7, 0, none⟩), .pointer (some ⟨g8, 0, none⟩), .pointer (some ⟨q5, 0, none⟩), .pointer (some ⟨q3, 0, none⟩)]] t) := ⟨_, rfl⟩
 obtain ⟨bm, hbm⟩ : ∃ x, x = w5.heap.size := ⟨_, rfl⟩
 rw [← hwL, ← hbm]
 have sL : Same w5 wL := by rw [hwL]; exact (Same.refl _).alloc _
 have bL : Blk wL bm t #[.func (.func 73) #[] #[.pointer (some ⟨g7, 0, none⟩), .pointer (some ⟨g8, 0, none⟩), .pointer (some ⟨q5, 0, none⟩), .pointer (some ⟨q3, 0, none⟩)]] := by rw [hwL, hbm]; exact Blk.new _ _ _
 have S2L := S5.out.trans sL
 have B6L := Lib.hid (B6.out.same S2L)
 have B7L := Lib.hid (B7.out.same S2L)
 have QL := Lib.hid (Q5.out.same sL)
 have HWL := Lib.hid (show Same w wL from S2.out.trans S2L)
 have ST := tries_stops 5 (by omega) bm s ki costs A B C n c m d cl cc g7 g8 q5 q3 RA AA rc al ac HSL.out HO.out (by omega) wL (HLD.out.same sL) bL.lt (bL.cell 0)
 clear hwL hbm sL S2L S5 Q5 B6 B7 HLD HSL HO bL S2
 generalize loadI s ki costs = ld at *
 generalize p.dl = dl at *
 refine (wpIn_wide (n := 6)).1 ?_
 refine' wpIn_rangeFunc_ownF rfl (by omega) (gf := 75) (lb := #[.pointer (some ⟨bm, 0, none⟩)]) rfl trivial (enters_of Tryz.func75 (by kernel_rfl) rfl) ST belowK_t (belowK_b (Nat.le_refl _)) (Below.refl _ _) (fun _ => rfl)
  (fun pre W => (∀ y ∈ pre, passS ld dl y) ∧ Below wL.heap.size wL W)
  (fun cd pre W => (cd = .ret ∧ ∃ p0 x v e, pre = p0 ++ [x] ∧ (∀ y ∈ p0, passS ld dl y) ∧ respG ld dl (10000 - x + 1) (rS ld x) = (v, e) ∧ W.cell? ⟨r6, 0, none⟩ = some (.int .i64 v) ∧ W.cell? ⟨r7, 0, none⟩ = some (.int .i64 e)) ∧ Below w.heap.size w W)
  (OwnFrom.and (Own.from (fun s X Y row hs hg hr => hs) _) (ownFrom_below (Nat.le_refl _) (Nat.le_refl _)))
  (fun cd => OwnFrom.and (Own.from (fun s X Y row hs hg hr => by
   obtain ⟨h1, p0, x, v, e, h2, h3, h4, h5, h6⟩ := hs
   exact ⟨h1, p0, x, v, e, h2, h3, h4, cell_kept h5 hg hr, cell_kept h6 hg hr⟩) _) (ownFrom_below (Nat.le_refl _) HWL.out.size))
  ⟨by simp, Below.refl _ _⟩ _ ?assign ?body ?done ?stop
 case assign =>
  intro l x W K hK
  unfold encT
  gi_wp2
  exact hK
 case body =>
  rintro l pre x W ⟨hno, hBW⟩ hlt
  have sW := Same.of_below hBW
  have HNO := Lib.hid hno
  have HBW := Lib.hid hBW
  have z4 := (QL.out.same sW).cell 4
  simp only [Ws.q_] at z4
  have B6W := B6L.out.same sW
  have B7W := B7L.out.same sW
  have HPS := Lib.hid (show ¬ rS ld x > dl → ¬ rS ld (x + 1) = rS ld x → passS ld dl x from fun h1 h2 => ⟨h1, h2⟩)
  have HLT := Lib.hid (show rS ld x > dl → respG ld dl (10000 - x + 1) (rS ld x) = (0, 13) from fun h => resp_late h)
  have HHT := Lib.hid (show ¬ rS ld x > dl → rS ld (x + 1) = rS ld x → respG ld dl (10000 - x + 1) (rS ld x) = (rS ld x, 0) from fun h g => resp_hit h g)
  have HW0 := Lib.hid (show Below w.heap.size w W from (HWL.out.trans sW).below)
  have hne := HGE.out.2.2
  have z6 := B6W.cell 0
  have f6 := B6W.thaw 0
  simp only [List.getElem?_toArray, List.getElem?_cons_zero] at z6
  have T7 := fun v => B7W.chg ((Chg.refl (fun i => i = r6) W).set (p := ⟨r6, 0, none⟩) (.inl rfl) (.int .i64 v)) hne
  generalize hr0 : rS ld x = r0 at *
  generalize hr1 : rS ld (x + 1) = r1 at *
  have HR0 := Lib.hid hr0
  clear hno hBW sW hr0 hr1 B7W
  by_cases h1 : r0 > dl
  ·have d1 : decide (dl < r0) = true := decide_eq_true h1
   have hl := HLT.out h1
   have z7 := (T7 0).cell 0
   have f7 := (T7 0).thaw 0
   simp only [List.getElem?_toArray, List.getElem?_cons_zero] at z7
   clear HLT HHT HPS h1
   gi_wp2
   refine ⟨(KeepsOthers.setCell _ _ _).trans (KeepsOthers.setCell _ _ _), ⟨rfl, pre, x, 0, 13, rfl, HNO.out, by rw [HR0.out]; exact hl, ?_, ?_⟩, (HW0.out.setCell (by simp only []; exact HGE.out.1) _).setCell (by simp only []; exact HGE.out.2.1) _⟩
   ·rw [World.cell?_setCell_far _ _ _ _ (by simp only []; omega)]
    exact World.cell?_setCell_same' _ _ _ (by rw [z6]; rfl)
   ·exact World.cell?_setCell_same' _ _ _ (by rw [z7]; rfl)
  ·have d1 : decide (dl < r0) = false := decide_eq_false h1
   by_cases h2 : r1 = r0
   ·have d2 : (r1 == r0) = true := by simpa using h2
    have hl := HHT.out h1 h2
    have z7 := (T7 r0).cell 0
    have f7 := (T7 r0).thaw 0
    simp only [List.getElem?_toArray, List.getElem?_cons_zero] at z7
    clear HLT HHT HPS h1 h2
    gi_wp2
    refine ⟨(KeepsOthers.setCell _ _ _).trans (KeepsOthers.setCell _ _ _), ⟨rfl, pre, x, r0, 0, rfl, HNO.out, by rw [HR0.out]; exact hl, ?_, ?_⟩, (HW0.out.setCell (by simp only []; exact HGE.out.1) _).setCell (by simp only []; exact HGE.out.2.1) _⟩
    ·rw [World.cell?_setCell_far _ _ _ _ (by simp only []; omega)]
     exact World.cell?_setCell_same' _ _ _ (by rw [z6]; rfl)
    ·exact World.cell?_setCell_same' _ _ _ (by rw [z7]; rfl)
   ·have d2 : (r1 == r0) = false := by simpa using h2
    have hps := HPS.out h1 h2
    clear HLT HHT HPS h1 h2
    gi_wp2
    refine ⟨KeepsOthers.refl _, Below.refl _ _, ?_, HBW.out⟩
    intro y hy
    rcases List.mem_append.1 hy with hy | hy
    ·exact HNO.out y hy
    ·rw [List.mem_singleton] at hy
     subst hy
     exact hps
 case done =>
  rintro D xs W hD rfl ⟨hno, hBW⟩ hK
  have sW := Same.of_below hBW
  have hra := resp_all hno
  have HRA := Lib.hid hra
  have B6W := B6L.out.same sW
  have B7W := B7L.out.same sW
  have hne := HGE.out.2.2
  have z6 := B6W.cell 0
  have f6 := B6W.thaw 0
  simp only [List.getElem?_toArray, List.getElem?_cons_zero] at z6
  have T7 := B7W.chg ((Chg.refl (fun i => i = r6) W).set (p := ⟨r6, 0, none⟩) (.inl rfl) (.int .i64 0)) hne
  have z7 := T7.cell 0
  have f7 := T7.thaw 0
  simp only [List.getElem?_toArray, List.getElem?_cons_zero] at z7
  have HW0 := Lib.hid (show Same w W from HWL.out.trans sW)
  have HKD := Lib.hid hK
  clear hno hBW sW hra hK T7
  go_wp2_with fail
  rw [← HQ.out]
  obtain ⟨wz, hwz⟩ : ∃ x, x = (W.setCell ⟨r6, 0, none⟩ (.int .i64 0)).setCell ⟨r7, 0, none⟩ (.int .i64 14) := ⟨_, rfl⟩
  have hcz : Chg (fun i => i = r6 ∨ i = r7) W wz := by rw [hwz]; exact ((Chg.refl (fun i => i = r6 ∨ i = r7) W).set (p := ⟨r6, 0, none⟩) (.inl (.inl rfl)) _).set (p := ⟨r7, 0, none⟩) (.inl (.inr rfl)) _
  have e6 : wz.cell? ⟨r6, 0, none⟩ = some (.int .i64 0) := by
   rw [hwz, World.cell?_setCell_far _ _ _ _ (by simp only []; omega)]
   exact World.cell?_setCell_same' _ _ _ (by rw [z6]; rfl)
  have e7 : wz.cell? ⟨r7, 0, none⟩ = some (.int .i64 14) := by
   rw [hwz]
   exact World.cell?_setCell_same' _ _ _ (by rw [z7]; rfl)
  rw [← hwz]
  have l6 := B6L.out.lt
  have l7 := B7L.out.lt
  show LeavesInM Fence.wide 6 Tryz.prog Tryz.f25 _ _ (Cs.marks [D]) .returning wz
  refine Cs.leaves_marks (by simp) (fun i => i = D) [D] wz (by simp) (fun D' hD' => ?_) (fun w' hc => ?_)
  ·obtain rfl : D' = D := by simpa using hD'
   exact ⟨rfl, (hcz.block D' (Array.getElem?_eq_some_iff.1 HKD.out).1 (by omega)).trans HKD.out⟩
  ·refine ⟨_, res_two Tryz.results25 _ _ r6 r7 _ _ rfl rfl (load_int Tryz.underlying3 (hc.cell e6 (by simp only []; omega))) (load_int Tryz.underlying40 (hc.cell e7 (by simp only []; omega))), ?_⟩
   refine ⟨by rw [HRA.out], Same.more (Same.more HW0.out hcz (fun i hi => by have := HGE.out; omega)) hc (fun i hi => by have := HWL.out.size; omega)⟩
 case stop =>
  rintro D cd pre W hD hp ⟨⟨rfl, p0, x, v, e, rfl, hno, hre, h6, h7⟩, hBW⟩ hK
  have hst := resp_stop hp hno
  rw [hre] at hst
  have l6 := B6L.out.lt
  have l7 := B7L.out.lt
  have hsz := HWL.out.size
  have HST := Lib.hid hst
  have HKD := Lib.hid hK
  clear hp hno hre hst hK
  gi_wp2
  rw [← HQ.out]
  show LeavesInM Fence.wide 6 Tryz.prog Tryz.f25 _ _ (Cs.marks [D]) .returning W
  refine Cs.leaves_marks (by simp) (fun i => i = D) [D] W (by simp) (fun D' hD' => ?_) (fun w' hc => ?_)
  ·obtain rfl : D' = D := by simpa using hD'
   exact ⟨rfl, HKD.out⟩
  ·refine ⟨_, res_two Tryz.results25 _ _ r6 r7 _ _ rfl rfl (load_int Tryz.underlying3 (hc.cell h6 (by simp only []; omega))) (load_int Tryz.underlying40 (hc.cell h7 (by simp only []; omega))), ?_⟩
   refine ⟨by rw [HST.out], Same.more (Same.of_below hBW) hc (fun i hi => by omega)⟩
end Go.Proofs.YthhbhbfkbncegaaGreatDoor.Rt
end
section
set_option linter.unusedVariables false
set_option linter.unusedSimpArgs false
namespace Go.Proofs.YthhbhbfkbncegaaGreatDoor.Rt
open Go.ChangeShapes Go.WideShapes Go.ChangeAt Go.RowKit Ws
open Im (PT PO PS TsAt OsAt SysAt tcells ocells)
open Go.Proofs.YthhbhbfkbncegaaGreatDoor.Wd (ret_bool ret_int addv mulv ceilv)
open Sl (jobC jobR jobI rcells)
theorem resp_is {s : PS} {k : Nat} {p : PT} (hp : s.ts[k]? = some p) (costs : List Int) : respI s k costs = respG (loadI s k costs) p.dl 10001 1 := by
 unfold respI
 rw [if_pos ⟨by omega, by have := (List.getElem?_eq_some_iff.1 hp).1; omega⟩]
 unfold Ah.pt
 rw [Int.toNat_natCast, List.getD_eq_getElem?_getD, hp]
 rfl
theorem resp_no {s : PS} {i : Int} (h : ¬ (0 ≤ i ∧ i < s.ts.length)) (costs : List Int) : respI s i costs = (0, 1) := if_neg h
set_option maxRecDepth 100000 in
set_option maxHeartbeats 4000000 in
theorem resp_out (A B C : Option Addr) (n c m d cl cc : Nat) (s : PS) (i : Int) (hi : i < 0 ∨ (s.ts.length : Int) ≤ i) (w : World) (hs : SysAt w A n B m s) :
 Calls Tryz.prog 25 #[.agg #[.slice A n c, .slice B m d], .int .i64 i, .slice C cl cc] w fun e w' => e = .returned (.tuple #[.int .i64 0, .int .i64 1]) ∧ Same w w' := by
 obtain ⟨w0, hw0⟩ : ∃ x, x = w.alloc (.cells #[.slice A n c, .slice B m d] 25) := ⟨_, rfl⟩
 obtain ⟨q, hq⟩ : ∃ g, g = w.heap.size := ⟨_, rfl⟩
 obtain ⟨w1, hw1⟩ : ∃ x, x = w0.alloc (.cells #[.int .i64 0] 3) := ⟨_, rfl⟩
 obtain ⟨r6, hr6⟩ : ∃ g, g = w0.heap.size := ⟨_, rfl⟩
 obtain ⟨w2, hw2⟩ : ∃ x, x = w1.alloc (.cells #[.int .i64 0] 40) := ⟨_, rfl⟩
 obtain ⟨r7, hr7⟩ : ∃ g, g = w1.heap.size := ⟨_, rfl⟩
 have s0 : Same w w0 := hw0 ▸ (Same.refl w).alloc _
 have s1 : Same w0 w1 := hw1 ▸ (Same.refl w0).alloc _
 have s2 : Same w1 w2 := hw2 ▸ (Same.refl w1).alloc _
 have b0 : Blk w0 q 25 #[.slice A n c, .slice B m d] := by rw [hw0, hq]; exact Blk.new w _ _
 have b6 : Blk w1 r6 3 #[.int .i64 0] := by rw [hw1, hr6]; exact Blk.new w0 _ _
 have b7 : Blk w2 r7 40 #[.int .i64 0] := by rw [hw2, hr7]; exact Blk.new w1 _ _
 have S2 := Lib.hid (s0.trans (s1.trans s2))
 have B0 := Lib.hid (b0.same (s1.trans s2))
 have B6 := Lib.hid (b6.same s2)
 have B7 := Lib.hid b7
 have HGE := Lib.hid (show w.heap.size ≤ r6 ∧ w.heap.size ≤ r7 ∧ ¬ r7 = r6 from ⟨by rw [hr6]; exact s0.size, by rw [hr7]; exact (s0.trans s1).size, by have := b6.lt; omega⟩)
 have HE0 := Lib.hid hw0
 have HE1 := Lib.hid hw1
 have HE2 := Lib.hid hw2
 have HQ0 := Lib.hid hq
 have HQ6 := Lib.hid (show q + 1 = r6 by rw [hr6, hw0, hq]; show _ = (w.heap.push _).size; rw [Array.size_push])
 have HQ7 := Lib.hid (show r6 + 1 = r7 by rw [hr7, hw1, hr6]; show _ = (w0.heap.push _).size; rw [Array.size_push])
 have RT := Lib.hid (Dm.rowt_any A n c s.ts i w2 (hs.ht.same S2.out) hs.hn)
 have HI := Lib.hid hi
 obtain ⟨c0, c1⟩ := (⟨B0.out.cell 0, B0.out.cell 1⟩ : _ ∧ _)
 simp only [Ws.q_] at c0 c1
 clear hw0 hw1 hw2 hq hr6 hr7 s0 s1 s2 b0 b6 b7 hs hi
 go_enter Tryz.func25, Tryz.ntmps25
 go_upto_region 1 with fail
 rw [← HQ0.out, HQ6.out, HQ7.out, ← HE0.out, ← HE1.out, ← HE2.out]
 clear HE0 HE1 HE2 HQ0 HQ6 HQ7
 go_wp2_with fail
 refine RT.out.mono ?_
 rintro e w3 ⟨s3, ht⟩
 have S3 := Lib.hid (S2.out.trans s3)
 have B6 := Lib.hid (B6.out.same s3)
 have B7 := Lib.hid (B7.out.same s3)
 clear s3 RT c0 c1 B0 S2
 rcases ht with ⟨k2, p2, X, cX, rfl, hp2, _, _, rfl⟩ | ⟨_, rfl⟩
 case inl => exact absurd HI.out (by have := (List.getElem?_eq_some_iff.1 hp2).1; omega)
 have hs4 := (Same.refl w3).alloc (.cells #[.int .i64 0, .int .i64 0, .int .i64 0, .int .i64 0, .int .i64 0, .int .i64 0, .slice none 0 0] 47)
 have B6 := Lib.hid (B6.out.same hs4)
 have B7 := Lib.hid (B7.out.same hs4)
 have S4 := Lib.hid (S3.out.trans hs4)
 clear hs4 S3
 go_upto_region 2 with fail
 generalize w3.alloc (.cells #[.int .i64 0, .int .i64 0, .int .i64 0, .int .i64 0, .int .i64 0, .int .i64 0, .slice none 0 0] 47) = w4 at *
 generalize w3.heap.size = q1 at *
 have hne := HGE.out.2.2
 have z6 := B6.out.cell 0
 have f6 := B6.out.thaw 0
 simp only [List.getElem?_toArray, List.getElem?_cons_zero] at z6
 have T7 := B7.out.chg ((Chg.refl (fun i => i = r6) w4).set (p := ⟨r6, 0, none⟩) (.inl rfl) (.int .i64 0)) hne
 have z7 := T7.cell 0
 have f7 := T7.thaw 0
 simp only [List.getElem?_toArray, List.getElem?_cons_zero] at z7
 clear T7
 go_wp2_with fail
 obtain ⟨wz, hwz⟩ : ∃ x, x = (w4.setCell ⟨r6, 0, none⟩ (.int .i64 0)).setCell ⟨r7, 0, none⟩ (.int .i64 1) := ⟨_, rfl⟩
 have hcz : Chg (fun i => i = r6 ∨ i = r7) w4 wz := by rw [hwz]; exact ((Chg.refl (fun i => i = r6 ∨ i = r7) w4).set (p := ⟨r6, 0, none⟩) (.inl (.inl rfl)) _).set (p := ⟨r7, 0, none⟩) (.inl (.inr rfl)) _
 have e6 : wz.cell? ⟨r6, 0, none⟩ = some (.int .i64 0) := by
  rw [hwz, World.cell?_setCell_far _ _ _ _ (by simp only []; omega)]
  exact World.cell?_setCell_same' _ _ _ (by rw [z6]; rfl)
 have e7 : wz.cell? ⟨r7, 0, none⟩ = some (.int .i64 1) := by
  rw [hwz]
  exact World.cell?_setCell_same' _ _ _ (by rw [z7]; rfl)
 rw [← hwz]
 refine bodyPost_ret (v := .tuple #[.int .i64 0, .int .i64 1]) (res_two Tryz.results25 _ _ r6 r7 _ _ rfl rfl (load_int Tryz.underlying3 e6) (load_int Tryz.underlying40 e7)) rfl ?_
 exact ⟨rfl, Same.more S4.out hcz (fun i hi => by have := HGE.out; omega)⟩
theorem resp_any (A B C : Option Addr) (n c m d cl cc : Nat) (s : PS) (i : Int) (costs : List Int) (hsl : ∀ o ∈ s.os, o.sl ≤ 9223372036854775807) (w : World) (hs : SysAt w A n B m s) (hnm : n ≤ 1000 ∧ m ≤ maxLen) (hf : ∀ p ∈ s.ts, p.code.length ≤ 200) (ho : Sy.OFew s.os 5000) (hT : Is.Tabs w) (hcl : costs.length = cl) (hr : Row w C (costs.map (Value.int .i64))) :
 Calls Tryz.prog 25 #[.agg #[.slice A n c, .slice B m d], .int .i64 i, .slice C cl cc] w fun e w' => e = .returned (.tuple #[.int .i64 (respI s i costs).1, .int .i64 (respI s i costs).2]) ∧ Same w w' := by
 by_cases h : 0 ≤ i ∧ i < s.ts.length
 ·obtain ⟨k, rfl⟩ : ∃ k : Nat, i = k := ⟨i.toNat, by omega⟩
  obtain ⟨p, hp⟩ : ∃ p, s.ts[k]? = some p := ⟨s.ts[k]'(by omega), List.getElem?_eq_getElem _⟩
  rw [resp_is hp]
  exact resp_in A B C n c m d cl cc s k costs p hp hsl w hs hnm hf ho hT hcl hr
 ·rw [resp_no h]
  exact resp_out A B C n c m d cl cc s i (by omega) w hs
end Go.Proofs.YthhbhbfkbncegaaGreatDoor.Rt
end
end
end
section
section
set_option linter.unusedVariables false
set_option linter.unusedSimpArgs false
namespace Go.Proofs.YthhbhbfkbncegaaGreatDoor.Rt
open Go.ChangeShapes Go.WideShapes Go.ChangeAt Go.RowKit Ws
open Im (PT PO PS TsAt OsAt SysAt)
open Go.Proofs.YthhbhbfkbncegaaGreatDoor.Wd (ret_bool ret_int)
open Go.Proofs.YthhbhbfkbncegaaGreatDoor.Od (pr pr_get rankN rankL rankTo nI nI_len rankL_len rankL_get ordL isOrd_ordL)
def NumsO (w : World) (l : List Int) (e : Ending) (w' : World) : Prop := ∃ A c, e = .returned (.slice A l.length c) ∧ Row w' A (l.map (Value.int .i64)) ∧ Same w w' ∧ ∀ b o, A = some ⟨b, o, none⟩ → w.heap.size ≤ b
theorem numsO_mk {w w' : World} {l : List Int} {A : Option Addr} {n c : Nat} (hn : n = l.length) (hr : Row w' A (l.map (Value.int .i64))) (hs : Same w w') (hf : ∀ b o, A = some ⟨b, o, none⟩ → w.heap.size ≤ b) : NumsO w l (.returned (.slice A n c)) w' := by
 subst hn
 exact ⟨A, c, rfl, hr, hs, hf⟩
def prios (ts : List PT) : List Int := ts.map fun t => t.prio
theorem prios_len (ts : List PT) : (prios ts).length = ts.length := List.length_map _
theorem prios_pr {ts : List PT} {k : Nat} (h : k < ts.length) : pr (prios ts) k = (Ah.pt ts k).prio := by
 refine pr_get ?_
 unfold prios
 rw [List.getElem?_map, Ah.pt_at h]
 rfl
theorem aheadB_eq {ts : List PT} {a b : Nat} (ha : a < ts.length) (hb : b < ts.length) : Ah.aheadB ts a b = Od.aheadB (prios ts) a b := by
 unfold Ah.aheadB Od.aheadB
 rw [prios_pr ha, prios_pr hb]
 split
 ·rw [decide_eq_decide]; omega
 ·rw [decide_eq_decide]; omega
theorem above_rank {ts : List PT} {i : Nat} (hi : i < ts.length) : ∀ k, k ≤ ts.length → (aboveI ts (i : Int) k).length = rankTo (prios ts) i k := by
 intro k
 induction k with
 | zero => intro _; rfl
 | succ k ih =>
  intro hk
  unfold aboveI rankTo
  rw [List.length_append, ih (by omega), Ah.aheadI_yes (by omega) hi, aheadB_eq (by omega) hi]
  congr 1
  split <;> simp_all
theorem above_rankN {ts : List PT} {i : Nat} (hi : i < ts.length) : (aboveI ts (i : Int) ts.length).length = rankN (prios ts) i := by
 unfold rankN
 rw [prios_len]
 exact above_rank hi _ (Nat.le_refl _)
def prF (ts : List PT) (k x : Nat) : Int := if x < k then (Ah.pt ts x).prio else 0
theorem pr_set {ts : List PT} {n k : Nat} (h : k < n) : (IL n (prF ts k)).set k (.int .i64 (Ah.pt ts k).prio) = IL n (prF ts (k + 1)) := by
 rw [IL_set _ _ h]
 apply IL_congr
 intro x _
 unfold prF
 by_cases hx : x = k
 ·rw [if_pos hx, if_pos (by omega), hx]
 ·rw [if_neg hx]
  by_cases hk : x < k
  ·rw [if_pos hk, if_pos (by omega)]
  ·rw [if_neg hk, if_neg (by omega)]
theorem pr_end {ts : List PT} {n : Nat} (h : ts.length = n) : IL n (prF ts n) = (prios ts).map (Value.int .i64) := by
 apply List.ext_getElem?
 intro i
 by_cases hi : i < n
 ·rw [IL_get _ hi, List.getElem?_map, Od.get_pr (by rw [prios_len]; omega), prios_pr (by omega)]
  unfold prF
  rw [if_pos hi]
  rfl
 ·rw [List.getElem?_eq_none (by rw [IL_len]; omega), List.getElem?_eq_none (by rw [List.length_map, prios_len]; omega)]
set_option maxRecDepth 100000 in
set_option maxHeartbeats 1000000 in
theorem tranks_any (A : Option Addr) (n c : Nat) (ts : List PT) (w : World) (hn : ts.length = n) (hm : n ≤ 1000) (ht : TsAt w A ts) :
 Calls Tryz.prog 76 #[.slice A n c] w (NumsO w (nI (rankL (prios ts)))) := by
 obtain ⟨i0, hi, hz0, hz1, hz2⟩ := info_parts int_info
 have HN := Lib.hid hn
 have HT := Lib.hid ht
 clear hn ht
 go_enter Tryz.func76, Tryz.ntmps76
 go_wp2_with fail
 obtain ⟨w2, hrun, ho, hg⟩ := run_make_full (P := Tryz.prog) w w.heap.size 32 3 i0 _ 1 Tryz.underlying32 hi hz0 hz1 .i64 .i64 n (by rw [hz2]; omega) (by unfold maxLen; omega) (Nat.le_refl _)
 rw [hrun]
 clear hrun
 have s2 : Same w w2 := (Chg.of_grown hg).weak fun g _ h => by cases h
 rw [made_IL] at ho
 have HO2 := Lib.hid (show OwnK w2 w.heap.size 3 1 (some ⟨w.heap.size, 0, none⟩) n n (IL n (prF ts 0)) from by
  have e : IL n (prF ts 0) = IL n (fun _ => 0) := IL_congr fun x _ => by unfold prF; rw [if_neg (by omega)]
  rw [e]
  exact ho)
 have HS2 := Lib.hid s2
 clear ho hg s2
 generalize hq : w.heap.size = q at *
 have HQ := Lib.hid hq
 clear hq
 go_wp2_with fail
 go_loopg [11] n (fun gk iv wx => ∃ k : Nat, k + gk = n ∧ iv = .int .i64 k ∧ OwnK wx q 3 1 (some ⟨q, 0, none⟩) n n (IL n (prF ts k)) ∧ Same w wx)
 case atStart => exact ⟨0, by omega, rfl, HO2.out, HS2.out⟩
 case round =>
  clear HO2 HS2
  obtain ⟨k, hk, rfl, ho, sx⟩ := hrel
  have HO := Lib.hid ho
  have HS := Lib.hid sx
  clear ho sx
  cases gk with
  | zero =>
   obtain rfl : n = k := by omega
   have hge : ¬ (n : Int) < (n : Int) := by omega
   have hrow : Row wr (some ⟨q, 0, none⟩) ((prios ts).map (Value.int .i64)) := by
    rw [← pr_end HN.out]
    exact HO.out.row
   have RK := Lib.hid (Bo.ranksF_any (some ⟨q, 0, none⟩) n n (prios ts) wr (by rw [prios_len]; exact HN.out) (by omega) hrow)
   clear hrow
   go_wp2_with fail
   refine RK.out.mono ?_
   rintro e w3 ⟨A3, c3, rfl, r3, s3, f3⟩
   have HF3 := Lib.hid f3
   clear f3
   have HR3 := Lib.hid r3
   have HS3 := Lib.hid (HS.out.trans s3)
   clear r3 s3
   go_wp2_with fail
   go_ret
   exact numsO_mk rfl HR3.out HS3.out (fun b o e => Nat.le_trans HS.out.size (HF3.out b o e))
  | succ GK =>
   have hlt : (k : Int) < n := by omega
   have hk0 : (0 : Int) ≤ k := by omega
   have hkn : k < n := by omega
   obtain ⟨b, o, rfl, Xk, ck, y0, y1, y2, y3, y4, y5, y6, _⟩ := (HT.out.same HS.out).at_ (k := k) (Ah.pt_at (by have := HN.out; omega))
   have hs2 := (Same.refl wr).alloc (.cells #[.int .i64 (Ah.pt ts k).kind, .int .i64 (Ah.pt ts k).prio, .int .i64 (Ah.pt ts k).per, .int .i64 (Ah.pt ts k).off, .int .i64 (Ah.pt ts k).dl, .int .i64 (Ah.pt ts k).own, .slice Xk (Ah.pt ts k).code.length ck] 47)
   have HO1 := Lib.hid (HO.out.same hs2)
   have hs3 := HS.out.trans hs2
   have ho3 := own1_set HO1.out k (.int .i64 (Ah.pt ts k).prio)
   rw [pr_set hkn] at ho3
   have HO3 := Lib.hid ho3
   have c0 := own1_get HO1.out (IL_get _ hkn)
   have t0 := own1_thaw HO1.out k
   have HS3 := Lib.hid (hs3.set (p := ⟨q, k, none⟩) (.inr (by have := HQ.out; simp only; omega)) (.int .i64 (Ah.pt ts k).prio))
   have hne : ¬ wr.heap.size = q := by have := HO.out.lt.2.1; omega
   clear ho3 hs2 hs3
   generalize prF ts k k = u0 at *
   generalize Ah.pt ts k = x at *
   go_wp2_with fail
   go_roundg GK
   case rel => exact ⟨k + 1, by omega, by go_num, HO3.out, HS3.out⟩
   case measure => omega

/-- the tasks up to the k-th, each at its place -/
def odF (P : List Int) (k x : Nat) : Int := if (ordL P).getD x 0 < k then (((ordL P).getD x 0 : Nat) : Int) else 0
theorem od_set {P : List Int} {k : Nat} (hk : k < P.length) : (IL P.length (odF P k)).set (rankN P k) (.int .i64 (k : Int)) = IL P.length (odF P (k + 1)) := by
 have ho := isOrd_ordL P
 rw [IL_set _ _ (ho.rank_lt hk)]
 apply IL_congr
 intro x hx
 unfold odF
 by_cases h : x = rankN P k
 ·rw [if_pos h, h, List.getD_eq_getElem?_getD, ho.at_rank hk, Option.getD_some, if_pos (by omega)]
 ·rw [if_neg h]
  have hx2 : (ordL P)[x]? = some ((ordL P).getD x 0) := by
   rw [List.getD_eq_getElem?_getD, List.getElem?_eq_getElem (by rw [ho.len]; exact hx)]
   rfl
  have hne : (ordL P).getD x 0 ≠ k := by
   intro e
   rw [e] at hx2
   exact h (ho.rank hx2).symm
  by_cases hr : (ordL P).getD x 0 < k
  ·rw [if_pos hr, if_pos (by omega)]
  ·rw [if_neg hr, if_neg (by omega)]
theorem od_end (P : List Int) : IL P.length (odF P P.length) = (nI (ordL P)).map (Value.int .i64) := by
 have ho := isOrd_ordL P
 apply List.ext_getElem?
 intro x
 by_cases hx : x < P.length
 ·have hx2 : (ordL P)[x]? = some ((ordL P).getD x 0) := by
   rw [List.getD_eq_getElem?_getD, List.getElem?_eq_getElem (by rw [ho.len]; exact hx)]
   rfl
  rw [IL_get _ hx, Bo.nI_get hx2]
  unfold odF
  rw [if_pos (ho.lt hx2)]
 ·rw [List.getElem?_eq_none (by rw [IL_len]; omega), List.getElem?_eq_none (by rw [List.length_map, nI_len, ho.len]; omega)]
set_option maxRecDepth 100000 in
set_option maxHeartbeats 1000000 in
theorem porder_any (A : Option Addr) (n c : Nat) (ts : List PT) (w : World) (hn : ts.length = n) (hm : n ≤ 1000) (ht : TsAt w A ts) :
 Calls Tryz.prog 51 #[.slice A n c] w (NumsO w (nI (ordL (prios ts)))) := by
 obtain ⟨i0, hi, hz0, hz1, hz2⟩ := info_parts int_info
 have HN := Lib.hid (show (prios ts).length = n by rw [prios_len]; exact hn)
 have RK := Lib.hid (fun W (s : Same w W) => tranks_any A n c ts W hn hm (ht.same s))
 clear hn ht
 generalize prios ts = P at *
 go_enter Tryz.func51, Tryz.ntmps51
 go_wp2_with fail
 obtain ⟨w2, hrun, ho, hg⟩ := run_make_full (P := Tryz.prog) w w.heap.size 32 3 i0 _ 1 Tryz.underlying32 hi hz0 hz1 .i64 .i64 n (by rw [hz2]; omega) (by unfold maxLen; omega) (Nat.le_refl _)
 rw [hrun]
 clear hrun
 have s2 : Same w w2 := (Chg.of_grown hg).weak fun g _ h => by cases h
 rw [made_IL] at ho
 have HO2 := Lib.hid (show OwnK w2 w.heap.size 3 1 (some ⟨w.heap.size, 0, none⟩) n n (IL n (odF P 0)) from by
  have e : IL n (odF P 0) = IL n (fun _ => 0) := IL_congr fun x _ => by unfold odF; rw [if_neg (by omega)]
  rw [e]
  exact ho)
 have HS2 := Lib.hid s2
 have RK2 := Lib.hid (RK.out w2 s2)
 clear ho hg s2 RK
 generalize hq : w.heap.size = q at *
 have HQ := Lib.hid hq
 clear hq
 go_wp2_with fail
 refine RK2.out.mono ?_
 rintro e w3 ⟨A3, c3, rfl, r3, s3, f3⟩
 have HR3 := Lib.hid r3
 have HF3 := Lib.hid (fun b o e => (by have := f3 b o e; have := HO2.out.lt.2.1; omega : ¬ b = q))
 have HO3 := Lib.hid (HO2.out.same s3)
 have HS3 := Lib.hid (HS2.out.trans s3)
 have HNL := Lib.hid (show (nI (rankL P)).length = n by rw [nI_len, rankL_len]; exact HN.out)
 clear r3 s3 f3 RK2 HO2 HS2
 rw [HNL.out]
 go_wp2_with fail
 go_loopg [12] n (fun gk iv wx => ∃ k : Nat, k + gk = n ∧ iv = .int .i64 (k : Int) ∧ OwnK wx q 3 1 (some ⟨q, 0, none⟩) n n (IL n (odF P k)) ∧ Chg (fun i => i = q) w3 wx ∧ Same w wx)
 case atStart => exact ⟨0, by omega, rfl, HO3.out, Chg.refl _ _, HS3.out⟩
 case round =>
  clear HO3 HS3
  obtain ⟨k, hk, rfl, ho, hc, sx⟩ := hrel
  have HO := Lib.hid ho
  have HS := Lib.hid sx
  have HC := Lib.hid hc
  clear ho sx hc
  cases gk with
  | zero =>
   obtain rfl : k = n := by omega
   have hge : ¬ (k : Int) < (k : Int) := by omega
   have hrow : Row wr (some ⟨q, 0, none⟩) ((nI (ordL P)).map (Value.int .i64)) := by
    have h := HO.out.row
    rw [← HN.out, od_end] at h
    exact h
   have HRW := Lib.hid hrow
   have HOL := Lib.hid (show k = (nI (ordL P)).length by rw [nI_len, (isOrd_ordL P).len]; exact HN.out.symm)
   clear hrow
   go_wp2_with fail
   go_ret
   exact numsO_mk HOL.out HRW.out HS.out (fun b o hA => by injection hA with hA; injection hA with e1 e2; have := HQ.out; omega)
  | succ GK =>
   have hlt : (k : Int) < n := by omega
   have hk0 : (0 : Int) ≤ k := by omega
   have hkn : k < n := by omega
   have HKK := Lib.hid hk
   have hrk : rankN P k < n := by have := (isOrd_ordL P).rank_lt (i := k) (by rw [HN.out]; exact hkn); rwa [HN.out] at this
   have hg3 : ((nI (rankL P)).map (Value.int .i64))[k]? = some (.int .i64 (rankN P k : Int)) := Bo.nI_get (rankL_get (by rw [HN.out]; exact hkn))
   obtain ⟨b, o, rfl, y0⟩ := HR3.out k _ hg3
   have hbq : ¬ b = q := HF3.out b o rfl
   have y1 := HC.out.cell y0 hbq
   have ho3 := own1_set HO.out (rankN P k) (.int .i64 (k : Int))
   have e3 := od_set (P := P) (k := k) (by rw [HN.out]; exact hkn)
   rw [HN.out] at e3
   rw [e3] at ho3
   have HO3 := Lib.hid ho3
   have c0 := own1_get HO.out (IL_get (odF P k) hrk)
   have t0 := own1_thaw HO.out (rankN P k)
   have HC3 := Lib.hid (HC.out.set (p := ⟨q, rankN P k, none⟩) (.inl rfl) (.int .i64 (k : Int)))
   have HS3 := Lib.hid (HS.out.set (p := ⟨q, rankN P k, none⟩) (.inr (by have := HQ.out; simp only; omega)) (.int .i64 (k : Int)))
   have r0 : (0 : Int) ≤ (rankN P k : Int) := by omega
   have r1 : ((rankN P k : Nat) : Int) < n := by omega
   clear ho3 e3 hg3 y0 hk hrk hbq
   generalize odF P k (rankN P k) = u0 at *
   generalize rankN P k = rk at *
   go_wp2_with fail
   go_roundg GK
   case rel => exact ⟨k + 1, by have := HKK.out; omega, by go_num, HO3.out, HC3.out, HS3.out⟩
   case measure => omega
end Go.Proofs.YthhbhbfkbncegaaGreatDoor.Rt
end
section
section
set_option linter.unusedSimpArgs false
set_option linter.unusedVariables false
namespace Go.Proofs.YthhbhbfkbncegaaGreatDoor.Rt
open Im (PT PO PS TsAt OsAt SysAt)
open Sl (jobI)
noncomputable def allS (s : PS) : List Nat → List Int → List Int → List Int × List Int × Int × Int
 | [], rs, cs => (rs, cs, -1, 0)
 | i :: l, rs, cs => if (respI s i cs).2 = 0 then allS s l (rs.set i (respI s i cs).1) (cs.set i (jobI s i (respI s i cs).1)) else ([], [], (i : Int), (respI s i cs).2)
def zerosL (n : Nat) : List Int := List.replicate n 0
noncomputable def allI (s : PS) : List Int × List Int × Int × Int := allS s (Od.ordL (s.ts.map fun t => t.prio)) (zerosL s.ts.length) (zerosL s.ts.length)
theorem all_ok {s : PS} {i : Nat} {l : List Nat} {rs cs : List Int} (h : (respI s i cs).2 = 0) : allS s (i :: l) rs cs = allS s l (rs.set i (respI s i cs).1) (cs.set i (jobI s i (respI s i cs).1)) := if_pos h
theorem all_bad {s : PS} {i : Nat} {l : List Nat} {rs cs : List Int} (h : ¬ (respI s i cs).2 = 0) : allS s (i :: l) rs cs = ([], [], (i : Int), (respI s i cs).2) := if_neg h
theorem respG_bd {ld : Int → Int} {dl : Int} (h : ∀ r, 0 ≤ ld r ∧ ld r ≤ 1099511627776) : ∀ (f : Nat) (r : Int), (0 ≤ r ∧ r ≤ 1099511627776) → 0 ≤ (respG ld dl f r).1 ∧ (respG ld dl f r).1 ≤ 1099511627776
 | 0, r, _ => by show (0 : Int) ≤ 0 ∧ (0 : Int) ≤ 1099511627776; omega
 | f + 1, r, hr => by
  by_cases h1 : r > dl
  ·rw [resp_late h1]; show (0 : Int) ≤ 0 ∧ (0 : Int) ≤ 1099511627776; omega
  ·by_cases h2 : ld r = r
   ·rw [resp_hit h1 h2]; exact hr
   ·rw [resp_step h1 h2]; exact respG_bd h f _ (h r)
theorem respI_bd {A : Option Addr} {w : World} {s : PS} (ht : TsAt w A s.ts) (i : Int) (cs : List Int) : 0 ≤ (respI s i cs).1 ∧ (respI s i cs).1 ≤ 1099511627776 := by
 unfold respI
 split
 ·exact respG_bd (fun r => loadT_bd ht i cs r _) _ _ (by omega)
 ·show (0 : Int) ≤ 0 ∧ (0 : Int) ≤ 1099511627776; omega
end Go.Proofs.YthhbhbfkbncegaaGreatDoor.Rt
end
section
set_option linter.unusedVariables false
set_option linter.unusedSimpArgs false
namespace Go.Proofs.YthhbhbfkbncegaaGreatDoor.Rt
open Go.ChangeShapes Go.WideShapes Go.ChangeAt Go.RowKit Ws
open Im (PT PO PS TsAt OsAt SysAt tcells ocells)
open Go.Proofs.YthhbhbfkbncegaaGreatDoor.Wd (ret_bool ret_int addv mulv ceilv)
open Sl (jobC jobR jobI rcells)
open Go.Proofs.YthhbhbfkbncegaaGreatDoor.Od (nI nI_len ordL isOrd_ordL)
theorem res_four {P : Program} {fn : Func} {a b c d : Tmp} (h : fn.results = #[.tmp a, .tmp b, .tmp c, .tmp d]) (tmps : Array Value) (w : World) : (results fn tmps).run P w = .ok (.tuple #[tmps.getD a undef, tmps.getD b undef, tmps.getD c undef, tmps.getD d undef]) w := by
 simp [results, h]
def AllP (w : World) (s : PS) (e : Ending) (w' : World) : Prop := ∃ A1 n1 c1 A2 n2 c2, e = .returned (.tuple #[.slice A1 n1 c1, .slice A2 n2 c2, .int .i64 (allI s).2.2.1, .int .i64 (allI s).2.2.2]) ∧ Row w' A1 ((allI s).1.map (Value.int .i64)) ∧ (allI s).1.length = n1 ∧ Row w' A2 ((allI s).2.1.map (Value.int .i64)) ∧ (allI s).2.1.length = n2 ∧ Same w w'
theorem allP_mk {w w' : World} {s : PS} {A1 A2 : Option Addr} {n1 c1 n2 c2 : Nat} {rs cs : List Int} {at_ e : Int} (h : allI s = (rs, cs, at_, e)) (h1 : Row w' A1 (rs.map (Value.int .i64))) (l1 : rs.length = n1) (h2 : Row w' A2 (cs.map (Value.int .i64))) (l2 : cs.length = n2) (hs : Same w w') : AllP w s (.returned (.tuple #[.slice A1 n1 c1, .slice A2 n2 c2, .int .i64 at_, .int .i64 e])) w' :=
 ⟨A1, n1, c1, A2, n2, c2, by rw [h], by rw [h]; exact h1, by rw [h]; exact l1, by rw [h]; exact h2, by rw [h]; exact l2, hs⟩
theorem IL_at {n : Nat} {cs : List Int} (hl : cs.length = n) {k : Nat} (hk : k < n) : (cs.map (Value.int .i64))[k]? = some (.int .i64 (cs.getD k 0)) := by
 rw [List.getElem?_map, List.getD_eq_getElem?_getD, List.getElem?_eq_getElem (by omega)]
 rfl
def izeros (n : Nat) : Array Value := madeCells (Value.int .i64 0).cells (n * 1)
theorem izeros_list (n : Nat) : (izeros n).toList = (zerosL n).map (Value.int .i64) := by
 unfold izeros madeCells zerosL
 apply List.ext_getElem
 ·simp
 ·intro i h1 h2
  simp [Value.cells]
  show [Value.int IntKind.i64 0][i % 1]?.getD default = _
  rw [Nat.mod_one]
  rfl
theorem izeros_size (n : Nat) : (izeros n).size = n := by unfold izeros; rw [size_madeCells, Nat.mul_one]
theorem imake_any (n : Nat) (hn : n ≤ 5000) (W : World) : (Instr.makeSlice 32 (.int .i64 (n : Int)) (.int .i64 (n : Int))).run Tryz.prog W = .ok (.slice (some ⟨W.heap.size, 0, none⟩) n n) (W.alloc (.cells (izeros n) 3)) := by
 obtain ⟨i0, hi, hz0, hz1, hz2⟩ := info_parts int_info
 have h := run_make (P := Tryz.prog) W 32 3 i0 _ Tryz.underlying32 hi hz0 .i64 .i64 n n (by omega) (by omega) (by rw [hz2]; omega) (by omega)
 rw [hz1, Int.toNat_natCast] at h
 exact h
theorem iown_zeros (n : Nat) (hn : n ≤ 5000) (w : World) : OwnK (w.alloc (.cells (izeros n) 3)) w.heap.size 3 1 (some ⟨w.heap.size, 0, none⟩) n n ((zerosL n).map (Value.int .i64)) := by
 have h := World.ownsRow_lit (base := w.heap.size) (e := 3) (size := 1) w (izeros n) n (Nat.le_refl _) (by unfold maxLen; omega) (by rw [izeros_size, Nat.mul_one])
 rw [izeros_list] at h
 unfold OwnK
 simpa using h
set_option maxRecDepth 100000 in
set_option maxHeartbeats 8000000 in
theorem all_any (A B : Option Addr) (n c m d : Nat) (s : PS) (hsl : ∀ o ∈ s.os, o.sl ≤ 9223372036854775807) (w : World) (hs : SysAt w A n B m s) (hnm : n ≤ 1000 ∧ m ≤ maxLen) (hf : ∀ p ∈ s.ts, p.code.length ≤ 200) (ho : Sy.OFew s.os 5000) (hT : Is.Tabs w) :
 Calls Tryz.prog 27 #[.agg #[.slice A n c, .slice B m d]] w (AllP w s) := by
 have hnm' : n ≤ maxLen ∧ m ≤ maxLen := ⟨by unfold maxLen; omega, hnm.2⟩
 obtain ⟨w0, hw0⟩ : ∃ w0, w0 = w.alloc (.cells #[.slice A n c, .slice B m d] 25) := ⟨_, rfl⟩
 obtain ⟨g, hg⟩ : ∃ g, g = w.heap.size := ⟨_, rfl⟩
 have s0 : Same w w0 := hw0 ▸ (Same.refl w).alloc _
 have b0 : Blk w0 g 25 #[.slice A n c, .slice B m d] := by rw [hw0, hg]; exact Blk.new w _ _
 have HE0 := Lib.hid hw0
 have HG := Lib.hid hg
 have S0 := Lib.hid s0
 obtain ⟨c0, c1⟩ := (⟨b0.cell 0, b0.cell 1⟩ : _ ∧ _)
 simp only [Ws.q_] at c0 c1
 have B0 := Lib.hid b0
 have OR := Lib.hid (fun W (h : Same w0 W) => porder_any A n c s.ts W hs.hn hnm.1 (hs.ht.same (s0.trans h)))
 have RS := Lib.hid (fun (i : Int) (cs : List Int) (C : Option Addr) (hcl : cs.length = n) W (h : Same w0 W) (hr : Row W C (cs.map (Value.int .i64))) => resp_any A B C n c m d n n s i cs hsl W (hs.same (s0.trans h)) hnm hf ho (hT.same (s0.trans h)) hcl hr)
 have JO := Lib.hid (fun (i r : Int) (br : -9223372036854775808 ≤ r ∧ r ≤ 9223372036854775807) W (h : Same w0 W) => Sl.ijob_any A B n c m d s i r br hsl W (hs.same (s0.trans h)) hnm' hf ho (hT.same (s0.trans h)))
 have HBD := Lib.hid (fun (i : Int) (cs : List Int) => respI_bd hs.ht i cs)
 have HN := Lib.hid hs.hn
 have hn5 : n ≤ 5000 := by omega
 have HA := Lib.hid (show allI s = allS s (ordL (prios s.ts)) (zerosL n) (zerosL n) by unfold allI prios; rw [hs.hn])
 have HOD := Lib.hid (isOrd_ordL (prios s.ts))
 have HPL := Lib.hid (show (prios s.ts).length = n by rw [prios_len]; exact hs.hn)
 clear hw0 hg s0 b0 hs hT hf ho hsl
 generalize ordL (prios s.ts) = L at *
 go_enter Tryz.func27, Tryz.ntmps27
 go_upto_region 1 with fail
 rw [← HE0.out, ← HG.out]
 clear HE0 HG
 refine wp_region_held_drew (S := fun w' => Same w0 w') (by kernel_rfl) ?_ (fun hHeld => ?_)
 ·exact (Same.refl w0).drew
 refine Ro.tn 0 ?_ ?_ ?_
 rotate_left
 ·intro wS hSw; (try dsimp only at hSw); go_simp; try with_reducible rfl
 try simp only [Ro.p]
 refine Ro.tn 1 ?_ ?_ ?_
 rotate_left
 ·intro wS hSw; (try dsimp only at hSw); have v0 := hSw.cell c0; go_simp; try with_reducible rfl
 try simp only [Ro.p]
 refine Ro.tn 2 ?_ ?_ ?_
 rotate_left
 ·intro wS hSw; (try dsimp only at hSw); go_simp; try with_reducible rfl
 try simp only [Ro.p]
 refine Ro.tn 4 ?_ ?_ ?_
 rotate_left
 ·intro wS hSw; (try dsimp only at hSw); go_simp; try with_reducible rfl
 try simp only [Ro.p]
 refine Ro.tn 5 ?_ ?_ ?_
 rotate_left
 ·intro wS hSw; (try dsimp only at hSw); have v0 := hSw.cell c0; go_simp; try with_reducible rfl
 try simp only [Ro.p]
 refine Ro.tn 6 ?_ ?_ ?_
 rotate_left
 ·intro wS hSw; (try dsimp only at hSw); go_simp; try with_reducible rfl
 try simp only [Ro.p]
 obtain ⟨wd, hwd⟩ : ∃ x, x = w0.drew := ⟨_, rfl⟩
 rw [← hwd] at hHeld
 rw [← hwd]
 clear hwd
 have hmk := imake_any n hn5
 refine Ra.two_on (i := 3) (j := 7) rfl rfl (by kernel_rfl) (by rfl) (by rfl) ?g3 ?g7
 case' g3 =>
  intro K hK
  go_simp
  obtain ⟨wa, hn⟩ : ∃ x, x = wd.alloc (.cells (izeros n) 3) := ⟨_, rfl⟩
  obtain ⟨qr, hg⟩ : ∃ g, g = wd.heap.size := ⟨_, rfl⟩
  have hsx : Same wd wa := by rw [hn]; exact (Same.refl _).alloc _
  have OR_ := Lib.hid (show OwnK wa qr 3 1 (some ⟨qr, 0, none⟩) n n ((zerosL n).map (Value.int .i64)) by rw [hn, hg]; exact iown_zeros n hn5 _)
  have HBOR_ := Lib.hid (show w0.heap.size ≤ qr by rw [hg]; exact hHeld.size)
  rw [← hn, ← hg]
  refine hK.out _ _ ?_ (fun hNew => ?_)
  ·exact hHeld.trans hsx
  clear hn hg hsx
  clear hK K hHeld; have hHeld := hNew; clear hNew
  try simp only [Ro.p]
  refine Ro.tn 8 ?_ ?_ ?_
  rotate_left
  ·intro wS hSw; (try dsimp only at hSw); go_simp; try with_reducible rfl
  try simp only [Ro.p]
  refine Ro.one_on (i := 7) rfl (by kernel_rfl) (by rfl) (fun K hK => ?_)
  go_simp
  obtain ⟨wS, hn⟩ : ∃ x, x = wa.alloc (.cells (izeros n) 3) := ⟨_, rfl⟩
  obtain ⟨qc, hg⟩ : ∃ g, g = wa.heap.size := ⟨_, rfl⟩
  have hsx : Same wa wS := by rw [hn]; exact (Same.refl _).alloc _
  have HNE := Lib.hid (show ¬ qr = qc by have := OR_.out.lt.2.1; omega)
  have OR_ := Lib.hid (OR_.out.same hsx)
  have OC_ := Lib.hid (show OwnK wS qc 3 1 (some ⟨qc, 0, none⟩) n n ((zerosL n).map (Value.int .i64)) by rw [hn, hg]; exact iown_zeros n hn5 _)
  have HBOC_ := Lib.hid (show w0.heap.size ≤ qc by rw [hg]; exact hHeld.size)
  rw [← hn, ← hg]
  refine hK.out _ _ ?_ (fun hNew => ?_)
  ·exact hHeld.trans hsx
  clear hn hg hsx
  clear hK K hHeld; have hHeld := hNew; clear hNew
  try simp only [Ro.p]
  refine Ro.tn 9 ?_ ?_ ?_
  rotate_left
  ·intro wS hSw; (try dsimp only at hSw); go_simp; try with_reducible rfl
  try simp only [Ro.p]
  refine wpAnyH_done (by kernel_rfl) ?_ _
  have HSW := Lib.hid hHeld
  clear hHeld
 case' g7 =>
  intro K hK
  go_simp
  obtain ⟨wa, hn⟩ : ∃ x, x = wd.alloc (.cells (izeros n) 3) := ⟨_, rfl⟩
  obtain ⟨qc, hg⟩ : ∃ g, g = wd.heap.size := ⟨_, rfl⟩
  have hsx : Same wd wa := by rw [hn]; exact (Same.refl _).alloc _
  have OC_ := Lib.hid (show OwnK wa qc 3 1 (some ⟨qc, 0, none⟩) n n ((zerosL n).map (Value.int .i64)) by rw [hn, hg]; exact iown_zeros n hn5 _)
  have HBOC_ := Lib.hid (show w0.heap.size ≤ qc by rw [hg]; exact hHeld.size)
  rw [← hn, ← hg]
  refine hK.out _ _ ?_ (fun hNew => ?_)
  ·exact hHeld.trans hsx
  clear hn hg hsx
  clear hK K hHeld; have hHeld := hNew; clear hNew
  try simp only [Ro.p]
  refine Ro.one_on (i := 3) rfl (by kernel_rfl) (by rfl) (fun K hK => ?_)
  go_simp
  obtain ⟨wS, hn⟩ : ∃ x, x = wa.alloc (.cells (izeros n) 3) := ⟨_, rfl⟩
  obtain ⟨qr, hg⟩ : ∃ g, g = wa.heap.size := ⟨_, rfl⟩
  have hsx : Same wa wS := by rw [hn]; exact (Same.refl _).alloc _
  have HNE := Lib.hid (show ¬ qr = qc by have := OC_.out.lt.2.1; omega)
  have OC_ := Lib.hid (OC_.out.same hsx)
  have OR_ := Lib.hid (show OwnK wS qr 3 1 (some ⟨qr, 0, none⟩) n n ((zerosL n).map (Value.int .i64)) by rw [hn, hg]; exact iown_zeros n hn5 _)
  have HBOR_ := Lib.hid (show w0.heap.size ≤ qr by rw [hg]; exact hHeld.size)
  rw [← hn, ← hg]
  refine hK.out _ _ ?_ (fun hNew => ?_)
  ·exact hHeld.trans hsx
  clear hn hg hsx
  clear hK K hHeld; have hHeld := hNew; clear hNew
  try simp only [Ro.p]
  refine Ro.tn 8 ?_ ?_ ?_
  rotate_left
  ·intro wS hSw; (try dsimp only at hSw); go_simp; try with_reducible rfl
  try simp only [Ro.p]
  refine Ro.tn 9 ?_ ?_ ?_
  rotate_left
  ·intro wS hSw; (try dsimp only at hSw); go_simp; try with_reducible rfl
  try simp only [Ro.p]
  refine wpAnyH_done (by kernel_rfl) ?_ _
  have HSW := Lib.hid hHeld
  clear hHeld
 all_goals
  clear hmk
  have C0 := Lib.hid (HSW.out.cell c0)
  have C1 := Lib.hid (HSW.out.cell c1)
  have ORX := Lib.hid (OR.out wS HSW.out)
  have c0 := C0.out
  have c1 := C1.out
  clear OR
  go_wp2_with fail
  refine ORX.out.mono ?_
  rintro e w1 ⟨A3, c3, rfl, r3, s3, f3⟩
  have HR3 := Lib.hid r3
  have HF3 := Lib.hid f3
  have HNL := Lib.hid (show (nI L).length = n by rw [nI_len, HOD.out.len]; exact HPL.out)
  have hql := Lib.hid (show qr < wS.heap.size ∧ qc < wS.heap.size from ⟨OR_.out.lt.2.1, OC_.out.lt.2.1⟩)
  have OR1 := Lib.hid (OR_.out.same s3)
  have OC1 := Lib.hid (OC_.out.same s3)
  have HS1 := Lib.hid (HSW.out.trans s3)
  have HLN := Lib.hid (show L.length = n by rw [HOD.out.len]; exact HPL.out)
  clear r3 s3 f3 ORX OR_ OC_
  rw [HNL.out]
  go_wp2_with fail
  go_loopg [20, 2, 3] n (fun gk iv rv_ cv_ wx => ∃ (j : Nat) (rs cs : List Int), j + gk = n ∧ iv = .int .i64 (j : Int) ∧ rv_ = .slice (some ⟨qr, 0, none⟩) n n ∧ cv_ = .slice (some ⟨qc, 0, none⟩) n n ∧ rs.length = n ∧ cs.length = n ∧ Hid (allI s = allS s (L.drop j) rs cs) ∧ Hid (OwnK wx qr 3 1 (some ⟨qr, 0, none⟩) n n (rs.map (Value.int .i64))) ∧ Hid (OwnK wx qc 3 1 (some ⟨qc, 0, none⟩) n n (cs.map (Value.int .i64))) ∧ Hid (Chg (fun i => i = qr ∨ i = qc) w1 wx) ∧ Hid (Same w0 wx))
  case atStart => exact ⟨0, zerosL n, zerosL n, by omega, rfl, rfl, rfl, by unfold zerosL; simp, by unfold zerosL; simp, HA, OR1, OC1, Lib.hid (Chg.refl _ _), HS1⟩
  case round =>
   obtain ⟨j, rs, cs, hk, rfl, rfl, rfl, hrl, hcl, HAJ, HOR, HOC, HCH, HSX⟩ := hrel
   clear OR1 OC1 HS1 HA c0 c1
   cases gk with
   | zero =>
    obtain rfl : j = n := by omega
    have hge : ¬ (j : Int) < (j : Int) := by omega
    have HV := Lib.hid (show allI s = (rs, cs, -1, 0) by rw [HAJ.out, List.drop_of_length_le (by rw [HLN.out]; exact Nat.le_refl _)]; rfl)
    have hrl' := Lib.hid hrl
    have hcl' := Lib.hid hcl
    clear hrl hcl
    go_wp2_with fail
    refine bodyPost_ret (res_four rfl _ _) rfl ?_
    exact allP_mk HV.out HOR.out.row hrl'.out HOC.out.row hcl'.out (S0.out.trans HSX.out)
   | succ GK =>
    have hlt : (j : Int) < n := by omega
    have hj0 : (0 : Int) ≤ j := by omega
    have HKK := Lib.hid hk
    have HCL := Lib.hid hcl
    have HRL := Lib.hid hrl
    obtain ⟨ki, hki⟩ : ∃ ki, L[j]? = some ki := ⟨L[j]'(by rw [HLN.out]; omega), List.getElem?_eq_getElem _⟩
    have hin : ki < n := by have := HOD.out.lt hki; rw [HPL.out] at this; exact this
    have HDR := Lib.hid (show L.drop j = ki :: L.drop (j + 1) from by
     have h2 := List.drop_eq_getElem_cons (l := L) (i := j) (by rw [HLN.out]; omega)
     rw [h2]
     congr 1
     rw [List.getElem?_eq_getElem (by rw [HLN.out]; omega)] at hki
     exact Option.some.inj hki)
    rw [HDR.out] at HAJ
    obtain ⟨b3, o3, rfl, y3⟩ := HR3.out j _ (Bo.nI_get hki)
    have y3 := HCH.out.cell y3 (by have := HF3.out b3 o3 rfl; have := hql.out; simp only; omega)
    have i0 : (0 : Int) ≤ ki := by omega
    have i1 : (ki : Int) < n := by omega
    have RX := Lib.hid (RS.out ki cs (some ⟨qc, 0, none⟩) hcl wr HSX.out HOC.out.row)
    have HBK := Lib.hid (HBD.out ki cs)
    have c0 : wr.cell? ⟨g, 0, none⟩ = some (.slice A n c) := HSX.out.cell (B0.out.cell 0)
    have c1 : wr.cell? ⟨g, 1, none⟩ = some (.slice B m d) := HSX.out.cell (B0.out.cell 1)
    clear hk hki hrl hcl HR3 HF3
    have HOK := Lib.hid (fun (h : (respI s ki cs).2 = 0) => all_ok (l := L.drop (j + 1)) (rs := rs) h)
    have HBA := Lib.hid (fun (h : ¬ (respI s ki cs).2 = 0) => all_bad (l := L.drop (j + 1)) (rs := rs) h)
    obtain ⟨rv, hrv⟩ : ∃ rv, rv = (respI s ki cs).1 := ⟨_, rfl⟩
    obtain ⟨ev, hev⟩ : ∃ ev, ev = (respI s ki cs).2 := ⟨_, rfl⟩
    rw [← hrv, ← hev] at RX HOK
    rw [← hev] at HBA
    rw [← hrv] at HBK
    clear hrv hev
    go_wp2_with fail
    refine RX.out.mono ?_
    rintro e w2 ⟨rfl, s2⟩
    have HOR2 := Lib.hid (HOR.out.same s2)
    have HOC2 := Lib.hid (HOC.out.same s2)
    have z5 := own1_get HOR2.out (IL_at HRL.out hin)
    have f5 := own1_thaw HOR2.out ki
    have HS2 := Lib.hid (HSX.out.trans s2)
    have HCH2 := Lib.hid (HCH.out.trans (s2.chg _))
    have c0 := s2.cell c0
    have c1 := s2.cell c1
    obtain ⟨wT, hwT⟩ : ∃ x, x = w2.setCell ⟨qr, ki, none⟩ (.int .i64 rv) := ⟨_, rfl⟩
    have hcT : Chg (fun i => i = qr) w2 wT := by rw [hwT]; exact (Chg.refl (fun i => i = qr) w2).set (p := ⟨qr, ki, none⟩) (.inl rfl) _
    have hge : ¬ g = qr ∧ ¬ g = qc := by have := B0.out.lt; have := HBOR_.out; have := HBOC_.out; omega
    have HQC := Lib.hid (show (¬ g = qc) ∧ (¬ qr = qc) from ⟨hge.2, HNE.out⟩)
    have HORT := Lib.hid (show OwnK wT qr 3 1 (some ⟨qr, 0, none⟩) n n ((rs.set ki rv).map (Value.int .i64)) by rw [hwT, List.map_set]; exact own1_set HOR2.out ki (.int .i64 rv))
    have HOCT := Lib.hid (HOC2.out.chg hcT (fun g' e h => by injection e with e; injection e with e1 e2; have := HNE.out; omega))
    have SWT := Lib.hid (Same.more HS2.out hcT (fun i hi => by have := HBOR_.out; omega))
    have HCH9 := Lib.hid (HCH2.out.trans (hcT.weak fun i _ hi => .inl hi))
    have C0T := Lib.hid (hcT.cell c0 hge.1)
    have C1T := Lib.hid (hcT.cell c1 hge.1)
    have CRT := Lib.hid (own1_get HORT.out (show ((rs.set ki rv).map (Value.int .i64))[ki]? = some (.int .i64 rv) by rw [List.getElem?_map, List.getElem?_set, if_pos rfl, if_pos (by rw [HRL.out]; exact hin)]; rfl))
    have HWT := Lib.hid hwT
    clear s2 RX y3 hwT hcT hge HOR HOC HSX HCH HOR2 HOC2 HS2 HCH2
    by_cases he : ev = 0
    case neg =>
     have e1 : (ev != 0) = true := by simpa using he
     have HV := Lib.hid (show allI s = ([], [], (ki : Int), ev) by rw [HAJ.out]; exact HBA.out he)
     clear he HOK HBA
     go_wp2_with fail
     rw [← HWT.out]
     refine bodyPost_ret (res_four rfl _ _) rfl ?_
     exact allP_mk HV.out (fun j u h => by cases h) rfl (fun j u h => by cases h) rfl (S0.out.trans SWT.out)
    case pos =>
     have e1 : (ev != 0) = false := by simpa using he
     have JB := Lib.hid (JO.out ki rv (by have := HBK.out; omega))
     have HV := Lib.hid (show allI s = allS s (L.drop (j + 1)) (rs.set ki rv) (cs.set ki (jobI s ki rv)) by rw [HAJ.out]; exact HOK.out he)
     clear he HOK HBA
     generalize jobI s ki rv = jv at *
     go_upto_region 8 with fail
     rw [← HWT.out]
     clear c0 c1 z5 f5 HWT
     refine wp_region_held_drew (S := fun w' => Chg (fun i => i = qc) wT w') (by kernel_rfl) ?_ (fun hHeld => ?_)
     ·exact (Chg.refl _ wT).drew
     refine Ro.tn 0 ?_ ?_ ?_
     rotate_left
     ·intro wS hSw; (try dsimp only at hSw); go_simp; try with_reducible rfl
     try simp only [Ro.p]
     refine Ro.tn 1 ?_ ?_ ?_
     rotate_left
     ·intro wS hSw; (try dsimp only at hSw); go_simp; try with_reducible rfl
     try simp only [Ro.p]
     refine Ro.tn 2 ?_ ?_ ?_
     rotate_left
     ·intro wS hSw; (try dsimp only at hSw); have v0 := hSw.cell C0T.out HQC.out.1; have v1 := hSw.cell C1T.out HQC.out.1; have v2 := hSw.cell CRT.out HQC.out.2; go_simp; try with_reducible rfl
     try simp only [Ro.p]
     refine Ro.tn 3 ?_ ?_ ?_
     rotate_left
     ·intro wS hSw; (try dsimp only at hSw); go_simp; try with_reducible rfl
     try simp only [Ro.p]
     refine Ro.tn 4 ?_ ?_ ?_
     rotate_left
     ·intro wS hSw; (try dsimp only at hSw); go_simp; try with_reducible rfl
     try simp only [Ro.p]
     refine Ro.tn 5 ?_ ?_ ?_
     rotate_left
     ·intro wS hSw; (try dsimp only at hSw); go_simp; try with_reducible rfl
     try simp only [Ro.p]
     refine Ro.tn 6 ?_ ?_ ?_
     rotate_left
     ·intro wS hSw; (try dsimp only at hSw); go_simp; try with_reducible rfl
     try simp only [Ro.p]
     refine Ro.tn 7 ?_ ?_ ?_
     rotate_left
     ·intro wS hSw; (try dsimp only at hSw); have v0 := hSw.cell C0T.out HQC.out.1; have v1 := hSw.cell C1T.out HQC.out.1; have v2 := hSw.cell CRT.out HQC.out.2; go_simp; try with_reducible rfl
     try simp only [Ro.p]
     obtain ⟨wd, hwd⟩ : ∃ x, x = wT.drew := ⟨_, rfl⟩
     have sTd : Same wT wd := by rw [hwd]; exact (Same.refl _).drew
     rw [← hwd] at hHeld
     rw [← hwd]
     clear hwd
     refine Ro.one_on (i := 8) rfl (by kernel_rfl) (by rfl) (fun K hK => ?_)
     go_simp
     go_at_call 18
     refine (JB.out _ (SWT.out.trans sTd)).mono ?_
     rintro e wJ ⟨rfl, sJ⟩
     refine hK.out _ _ ?_ (fun hNew => ?_)
     ·exact hHeld.trans (sJ.chg _)
     have HCW := Lib.hid ((HOCT.out.same sTd).same sJ)
     have HSJ := Lib.hid ((SWT.out.trans sTd).trans sJ)
     have HTJ := Lib.hid (sTd.trans sJ)
     clear hK K hHeld sJ sTd; have hHeld := hNew; clear hNew
     try simp only [Ro.p]
     refine Ro.tn 9 ?_ ?_ ?_
     rotate_left
     ·intro wS hSw; (try dsimp only at hSw); go_simp; try with_reducible rfl
     try simp only [Ro.p]
     refine Ro.one_on (i := 10) rfl (by kernel_rfl) (by rfl) (fun K hK => ?_)
     have z9 := own1_get HCW.out (IL_at HCL.out hin)
     have f9 := own1_thaw HCW.out ki
     go_simp
     obtain ⟨w9, hn⟩ : ∃ x, x = wJ.setCell ⟨qc, ki, none⟩ (.int .i64 jv) := ⟨_, rfl⟩
     have hcc : Chg (fun i => i = qc) wJ w9 := by rw [hn]; exact (Chg.refl (fun i => i = qc) wJ).set (p := ⟨qc, ki, none⟩) (.inl rfl) _
     have HC9 := Lib.hid (show OwnK w9 qc 3 1 (some ⟨qc, 0, none⟩) n n ((cs.set ki jv).map (Value.int .i64)) by rw [hn, List.map_set]; exact own1_set HCW.out ki (.int .i64 jv))
     have HR9 := Lib.hid ((HORT.out.same HTJ.out).chg hcc (fun g' e h => by injection e with e; injection e with e1 e2; have := HQC.out.2; omega))
     have HS9 := Lib.hid (Same.more HSJ.out hcc (fun i hi => by have := HBOC_.out; omega))
     have HG9 := Lib.hid (((HCH9.out.trans (HTJ.out.chg _))).trans (hcc.weak fun i _ hi => .inr hi))
     rw [← hn]
     refine hK.out _ _ (hHeld.trans hcc) (fun hNew => ?_)
     clear hn z9 f9 hcc hK K hHeld hNew
     try simp only [Ro.p]
     refine wpAnyH_done (by kernel_rfl) ?_ _
     go_wp2_with fail
     go_roundg GK
     case measure => omega
     case rel => exact ⟨j + 1, rs.set ki rv, cs.set ki jv, by have := HKK.out; omega, by go_num, rfl, rfl, by rw [List.length_set]; exact HRL.out, by rw [List.length_set]; exact HCL.out, HV, HR9, HC9, HG9, HS9⟩
end Go.Proofs.YthhbhbfkbncegaaGreatDoor.Rt
end
end
end
end
section
section
section
section
set_option linter.unusedVariables false
set_option linter.unusedSimpArgs false
namespace Go.Proofs.YthhbhbfkbncegaaGreatDoor.Rt
open Go.ChangeShapes Go.WideShapes Go.ChangeAt Go.RowKit Ws
open Im (PT PO PS TsAt OsAt SysAt tcells ocells)
open Go.Proofs.YthhbhbfkbncegaaGreatDoor.Wd (ret_bool ret_int addv mulv ceilv)
open Sl (jobI)
set_option maxRecDepth 100000 in
set_option maxHeartbeats 4000000 in
theorem rLoad_any (A B C : Option Addr) (n c m d cl cc : Nat) (s : PS) (i r : Int) (br : -9223372036854775808 ≤ r ∧ r ≤ 9223372036854775807) (hsl : ∀ o ∈ s.os, o.sl ≤ 9223372036854775807) (costs : List Int) (w : World) (hs : SysAt w A n B m s) (hnm : n ≤ 1000 ∧ m ≤ maxLen) (hf : ∀ p ∈ s.ts, p.code.length ≤ 200) (ho : Sy.OFew s.os 5000) (hcl : costs.length = cl) (hr : Row w C (costs.map (Value.int .i64))) :
 Calls Tryz.prog 24 #[.agg #[.slice A n c, .slice B m d], .int .i64 i, .int .i64 r, .slice C cl cc] w fun e w' => e = .returned (.int .i64 (loadI s i costs r)) ∧ Same w w' := by
 have hnm' : n ≤ maxLen ∧ m ≤ maxLen := ⟨by unfold maxLen; omega, hnm.2⟩
 obtain ⟨w0, hw0⟩ : ∃ w0, w0 = w.alloc (.cells #[.slice A n c, .slice B m d] 25) := ⟨_, rfl⟩
 obtain ⟨g, hg⟩ : ∃ g, g = w.heap.size := ⟨_, rfl⟩
 have s0 : Same w w0 := hw0 ▸ (Same.refl w).alloc _
 have b0 : Blk w0 g 25 #[.slice A n c, .slice B m d] := by rw [hw0, hg]; exact Blk.new w _ _
 have HE0 := Lib.hid hw0
 have HG := Lib.hid hg
 have S0 := Lib.hid s0
 obtain ⟨c0, c1⟩ := (⟨b0.cell 0, b0.cell 1⟩ : _ ∧ _)
 simp only [Ws.q_] at c0 c1
 have B0 := Lib.hid b0
 rcases (show i < 0 ∨ (¬ i < 0 ∧ (n : Int) ≤ i) ∨ (¬ i < 0 ∧ ¬ (n : Int) ≤ i) by omega) with h0 | ⟨h1, h2⟩ | ⟨h1, h2⟩
 ·have d0 : decide (i < 0) = true := decide_eq_true h0
  have HV := Lib.hid (show loadI s i costs r = 0 from loadT_away (by omega) costs r _)
  clear h0 hw0 hg s0 b0 hs hf ho hcl hr B0
  go_enter Tryz.func24, Tryz.ntmps24
  go_upto_region 1 with fail
  rw [← HE0.out, ← HG.out]
  clear HE0 HG
  go_wp2_with fail
  go_ret
  exact ⟨ret_int HV.out.symm, S0.out⟩
 ·have d0 : decide (i < 0) = false := decide_eq_false h1
  have d1 : decide ((n : Int) ≤ i) = true := decide_eq_true h2
  have HV := Lib.hid (show loadI s i costs r = 0 from loadT_away (by have := hs.hn; omega) costs r _)
  clear h1 h2 hw0 hg s0 b0 hs hf ho hcl hr B0
  go_enter Tryz.func24, Tryz.ntmps24
  go_upto_region 1 with fail
  rw [← HE0.out, ← HG.out]
  clear HE0 HG
  go_wp2_with fail
  go_ret
  exact ⟨ret_int HV.out.symm, S0.out⟩
 ·have d0 : decide (i < 0) = false := decide_eq_false h1
  have d1 : decide ((n : Int) ≤ i) = false := decide_eq_false h2
  have hn5 : (n : Int) ≤ 5000 := by omega
  have RJ := Lib.hid (fun W (h : Same w0 W) => Sl.rjob37 A B n c m d s i r br hsl W (hs.same (s0.trans h)) hnm' hf ho)
  have RA := Lib.hid (fun (j : Nat) W (h : Same w0 W) => Ah.rahead_gen A n c s.ts j i W hs.hn (hs.ht.same (s0.trans h)))
  have HS := Lib.hid (hs.same s0)
  have HCL := Lib.hid hcl
  have HR := Lib.hid (hr.same s0)
  clear h1 h2 hw0 hg s0 b0 hs hf ho hcl hr
  go_enter Tryz.func24, Tryz.ntmps24
  go_upto_region 1 with fail
  rw [← HE0.out, ← HG.out]
  clear HE0 HG
  go_wp2_with fail
  refine (RJ.out _ (Same.refl _)).mono ?_
  rintro e w1 ⟨rfl, s1⟩
  have HS1 := Lib.hid s1
  have c0 := s1.cell c0
  have c1 := s1.cell c1
  clear s1 RJ
  go_wp2_with fail
  go_loopg [28, 9] n (fun gk iv nv wx => ∃ j : Nat, j + gk = n ∧ iv = .int .i64 (j : Int) ∧ nv = .int .i64 (loadT s i costs r j) ∧ Same w0 wx)
  case atStart => exact ⟨0, by omega, rfl, rfl, HS1.out⟩
  case round =>
   obtain ⟨j, hk, rfl, rfl, sx⟩ := hrel
   have HSX := Lib.hid sx
   clear c0 c1
   cases gk with
   | zero =>
    obtain rfl : j = n := by omega
    have hge : ¬ (j : Int) < (j : Int) := by omega
    have HV := Lib.hid (show loadI s i costs r = loadT s i costs r j by unfold loadI; rw [HS.out.hn])
    clear sx
    go_wp2_with fail
    go_ret
    exact ⟨ret_int HV.out.symm, S0.out.trans HSX.out⟩
   | succ GK =>
    have hlt : (j : Int) < n := by omega
    have hj0 : (0 : Int) ≤ j := by omega
    have HKK := Lib.hid hk
    obtain ⟨p, hp⟩ : ∃ p, s.ts[j]? = some p := ⟨s.ts[j]'(by have := HS.out.hn; omega), List.getElem?_eq_getElem _⟩
    have HPT := Lib.hid (show (Ah.pt s.ts j).per = p.per by unfold Ah.pt; rw [List.getD_eq_getElem?_getD, hp]; rfl)
    have HY := Lib.hid (fun (h : Ah.aheadI s.ts j i = true) => load_yes (costs := costs) (r := r) h)
    have HN := Lib.hid (fun (h : Ah.aheadI s.ts j i = false) => load_no (costs := costs) (r := r) h)
    have HFR := Lib.hid (fun (h : costs.length ≤ j) => load_far (i := i) (r := r) HS.out.ht h)
    rw [HPT.out] at HY
    have C01 := B0.out.same sx
    obtain ⟨c0, c1⟩ := (⟨C01.cell 0, C01.cell 1⟩ : _ ∧ _)
    simp only [Ws.q_] at c0 c1
    obtain ⟨bA, oA, rfl, X, cX, t0, t1, t2, t3, t4, t5, t6, _⟩ := (HS.out.ht.same sx).at_ hp
    have HQ4 := Lib.hid (Blk.new wr 47 #[.int .i64 p.kind, .int .i64 p.prio, .int .i64 p.per, .int .i64 p.off, .int .i64 p.dl, .int .i64 p.own, .slice X p.code.length cX])
    have HX4 := Lib.hid ((Same.refl wr).alloc (.cells #[.int .i64 p.kind, .int .i64 p.prio, .int .i64 p.per, .int .i64 p.off, .int .i64 p.dl, .int .i64 p.own, .slice X p.code.length cX] 47))
    clear C01 hk hp sx
    generalize loadT s i costs r j = v at *
    go_upto_region 7 with fail
    generalize wr.alloc (.cells #[.int .i64 p.kind, .int .i64 p.prio, .int .i64 p.per, .int .i64 p.off, .int .i64 p.dl, .int .i64 p.own, .slice X p.code.length cX] 47) = w4 at *
    generalize wr.heap.size = q4 at *
    have c0 := HX4.out.cell c0
    have c1 := HX4.out.cell c1
    clear t0 t1 t2 t3 t4 t5 t6
    have HS4 := Lib.hid (HSX.out.trans HX4.out)
    have RX := Lib.hid (RA.out j w4 HS4.out)
    cases hab : Ah.aheadI s.ts j i with
    | false =>
     rw [hab] at RX
     have HV := Lib.hid (HN.out hab)
     clear hab HY HN HFR RA
     go_wp2_with fail
     refine RX.out.mono ?_
     rintro e w5 ⟨rfl, s5⟩
     have HS5 := Lib.hid (HS4.out.trans s5)
     clear s5 RX c0 c1
     go_wp2_with fail
     go_roundg GK
     case rel => exact ⟨j + 1, by have := HKK.out; omega, by go_num, by rw [HV.out], HS5.out⟩
     case measure => omega
    | true =>
     rw [hab] at RX
     have HV := Lib.hid (HY.out hab)
     clear hab HY HN RA
     by_cases hjc : (j : Int) < cl
     ·obtain ⟨cv, hcv⟩ : ∃ cv, costs[j]? = some cv := ⟨costs[j]'(by have := HCL.out; omega), List.getElem?_eq_getElem _⟩
      have HV := Lib.hid (show loadT s i costs r (j + 1) = addv v (mulv (ceilv r p.per) cv) by rw [HV.out, List.getD_eq_getElem?_getD, hcv, Sl.mulv_comm]; rfl)
      have hrow := HR.out.same HS4.out
      obtain ⟨bC, oC, rfl, y0⟩ := hrow j (.int .i64 cv) (by rw [List.getElem?_map, hcv]; rfl)
      clear hcv hrow HFR
      go_wp2_with fail
      refine RX.out.mono ?_
      rintro e w5 ⟨rfl, s5⟩
      have HS5 := Lib.hid (HS4.out.trans s5)
      have HQ5 := Lib.hid (HQ4.out.same s5)
      have HCC := Lib.hid (s5.cell y0)
      clear s5 RX c0 c1 y0
      go_wp2_with fail
      refine wp_region_held_drew (S := fun w' => Same w5 w') (by kernel_rfl) ?_ (fun hHeld => ?_)
      ·exact (Same.refl w5).drew
      refine Ro.tn 0 ?_ ?_ ?_
      rotate_left
      ·intro wS hSw; (try dsimp only at hSw); go_simp; try with_reducible rfl
      try simp only [Ro.p]
      refine Ro.tn 1 ?_ ?_ ?_
      rotate_left
      ·intro wS hSw; (try dsimp only at hSw); go_simp; try with_reducible rfl
      try simp only [Ro.p]
      refine Ro.tn 2 ?_ ?_ ?_
      rotate_left
      ·intro wS hSw; (try dsimp only at hSw); go_simp; try with_reducible rfl
      try simp only [Ro.p]
      refine Ro.tn 3 ?_ ?_ ?_
      rotate_left
      ·intro wS hSw; (try dsimp only at hSw); have v2 := (HQ5.out.same hSw).cell 2; simp only [Ws.q_] at v2; go_simp; try with_reducible rfl
      try simp only [Ro.p]
      refine Ro.tn 5 ?_ ?_ ?_
      rotate_left
      ·intro wS hSw; (try dsimp only at hSw); go_simp; try with_reducible rfl
      try simp only [Ro.p]
      refine Ro.tn 6 ?_ ?_ ?_
      rotate_left
      ·intro wS hSw; (try dsimp only at hSw); go_simp; try with_reducible rfl
      try simp only [Ro.p]
      refine Ro.tn 7 ?_ ?_ ?_
      rotate_left
      ·intro wS hSw; (try dsimp only at hSw); go_simp; try with_reducible rfl
      try simp only [Ro.p]
      refine Ro.tn 8 ?_ ?_ ?_
      rotate_left
      ·intro wS hSw; (try dsimp only at hSw); have v3 := hSw.cell HCC.out; go_simp; try with_reducible rfl
      try simp only [Ro.p]
      refine Ro.one_on (i := 4) rfl (by kernel_rfl) (by rfl) (fun K hK => ?_)
      go_simp
      go_at_call 39
      refine (Wd.rceil _ _ br _).mono ?_
      rintro e wN ⟨rfl, rfl⟩
      refine hK.out _ _ ?_ (fun hNew => ?_)
      ·exact hHeld
      clear hK K hHeld; have hHeld := hNew; clear hNew
      try simp only [Ro.p]
      refine Ro.one_on (i := 9) rfl (by kernel_rfl) (by rfl) (fun K hK => ?_)
      go_simp
      go_at_call 38
      refine (Wd.rmul _ _ _).mono ?_
      rintro e wN ⟨rfl, rfl⟩
      refine hK.out _ _ ?_ (fun hNew => ?_)
      ·exact hHeld
      clear hK K hHeld; have hHeld := hNew; clear hNew
      try simp only [Ro.p]
      refine Ro.one_on (i := 10) rfl (by kernel_rfl) (by rfl) (fun K hK => ?_)
      go_simp
      go_at_call 44
      refine (Wd.radd _ _ _).mono ?_
      rintro e wN ⟨rfl, rfl⟩
      refine hK.out _ _ ?_ (fun hNew => ?_)
      ·exact hHeld
      clear hK K hHeld; have hHeld := hNew; clear hNew
      try simp only [Ro.p]
      refine Ro.tn 11 ?_ ?_ ?_
      rotate_left
      ·intro wS hSw; (try dsimp only at hSw); go_simp; try with_reducible rfl
      try simp only [Ro.p]
      refine wpAnyH_done (by kernel_rfl) ?_ _
      go_wp2_with fail
      go_roundg GK
      case rel => exact ⟨j + 1, by have := HKK.out; omega, by go_num, by rw [HV.out], HS5.out.trans hHeld⟩
      case measure => omega
     ·have HV := Lib.hid (show loadT s i costs r (j + 1) = v by exact HFR.out (by have := HCL.out; omega))
      clear HFR
      go_wp2_with fail
      refine RX.out.mono ?_
      rintro e w5 ⟨rfl, s5⟩
      have HS5 := Lib.hid (HS4.out.trans s5)
      clear s5 RX c0 c1
      go_wp2_with fail
      go_roundg GK
      case rel => exact ⟨j + 1, by have := HKK.out; omega, by go_num, by rw [HV.out], HS5.out⟩
      case measure => omega
end Go.Proofs.YthhbhbfkbncegaaGreatDoor.Rt
end
section
set_option linter.unusedVariables false
set_option linter.unusedSimpArgs false
namespace Go.Proofs.YthhbhbfkbncegaaGreatDoor.Rt
open Go.ChangeShapes Go.WideShapes Go.ChangeAt Go.RowKit Ws
open Im (PT PO PS TsAt OsAt SysAt tcells ocells)
open Go.Proofs.YthhbhbfkbncegaaGreatDoor.Wd (ret_bool ret_int addv mulv ceilv)
open Sl (jobI)
theorem resp_is' {s : PS} {k : Nat} {p : PT} (hp : s.ts[k]? = some p) (costs : List Int) : respI s k costs = respG (loadI s k costs) p.dl 10001 1 := by
 unfold respI
 rw [if_pos ⟨by omega, by have := (List.getElem?_eq_some_iff.1 hp).1; omega⟩]
 unfold Ah.pt
 rw [Int.toNat_natCast, List.getD_eq_getElem?_getD, hp]
 rfl
set_option maxRecDepth 100000 in
set_option maxHeartbeats 4000000 in
theorem rresp_any (A B C : Option Addr) (n c m d cl cc : Nat) (s : PS) (i : Int) (costs : List Int) (hsl : ∀ o ∈ s.os, o.sl ≤ 9223372036854775807) (w : World) (hs : SysAt w A n B m s) (hnm : n ≤ 1000 ∧ m ≤ maxLen) (hf : ∀ p ∈ s.ts, p.code.length ≤ 200) (ho : Sy.OFew s.os 5000) (hcl : costs.length = cl) (hr : Row w C (costs.map (Value.int .i64))) :
 Calls Tryz.prog 26 #[.agg #[.slice A n c, .slice B m d], .int .i64 i, .slice C cl cc] w fun e w' => e = .returned (.tuple #[.int .i64 (respI s i costs).1, .int .i64 (respI s i costs).2]) ∧ Same w w' := by
 obtain ⟨w0, hw0⟩ : ∃ w0, w0 = w.alloc (.cells #[.slice A n c, .slice B m d] 25) := ⟨_, rfl⟩
 obtain ⟨g, hg⟩ : ∃ g, g = w.heap.size := ⟨_, rfl⟩
 have s0 : Same w w0 := hw0 ▸ (Same.refl w).alloc _
 have b0 : Blk w0 g 25 #[.slice A n c, .slice B m d] := by rw [hw0, hg]; exact Blk.new w _ _
 have HE0 := Lib.hid hw0
 have HG := Lib.hid hg
 have S0 := Lib.hid s0
 obtain ⟨c0, c1⟩ := (⟨b0.cell 0, b0.cell 1⟩ : _ ∧ _)
 simp only [Ws.q_] at c0 c1
 have B0 := Lib.hid b0
 rcases (show i < 0 ∨ (¬ i < 0 ∧ (n : Int) ≤ i) ∨ (¬ i < 0 ∧ ¬ (n : Int) ≤ i) by omega) with h0 | ⟨h1, h2⟩ | ⟨h1, h2⟩
 ·have d0 : decide (i < 0) = true := decide_eq_true h0
  have HV := Lib.hid (show respI s i costs = (0, 1) from if_neg (by omega))
  clear h0 hw0 hg s0 b0 hs hf ho hcl hr B0
  go_enter Tryz.func26, Tryz.ntmps26
  go_upto_region 1 with fail
  rw [← HE0.out, ← HG.out]
  clear HE0 HG
  go_wp2_with fail
  go_ret2
  exact ⟨by rw [HV.out]; rfl, S0.out⟩
 ·have d0 : decide (i < 0) = false := decide_eq_false h1
  have d1 : decide ((n : Int) ≤ i) = true := decide_eq_true h2
  have HV := Lib.hid (show respI s i costs = (0, 1) from if_neg (by have := hs.hn; omega))
  clear h1 h2 hw0 hg s0 b0 hs hf ho hcl hr B0
  go_enter Tryz.func26, Tryz.ntmps26
  go_upto_region 1 with fail
  rw [← HE0.out, ← HG.out]
  clear HE0 HG
  go_wp2_with fail
  go_ret2
  exact ⟨by rw [HV.out]; rfl, S0.out⟩
 ·obtain ⟨ki, rfl⟩ : ∃ ki : Nat, i = ki := ⟨i.toNat, by omega⟩
  have d0 : decide ((ki : Int) < 0) = false := decide_eq_false h1
  have d1 : decide ((n : Int) ≤ ki) = false := decide_eq_false h2
  have d1n : decide (n ≤ ki) = false := decide_eq_false (by omega)
  have k0 : (0 : Int) ≤ ki := by omega
  have k1 : (ki : Int) < n := by omega
  obtain ⟨p, hp⟩ : ∃ p, s.ts[ki]? = some p := ⟨s.ts[ki]'(by have := hs.hn; omega), List.getElem?_eq_getElem _⟩
  have HV := Lib.hid (resp_is' hp costs)
  have HRB := Lib.hid (rS_bd (ld := loadI s ki costs) (fun r => loadT_bd hs.ht ki costs r _))
  have RL := Lib.hid (fun (r : Int) (br : -9223372036854775808 ≤ r ∧ r ≤ 9223372036854775807) W (h : Same w0 W) => rLoad_any A B C n c m d cl cc s ki r br hsl costs W (hs.same (s0.trans h)) hnm hf ho hcl (hr.same (s0.trans h)))
  have HTS := Lib.hid (fun W (h : Same w0 W) => (hs.ht.same (s0.trans h)).at_ hp)
  clear h1 h2 hw0 hg s0 b0 hs hf ho hcl hr hp c0 c1
  generalize loadI s ki costs = ld at *
  obtain ⟨c0, c1⟩ := (⟨B0.out.cell 0, B0.out.cell 1⟩ : _ ∧ _)
  simp only [Ws.q_] at c0 c1
  go_enter Tryz.func26, Tryz.ntmps26
  go_upto_region 1 with fail
  rw [← HE0.out, ← HG.out]
  clear HE0 HG
  go_wp2_with fail
  go_loopg [9, 8] 10001 (fun gk cv rv wx => ∃ k : Nat, k + gk = 10001 ∧ cv = .int .i64 (k : Int) ∧ rv = .int .i64 (rS ld k) ∧ Hid (∀ y, y < k → passS ld p.dl y) ∧ Same w0 wx)
  case atStart => exact ⟨0, by omega, rfl, rfl, Lib.hid (fun y hy => by omega), Same.refl _⟩
  case round =>
   obtain ⟨k, hk, rfl, rfl, hpass, sx⟩ := hrel
   have HSX := Lib.hid sx
   have c0 := sx.cell c0
   have c1 := sx.cell c1
   have HRP := Lib.hid (resp_pass (ld := ld) (dl := p.dl) k gk hpass.out)
   cases gk with
   | zero =>
    obtain rfl : k = 10001 := by omega
    have HVV := Lib.hid (show respI s ki costs = (0, 14) by rw [HV.out]; exact HRP.out)
    clear sx HRP hk
    go_wp2_with fail
    go_ret2
    exact ⟨by rw [HVV.out]; rfl, S0.out.trans HSX.out⟩
   | succ GK =>
    have hle : (k : Int) ≤ 10000 := by omega
    have hle2 : ¬ (10000 : Int) < k := by omega
    have HKK := Lib.hid hk
    obtain ⟨bA, oA, rfl, X, cX, _, _, _, _, t4, _⟩ := HTS.out _ HSX.out
    have HVV := Lib.hid (show respI s ki costs = respG ld p.dl (GK + 1) (rS ld k) by rw [HV.out, ← HRP.out, HKK.out])
    have RX := Lib.hid (RL.out (rS ld k) (HRB.out k) wr HSX.out)
    have HR1 := Lib.hid (show ld (rS ld k) = rS ld (k + 1) from rfl)
    rw [HR1.out] at RX
    have HPS := Lib.hid (show ¬ rS ld k > p.dl → ¬ rS ld (k + 1) = rS ld k → passS ld p.dl k from fun h1 h2 => ⟨h1, h2⟩)
    have HLT := Lib.hid (show rS ld k > p.dl → respG ld p.dl (GK + 1) (rS ld k) = (0, 13) from fun h => resp_late h)
    have HHT := Lib.hid (show ¬ rS ld k > p.dl → rS ld (k + 1) = rS ld k → respG ld p.dl (GK + 1) (rS ld k) = (rS ld k, 0) from fun h g => resp_hit h g)
    generalize hr0 : rS ld k = r0 at *
    generalize hr1 : rS ld (k + 1) = r1 at *
    have HRR := Lib.hid hr1
    clear hr0 hr1 sx hk HTS HRP RL
    by_cases h1 : r0 > p.dl
    ·have e1 : decide (p.dl < r0) = true := decide_eq_true h1
     have HW := Lib.hid (show respI s ki costs = (0, 13) by rw [HVV.out]; exact HLT.out h1)
     clear h1 HLT HHT HPS
     go_wp2_with fail
     go_ret2
     exact ⟨by rw [HW.out]; rfl, S0.out.trans HSX.out⟩
    ·have e1 : decide (p.dl < r0) = false := decide_eq_false h1
     by_cases h2 : r1 = r0
     ·have e2 : (r1 == r0) = true := by simpa using h2
      have HW := Lib.hid (show respI s ki costs = (r0, 0) by rw [HVV.out]; exact HHT.out h1 h2)
      clear h1 h2 HLT HHT HPS
      go_wp2_with fail
      refine RX.out.mono ?_
      rintro e w2 ⟨rfl, s2⟩
      go_wp2_with fail
      go_ret2
      exact ⟨by rw [HW.out]; rfl, S0.out.trans (HSX.out.trans s2)⟩
     ·have e2 : (r1 == r0) = false := by simpa using h2
      have hps := Lib.hid (HPS.out h1 h2)
      clear h1 h2 HLT HHT HPS
      go_wp2_with fail
      refine RX.out.mono ?_
      rintro e w2 ⟨rfl, s2⟩
      have HS2 := Lib.hid (HSX.out.trans s2)
      clear s2 RX t4 c0 c1
      go_wp2_with fail
      go_roundg GK
      case rel =>
       refine ⟨k + 1, by have := HKK.out; omega, by go_num, by rw [HRR.out], Lib.hid (fun y hy => ?_), HS2.out⟩
       rcases Nat.lt_or_ge y k with g | g
       ·exact hpass.out y g
       ·obtain rfl : y = k := by omega
        exact hps.out
      case measure => omega
end Go.Proofs.YthhbhbfkbncegaaGreatDoor.Rt
end
end
section
section
set_option linter.unusedVariables false
set_option linter.unusedSimpArgs false
namespace Go.Proofs.YthhbhbfkbncegaaGreatDoor.Rt
open Go.ChangeShapes Go.WideShapes Go.ChangeAt Go.RowKit Ws
open Im (PT PO PS TsAt OsAt SysAt tcells ocells)
open Go.Proofs.YthhbhbfkbncegaaGreatDoor.Wd (ret_bool ret_int addv mulv ceilv)
set_option maxRecDepth 100000 in
theorem rabove_gen (A : Option Addr) (m c : Nat) (ts : List PT) (b : Int) (w : World) (hl : ts.length = m) (hm : m ≤ 1000) (ht : TsAt w A ts) :
 Calls Tryz.prog 52 #[.slice A m c, .int .i64 b] w (Nums w (aboveI ts b m)) := by
 obtain ⟨i0, hi, hz0, hz1, hz2⟩ := info_parts int_info
 have AH := Lib.hid (fun (a : Nat) (ha : a < m) w' (s : Same w w') => Ah.rahead_gen A m c ts a b w' hl (ht.same s))
 clear ht hl
 go_enter Tryz.func52, Tryz.ntmps52
 go_wp2_with fail
 go_loopg [9, 5] m (fun gk iv lv wx => ∃ (k : Nat) (A' : Option Addr) (n' c' : Nat), k + gk = m ∧ iv = .int .i64 k ∧ lv = .slice A' n' c' ∧ n' = (aboveI ts b k).length ∧ Ws.Own wx w.heap.size 3 A' c' ((aboveI ts b k).map (Value.int .i64)) ∧ Same w wx)
 case atStart => exact ⟨0, none, 0, 0, by omega, rfl, rfl, rfl, own_nil _ _ _, Same.refl _⟩
 case round =>
  obtain ⟨k, A', n', c', hk, rfl, rfl, hn, ho, sx⟩ := hrel
  have HO := Lib.hid ho
  have HS := Lib.hid sx
  have HN := Lib.hid hn
  clear ho sx hn
  cases gk with
  | zero =>
   obtain rfl : k = m := by omega
   have hge : ¬ (k : Int) < (k : Int) := by omega
   go_wp2_with fail
   go_ret
   exact nums_mk HN.out HO.out.row HS.out (own_in HO.out)
  | succ GK =>
   have hlt : (k : Int) < m := by omega
   have hE : aboveI ts b (k + 1) = aboveI ts b k ++ (if Ah.aheadI ts k b = true then [(k : Int)] else []) := rfl
   have HE := Lib.hid hE
   clear hE
   have AK := Lib.hid (AH.out k (by omega) _ HS.out)
   go_wp2_with fail
   refine AK.out.mono ?_
   rintro e w1 ⟨rfl, s1⟩
   have HS1 := Lib.hid (HS.out.trans s1)
   have HO1 := Lib.hid (HO.out.same s1)
   clear s1 AK
   cases hab : Ah.aheadI ts k b
   ·have hE := HE.out
    rw [hab, if_neg Bool.false_ne_true, List.append_nil] at hE
    have HE' := Lib.hid hE
    clear hE hab
    go_wp2_with fail
    go_roundg GK
    case rel => exact ⟨k + 1, A', n', c', by omega, by go_num, rfl, by rw [HE'.out]; exact HN.out, by rw [HE'.out]; exact HO1.out, HS1.out⟩
    case measure => omega
   ·have hE := HE.out
    rw [hab, if_pos rfl] at hE
    have HE' := Lib.hid hE
    clear hE hab
    go_wp2_with (at_builtin; go_loud (refine wpList_app rfl (.tmp 16) (.tmp 18) 32 rfl w.heap.size 3 i0 _ 8 Tryz.underlying32 hi hz0 hz1 hz2 rfl A' n' c' ((aboveI ts b k).map (Value.int .i64)) rfl ?c1 (HO1.out.same ((Same.refl _).alloc _)) _ 1 1 [.int .i64 (k : Int)] rfl rfl (row_new _ _ _) ?c2 ?c3 (by omega) ?c4 ?_))
    case c1 => rw [List.length_map]; exact HN.out.symm
    case c2 => intro u hu; simp at hu; subst hu; rfl
    case c3 => have := aboveI_len ts b k; rw [List.length_map]; simp; omega
    case c4 => have := HS1.out.size; simp at this ⊢; omega
    intro A2 c2' w2 ho2 hc2 _
    have HS2 := Lib.hid (Same.more (HS1.out.alloc _) hc2 fun g hg => by
     have hg : A' = some ⟨g, 0, none⟩ := hg
     subst hg
     rcases HO.out.2 with ⟨h2, _⟩ | ⟨g2, cap, cur, hv, hb2, _⟩
     ·cases h2
     ·injection hv with hv
      injection hv with hv
      injection hv with hv
      omega)
    rw [show (aboveI ts b k).map (Value.int .i64) ++ [.int .i64 (k : Int)] = (aboveI ts b (k + 1)).map (Value.int .i64) by rw [HE'.out, List.map_append]; rfl] at ho2
    have HO2 := Lib.hid ho2
    clear ho2 hc2
    go_wp2_with fail
    go_roundg GK
    case rel => exact ⟨k + 1, A2, n' + 1, c2', by omega, by go_num, rfl, by rw [HE'.out, List.length_append, HN.out]; rfl, HO2.out, HS2.out⟩
    case measure => omega
end Go.Proofs.YthhbhbfkbncegaaGreatDoor.Rt
end
section
set_option linter.unusedVariables false
set_option linter.unusedSimpArgs false
namespace Go.Proofs.YthhbhbfkbncegaaGreatDoor.Rt
open Go.ChangeShapes Go.WideShapes Go.ChangeAt Go.RowKit Ws
open Im (PT PO PS TsAt OsAt SysAt tcells ocells)
open Go.Proofs.YthhbhbfkbncegaaGreatDoor.Wd (ret_bool ret_int addv mulv ceilv)
open Sl (jobC jobR jobI rcells)
open Go.Proofs.YthhbhbfkbncegaaGreatDoor.Od (nI nI_len ordL isOrd_ordL rankN)
theorem ownk_base {w : World} {B : Nat} {e : TypeId} {s g n c : Nat} {l : List Value} (h : OwnK w B e s (some ⟨g, 0, none⟩) n c l) : OwnK w g e s (some ⟨g, 0, none⟩) n c l := by
 refine ⟨h.1, ?_⟩
 rcases h.2 with h2 | ⟨g2, cap, cur, hv, hb, hg, rest⟩
 ·exact .inl h2
 ·have hv' := hv
  injection hv' with hv'
  injection hv' with hv'
  injection hv' with e1
  exact .inr ⟨g2, cap, cur, hv, by omega, hg, rest⟩
theorem zeros_IL (n : Nat) : IL n (fun _ => 0) = (zerosL n).map (Value.int .i64) := by
 unfold IL zerosL
 apply List.ext_getElem
 ·simp
 ·intro i h1 h2
  simp
set_option maxRecDepth 100000 in
set_option maxHeartbeats 8000000 in
theorem rall_any (A B : Option Addr) (n c m d : Nat) (s : PS) (hsl : ∀ o ∈ s.os, o.sl ≤ 9223372036854775807) (w : World) (hs : SysAt w A n B m s) (hnm : n ≤ 1000 ∧ m ≤ maxLen) (hf : ∀ p ∈ s.ts, p.code.length ≤ 200) (ho : Sy.OFew s.os 5000) :
 Calls Tryz.prog 28 #[.agg #[.slice A n c, .slice B m d]] w (AllP w s) := by
 have hnm' : n ≤ maxLen ∧ m ≤ maxLen := ⟨by unfold maxLen; omega, hnm.2⟩
 obtain ⟨w0, hw0⟩ : ∃ w0, w0 = w.alloc (.cells #[.slice A n c, .slice B m d] 25) := ⟨_, rfl⟩
 obtain ⟨g, hg⟩ : ∃ g, g = w.heap.size := ⟨_, rfl⟩
 have s0 : Same w w0 := hw0 ▸ (Same.refl w).alloc _
 have b0 : Blk w0 g 25 #[.slice A n c, .slice B m d] := by rw [hw0, hg]; exact Blk.new w _ _
 have HE0 := Lib.hid hw0
 have HG := Lib.hid hg
 have S0 := Lib.hid s0
 obtain ⟨c0, c1⟩ := (⟨b0.cell 0, b0.cell 1⟩ : _ ∧ _)
 simp only [Ws.q_] at c0 c1
 have B0 := Lib.hid b0
 have AB := Lib.hid (fun (i : Int) W (h : Same w0 W) => rabove_gen A n c s.ts i W hs.hn hnm.1 (hs.ht.same (s0.trans h)))
 have RS := Lib.hid (fun (i : Int) (cs : List Int) (C : Option Addr) (hcl : cs.length = n) W (h : Same w0 W) (hr : Row W C (cs.map (Value.int .i64))) => rresp_any A B C n c m d n n s i cs hsl W (hs.same (s0.trans h)) hnm hf ho hcl hr)
 have JO := Lib.hid (fun (i r : Int) (br : -9223372036854775808 ≤ r ∧ r ≤ 9223372036854775807) W (h : Same w0 W) => Sl.rjob37 A B n c m d s i r br hsl W (hs.same (s0.trans h)) hnm' hf ho)
 have HBD := Lib.hid (fun (i : Int) (cs : List Int) => respI_bd hs.ht i cs)
 have hn5 : n ≤ 5000 := by omega
 have HA := Lib.hid (show allI s = allS s (ordL (prios s.ts)) (zerosL n) (zerosL n) by unfold allI prios; rw [hs.hn])
 have HOD := Lib.hid (isOrd_ordL (prios s.ts))
 have HPL := Lib.hid (show (prios s.ts).length = n by rw [prios_len]; exact hs.hn)
 have HLN := Lib.hid (show (ordL (prios s.ts)).length = n by rw [(isOrd_ordL (prios s.ts)).len, prios_len]; exact hs.hn)
 have HRK := Lib.hid (fun (i : Nat) (hi : i < n) => (show (aboveI s.ts (i : Int) n).length = rankN (prios s.ts) i by have h := above_rankN (ts := s.ts) (i := i) (by rw [hs.hn]; exact hi); rwa [hs.hn] at h))
 obtain ⟨i0, hi, hz0, hz1, hz2⟩ := info_parts int_info
 clear hw0 hg s0 b0 hs hf ho hsl
 generalize ordL (prios s.ts) = L at *
 go_enter Tryz.func28, Tryz.ntmps28
 go_upto_region 1 with fail
 rw [← HE0.out, ← HG.out]
 clear HE0 HG
 go_wp2_with fail
 obtain ⟨w1, hrun, ho1, hg1⟩ := run_make_full (P := Tryz.prog) w0 w0.heap.size 32 3 i0 _ 1 Tryz.underlying32 hi hz0 hz1 .i64 .i64 n (by rw [hz2]; omega) (by unfold maxLen; omega) (Nat.le_refl _)
 rw [hrun]
 clear hrun
 have s1 : Same w0 w1 := (Chg.of_grown hg1).weak fun g _ h => by cases h
 rw [made_IL, zeros_IL] at ho1
 have OR_ := Lib.hid (show OwnK w1 w0.heap.size 3 1 (some ⟨w0.heap.size, 0, none⟩) n n ((zerosL n).map (Value.int .i64)) from ho1)
 obtain ⟨qr, hqr⟩ : ∃ g, g = w0.heap.size := ⟨_, rfl⟩
 rw [← hqr] at OR_
 rw [← hqr]
 have HBR := Lib.hid (show w0.heap.size ≤ qr by omega)
 have HSW1 := Lib.hid s1
 have c0 := s1.cell c0
 have c1 := s1.cell c1
 clear ho1 hg1 s1 hqr
 go_wp2_with fail
 obtain ⟨w2, hrun, ho2, hg2⟩ := run_make_full (P := Tryz.prog) w1 w1.heap.size 32 3 i0 _ 1 Tryz.underlying32 hi hz0 hz1 .i64 .i64 n (by rw [hz2]; omega) (by unfold maxLen; omega) (Nat.le_refl _)
 rw [hrun]
 clear hrun
 have s2 : Same w1 w2 := (Chg.of_grown hg2).weak fun g _ h => by cases h
 rw [made_IL, zeros_IL] at ho2
 have OC_ := Lib.hid (show OwnK w2 w1.heap.size 3 1 (some ⟨w1.heap.size, 0, none⟩) n n ((zerosL n).map (Value.int .i64)) from ho2)
 obtain ⟨qc, hqc⟩ : ∃ g, g = w1.heap.size := ⟨_, rfl⟩
 rw [← hqc] at OC_
 rw [← hqc]
 have HNE := Lib.hid (show ¬ qr = qc by have := OR_.out.lt.2.1; omega)
 have HBC := Lib.hid (show w0.heap.size ≤ qc by rw [hqc]; exact HSW1.out.size)
 have OR1 := Lib.hid (show OwnK w2 qr 3 1 (some ⟨qr, 0, none⟩) n n ((zerosL n).map (Value.int .i64)) from ownk_base (OR_.out.same s2))
 have OC1 := Lib.hid (show OwnK w2 qc 3 1 (some ⟨qc, 0, none⟩) n n ((zerosL n).map (Value.int .i64)) from ownk_base OC_.out)
 have HSW := Lib.hid (HSW1.out.trans s2)
 have c0 := s2.cell c0
 have c1 := s2.cell c1
 clear ho2 hg2 s2 hqc OR_ OC_ HSW1
 go_wp2_with fail
 go_loopg [23] n (fun gk iv wx => ∃ (k : Nat) (rs cs : List Int), k + gk = n ∧ iv = .int .i64 (k : Int) ∧ rs.length = n ∧ cs.length = n ∧ Hid (allI s = allS s (L.drop k) rs cs) ∧ Hid (OwnK wx qr 3 1 (some ⟨qr, 0, none⟩) n n (rs.map (Value.int .i64))) ∧ Hid (OwnK wx qc 3 1 (some ⟨qc, 0, none⟩) n n (cs.map (Value.int .i64))) ∧ Hid (Same w0 wx))
 case atStart => exact ⟨0, zerosL n, zerosL n, by omega, rfl, by unfold zerosL; simp, by unfold zerosL; simp, HA, OR1, OC1, HSW⟩
 case round =>
  obtain ⟨k, rs, cs, hk, rfl, hrl, hcl, HAJ, HOR, HOC, HSX⟩ := hrel
  clear OR1 OC1 HSW HA c0 c1
  cases gk with
  | zero =>
   obtain rfl : k = n := by omega
   have hge : ¬ (k : Int) < (k : Int) := by omega
   have HV := Lib.hid (show allI s = (rs, cs, -1, 0) by rw [HAJ.out, List.drop_of_length_le (by rw [HLN.out]; exact Nat.le_refl _)]; rfl)
   have hrl' := Lib.hid hrl
   have hcl' := Lib.hid hcl
   clear hrl hcl
   go_wp2_with fail
   refine bodyPost_ret (res_four rfl _ _) rfl ?_
   exact allP_mk HV.out HOR.out.row hrl'.out HOC.out.row hcl'.out (S0.out.trans HSX.out)
  | succ GK =>
   have hlt : (k : Int) < n := by omega
   have hk0 : (0 : Int) ≤ k := by omega
   have HKK := Lib.hid hk
   obtain ⟨kk, hki⟩ : ∃ kk, L[k]? = some kk := ⟨L[k]'(by rw [HLN.out]; omega), List.getElem?_eq_getElem _⟩
   have hkn : kk < n := by have := HOD.out.lt hki; rw [HPL.out] at this; exact this
   have HKR := Lib.hid (HOD.out.rank hki)
   have HAT := Lib.hid (fun (i : Nat) (hi : i < n) (h : rankN (prios s.ts) i = k) => (show i = kk by have h2 := HOD.out.at_rank (i := i) (by rw [HPL.out]; exact hi); rw [h, hki] at h2; exact (Option.some.inj h2).symm))
   have HDR := Lib.hid (show L.drop k = kk :: L.drop (k + 1) from by
    have h2 := List.drop_eq_getElem_cons (l := L) (i := k) (by rw [HLN.out]; omega)
    rw [h2]
    congr 1
    rw [List.getElem?_eq_getElem (by rw [HLN.out]; omega)] at hki
    exact Option.some.inj hki)
   have HKN := Lib.hid hkn
   have c0 : wr.cell? ⟨g, 0, none⟩ = some (.slice A n c) := HSX.out.cell (B0.out.cell 0)
   have c1 : wr.cell? ⟨g, 1, none⟩ = some (.slice B m d) := HSX.out.cell (B0.out.cell 1)
   have HRL := Lib.hid hrl
   have HCL := Lib.hid hcl
   clear hk hki hkn hrl hcl
   go_wp2_with fail
   go_loopg [29] n (fun gk2 iv wy => ∃ (i : Nat) (rs cs : List Int), i + gk2 = n ∧ iv = .int .i64 (i : Int) ∧ rs.length = n ∧ cs.length = n ∧ Hid (allI s = allS s (if kk < i then L.drop (k + 1) else L.drop k) rs cs) ∧ Hid (OwnK wy qr 3 1 (some ⟨qr, 0, none⟩) n n (rs.map (Value.int .i64))) ∧ Hid (OwnK wy qc 3 1 (some ⟨qc, 0, none⟩) n n (cs.map (Value.int .i64))) ∧ Hid (Same w0 wy))
   case atStart => exact ⟨0, rs, cs, by omega, rfl, HRL.out, HCL.out, Lib.hid (by rw [if_neg (by omega)]; exact HAJ.out), HOR, HOC, HSX⟩
   case round =>
    clear HAJ HOR HOC HSX HRL HCL c0 c1
    obtain ⟨i, rs, cs, hi2, rfl, hrl, hcl, HAJ, HOR, HOC, HSX⟩ := hrel
    cases gk with
    | zero =>
     obtain rfl : i = n := by omega
     have hge : ¬ (i : Int) < (i : Int) := by omega
     have HAN := Lib.hid (show allI s = allS s (L.drop (k + 1)) rs cs by rw [HAJ.out, if_pos HKN.out])
     have hrl' := Lib.hid hrl
     have hcl' := Lib.hid hcl
     clear hrl hcl hi2
     go_wp2_with fail
     go_roundg GK
     case measure => omega
     case rel => exact ⟨k + 1, rs, cs, by have := HKK.out; omega, by go_num, hrl'.out, hcl'.out, HAN, HOR, HOC, HSX⟩
    | succ GI =>
     have hil : (i : Int) < n := by omega
     have hi0 : (0 : Int) ≤ i := by omega
     have hin : i < n := by omega
     have HII := Lib.hid hi2
     have HRL := Lib.hid hrl
     have HCL := Lib.hid hcl
     have c0 : wr.cell? ⟨g, 0, none⟩ = some (.slice A n c) := HSX.out.cell (B0.out.cell 0)
     have c1 : wr.cell? ⟨g, 1, none⟩ = some (.slice B m d) := HSX.out.cell (B0.out.cell 1)
     have AX := Lib.hid (AB.out i wr HSX.out)
     have HRI := Lib.hid (HRK.out i hin)
     unfold Nums at AX
     rw [HRI.out] at AX
     clear hi2 hrl hcl
     by_cases hrk : rankN (prios s.ts) i = k
     case neg =>
      have e1 : ((rankN (prios s.ts) i : Nat) : Int) ≠ (k : Int) := by omega
      have e2 : (((rankN (prios s.ts) i : Nat) : Int) != (k : Int)) = true := by rw [bne_iff_ne]; exact e1
      have hne : ¬ i = kk := fun e => hrk (by rw [e]; exact HKR.out)
      have HAN := Lib.hid (show allI s = allS s (if kk < i + 1 then L.drop (k + 1) else L.drop k) rs cs by
       rw [HAJ.out]
       by_cases h : kk < i
       ·rw [if_pos h, if_pos (by omega)]
       ·rw [if_neg h, if_neg (by omega)])
      clear hrk hne HAJ
      generalize rankN (prios s.ts) i = rk at *
      go_wp2_with fail
      refine AX.out.mono ?_
      rintro e w3 ⟨A3, c3, rfl, r3, s3, f3⟩
      have HS3 := Lib.hid (HSX.out.trans s3)
      have OR3 := Lib.hid (HOR.out.same s3)
      have OC3 := Lib.hid (HOC.out.same s3)
      clear r3 s3 f3 AX HOR HOC HSX c0 c1
      go_wp2_with fail
      go_roundg GI
      case measure => omega
      case rel => exact ⟨i + 1, rs, cs, by have := HII.out; omega, by go_num, HRL.out, HCL.out, HAN, OR3, OC3, HS3⟩
     case pos =>
      obtain rfl : i = kk := HAT.out i hin hrk
      have HAN := Lib.hid (show allI s = allS s (i :: L.drop (k + 1)) rs cs by rw [HAJ.out, if_neg (by omega), HDR.out])
      rw [hrk] at AX
      have HBK := Lib.hid (HBD.out i cs)
      have HOK := Lib.hid (fun (h : (respI s i cs).2 = 0) => all_ok (l := L.drop (k + 1)) (rs := rs) h)
      have HBA := Lib.hid (fun (h : ¬ (respI s i cs).2 = 0) => all_bad (l := L.drop (k + 1)) (rs := rs) h)
      have RXX := Lib.hid (fun W (h : Same w0 W) (hr : Row W (some ⟨qc, 0, none⟩) (cs.map (Value.int .i64))) => RS.out i cs (some ⟨qc, 0, none⟩) HCL.out W h hr)
      obtain ⟨rv, hrv⟩ : ∃ rv, rv = (respI s i cs).1 := ⟨_, rfl⟩
      obtain ⟨ev, hev⟩ : ∃ ev, ev = (respI s i cs).2 := ⟨_, rfl⟩
      rw [← hrv, ← hev] at RXX HOK
      rw [← hev] at HBA
      rw [← hrv] at HBK
      clear hrv hev hrk HAJ HRI
      go_wp2_with fail
      refine AX.out.mono ?_
      rintro e w3 ⟨A3, c3, rfl, r3, s3, f3⟩
      have HS3 := Lib.hid (HSX.out.trans s3)
      have OR3 := Lib.hid (HOR.out.same s3)
      have OC3 := Lib.hid (HOC.out.same s3)
      have c0 := s3.cell c0
      have c1 := s3.cell c1
      have RX := Lib.hid (RXX.out w3 HS3.out OC3.out.row)
      clear r3 s3 f3 AX HOR HOC HSX RXX
      go_wp2_with fail
      refine RX.out.mono ?_
      rintro e w4 ⟨rfl, s4⟩
      have HS4 := Lib.hid (HS3.out.trans s4)
      have OR4 := Lib.hid (OR3.out.same s4)
      have OC4 := Lib.hid (OC3.out.same s4)
      have c0 := s4.cell c0
      have c1 := s4.cell c1
      clear s4 RX OR3 OC3 HS3
      by_cases he : ev = 0
      case neg =>
       have e1 : (ev != 0) = true := by simpa using he
       have HV := Lib.hid (show allI s = ([], [], (i : Int), ev) by rw [HAN.out]; exact HBA.out he)
       clear he HOK HBA
       go_wp2_with fail
       refine bodyPost_ret (res_four rfl _ _) rfl ?_
       exact allP_mk HV.out (fun j u h => by cases h) rfl (fun j u h => by cases h) rfl (S0.out.trans HS4.out)
      case pos =>
       have e1 : (ev != 0) = false := by simpa using he
       have HV := Lib.hid (show allI s = allS s (L.drop (k + 1)) (rs.set i rv) (cs.set i (jobI s i rv)) by rw [HAN.out]; exact HOK.out he)
       have hin' : ¬ i < i := by omega
       have z5 := own1_get OR4.out (IL_at HRL.out hin)
       have f5 := own1_thaw OR4.out i
       obtain ⟨wT, hwT⟩ : ∃ x, x = w4.setCell ⟨qr, i, none⟩ (.int .i64 rv) := ⟨_, rfl⟩
       have hcT : Chg (fun i => i = qr) w4 wT := by rw [hwT]; exact (Chg.refl (fun i => i = qr) w4).set (p := ⟨qr, i, none⟩) (.inl rfl) _
       have hge : ¬ g = qr ∧ ¬ g = qc := by have := B0.out.lt; have := HBR.out; have := HBC.out; omega
       have ORT := Lib.hid (show OwnK wT qr 3 1 (some ⟨qr, 0, none⟩) n n ((rs.set i rv).map (Value.int .i64)) by rw [hwT, List.map_set]; exact own1_set OR4.out i (.int .i64 rv))
       have OCT := Lib.hid (OC4.out.chg hcT (fun g' e h => by injection e with e; injection e with e1 e2; have := HNE.out; omega))
       have SWT := Lib.hid (Same.more HS4.out hcT (fun i hi => by have := HBR.out; omega))
       have JB := Lib.hid (JO.out i rv (by have := HBK.out; omega) wT SWT.out)
       have C0T := Lib.hid (hcT.cell c0 hge.1)
       have C1T := Lib.hid (hcT.cell c1 hge.1)
       have HWT := Lib.hid hwT
       clear he HOK HBA hwT hcT hge OC4
       generalize jobI s i rv = jv at *
       go_upto_region 14 with fail
       rw [← HWT.out]
       have c0 := C0T.out
       have c1 := C1T.out
       clear HWT z5 f5
       go_wp2_with fail
       refine JB.out.mono ?_
       rintro e w6 ⟨rfl, s6⟩
       have OR6 := Lib.hid (ORT.out.same s6)
       have OC6 := Lib.hid (OCT.out.same s6)
       have HS6 := Lib.hid (SWT.out.trans s6)
       have z9 := own1_get OC6.out (IL_at HCL.out hin)
       have f9 := own1_thaw OC6.out i
       obtain ⟨w9, hw9⟩ : ∃ x, x = w6.setCell ⟨qc, i, none⟩ (.int .i64 jv) := ⟨_, rfl⟩
       have hcc : Chg (fun i => i = qc) w6 w9 := by rw [hw9]; exact (Chg.refl (fun i => i = qc) w6).set (p := ⟨qc, i, none⟩) (.inl rfl) _
       have OC9 := Lib.hid (show OwnK w9 qc 3 1 (some ⟨qc, 0, none⟩) n n ((cs.set i jv).map (Value.int .i64)) by rw [hw9, List.map_set]; exact own1_set OC6.out i (.int .i64 jv))
       have OR9 := Lib.hid (OR6.out.chg hcc (fun g' e h => by injection e with e; injection e with e1 e2; have := HNE.out; omega))
       have HS9 := Lib.hid (Same.more HS6.out hcc (fun i hi => by have := HBC.out; omega))
       have HW9 := Lib.hid hw9
       clear s6 hcc hw9 JB ORT OCT C0T C1T c0 c1
       go_wp2_with fail
       rw [← HW9.out]
       go_roundg GI
       case measure => omega
       case rel => exact ⟨i + 1, rs.set i rv, cs.set i jv, by have := HII.out; omega, by go_num, by rw [List.length_set]; exact HRL.out, by rw [List.length_set]; exact HCL.out, Lib.hid (by rw [if_pos (by omega)]; exact HV.out), OR9, OC9, HS9⟩
end Go.Proofs.YthhbhbfkbncegaaGreatDoor.Rt
end
end
end
section
section
set_option linter.unusedVariables false
set_option linter.unusedSimpArgs false
namespace Go.Proofs.YthhbhbfkbncegaaGreatDoor.Rt
open Go.ChangeShapes Go.WideShapes Go.ChangeAt Go.RowKit Ws
open Im (PT PO PS TsAt OsAt SysAt tcells ocells icells)
open Go.Proofs.YthhbhbfkbncegaaGreatDoor.Od (ordL)
def c4 : List Im.Ins := [⟨0, 0, 0, 0, 0⟩, ⟨0, 0, 0, 0, 0⟩, ⟨0, 0, 0, 0, 0⟩, ⟨21, 0, 0, 0, 0⟩]
def c5 : List Im.Ins := [⟨0, 0, 0, 0, 0⟩, ⟨0, 0, 0, 0, 0⟩, ⟨0, 0, 0, 0, 0⟩, ⟨0, 0, 0, 0, 0⟩, ⟨21, 0, 0, 0, 0⟩]
def s38 : PS := ⟨[⟨1, 2, 10, 0, 10, 1, c4⟩, ⟨1, 0, 40, 0, 40, 1, c5⟩], []⟩
theorem s38_ord : ordL (s38.ts.map fun t => t.prio) = [0, 1] := (Od.ord_of (P := [2, 0]) (L := [0, 1]) (by decide) (by decide)).is.symm
theorem l1 : loadI s38 0 [0, 0] 1 = 4 := by decide +kernel
theorem l2 : loadI s38 0 [0, 0] 4 = 4 := by decide +kernel
theorem l3 : loadI s38 1 [4, 0] 1 = 9 := by decide +kernel
theorem l4 : loadI s38 1 [4, 0] 9 = 9 := by decide +kernel
theorem j1 : Sl.jobI s38 0 4 = 4 := by decide +kernel
theorem j2 : Sl.jobI s38 1 9 = 5 := by decide +kernel
theorem r0 : respI s38 0 [0, 0] = (4, 0) := by
 rw [show (0 : Int) = ((0 : Nat) : Int) from rfl, resp_is (k := 0) (p := ⟨1, 2, 10, 0, 10, 1, c4⟩) rfl, show ((0 : Nat) : Int) = 0 from rfl]
 rw [resp_step (by decide) (by rw [l1]; decide), l1, resp_hit (by decide) l2]
theorem r1 : respI s38 1 [4, 0] = (9, 0) := by
 rw [show (1 : Int) = ((1 : Nat) : Int) from rfl, resp_is (k := 1) (p := ⟨1, 0, 40, 0, 40, 1, c5⟩) rfl, show ((1 : Nat) : Int) = 1 from rfl]
 rw [resp_step (by decide) (by rw [l3]; decide), l3, resp_hit (by decide) l4]
theorem s38_all : allI s38 = ([4, 9], [4, 5], -1, 0) := by
 unfold allI
 rw [s38_ord]
 show allS s38 [0, 1] [0, 0] [0, 0] = _
 have e0 : respI s38 ((0 : Nat) : Int) [0, 0] = (4, 0) := r0
 rw [all_ok (by rw [e0]), e0]
 show allS s38 [1] [4, 0] ([0, 0].set 0 (Sl.jobI s38 0 4)) = _
 rw [j1]
 show allS s38 [1] [4, 0] [4, 0] = _
 have e1 : respI s38 ((1 : Nat) : Int) [4, 0] = (9, 0) := r1
 rw [all_ok (by rw [e1]), e1]
 show allS s38 [] [4, 9] ([4, 0].set 1 (Sl.jobI s38 1 9)) = _
 rw [j2]
 rfl
theorem instr_info38 : (Tryz.prog.info? 70).map (fun i => (i.zero, i.size, i.bytes)) = some (some (.agg #[.int .i64 0, .int .i64 0, .int .i64 0, .int .i64 0, .int .u32 0]), 5, 40) := by kernel_rfl
theorem imake38 (k : Nat) (hk : k ≤ 100) (W : World) : (Instr.makeSlice 45 (.int .i64 (k : Int)) (.int .i64 (k : Int))).run Tryz.prog W = .ok (.slice (some ⟨W.heap.size, 0, none⟩) k k) (W.alloc (.cells (madeCells (Value.agg #[.int .i64 0, .int .i64 0, .int .i64 0, .int .i64 0, .int .u32 0]).cells (k * 5)) 70)) := by
 obtain ⟨i0, hi, hz0, hz1, hz2⟩ := info_parts instr_info38
 have h := run_make (P := Tryz.prog) W 45 70 i0 _ Tryz.underlying45 hi hz0 .i64 .i64 k k (by omega) (by omega) (by rw [hz2]; omega) (by omega)
 rw [hz1, Int.toNat_natCast] at h
 exact h
theorem flatI_get : ∀ (l : List Im.Ins) (k j : Nat) (x : Im.Ins), l[k]? = some x → j < 5 → (l.flatMap icells)[k * 5 + j]? = (icells x)[j]?
 | [], k, j, x, h, _ => by cases h
 | y :: l, 0, j, x, h, hj => by
  obtain rfl : y = x := Option.some.inj h
  rw [List.flatMap_cons, Nat.zero_mul, Nat.zero_add, List.getElem?_append_left (by show j < 5; exact hj)]
 | y :: l, k + 1, j, x, h, hj => by
  rw [List.flatMap_cons, List.getElem?_append_right (by show 5 ≤ _; omega), show (icells y).length = 5 from rfl, show (k + 1) * 5 + j - 5 = k * 5 + j by omega]
  exact flatI_get l k j x h hj
theorem code_row {w : World} {A : Option Addr} {l : List Im.Ins} (hl : ∀ x ∈ l, 0 ≤ x.n ∧ x.n < 4294967296) (h : Row w A (l.flatMap icells)) : Im.Code w A l := by
 intro i x hx
 refine ⟨hl x (List.mem_of_getElem? hx), ?_⟩
 obtain ⟨b, o, hA, _⟩ := h (i * 5 + 0) _ ((flatI_get l i 0 x hx (by omega)).trans rfl)
 refine ⟨b, o, hA, fun j v hv => ?_⟩
 have hj : j < 5 := (List.getElem?_eq_some_iff.1 hv).1
 obtain ⟨b', o', hA', hc⟩ := h (i * 5 + j) v ((flatI_get l i j x hx hj).trans hv)
 rw [hA] at hA'
 injection hA' with hA'
 injection hA' with e1 e2
 subst e1 e2
 rw [Nat.add_assoc]
 exact hc
def CodeP (w : World) (n : Nat) (l : List Im.Ins) (e : Ending) (w' : World) : Prop := ∃ A c, e = .returned (.slice A n c) ∧ Im.Code w' A l ∧ Same w w'
theorem codeP_mk {w w' : World} {n c : Nat} {A : Option Addr} {l : List Im.Ins} (_ : l.length = n) (h : Im.Code w' A l) (hs : Same w w') : CodeP w n l (.returned (.slice A n c)) w' := ⟨A, c, rfl, h, hs⟩
set_option maxRecDepth 100000 in
theorem code4_any (w : World) : Calls Tryz.prog 47 #[.int .i64 4] w (CodeP w 4 c4) := by
 obtain ⟨i0, hi, hz0, hz1, hz2⟩ := info_parts instr_info38
 have hmk := fun W => (show (Instr.makeSlice 45 (.int .i64 3) (.int .i64 3)).run Tryz.prog W = .ok (.slice (some ⟨W.heap.size, 0, none⟩) 3 3) (W.alloc (.cells #[.int .i64 0, .int .i64 0, .int .i64 0, .int .i64 0, .int .u32 0, .int .i64 0, .int .i64 0, .int .i64 0, .int .i64 0, .int .u32 0, .int .i64 0, .int .i64 0, .int .i64 0, .int .i64 0, .int .u32 0] 70)) from by rw [← (show madeCells (Value.agg #[.int .i64 0, .int .i64 0, .int .i64 0, .int .i64 0, .int .u32 0]).cells (3 * 5) = #[.int .i64 0, .int .i64 0, .int .i64 0, .int .i64 0, .int .u32 0, .int .i64 0, .int .i64 0, .int .i64 0, .int .i64 0, .int .u32 0, .int .i64 0, .int .i64 0, .int .i64 0, .int .i64 0, .int .u32 0] by kernel_rfl)]; exact imake38 3 (by omega) W)
 have HO := Lib.hid (show OwnK (w.alloc (.cells #[.int .i64 0, .int .i64 0, .int .i64 0, .int .i64 0, .int .u32 0, .int .i64 0, .int .i64 0, .int .i64 0, .int .i64 0, .int .u32 0, .int .i64 0, .int .i64 0, .int .i64 0, .int .i64 0, .int .u32 0] 70)) w.heap.size 70 5 (some ⟨w.heap.size, 0, none⟩) 3 3 [.int .i64 0, .int .i64 0, .int .i64 0, .int .i64 0, .int .u32 0, .int .i64 0, .int .i64 0, .int .i64 0, .int .i64 0, .int .u32 0, .int .i64 0, .int .i64 0, .int .i64 0, .int .i64 0, .int .u32 0] from by
  have h := World.ownsRow_lit (base := w.heap.size) (e := 70) (size := 5) w #[.int .i64 0, .int .i64 0, .int .i64 0, .int .i64 0, .int .u32 0, .int .i64 0, .int .i64 0, .int .i64 0, .int .i64 0, .int .u32 0, .int .i64 0, .int .i64 0, .int .i64 0, .int .i64 0, .int .u32 0] 3 (Nat.le_refl _) (by unfold maxLen; omega) rfl
  simpa [OwnK] using h)
 go_enter Tryz.func47, Tryz.ntmps47
 go_wp2_with (at_builtin; go_loud (refine wpList_appK rfl (.tmp 5) (.tmp 7) 45 rfl w.heap.size 70 i0 _ 5 40 Tryz.underlying45 hi hz0 hz1 hz2 rfl (by omega) (some ⟨w.heap.size, 0, none⟩) 3 3 [.int .i64 0, .int .i64 0, .int .i64 0, .int .i64 0, .int .u32 0, .int .i64 0, .int .i64 0, .int .i64 0, .int .i64 0, .int .u32 0, .int .i64 0, .int .i64 0, .int .i64 0, .int .i64 0, .int .u32 0] rfl (HO.out.same ((Same.refl _).alloc _)) _ 1 1 [.int .i64 21, .int .i64 0, .int .i64 0, .int .i64 0, .int .u32 0] rfl rfl (row_new2 _ _ _ _) ?c2 (by omega) (by omega) (by simp; omega) ?_))
 case c2 => intro u hu; simp only [List.mem_cons, List.not_mem_nil, or_false] at hu; rcases hu with rfl | rfl | rfl | rfl | rfl <;> rfl
 intro A2 c2 w2 ho2 hc2
 have HS2 := Lib.hid (Same.more (((Same.refl w).alloc _).alloc _) hc2 fun g hg => by
  have hg : w.heap.size = g := by
   first
    | exact hg
    | (have hg : (some ⟨w.heap.size, 0, none⟩ : Option Addr) = some ⟨g, 0, none⟩ := hg
       injection hg with hg
       injection hg)
  omega)
 have HO2 := Lib.hid ho2
 clear ho2 hc2
 go_wp2_with fail
 go_ret
 exact codeP_mk (l := c4) rfl (code_row (by intro x hx; simp only [c4, List.mem_cons, List.not_mem_nil, or_false] at hx; rcases hx with rfl | rfl | rfl | rfl <;> decide) HO2.out.row) HS2.out
set_option maxRecDepth 100000 in
theorem code5_any (w : World) : Calls Tryz.prog 47 #[.int .i64 5] w (CodeP w 5 c5) := by
 obtain ⟨i0, hi, hz0, hz1, hz2⟩ := info_parts instr_info38
 have hmk := fun W => (show (Instr.makeSlice 45 (.int .i64 4) (.int .i64 4)).run Tryz.prog W = .ok (.slice (some ⟨W.heap.size, 0, none⟩) 4 4) (W.alloc (.cells #[.int .i64 0, .int .i64 0, .int .i64 0, .int .i64 0, .int .u32 0, .int .i64 0, .int .i64 0, .int .i64 0, .int .i64 0, .int .u32 0, .int .i64 0, .int .i64 0, .int .i64 0, .int .i64 0, .int .u32 0, .int .i64 0, .int .i64 0, .int .i64 0, .int .i64 0, .int .u32 0] 70)) from by rw [← (show madeCells (Value.agg #[.int .i64 0, .int .i64 0, .int .i64 0, .int .i64 0, .int .u32 0]).cells (4 * 5) = #[.int .i64 0, .int .i64 0, .int .i64 0, .int .i64 0, .int .u32 0, .int .i64 0, .int .i64 0, .int .i64 0, .int .i64 0, .int .u32 0, .int .i64 0, .int .i64 0, .int .i64 0, .int .i64 0, .int .u32 0, .int .i64 0, .int .i64 0, .int .i64 0, .int .i64 0, .int .u32 0] by kernel_rfl)]; exact imake38 4 (by omega) W)
 have HO := Lib.hid (show OwnK (w.alloc (.cells #[.int .i64 0, .int .i64 0, .int .i64 0, .int .i64 0, .int .u32 0, .int .i64 0, .int .i64 0, .int .i64 0, .int .i64 0, .int .u32 0, .int .i64 0, .int .i64 0, .int .i64 0, .int .i64 0, .int .u32 0, .int .i64 0, .int .i64 0, .int .i64 0, .int .i64 0, .int .u32 0] 70)) w.heap.size 70 5 (some ⟨w.heap.size, 0, none⟩) 4 4 [.int .i64 0, .int .i64 0, .int .i64 0, .int .i64 0, .int .u32 0, .int .i64 0, .int .i64 0, .int .i64 0, .int .i64 0, .int .u32 0, .int .i64 0, .int .i64 0, .int .i64 0, .int .i64 0, .int .u32 0, .int .i64 0, .int .i64 0, .int .i64 0, .int .i64 0, .int .u32 0] from by
  have h := World.ownsRow_lit (base := w.heap.size) (e := 70) (size := 5) w #[.int .i64 0, .int .i64 0, .int .i64 0, .int .i64 0, .int .u32 0, .int .i64 0, .int .i64 0, .int .i64 0, .int .i64 0, .int .u32 0, .int .i64 0, .int .i64 0, .int .i64 0, .int .i64 0, .int .u32 0, .int .i64 0, .int .i64 0, .int .i64 0, .int .i64 0, .int .u32 0] 4 (Nat.le_refl _) (by unfold maxLen; omega) rfl
  simpa [OwnK] using h)
 go_enter Tryz.func47, Tryz.ntmps47
 go_wp2_with (at_builtin; go_loud (refine wpList_appK rfl (.tmp 5) (.tmp 7) 45 rfl w.heap.size 70 i0 _ 5 40 Tryz.underlying45 hi hz0 hz1 hz2 rfl (by omega) (some ⟨w.heap.size, 0, none⟩) 4 4 [.int .i64 0, .int .i64 0, .int .i64 0, .int .i64 0, .int .u32 0, .int .i64 0, .int .i64 0, .int .i64 0, .int .i64 0, .int .u32 0, .int .i64 0, .int .i64 0, .int .i64 0, .int .i64 0, .int .u32 0, .int .i64 0, .int .i64 0, .int .i64 0, .int .i64 0, .int .u32 0] rfl (HO.out.same ((Same.refl _).alloc _)) _ 1 1 [.int .i64 21, .int .i64 0, .int .i64 0, .int .i64 0, .int .u32 0] rfl rfl (row_new2 _ _ _ _) ?c2 (by omega) (by omega) (by simp; omega) ?_))
 case c2 => intro u hu; simp only [List.mem_cons, List.not_mem_nil, or_false] at hu; rcases hu with rfl | rfl | rfl | rfl | rfl <;> rfl
 intro A2 c2 w2 ho2 hc2
 have HS2 := Lib.hid (Same.more (((Same.refl w).alloc _).alloc _) hc2 fun g hg => by
  have hg : w.heap.size = g := by
   first
    | exact hg
    | (have hg : (some ⟨w.heap.size, 0, none⟩ : Option Addr) = some ⟨g, 0, none⟩ := hg
       injection hg with hg
       injection hg)
  omega)
 have HO2 := Lib.hid ho2
 clear ho2 hc2
 go_wp2_with fail
 go_ret
 exact codeP_mk (l := c5) rfl (code_row (by intro x hx; simp only [c5, List.mem_cons, List.not_mem_nil, or_false] at hx; rcases hx with rfl | rfl | rfl | rfl | rfl <;> decide) HO2.out.row) HS2.out
theorem sys38 {W : World} {a : Nat} {A4 A5 : Option Addr} {k4 k5 : Nat} (ha : Blk W a 47 #[.int .i64 1, .int .i64 2, .int .i64 10, .int .i64 0, .int .i64 10, .int .i64 1, .slice A4 4 k4, .int .i64 1, .int .i64 0, .int .i64 40, .int .i64 0, .int .i64 40, .int .i64 1, .slice A5 5 k5]) (h4 : Im.Code W A4 c4) (h5 : Im.Code W A5 c5) : SysAt W (some ⟨a, 0, none⟩) 2 none 0 s38 := by
 refine ⟨rfl, rfl, ?_, fun i p h => by cases h⟩
 intro i p hp
 rcases i with _ | _ | i
 ·obtain rfl : (⟨1, 2, 10, 0, 10, 1, c4⟩ : PT) = p := Option.some.inj hp
  refine ⟨a, 0, rfl, A4, k4, fun j v hv => ?_, h4, by decide⟩
  have := ha.cell j
  rw [show 0 + 0 * 7 + j = j by omega, this, List.getElem?_toArray]
  rcases j with _ | _ | _ | _ | _ | _ | _ | j
  all_goals first | exact hv | (simp [tcells] at hv)
 ·obtain rfl : (⟨1, 0, 40, 0, 40, 1, c5⟩ : PT) = p := Option.some.inj hp
  refine ⟨a, 0, rfl, A5, k5, fun j v hv => ?_, h5, by decide⟩
  have := ha.cell (7 + j)
  rw [show 0 + (0 + 1) * 7 + j = 7 + j by omega, this, List.getElem?_toArray]
  rcases j with _ | _ | _ | _ | _ | _ | _ | j
  all_goals first | exact hv | (simp [tcells] at hv)
 ·cases hp
theorem few38 : (∀ p ∈ s38.ts, p.code.length ≤ 200) ∧ Sy.OFew s38.os 5000 := by
 refine ⟨fun p hp => ?_, by show ((0 : Nat) : Int) ≤ 5000; omega, fun p hp => by cases hp⟩
 simp only [s38, List.mem_cons, List.not_mem_nil, or_false] at hp
 rcases hp with rfl | rfl <;> decide
set_option maxRecDepth 100000 in
set_option maxHeartbeats 4000000 in
theorem awake38 (w : World) (hT : Is.Tabs w) : Calls Tryz.prog 22 #[] w fun e w' => e = .returned (.bool true) ∧ Same w w' := by
 have HT := Lib.hid hT
 have HIS := Lib.hid (show (Tryz.prog.info? 25).map (·.size) = some (#[.slice none 0 0, .slice none 0 0] : Array Value).size by kernel_rfl)
 clear hT
 go_enter Tryz.func22, Tryz.ntmps22
 go_wp2_with fail
 refine (code4_any _).mono ?_
 rintro e w1 ⟨A4, k4, rfl, h4, s1⟩
 have H4 := Lib.hid h4
 have S1 := Lib.hid s1
 clear h4 s1
 go_wp2_with fail
 refine (code5_any _).mono ?_
 rintro e w2 ⟨A5, k5, rfl, h5, s2⟩
 have S2 := Lib.hid (S1.out.trans s2)
 have H4 := Lib.hid (H4.out.same s2)
 have H5 := Lib.hid h5
 clear h5 s2 S1
 obtain ⟨a, ha⟩ : ∃ g, g = w2.heap.size := ⟨_, rfl⟩
 obtain ⟨w3, hw3⟩ : ∃ x, x = w2.alloc (.cells #[.int .i64 1, .int .i64 2, .int .i64 10, .int .i64 0, .int .i64 10, .int .i64 1, .slice A4 4 k4, .int .i64 1, .int .i64 0, .int .i64 40, .int .i64 0, .int .i64 40, .int .i64 1, .slice A5 5 k5] 47) := ⟨_, rfl⟩
 have s3 : Same w2 w3 := hw3 ▸ (Same.refl w2).alloc _
 have ba : Blk w3 a 47 #[.int .i64 1, .int .i64 2, .int .i64 10, .int .i64 0, .int .i64 10, .int .i64 1, .slice A4 4 k4, .int .i64 1, .int .i64 0, .int .i64 40, .int .i64 0, .int .i64 40, .int .i64 1, .slice A5 5 k5] := by rw [hw3, ha]; exact Blk.new w2 _ _
 have BN := Lib.hid (show Blk ((w2.alloc (.cells #[.int .i64 1, .int .i64 2, .int .i64 10, .int .i64 0, .int .i64 10, .int .i64 1, .slice A4 4 k4, .int .i64 1, .int .i64 0, .int .i64 40, .int .i64 0, .int .i64 40, .int .i64 1, .slice A5 5 k5] 47)).alloc (.cells #[.slice none 0 0, .slice none 0 0] 25)) (w2.heap.size + 1) 25 #[.slice none 0 0, .slice none 0 0] by
  have h := Blk.new (w2.alloc (.cells #[.int .i64 1, .int .i64 2, .int .i64 10, .int .i64 0, .int .i64 10, .int .i64 1, .slice A4 4 k4, .int .i64 1, .int .i64 0, .int .i64 40, .int .i64 0, .int .i64 40, .int .i64 1, .slice A5 5 k5] 47)) 25 #[.slice none 0 0, .slice none 0 0]
  rwa [World.size_alloc] at h)
 have HA := Lib.hid ha
 have HW3 := Lib.hid hw3
 have BA := Lib.hid ba
 have S3 := Lib.hid (S2.out.trans s3)
 have H4 := Lib.hid (H4.out.same s3)
 have H5 := Lib.hid (H5.out.same s3)
 clear ha hw3 s3 ba S2
 go_upto_region 3 with (first | (refine wpList_store_row rfl 25 (.tmp 2) (.tmp 14) rfl (w2.heap.size + 1) #[.slice (some ⟨w2.heap.size, 0, none⟩) 2 2, .slice none 0 0] rfl rfl 25 #[.slice none 0 0, .slice none 0 0] BN.out HIS.out rfl (by simp [Value.oneCell']) ?_))
 rw [← HA.out, ← HW3.out]
 obtain ⟨q, hq⟩ : ∃ g, g = a + 1 := ⟨_, rfl⟩
 obtain ⟨w4, hw4⟩ : ∃ x, x = World.setRow (w3.alloc (.cells #[.slice none 0 0, .slice none 0 0] 25)) q #[.slice (some ⟨a, 0, none⟩) 2 2, .slice none 0 0] := ⟨_, rfl⟩
 have BN3 : Blk (w3.alloc (.cells #[.slice none 0 0, .slice none 0 0] 25)) q 25 #[.slice none 0 0, .slice none 0 0] := by rw [HW3.out, hq, HA.out]; exact BN.out
 have s4 : Same w3 w4 := by
  rw [hw4]
  refine Dm.chgRow ((Same.refl w3).alloc _) (.inr ?_) _
  rw [hq, HA.out, HW3.out, World.size_alloc]
  exact Nat.le_refl _
 have BQ := Lib.hid (show Blk w4 q 25 #[.slice (some ⟨a, 0, none⟩) 2 2, .slice none 0 0] by rw [hw4]; exact Dm.rowb BN3)
 rw [← hq, ← hw4]
 have AL := Lib.hid (all_any (some ⟨a, 0, none⟩) none 2 2 0 0 s38 (fun o ho => by cases ho) w4 (sys38 (BA.out.same s4) (H4.out.same s4) (H5.out.same s4)) ⟨by omega, Nat.zero_le _⟩ few38.1 few38.2 (HT.out.same (S3.out.trans s4)))
 unfold AllP at AL
 rw [s38_all] at AL
 have S4 := Lib.hid (S3.out.trans s4)
 obtain ⟨c0, c1⟩ := (⟨BQ.out.cell 0, BQ.out.cell 1⟩ : _ ∧ _)
 simp only [Ws.q_] at c0 c1
 clear hq hw4 BN3 s4 BN H4 H5 BA HA HW3
 go_wp2_with fail
 refine AL.out.mono ?_
 rintro e w5 ⟨A1, n1, k1, A2, n2, k2, rfl, r1, hn1, r2, hn2, s5⟩
 subst hn1 hn2
 have S5 := Lib.hid (S4.out.trans s5)
 have sa : Same w5 (w5.alloc (.cells #[.int .i64 4, .int .i64 9] 3)) := (Same.refl w5).alloc _
 have I1 := Lib.hid (Fw.ints_eq A1 (some ⟨w5.heap.size, 0, none⟩) 2 2 k1 2 [4, 9] [4, 9] (w5.alloc (.cells #[.int .i64 4, .int .i64 9] 3)) rfl rfl (r1.same sa) (row_new _ _ _) (by omega) (by omega))
 have R2 := Lib.hid (fun W (h : Same w5 W) => r2.same h)
 have SA := Lib.hid sa
 clear s5 sa r1 r2 AL c0 c1 S4
 go_wp2_with fail
 refine I1.out.mono ?_
 rintro e w6 ⟨rfl, k6, rfl⟩
 have s6 : Same w5 ((w5.alloc (.cells #[.int .i64 4, .int .i64 9] 3)).drewN k6) := SA.out.drewN k6
 generalize (w5.alloc (.cells #[.int .i64 4, .int .i64 9] 3)).drewN k6 = w7 at *
 have I2 := Lib.hid (Fw.ints_eq A2 (some ⟨w7.heap.size, 0, none⟩) 2 2 k2 2 [4, 5] [4, 5] (w7.alloc (.cells #[.int .i64 4, .int .i64 5] 3)) rfl rfl (R2.out _ (s6.alloc _)) (row_new _ _ _) (by omega) (by omega))
 have S7 := Lib.hid (S5.out.trans (s6.alloc (.cells #[.int .i64 4, .int .i64 5] 3)))
 clear s6 I1 SA R2 S5
 go_wp2_with fail
 refine I2.out.mono ?_
 rintro e w8 ⟨rfl, k8, rfl⟩
 go_wp2_with fail
 go_ret
 exact ⟨rfl, S7.out.drewN k8⟩
end Go.Proofs.YthhbhbfkbncegaaGreatDoor.Rt
end
section
section
section
section
set_option linter.unusedVariables false
set_option linter.unusedSimpArgs false
namespace Go.Proofs.YthhbhbfkbncegaaGreatDoor.Sl
open Go.ChangeShapes Go.WideShapes Go.ChangeAt Go.RowKit Ws
open Im (PT PO PS TsAt OsAt SysAt tcells ocells)
end Go.Proofs.YthhbhbfkbncegaaGreatDoor.Sl
end
section
set_option linter.unusedVariables false
set_option linter.unusedSimpArgs false
namespace Go.Proofs.YthhbhbfkbncegaaGreatDoor.Sl
open Go.ChangeShapes Go.WideShapes Go.ChangeAt Go.RowKit Ws
open Im (PT PO PS TsAt OsAt SysAt tcells ocells)
end Go.Proofs.YthhbhbfkbncegaaGreatDoor.Sl
end
end
section
set_option linter.unusedSimpArgs false
set_option linter.unusedVariables false
namespace Go.Proofs.YthhbhbfkbncegaaGreatDoor.Sl
open Im (PT PO PS TsAt OsAt SysAt)
theorem few_wid {os : List PO} {N : Int} (h : Sy.OFew os N) (hN : N ≤ 5000) : Sy.OFew os 5000 := ⟨Int.le_trans h.1 hN, h.2⟩
end Go.Proofs.YthhbhbfkbncegaaGreatDoor.Sl
end
end
section
set_option linter.unusedVariables false
set_option linter.unusedSimpArgs false
namespace Go.Proofs.YthhbhbfkbncegaaGreatDoor.Rt
open Go.ChangeShapes Go.WideShapes Go.ChangeAt Go.RowKit Ws
open Im (PT PO PS TsAt OsAt SysAt tcells ocells)
open Go.Proofs.YthhbhbfkbncegaaGreatDoor.Wd (ret_bool ret_int addv mulv ceilv)
open Sl (jobC jobR jobI rcells)
theorem all_len {s : PS} : ∀ (l : List Nat) (rs cs : List Int), (allS s l rs cs).1.length ≤ rs.length ∧ (allS s l rs cs).2.1.length ≤ cs.length
 | [], rs, cs => ⟨Nat.le_refl _, Nat.le_refl _⟩
 | i :: l, rs, cs => by
  by_cases h : (respI s i cs).2 = 0
  ·rw [all_ok h]
   have := all_len (s := s) l (rs.set i (respI s i cs).1) (cs.set i (jobI s i (respI s i cs).1))
   rwa [List.length_set, List.length_set] at this
  ·rw [all_bad h]
   exact ⟨Nat.zero_le _, Nat.zero_le _⟩
set_option maxRecDepth 100000 in
set_option maxHeartbeats 8000000 in
theorem all_walk (A B : Option Addr) (n c m d : Nat) (s : PS) (w : World) (hs : SysAt w A n B m s) (hwf : Im.SysWg s) (hnm : n ≤ maxLen ∧ m ≤ maxLen) (hT : Is.Tabs w) :
 Calls Tryz.prog 8 #[.agg #[.slice A n c, .slice B m d]] w fun e w' => e = .returned (.bool true) ∧ Same w w' := by
 obtain ⟨w0, hw0⟩ : ∃ w0, w0 = w.alloc (.cells #[.slice A n c, .slice B m d] 25) := ⟨_, rfl⟩
 obtain ⟨g, hg⟩ : ∃ g, g = w.heap.size := ⟨_, rfl⟩
 have s0 : Same w w0 := hw0 ▸ (Same.refl w).alloc _
 have b0 : Blk w0 g 25 #[.slice A n c, .slice B m d] := by rw [hw0, hg]; exact Blk.new w _ _
 have HE0 := Lib.hid hw0
 have HG := Lib.hid hg
 have S0 := Lib.hid s0
 obtain ⟨c0, c1⟩ := (⟨b0.cell 0, b0.cell 1⟩ : _ ∧ _)
 simp only [Ws.q_] at c0 c1
 have B0 := Lib.hid b0
 have FE := Lib.hid (Sy.few31 A B n c m d s 20 w0 (hs.same S0.out) hnm)
 have HS := Lib.hid (hs.same S0.out)
 have HT := Lib.hid (hT.same S0.out)
 clear hw0 hg s0 b0 hs hT
 go_enter Tryz.func8, Tryz.ntmps8
 go_upto_region 1 with fail
 rw [← HE0.out, ← HG.out]
 clear HE0 HG
 go_wp2_with fail
 refine FE.out.mono ?_
 rintro e wf ⟨⟨bf, rfl, hbf⟩, sf⟩
 have SF := Lib.hid sf
 have AW := Lib.hid (fun W (h : Same wf W) => awake38 W (HT.out.same (sf.trans h)))
 have HT := Lib.hid (HT.out.same sf)
 have HS := Lib.hid (HS.out.same sf)
 have B0 := Lib.hid (B0.out.same sf)
 have c0 := sf.cell c0
 have c1 := sf.cell c1
 clear sf FE
 cases bf with
 | false =>
  clear hbf
  go_wp2_with fail
  refine (AW.out _ (Same.refl _)).mono ?_
  rintro e w3 ⟨rfl, s3⟩
  go_wp2_with fail
  go_ret
  exact ⟨rfl, S0.out.trans (SF.out.trans s3)⟩
 | true =>
  obtain ⟨hft, hfo⟩ := hbf rfl
  have hf : ∀ p ∈ s.ts, p.code.length ≤ 200 := hft.2
  have ho := Sl.few_wid hfo (by omega)
  have hsl := hwf.sl
  have hn1 : n ≤ 1000 ∧ m ≤ maxLen := ⟨by have := hft.1; rw [HS.out.hn] at this; omega, hnm.2⟩
  have hnb : (n : Int) ≤ 9223372036854775807 := by omega
  have RS := Lib.hid (fun W (h : Same wf W) => all_any A B n c m d s hsl W (HS.out.same h) hn1 hf ho (HT.out.same h))
  have RR := Lib.hid (fun W (h : Same wf W) => rall_any A B n c m d s hsl W (HS.out.same h) hn1 hf ho)
  have HXB := Lib.hid (show (allI s).1.length ≤ 1000 ∧ (allI s).2.1.length ≤ 1000 by
   have h := all_len (s := s) (Od.ordL (s.ts.map fun t => t.prio)) (zerosL s.ts.length) (zerosL s.ts.length)
   have e : (zerosL s.ts.length).length ≤ 1000 := by unfold zerosL; rw [List.length_replicate, HS.out.hn]; exact hn1.1
   exact ⟨Nat.le_trans h.1 e, Nat.le_trans h.2 e⟩)
  unfold AllP at RS RR
  clear hbf hft hfo hf ho hsl hn1
  generalize (allI s).1 = xs at *
  generalize (allI s).2.1 = ys at *
  generalize (allI s).2.2.1 = x1 at *
  generalize (allI s).2.2.2 = x2 at *
  have ex1 : (x1 == x1) = true := by simp
  have ex2 : (x2 == x2) = true := by simp
  go_wp2_with fail
  go_loopg [20] n (fun gk iv wx => ∃ j : Nat, j + gk = n ∧ iv = .int .i64 (j : Int) ∧ Same wf wx)
  case atStart => exact ⟨0, by omega, rfl, Same.refl _⟩
  case round =>
   obtain ⟨j, hk, rfl, sx⟩ := hrel
   have HSX := Lib.hid sx
   cases gk with
   | zero =>
    obtain rfl : j = n := by omega
    have hge : ¬ (j : Int) < (j : Int) := by omega
    have c0 := sx.cell c0
    have c1 := sx.cell c1
    clear sx
    go_wp2_with fail
    refine (RS.out _ HSX.out).mono ?_
    rintro e w5 ⟨A1, n1, k1, A2, n2, k2, rfl, r1, l1, r2, l2, s5⟩
    have HS5 := Lib.hid (HSX.out.trans s5)
    have c0 := s5.cell c0
    have c1 := s5.cell c1
    have HR1 := Lib.hid r1
    have HR2 := Lib.hid r2
    have HL1 := Lib.hid l1
    have HL2 := Lib.hid l2
    clear s5 r1 r2 l1 l2
    go_wp2_with fail
    refine (RR.out _ HS5.out).mono ?_
    rintro e w6 ⟨A3, n3, k3, A4, n4, k4, rfl, r3, l3, r4, l4, s6⟩
    have HS6 := Lib.hid (HS5.out.trans s6)
    have HI1 := Lib.hid (Fw.ints_eq A1 A3 n1 n3 k1 k3 xs xs w6 HL1.out l3 (HR1.out.same s6) r3 (by have := HXB.out; have := HL1.out; omega) (by have := HXB.out; omega))
    have HI2 := Lib.hid (fun W (h : Same w6 W) => Fw.ints_eq A2 A4 n2 n4 k2 k4 ys ys W HL2.out l4 ((HR2.out.same s6).same h) (r4.same h) (by have := HXB.out; have := HL2.out; omega) (by have := HXB.out; omega))
    clear s6 RR RS HR1 HR2 r3 r4 l3 l4 HL1 HL2
    have dx : decide (xs = xs) = true := decide_eq_true rfl
    have dy : decide (ys = ys) = true := decide_eq_true rfl
    rw [dx] at HI1
    rw [dy] at HI2
    clear dx dy
    go_wp2_with fail
    refine HI1.out.mono ?_
    rintro e w7 ⟨rfl, k7, rfl⟩
    have s7 := (Same.refl w6).drewN k7
    have HI2' := Lib.hid (HI2.out _ s7)
    have HS7 := Lib.hid (HS6.out.trans s7)
    generalize w6.drewN k7 = w7 at *
    clear s7 HI2 HI1
    go_wp2_with fail
    refine HI2'.out.mono ?_
    rintro e w8 ⟨rfl, k8, rfl⟩
    have HS8 := Lib.hid (HS7.out.drewN k8)
    generalize w7.drewN k8 = w8 at *
    clear HI2'
    go_wp2_with fail
    refine (AW.out _ HS8.out).mono ?_
    rintro e w9 ⟨rfl, s9⟩
    go_wp2_with fail
    go_ret
    exact ⟨rfl, S0.out.trans (SF.out.trans (HS8.out.trans s9))⟩
   | succ GK =>
    have hlt : (j : Int) < n := by omega
    have hj0 : (0 : Int) ≤ j := by omega
    have HKK := Lib.hid hk
    obtain ⟨p, hp⟩ : ∃ p, s.ts[j]? = some p := ⟨s.ts[j]'(by have := HS.out.hn; omega), List.getElem?_eq_getElem _⟩
    obtain ⟨bA, oA, rfl, X, cX, t0, t1, t2, t3, t4, t5, t6, _⟩ := (HS.out.ht.same sx).at_ hp
    have HQ4 := Lib.hid (Blk.new wr 47 #[.int .i64 p.kind, .int .i64 p.prio, .int .i64 p.per, .int .i64 p.off, .int .i64 p.dl, .int .i64 p.own, .slice X p.code.length cX])
    have HX4 := Lib.hid (HSX.out.alloc (.cells #[.int .i64 p.kind, .int .i64 p.prio, .int .i64 p.per, .int .i64 p.off, .int .i64 p.dl, .int .i64 p.own, .slice X p.code.length cX] 47))
    clear sx hk hp c0 c1
    go_upto_region 6 with fail
    generalize wr.alloc (.cells #[.int .i64 p.kind, .int .i64 p.prio, .int .i64 p.per, .int .i64 p.off, .int .i64 p.dl, .int .i64 p.own, .slice X p.code.length cX] 47) = w4 at *
    generalize wr.heap.size = q4 at *
    have z4 := HQ4.out.cell 4
    simp only [Ws.q_] at z4
    clear t0 t1 t2 t3 t4 t5 t6
    by_cases hd : p.dl > 400
    ·have gd : decide ((400 : Int) < p.dl) = true := decide_eq_true hd
     clear hd
     go_wp2_with fail
     refine (AW.out _ HX4.out).mono ?_
     rintro e w5 ⟨rfl, s5⟩
     go_wp2_with fail
     go_ret
     exact ⟨rfl, S0.out.trans (SF.out.trans (HX4.out.trans s5))⟩
    ·have gd : decide ((400 : Int) < p.dl) = false := decide_eq_false hd
     clear hd
     go_wp2_with fail
     go_roundg GK
     case rel => exact ⟨j + 1, by have := HKK.out; omega, by go_num, HX4.out⟩
     case measure => omega
end Go.Proofs.YthhbhbfkbncegaaGreatDoor.Rt
end
end
end
end
end
end
end
end
