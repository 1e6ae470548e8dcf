/-

 The law SizeEnough.
-/
import Derived.Test.YthhbhbfkbncegabGreatDoorSplSpec
import Derived.Test.YthhbhbfkbncegabGreatDoorSplOf
import Derived.Test.YthhbhbfkbncegabGreatDoorSplUse
import Derived.Test.YthhbhbfkbncegabGreatDoorRowInt
import Derived.Test.YthhbhbfkbncegabGreatDoorSysFew
import Derived.Test.YthhbhbfkbncegabGreatDoorWordsK
import Derived.Test.YthhbhbfkbncegabGreatDoorCstWeigh
import Derived.Test.YthhbhbfkbncegabGreatDoorRefFlow
import Derived.Test.YthhbhbfkbncegabGreatDoorCstRnext
import Derived.Test.YthhbhbfkbncegabGreatDoorCstMost
import Derived.Test.YthhbhbfkbncegabGreatDoorDmdRd
import Derived.Test.YthhbhbfkbncegabGreatDoorSplRahead
import Derived.Test.YthhbhbfkbncegabGreatDoorRegionOff
import Derived.Test.YthhbhbfkbncegabGreatDoorSysIn3
section
section
set_option linter.unusedVariables false
set_option linter.unusedSimpArgs false
namespace Go.Proofs.YthhbhbfkbncegabGreatDoor.Sl
open Go.ChangeShapes Go.WideShapes Go.ChangeAt Go.RowKit Ws
open Im (PT PO PS TsAt OsAt SysAt tcells ocells)
end Go.Proofs.YthhbhbfkbncegabGreatDoor.Sl
end
section
set_option linter.unusedVariables false
set_option linter.unusedSimpArgs false
namespace Go.Proofs.YthhbhbfkbncegabGreatDoor.Sl
open Go.ChangeShapes Go.WideShapes Go.ChangeAt Go.RowKit Ws
open Im (PT PO PS TsAt OsAt SysAt tcells ocells)
def pairS (o : PO) : PS := ⟨[⟨1, 1, 10, 0, 10, 2, [⟨18, 0, 0, 0, 0⟩, ⟨21, 0, 0, 0, 0⟩]⟩, ⟨1, 0, 40, 0, 40, 2, [⟨17, 0, 0, 0, 0⟩, ⟨21, 0, 0, 0, 0⟩]⟩], [o]⟩
theorem sys_pair {W : World} {a b cw cr : Nat} {o : PO} {X Y : Option Addr} {co do_ : Nat} (ha : Blk W a 30 #[.int .i64 1, .int .i64 1, .int .i64 10, .int .i64 0, .int .i64 10, .int .i64 2, .slice (some ⟨cw, 0, none⟩) 2 2, .int .i64 1, .int .i64 0, .int .i64 40, .int .i64 0, .int .i64 40, .int .i64 2, .slice (some ⟨cr, 0, none⟩) 2 2]) (hw : Blk W cw 49 #[.int .i64 18, .int .i64 0, .int .i64 0, .int .i64 0, .int .u32 0, .int .i64 21, .int .i64 0, .int .i64 0, .int .i64 0, .int .u32 0]) (hr : Blk W cr 49 #[.int .i64 17, .int .i64 0, .int .i64 0, .int .i64 0, .int .u32 0, .int .i64 21, .int .i64 0, .int .i64 0, .int .i64 0, .int .u32 0]) (hb : Blk W b 43 (ocells o X co Y do_).toArray)
 (hsa : 0 ≤ o.sa ∧ o.sa < 4294967296) (hX : Row W X (o.ini.map (Value.int .u32))) (hini : ∀ y ∈ o.ini, 0 ≤ y ∧ y < 4294967296) (hY : Row W Y (o.rd.map (Value.int .i64))) (hl : o.ini.length ≤ maxLen ∧ o.rd.length ≤ maxLen) : SysAt W (some ⟨a, 0, none⟩) 2 (some ⟨b, 0, none⟩) 1 (pairS o) := by
 refine ⟨rfl, rfl, ?_, ?_⟩
 ·intro i p hp
  rcases i with _ | _ | i
  ·have hp' : p = ⟨1, 1, 10, 0, 10, 2, [⟨18, 0, 0, 0, 0⟩, ⟨21, 0, 0, 0, 0⟩]⟩ := (Option.some.inj hp).symm
   subst hp'
   refine ⟨a, 0, rfl, some ⟨cw, 0, none⟩, 2, fun j y hj => ?_, ?_, by unfold maxLen; simp⟩
   ·have := ha.cell j
    rw [show 0 + 0 * 7 + j = j by omega, this, List.getElem?_toArray]
    rcases j with _ | _ | _ | _ | _ | _ | _ | j
    all_goals first | exact hj | (simp [tcells] at hj)
   ·intro k x hx
    rcases k with _ | _ | k
    ·have hx' : x = ⟨18, 0, 0, 0, 0⟩ := (Option.some.inj hx).symm
     subst hx'
     refine ⟨by decide, cw, 0, rfl, fun j y hj => ?_⟩
     have := hw.cell j
     rw [show 0 + 0 * 5 + j = j by omega, this, List.getElem?_toArray]
     rcases j with _ | _ | _ | _ | _ | j
     all_goals first | exact hj | (simp [Im.icells] at hj)
    ·have hx' : x = ⟨21, 0, 0, 0, 0⟩ := (Option.some.inj hx).symm
     subst hx'
     refine ⟨by decide, cw, 0, rfl, fun j y hj => ?_⟩
     have := hw.cell (5 + j)
     rw [show 0 + (0 + 1) * 5 + j = 5 + j by omega, this, List.getElem?_toArray]
     rcases j with _ | _ | _ | _ | _ | j
     all_goals first | exact hj | (simp [Im.icells] at hj)
    ·cases hx
  ·have hp' : p = ⟨1, 0, 40, 0, 40, 2, [⟨17, 0, 0, 0, 0⟩, ⟨21, 0, 0, 0, 0⟩]⟩ := (Option.some.inj hp).symm
   subst hp'
   refine ⟨a, 0, rfl, some ⟨cr, 0, none⟩, 2, fun j y hj => ?_, ?_, by unfold maxLen; simp⟩
   ·have := ha.cell (7 + j)
    rw [show 0 + (0 + 1) * 7 + j = 7 + j by omega, this, List.getElem?_toArray]
    rcases j with _ | _ | _ | _ | _ | _ | _ | j
    all_goals first | exact hj | (simp [tcells] at hj)
   ·intro k x hx
    rcases k with _ | _ | k
    ·have hx' : x = ⟨17, 0, 0, 0, 0⟩ := (Option.some.inj hx).symm
     subst hx'
     refine ⟨by decide, cr, 0, rfl, fun j y hj => ?_⟩
     have := hr.cell j
     rw [show 0 + 0 * 5 + j = j by omega, this, List.getElem?_toArray]
     rcases j with _ | _ | _ | _ | _ | j
     all_goals first | exact hj | (simp [Im.icells] at hj)
    ·have hx' : x = ⟨21, 0, 0, 0, 0⟩ := (Option.some.inj hx).symm
     subst hx'
     refine ⟨by decide, cr, 0, rfl, fun j y hj => ?_⟩
     have := hr.cell (5 + j)
     rw [show 0 + (0 + 1) * 5 + j = 5 + j by omega, this, List.getElem?_toArray]
     rcases j with _ | _ | _ | _ | _ | j
     all_goals first | exact hj | (simp [Im.icells] at hj)
    ·cases hx
  ·cases hp
 ·intro i p hp
  cases i with
  | succ i => cases hp
  | zero =>
   obtain rfl : o = p := Option.some.inj hp
   refine ⟨b, 0, rfl, X, co, Y, do_, fun j y hj => ?_, hsa, hX, hini, hY, hl.1, hl.2⟩
   have := hb.cell j
   rw [show 0 + 0 * 8 + j = j by omega, this, List.getElem?_toArray]
   exact hj
end Go.Proofs.YthhbhbfkbncegabGreatDoor.Sl
end
end
section
section
set_option linter.unusedVariables false
set_option linter.unusedSimpArgs false
namespace Go.Proofs.YthhbhbfkbncegabGreatDoor.Sl
open Go.ChangeShapes Go.WideShapes Go.ChangeAt Go.RowKit Ws
open Im (PT PO PS TsAt OsAt SysAt tcells ocells)
theorem of_sl {s : PS} {i k : Int} (h : ∀ o ∈ s.os, o.sl ≤ 9223372036854775807) : (ofR s i k).sl ≤ 9223372036854775807 := by
 cases g : readsP s i k with
 | false => rw [of_no g]; decide
 | true =>
  rw [(of_k g).2.1]
  unfold obj
  rw [List.getD_eq_getElem?_getD]
  cases e : s.os[k.toNat]? with
  | none => decide
  | some o => exact h o (List.mem_of_getElem? e)
set_option maxRecDepth 100000 in
theorem iwrites_any (A B : Option Addr) (n c m d : Nat) (s : PS) (i k : Int) (r : Int) (br : -9223372036854775808 ≤ r ∧ r ≤ 9223372036854775807) (w : World) (hs : SysAt w A n B m s) (hnm : n ≤ maxLen ∧ m ≤ maxLen) (hf : ∀ p ∈ s.ts, p.code.length ≤ 200) (ho : Sy.OFew s.os 5000) (hT : Is.Tabs w) :
 Calls Tryz.prog 33 #[.agg #[.slice A n c, .slice B m d], .int .i64 i, .int .i64 k, .int .i64 r] w fun e w' => e = .returned (.int .i64 (wrR (ofR s i k) r)) ∧ Same w w' := by
 obtain ⟨w0, hw0⟩ : ∃ w0, w0 = w.alloc (.cells #[.slice A n c, .slice B m d] 25) := ⟨_, rfl⟩
 obtain ⟨g, hg⟩ : ∃ g, g = w.heap.size := ⟨_, rfl⟩
 have s0 : Same w w0 := hw0 ▸ (Same.refl w).alloc _
 have b0 : Blk w0 g 25 #[.slice A n c, .slice B m d] := by rw [hw0, hg]; exact Blk.new w _ _
 have HE0 := Lib.hid hw0
 have HG := Lib.hid hg
 have S0 := Lib.hid s0
 obtain ⟨c0, c1⟩ := (⟨b0.cell 0, b0.cell 1⟩ : _ ∧ _)
 simp only [Ws.q_] at c0 c1
 have OF := Lib.hid (of_any A B n c m d s i k w0 (hs.same s0) hnm hf ho (hT.same s0))
 have LM := Lib.hid (fun W => writes_sp (ofR s i k) r br W)
 clear hw0 hg s0 b0 hs hT hf ho
 generalize (rcells (ofR s i k)).toArray = rc at *
 go_enter Tryz.func33, Tryz.ntmps33
 go_upto_region 1 with fail
 rw [← HE0.out, ← HG.out]
 clear HE0 HG
 go_wp2_with fail
 refine OF.out.mono ?_
 rintro e w1 ⟨rfl, s1⟩
 go_wp2_with fail
 refine (LM.out _).mono ?_
 rintro e w2 ⟨rfl, s2⟩
 go_wp2_with fail
 go_ret
 exact ⟨rfl, S0.out.trans (s1.trans s2)⟩
set_option maxRecDepth 100000 in
theorem ifails_any (A B : Option Addr) (n c m d : Nat) (s : PS) (i k : Int) (r : Int) (br : -9223372036854775808 ≤ r ∧ r ≤ 9223372036854775807) (hsl : ∀ o ∈ s.os, o.sl ≤ 9223372036854775807) (w : World) (hs : SysAt w A n B m s) (hnm : n ≤ maxLen ∧ m ≤ maxLen) (hf : ∀ p ∈ s.ts, p.code.length ≤ 200) (ho : Sy.OFew s.os 5000) (hT : Is.Tabs w) :
 Calls Tryz.prog 18 #[.agg #[.slice A n c, .slice B m d], .int .i64 i, .int .i64 k, .int .i64 r] w fun e w' => e = .returned (.int .i64 (flR (ofR s i k) r)) ∧ Same w w' := by
 obtain ⟨w0, hw0⟩ : ∃ w0, w0 = w.alloc (.cells #[.slice A n c, .slice B m d] 25) := ⟨_, rfl⟩
 obtain ⟨g, hg⟩ : ∃ g, g = w.heap.size := ⟨_, rfl⟩
 have s0 : Same w w0 := hw0 ▸ (Same.refl w).alloc _
 have b0 : Blk w0 g 25 #[.slice A n c, .slice B m d] := by rw [hw0, hg]; exact Blk.new w _ _
 have HE0 := Lib.hid hw0
 have HG := Lib.hid hg
 have S0 := Lib.hid s0
 obtain ⟨c0, c1⟩ := (⟨b0.cell 0, b0.cell 1⟩ : _ ∧ _)
 simp only [Ws.q_] at c0 c1
 have OF := Lib.hid (of_any A B n c m d s i k w0 (hs.same s0) hnm hf ho (hT.same s0))
 have LM := Lib.hid (fun W => fails_sp (ofR s i k) r (of_sl hsl) br W)
 clear hw0 hg s0 b0 hs hT hf ho
 generalize (rcells (ofR s i k)).toArray = rc at *
 go_enter Tryz.func18, Tryz.ntmps18
 go_upto_region 1 with fail
 rw [← HE0.out, ← HG.out]
 clear HE0 HG
 go_wp2_with fail
 refine OF.out.mono ?_
 rintro e w1 ⟨rfl, s1⟩
 go_wp2_with fail
 refine (LM.out _).mono ?_
 rintro e w2 ⟨rfl, s2⟩
 go_wp2_with fail
 go_ret
 exact ⟨rfl, S0.out.trans (s1.trans s2)⟩
end Go.Proofs.YthhbhbfkbncegabGreatDoor.Sl
end
section
section
set_option linter.unusedVariables false
set_option linter.unusedSimpArgs false
namespace Go.Proofs.YthhbhbfkbncegabGreatDoor.Sz
open Go.ChangeShapes Go.WideShapes Go.ChangeAt Go.RowKit Ws
open Im (PT PO PS TsAt OsAt SysAt tcells ocells)
open Go.Proofs.YthhbhbfkbncegabGreatDoor.Wd (ret_bool ret_int)
open Sl (ofR wrR flR obj)
def mostL (f : Int → Int) (l : List Int) : Int := l.foldl (fun n i => max n (f i)) 0
theorem mostL_take {f : Int → Int} {l : List Int} {k : Nat} {x : Int} (h : l[k]? = some x) : mostL f (l.take (k + 1)) = max (mostL f (l.take k)) (f x) := by
 unfold mostL
 rw [List.take_add_one, h, List.foldl_append]
 rfl
theorem mostG_bd {f : Int → Int} (hf : ∀ i, 0 ≤ f i ∧ f i ≤ 1099511627776) : ∀ (l : List Int) (x : Int), 0 ≤ x ∧ x ≤ 1099511627776 → 0 ≤ l.foldl (fun n i => max n (f i)) x ∧ l.foldl (fun n i => max n (f i)) x ≤ 1099511627776
 | [], x, h => h
 | y :: l, x, h => mostG_bd hf l _ (by have := hf y; show 0 ≤ max x (f y) ∧ max x (f y) ≤ 1099511627776; omega)
theorem mostL_bd {f : Int → Int} (hf : ∀ i, 0 ≤ f i ∧ f i ≤ 1099511627776) (l : List Int) : 0 ≤ mostL f l ∧ mostL f l ≤ 1099511627776 := mostG_bd hf l 0 (by omega)
theorem mostG_le {f : Int → Int} : ∀ (l : List Int) (x : Int), x ≤ l.foldl (fun n i => max n (f i)) x ∧ ∀ i ∈ l, f i ≤ l.foldl (fun n i => max n (f i)) x
 | [], x => ⟨Int.le_refl _, fun i h => by cases h⟩
 | y :: l, x => by
  obtain ⟨h1, h2⟩ := mostG_le (f := f) l (max x (f y))
  refine ⟨by show x ≤ l.foldl _ (max x (f y)); omega, fun i hi => ?_⟩
  rcases List.mem_cons.1 hi with rfl | hi
  ·show f i ≤ l.foldl _ (max x (f i)); omega
  ·exact h2 i hi
theorem mostL_le {f : Int → Int} {l : List Int} {i : Int} (h : i ∈ l) : f i ≤ mostL f l := (mostG_le l 0).2 i h
noncomputable def wrM (s : PS) (k : Int) (rs : List Int) : Int := mostL (fun i => wrR (ofR s i k) (gI rs i)) (obj s k).rd
noncomputable def flM (s : PS) (k : Int) (rs : List Int) : Int := mostL (fun i => flR (ofR s i k) (gI rs i)) (obj s k).rd
theorem wrM_bd (s : PS) (k : Int) (rs : List Int) : 0 ≤ wrM s k rs ∧ wrM s k rs ≤ 1099511627776 := mostL_bd (fun _ => Sl.wr_bd _ _) _
theorem flM_bd (s : PS) (k : Int) (rs : List Int) : 0 ≤ flM s k rs ∧ flM s k rs ≤ 1099511627776 := mostL_bd (fun _ => Sl.fl_bd _ _) _
noncomputable def slotsI (s : PS) (k : Int) (rs : List Int) : Int := if (0 ≤ k ∧ k < s.os.length) ∧ (obj s k).k = 4 then 2 + wrM s k rs else 0
noncomputable def capsI (s : PS) (k : Int) (rs : List Int) : Int := if (0 ≤ k ∧ k < s.os.length) ∧ ((obj s k).k = 3 ∨ (obj s k).k = 4 ∨ (obj s k).k = 5) then 1 + flM s k rs else 0
theorem obj_in {s : PS} {k : Nat} {o : PO} (h : s.os[k]? = some o) : obj s (k : Int) = o := by
 unfold obj
 rw [Int.toNat_natCast, List.getD_eq_getElem?_getD, h]
 rfl
end Go.Proofs.YthhbhbfkbncegabGreatDoor.Sz
end
section
section
set_option linter.unusedSimpArgs false
set_option linter.unusedVariables false
namespace Go.Proofs.YthhbhbfkbncegabGreatDoor.Sl
open Im (PT PO PS TsAt OsAt SysAt)
theorem few_wid {os : List PO} {N : Int} (h : Sy.OFew os N) (hN : N ≤ 5000) : Sy.OFew os 5000 := ⟨Int.le_trans h.1 hN, h.2⟩
theorem pair_few (o : PO) (h : o.ini.length ≤ 100 ∧ o.rd.length ≤ 100) : (∀ p ∈ (pairS o).ts, p.code.length ≤ 200) ∧ Sy.OFew (pairS o).os 5000 := by
 refine ⟨fun p hp => ?_, by show ((1 : Nat) : Int) ≤ 5000; omega, fun p hp => ?_⟩
 ·simp only [pairS, List.mem_cons, List.not_mem_nil, or_false] at hp
  rcases hp with rfl | rfl <;> decide
 ·simp only [pairS, List.mem_cons, List.not_mem_nil, or_false] at hp
  subst hp
  exact h
end Go.Proofs.YthhbhbfkbncegabGreatDoor.Sl
end
section
section
section
set_option linter.unusedVariables false
set_option linter.unusedSimpArgs false
namespace Go.Proofs.YthhbhbfkbncegabGreatDoor.Sl
open Go.ChangeShapes Go.WideShapes Go.ChangeAt Go.RowKit Ws
open Im (PT PO PS TsAt OsAt SysAt tcells ocells)
theorem code_any (op : Int) (w : World) : Calls Tryz.prog 47 #[.int .i64 op] w fun e w' => e = .returned (.slice (some ⟨w.heap.size, 0, none⟩) 2 2) ∧ w' = w.alloc (.cells #[.int .i64 op, .int .i64 0, .int .i64 0, .int .i64 0, .int .u32 0, .int .i64 21, .int .i64 0, .int .i64 0, .int .i64 0, .int .u32 0] 49) := by
 go_enter Tryz.func47, Tryz.ntmps47
 go_wp2_with fail
 go_ret
 exact ⟨rfl, rfl⟩
def PairP (w : World) (o : PO) (e : Ending) (w' : World) : Prop := ∃ a b, e = .returned (.agg #[.slice (some ⟨a, 0, none⟩) 2 2, .slice (some ⟨b, 0, none⟩) 1 1]) ∧ SysAt w' (some ⟨a, 0, none⟩) 2 (some ⟨b, 0, none⟩) 1 (pairS o) ∧ Same w w'
set_option maxRecDepth 100000 in
set_option maxHeartbeats 4000000 in
theorem pair_any (k wd sl cp sa ow : Int) (X Y : Option Addr) (il ic rl rc : Nat) (ini : List Int) (w : World) (hil : ini.length = il) (hbl : il ≤ maxLen) (hsa : 0 ≤ sa ∧ sa < 4294967296) (hX : Row w X (ini.map (Value.int .u32))) (hini : ∀ y ∈ ini, 0 ≤ y ∧ y < 4294967296) :
 Calls Tryz.prog 30 #[.agg #[.int .i64 k, .int .i64 wd, .int .i64 sl, .int .i64 cp, .int .u32 sa, .slice X il ic, .int .i64 ow, .slice Y rl rc]] w (PairP w ⟨k, wd, sl, cp, sa, 0, [1], ini⟩) := by
 obtain ⟨w0, hw0⟩ : ∃ w0, w0 = w.alloc (.cells #[.int .i64 k, .int .i64 wd, .int .i64 sl, .int .i64 cp, .int .u32 sa, .slice X il ic, .int .i64 ow, .slice Y rl rc] 43) := ⟨_, rfl⟩
 obtain ⟨q0, hq0⟩ : ∃ q0, q0 = w.heap.size := ⟨_, rfl⟩
 obtain ⟨q1, hq1⟩ : ∃ g, g = w0.heap.size := ⟨_, rfl⟩
 obtain ⟨w1, hw1⟩ : ∃ w1, w1 = w0.alloc (.cells #[.slice none 0 0, .slice none 0 0] 25) := ⟨_, rfl⟩
 have s0 : Same w w0 := hw0 ▸ (Same.refl w).alloc _
 have s1 : Same w0 w1 := hw1 ▸ (Same.refl w0).alloc _
 have b0 : Blk w0 q0 43 #[.int .i64 k, .int .i64 wd, .int .i64 sl, .int .i64 cp, .int .u32 sa, .slice X il ic, .int .i64 ow, .slice Y rl rc] := by rw [hw0, hq0]; exact Blk.new w _ _
 have b1 : Blk w1 q1 25 #[.slice none 0 0, .slice none 0 0] := by rw [hw1, hq1]; exact Blk.new w0 _ _
 have HE0 := Lib.hid hw0
 have HE1 := Lib.hid hw1
 have HQ0 := Lib.hid hq0
 have HQ1 := Lib.hid (show q0 + 1 = q1 by rw [hq1, hw0, hq0]; show _ = (w.heap.push _).size; rw [Array.size_push])
 have SM := Lib.hid (s0.trans s1)
 have HGW := Lib.hid (show w.heap.size ≤ q1 by rw [hq1]; exact s0.size)
 have BS := Lib.hid b1
 have HX := Lib.hid hX
 have HINI := Lib.hid hini
 have HIL := Lib.hid hil
 have HBL := Lib.hid hbl
 have HSA := Lib.hid hsa
 have HIT := Lib.hid (show (Tryz.prog.info? 30).map (·.size) = some (#[.int .i64 0, .int .i64 0, .int .i64 0, .int .i64 0, .int .i64 0, .int .i64 0, .slice none 0 0] : Array Value).size by kernel_rfl)
 have HIS := Lib.hid (show (Tryz.prog.info? 25).map (·.size) = some (#[.slice none 0 0, .slice none 0 0] : Array Value).size by kernel_rfl)
 obtain ⟨v, hv⟩ : ∃ v, v = w1.heap.size := ⟨_, rfl⟩
 obtain ⟨wA, hwA⟩ : ∃ x, x = w1.alloc (.cells #[.int .i64 1] 3) := ⟨_, rfl⟩
 have sA : Same w1 wA := hwA ▸ (Same.refl w1).alloc _
 have bA : Blk wA q0 43 #[.int .i64 k, .int .i64 wd, .int .i64 sl, .int .i64 cp, .int .u32 sa, .slice X il ic, .int .i64 ow, .slice Y rl rc] := (b0.same s1).same sA
 have bV : Blk wA v 3 #[.int .i64 1] := by rw [hwA, hv]; exact Blk.new w1 _ _
 have HV := Lib.hid hv
 have HA := Lib.hid hwA
 have SA := Lib.hid sA
 have BA := Lib.hid bA
 have BV := Lib.hid bV
 have B6 := Lib.hid (bA.put 6 (.int .i64 0))
 have HVQ := Lib.hid (show ¬ v = q0 from by have := (b0.same s1).lt; omega)
 have z6 := bA.cell 6
 have z7 := B6.out.cell 7
 have f6 := bA.thaw 6
 have f7 := B6.out.thaw 7
 simp only [Ws.q_] at z6
 have z7 : (wA.setCell ⟨q0, 6, none⟩ (.int .i64 0)).cell? ⟨q0, 7, none⟩ = some (.slice Y rl rc) := z7
 rw [hwA] at z6 z7 f6 f7
 clear hw0 hw1 hq0 hq1 s0 s1 b0 b1 hX hini hil hbl hsa hv hwA sA bA bV
 unfold PairP
 go_enter Tryz.func30, Tryz.ntmps30
 go_upto_region 1 with fail
 rw [← HQ0.out, HQ1.out, ← HE0.out, ← HE1.out]
 clear HE0 HE1
 go_upto_region 2 with fail
 rw [← HV.out, ← HA.out]
 obtain ⟨wB, hwB⟩ : ∃ x, x = (wA.setCell ⟨q0, 6, none⟩ (.int .i64 0)).setCell ⟨q0, 7, none⟩ (.slice (some ⟨v, 0, none⟩) 1 1) := ⟨_, rfl⟩
 have hcB : Chg (fun i => i = q0) wA wB := by rw [hwB]; exact ((Chg.refl (fun i => i = q0) wA).set (p := ⟨q0, 6, none⟩) (.inl rfl) _).set (p := ⟨q0, 7, none⟩) (.inl rfl) _
 have BO := Lib.hid (show Blk wB q0 43 #[.int .i64 k, .int .i64 wd, .int .i64 sl, .int .i64 cp, .int .u32 sa, .slice X il ic, .int .i64 0, .slice (some ⟨v, 0, none⟩) 1 1] from by rw [hwB]; exact B6.out.put 7 _)
 rw [← hwB]
 clear hwB z6 z7 f6 f7 B6 BA HA HV
 have BV := Lib.hid (BV.out.chg hcB HVQ.out)
 have BS := Lib.hid ((BS.out.same SA.out).chg hcB (by have := HQ1.out; omega))
 have SM := Lib.hid (Same.more (SM.out.trans SA.out) hcB (fun i h => by have := HQ0.out; omega))
 clear hcB SA HVQ
 go_wp2_with fail
 refine (code_any 18 _).mono ?_
 rintro e wC ⟨rfl, hwc⟩
 have SC := Lib.hid (show Same wB wC by rw [hwc]; exact (Same.refl _).alloc _)
 obtain ⟨cw, hc⟩ : ∃ g, g = wB.heap.size := ⟨_, rfl⟩
 have BCcw := Lib.hid (show Blk wC cw 49 #[.int .i64 18, .int .i64 0, .int .i64 0, .int .i64 0, .int .u32 0, .int .i64 21, .int .i64 0, .int .i64 0, .int .i64 0, .int .u32 0] by rw [hwc, hc]; exact Blk.new _ _ _)
 rw [← hc]
 clear hwc hc
 have BN := Lib.hid (Blk.new wC 30 #[.int .i64 0, .int .i64 0, .int .i64 0, .int .i64 0, .int .i64 0, .int .i64 0, .slice none 0 0])
 have SN := Lib.hid ((Same.refl wC).alloc (.cells #[.int .i64 0, .int .i64 0, .int .i64 0, .int .i64 0, .int .i64 0, .int .i64 0, .slice none 0 0] 30))
 go_upto_region 4 with (first | (refine wpList_store_row rfl 30 (.tmp 4) (.tmp 11) rfl wC.heap.size #[.int .i64 1, .int .i64 1, .int .i64 10, .int .i64 0, .int .i64 10, .int .i64 2, .slice (some ⟨cw, 0, none⟩) 2 2] rfl rfl 30 #[.int .i64 0, .int .i64 0, .int .i64 0, .int .i64 0, .int .i64 0, .int .i64 0, .slice none 0 0] BN.out HIT.out rfl (by simp [Value.oneCell']) ?_))
 obtain ⟨t1, ht⟩ : ∃ g, g = wC.heap.size := ⟨_, rfl⟩
 obtain ⟨wT, hwt⟩ : ∃ x, x = World.setRow (wC.alloc (.cells #[.int .i64 0, .int .i64 0, .int .i64 0, .int .i64 0, .int .i64 0, .int .i64 0, .slice none 0 0] 30)) t1 #[.int .i64 1, .int .i64 1, .int .i64 10, .int .i64 0, .int .i64 10, .int .i64 2, .slice (some ⟨cw, 0, none⟩) 2 2] := ⟨_, rfl⟩
 have ST := Lib.hid (show Same wC wT by rw [hwt, ht]; exact Dm.chgRow SN.out (.inr (Nat.le_refl _)) _)
 have BTt1 := Lib.hid (show Blk wT t1 30 #[.int .i64 1, .int .i64 1, .int .i64 10, .int .i64 0, .int .i64 10, .int .i64 2, .slice (some ⟨cw, 0, none⟩) 2 2] by rw [hwt, ht]; exact Dm.rowb BN.out)
 rw [← ht, ← hwt]
 clear ht hwt BN SN
 have SCT := Lib.hid (SC.out.trans ST.out)
 have BCcw := Lib.hid (BCcw.out.same ST.out)
 have SM := Lib.hid (SM.out.trans SCT.out)
 have BO := Lib.hid (BO.out.same SCT.out)
 have BV := Lib.hid (BV.out.same SCT.out)
 have BS := Lib.hid (BS.out.same SCT.out)
 clear SC ST SCT
 go_wp2_with fail
 refine (code_any 17 _).mono ?_
 rintro e wD ⟨rfl, hwc⟩
 have SC := Lib.hid (show Same wT wD by rw [hwc]; exact (Same.refl _).alloc _)
 obtain ⟨cr, hc⟩ : ∃ g, g = wT.heap.size := ⟨_, rfl⟩
 have BCcr := Lib.hid (show Blk wD cr 49 #[.int .i64 17, .int .i64 0, .int .i64 0, .int .i64 0, .int .u32 0, .int .i64 21, .int .i64 0, .int .i64 0, .int .i64 0, .int .u32 0] by rw [hwc, hc]; exact Blk.new _ _ _)
 rw [← hc]
 clear hwc hc
 have BN := Lib.hid (Blk.new wD 30 #[.int .i64 0, .int .i64 0, .int .i64 0, .int .i64 0, .int .i64 0, .int .i64 0, .slice none 0 0])
 have SN := Lib.hid ((Same.refl wD).alloc (.cells #[.int .i64 0, .int .i64 0, .int .i64 0, .int .i64 0, .int .i64 0, .int .i64 0, .slice none 0 0] 30))
 go_upto_region 5 with (first | (refine wpList_store_row rfl 30 (.tmp 5) (.tmp 14) rfl wD.heap.size #[.int .i64 1, .int .i64 0, .int .i64 40, .int .i64 0, .int .i64 40, .int .i64 2, .slice (some ⟨cr, 0, none⟩) 2 2] rfl rfl 30 #[.int .i64 0, .int .i64 0, .int .i64 0, .int .i64 0, .int .i64 0, .int .i64 0, .slice none 0 0] BN.out HIT.out rfl (by simp [Value.oneCell']) ?_))
 obtain ⟨t2, ht⟩ : ∃ g, g = wD.heap.size := ⟨_, rfl⟩
 obtain ⟨wU, hwt⟩ : ∃ x, x = World.setRow (wD.alloc (.cells #[.int .i64 0, .int .i64 0, .int .i64 0, .int .i64 0, .int .i64 0, .int .i64 0, .slice none 0 0] 30)) t2 #[.int .i64 1, .int .i64 0, .int .i64 40, .int .i64 0, .int .i64 40, .int .i64 2, .slice (some ⟨cr, 0, none⟩) 2 2] := ⟨_, rfl⟩
 have ST := Lib.hid (show Same wD wU by rw [hwt, ht]; exact Dm.chgRow SN.out (.inr (Nat.le_refl _)) _)
 have BTt2 := Lib.hid (show Blk wU t2 30 #[.int .i64 1, .int .i64 0, .int .i64 40, .int .i64 0, .int .i64 40, .int .i64 2, .slice (some ⟨cr, 0, none⟩) 2 2] by rw [hwt, ht]; exact Dm.rowb BN.out)
 rw [← ht, ← hwt]
 clear ht hwt BN SN
 have SCT := Lib.hid (SC.out.trans ST.out)
 have BCcr := Lib.hid (BCcr.out.same ST.out)
 have SM := Lib.hid (SM.out.trans SCT.out)
 have BO := Lib.hid (BO.out.same SCT.out)
 have BV := Lib.hid (BV.out.same SCT.out)
 have BS := Lib.hid (BS.out.same SCT.out)
 have BTt1 := Lib.hid (BTt1.out.same SCT.out)
 have BCcw := Lib.hid (BCcw.out.same SCT.out)
 clear SC ST SCT
 obtain ⟨a, ha⟩ : ∃ g, g = wU.heap.size := ⟨_, rfl⟩
 obtain ⟨wV, hwV⟩ : ∃ x, x = wU.alloc (.cells #[.int .i64 1, .int .i64 1, .int .i64 10, .int .i64 0, .int .i64 10, .int .i64 2, .slice (some ⟨cw, 0, none⟩) 2 2, .int .i64 1, .int .i64 0, .int .i64 40, .int .i64 0, .int .i64 40, .int .i64 2, .slice (some ⟨cr, 0, none⟩) 2 2] 30) := ⟨_, rfl⟩
 obtain ⟨b, hb⟩ : ∃ g, g = wV.heap.size := ⟨_, rfl⟩
 obtain ⟨wW, hwW⟩ : ∃ x, x = wV.alloc (.cells #[.int .i64 k, .int .i64 wd, .int .i64 sl, .int .i64 cp, .int .u32 sa, .slice X il ic, .int .i64 0, .slice (some ⟨v, 0, none⟩) 1 1] 43) := ⟨_, rfl⟩
 have sV : Same wU wV := hwV ▸ (Same.refl wU).alloc _
 have sW : Same wV wW := hwW ▸ (Same.refl wV).alloc _
 have bT : Blk wV a 30 #[.int .i64 1, .int .i64 1, .int .i64 10, .int .i64 0, .int .i64 10, .int .i64 2, .slice (some ⟨cw, 0, none⟩) 2 2, .int .i64 1, .int .i64 0, .int .i64 40, .int .i64 0, .int .i64 40, .int .i64 2, .slice (some ⟨cr, 0, none⟩) 2 2] := by rw [hwV, ha]; exact Blk.new wU _ _
 have bO : Blk wW b 43 #[.int .i64 k, .int .i64 wd, .int .i64 sl, .int .i64 cp, .int .u32 sa, .slice X il ic, .int .i64 0, .slice (some ⟨v, 0, none⟩) 1 1] := by rw [hwW, hb]; exact Blk.new wV _ _
 have HA := Lib.hid ha
 have HB := Lib.hid (show a + 1 = b by rw [hb, hwV, ha]; show _ = (wU.heap.push _).size; rw [Array.size_push])
 have HWV := Lib.hid hwV
 have HWW := Lib.hid hwW
 have BSW := Lib.hid ((BS.out.same sV).same sW)
 have hcF : Chg (fun i => i = q1) wW (World.setRow wW q1 #[.slice (some ⟨a, 0, none⟩) 2 2, .slice (some ⟨b, 0, none⟩) 1 1]) := Dm.chgRow (S := fun i => i = q1) (Chg.refl _ wW) (.inl rfl) _
 have hSY : SysAt (World.setRow wW q1 #[.slice (some ⟨a, 0, none⟩) 2 2, .slice (some ⟨b, 0, none⟩) 1 1]) (some ⟨a, 0, none⟩) 2 (some ⟨b, 0, none⟩) 1 (pairS ⟨k, wd, sl, cp, sa, 0, [1], ini⟩) := by
  have e1 : Blk wW a 30 #[.int .i64 1, .int .i64 1, .int .i64 10, .int .i64 0, .int .i64 10, .int .i64 2, .slice (some ⟨cw, 0, none⟩) 2 2, .int .i64 1, .int .i64 0, .int .i64 40, .int .i64 0, .int .i64 40, .int .i64 2, .slice (some ⟨cr, 0, none⟩) 2 2] := bT.same sW
  have e2 := (BCcw.out.same sV).same sW
  have e3 := (BCcr.out.same sV).same sW
  have e4 := (BV.out.same sV).same sW
  refine sys_pair (X := X) (co := ic) (Y := some ⟨v, 0, none⟩) (do_ := 1) (e1.chg hcF (e1.ne BSW.out (by decide))) (e2.chg hcF (e2.ne BSW.out (by decide))) (e3.chg hcF (e3.ne BSW.out (by decide))) ?_ HSA.out (HX.out.same (Dm.chgRow (SM.out.trans (sV.trans sW)) (.inr HGW.out) _)) HINI.out ?_ ⟨by show ini.length ≤ maxLen; rw [HIL.out]; exact HBL.out, by show 1 ≤ maxLen; unfold maxLen; omega⟩
  ·show Blk _ b 43 #[.int .i64 k, .int .i64 wd, .int .i64 sl, .int .i64 cp, .int .u32 sa, .slice X ini.length ic, .int .i64 0, .slice (some ⟨v, 0, none⟩) 1 1]
   rw [HIL.out]
   exact bO.chg hcF (bO.ne BSW.out (by decide))
  ·intro j y hj
   refine ⟨v, 0, rfl, ?_⟩
   have := (e4.chg hcF (e4.ne BSW.out (by decide))).cell j
   rw [Nat.zero_add, this, List.getElem?_toArray]
   exact hj
 have HSY := Lib.hid hSY
 have SMW := Lib.hid (SM.out.trans (sV.trans sW))
 have BOV := Lib.hid (BO.out.same sV)
 obtain ⟨x0, x1, x2, x3, x4, x5, x6⟩ := (⟨(BTt1.out).cell 0, (BTt1.out).cell 1, (BTt1.out).cell 2, (BTt1.out).cell 3, (BTt1.out).cell 4, (BTt1.out).cell 5, (BTt1.out).cell 6⟩ : _ ∧ _ ∧ _ ∧ _ ∧ _ ∧ _ ∧ _)
 simp only [Ws.q_] at x0 x1 x2 x3 x4 x5 x6
 obtain ⟨y0, y1, y2, y3, y4, y5, y6⟩ := (⟨(BTt2.out).cell 0, (BTt2.out).cell 1, (BTt2.out).cell 2, (BTt2.out).cell 3, (BTt2.out).cell 4, (BTt2.out).cell 5, (BTt2.out).cell 6⟩ : _ ∧ _ ∧ _ ∧ _ ∧ _ ∧ _ ∧ _)
 simp only [Ws.q_] at y0 y1 y2 y3 y4 y5 y6
 obtain ⟨z0, z1, z2, z3, z4, z5, z6, z7⟩ := (⟨(BOV.out).cell 0, (BOV.out).cell 1, (BOV.out).cell 2, (BOV.out).cell 3, (BOV.out).cell 4, (BOV.out).cell 5, (BOV.out).cell 6, (BOV.out).cell 7⟩ : _ ∧ _ ∧ _ ∧ _ ∧ _ ∧ _ ∧ _ ∧ _)
 simp only [Ws.q_] at z0 z1 z2 z3 z4 z5 z6 z7
 rw [hwV] at z0 z1 z2 z3 z4 z5 z6 z7
 clear ha hwV hb hwW sV sW bT bO hSY hcF BO BV BS BCcw BCcr BTt1 BTt2 BOV HX HINI HSA HBL HIL SM
 have BSW2 := Lib.hid (show Blk ((wU.alloc (.cells #[.int .i64 1, .int .i64 1, .int .i64 10, .int .i64 0, .int .i64 10, .int .i64 2, .slice (some ⟨cw, 0, none⟩) 2 2, .int .i64 1, .int .i64 0, .int .i64 40, .int .i64 0, .int .i64 40, .int .i64 2, .slice (some ⟨cr, 0, none⟩) 2 2] 30)).alloc (.cells #[.int .i64 k, .int .i64 wd, .int .i64 sl, .int .i64 cp, .int .u32 sa, .slice X il ic, .int .i64 0, .slice (some ⟨v, 0, none⟩) 1 1] 43)) q1 25 #[.slice none 0 0, .slice none 0 0] by rw [← HWV.out, ← HWW.out]; exact BSW.out)
 go_wp2_with (first | (refine wpList_store_row rfl 25 (.tmp 2) (.tmp 20) rfl q1 #[.slice (some ⟨wU.heap.size, 0, none⟩) 2 2, .slice (some ⟨wU.heap.size + 1, 0, none⟩) 1 1] rfl rfl 25 #[.slice none 0 0, .slice none 0 0] BSW2.out HIS.out rfl (by simp [Value.oneCell']) ?_))
 rw [← HWV.out, ← HWW.out]
 rw [← HA.out, HB.out]
 refine bodyPost_ret (v := .agg #[.slice (some ⟨a, 0, none⟩) 2 2, .slice (some ⟨b, 0, none⟩) 1 1]) (res_cell1 Tryz.results30 _ _ q1 25 #[.slice (some ⟨a, 0, none⟩) 2 2, .slice (some ⟨b, 0, none⟩) 1 1] (0, 0) _ rfl (Dm.rowb BSW.out) Tryz.underlying25 rfl HIS.out) rfl ?_
 exact ⟨a, b, rfl, HSY.out, Dm.chgRow SMW.out (.inr HGW.out) _⟩
end Go.Proofs.YthhbhbfkbncegabGreatDoor.Sl
end
section
section
set_option linter.unusedVariables false
set_option linter.unusedSimpArgs false
namespace Go.Proofs.YthhbhbfkbncegabGreatDoor.Sz
open Go.ChangeShapes Go.WideShapes Go.ChangeAt Go.RowKit Ws
open Im (PT PO PS TsAt OsAt SysAt tcells ocells)
open Go.Proofs.YthhbhbfkbncegabGreatDoor.Wd (ret_bool ret_int)
open Sl (ofR wrR flR obj)
set_option maxRecDepth 100000 in
set_option maxHeartbeats 4000000 in
theorem mostw_any (A B : Option Addr) (n c m d : Nat) (s : PS) (k : Nat) (o : PO) (C : Option Addr) (cl cc : Nat) (rs : List Int) (hrs : ∀ y ∈ rs, (Lit.int .i64 y).wf = true) (w : World) (hs : SysAt w A n B m s) (hnm : n ≤ maxLen ∧ m ≤ maxLen) (hf : ∀ p ∈ s.ts, p.code.length ≤ 200) (ho : Sy.OFew s.os 5000) (hT : Is.Tabs w) (hox : s.os[k]? = some o) (hcl : rs.length = cl) (hr : Row w C (rs.map (Value.int .i64))) :
 Calls Tryz.prog 32 #[.agg #[.slice A n c, .slice B m d], .int .i64 (k : Int), .slice C cl cc, .func (.func 33) #[] #[]] w fun e w' => e = .returned (.int .i64 (wrM s k rs)) ∧ Same w w' := by
 obtain ⟨w0, hw0⟩ : ∃ w0, w0 = w.alloc (.cells #[.slice A n c, .slice B m d] 25) := ⟨_, rfl⟩
 obtain ⟨g, hg⟩ : ∃ g, g = w.heap.size := ⟨_, rfl⟩
 have s0 : Same w w0 := hw0 ▸ (Same.refl w).alloc _
 have b0 : Blk w0 g 25 #[.slice A n c, .slice B m d] := by rw [hw0, hg]; exact Blk.new w _ _
 have HE0 := Lib.hid hw0
 have HG := Lib.hid hg
 have S0 := Lib.hid s0
 have HOB := Lib.hid (obj_in hox)
 have k2 : (k : Int) < m := by have := (List.getElem?_eq_some_iff.1 hox).1; have := hs.hm; omega
 have k0 : (0 : Int) ≤ k := by omega
 have OO := (hs.ho.same s0).at_ hox
 obtain ⟨bB, oB, rfl, Xo, co, Yo, do_, o0, o1, o2, o3, o4, o5, o6, o7, hsa, _, _, hrd, _, hrl⟩ := OO
 have hdb : (o.rd.length : Int) ≤ 9223372036854775807 := by unfold maxLen at hrl; omega
 obtain ⟨c0, c1⟩ := (⟨b0.cell 0, b0.cell 1⟩ : _ ∧ _)
 simp only [Ws.q_] at c0 c1
 have B0 := Lib.hid b0
 have RI := Lib.hid (fun (i : Int) W (h : Same w0 W) => rowi_any C cl cc rs i W hcl (hr.same (s0.trans h)))
 have CT := Lib.hid (fun (i r : Int) (br : -9223372036854775808 ≤ r ∧ r ≤ 9223372036854775807) W (h : Same w0 W) => Sl.iwrites_any A (some ⟨bB, oB, none⟩) n c m d s i k r br W (hs.same (s0.trans h)) hnm hf ho (hT.same (s0.trans h)))
 have HRD := Lib.hid hrd
 have HRS := Lib.hid hrs
 have HM := Lib.hid (show wrM s k rs = mostL (fun i => wrR (ofR s i k) (gI rs i)) o.rd from by unfold wrM; rw [HOB.out])
 have HT := Lib.hid (fun (j : Nat) (x : Int) (h : o.rd[j]? = some x) => mostL_take (f := fun i => wrR (ofR s i k) (gI rs i)) h)
 have HTK := Lib.hid (show mostL (fun i => wrR (ofR s i k) (gI rs i)) (o.rd.take o.rd.length) = mostL (fun i => wrR (ofR s i k) (gI rs i)) o.rd from by rw [List.take_length])
 clear hw0 hg s0 b0 hs hT hf ho hox hcl hr hrd hrs o0 o1 o2 o3 o4 o5 o6
 go_enter Tryz.func32, Tryz.ntmps32
 go_upto_region 1 with fail
 rw [← HE0.out, ← HG.out]
 clear HE0 HG
 go_wp2_with fail
 go_loopg [21, 9] o.rd.length (fun gk iv nv wx => ∃ j : Nat, j + gk = o.rd.length ∧ iv = .int .i64 (j : Int) ∧ nv = .int .i64 (mostL (fun i => wrR (ofR s i k) (gI rs i)) (o.rd.take j)) ∧ Same w0 wx)
 case atStart => exact ⟨0, by omega, rfl, rfl, Same.refl _⟩
 case round =>
  obtain ⟨j, hk, rfl, rfl, sx⟩ := hrel
  have HSX := Lib.hid sx
  have c0 := sx.cell c0
  have c1 := sx.cell c1
  clear o7
  cases gk with
  | zero =>
   obtain rfl : j = o.rd.length := by omega
   have hge : ¬ (o.rd.length : Int) < (o.rd.length : Int) := by omega
   rw [HTK.out]
   clear sx
   go_wp2_with fail
   go_ret
   exact ⟨ret_int (by rw [HM.out]), S0.out.trans HSX.out⟩
  | succ GK =>
   have hlt : (j : Int) < o.rd.length := by omega
   have hj0 : (0 : Int) ≤ j := by omega
   obtain ⟨x, hx⟩ : ∃ x, o.rd[j]? = some x := ⟨o.rd[j]'(by omega), List.getElem?_eq_getElem _⟩
   obtain ⟨bY, oY, rfl, y0⟩ := (HRD.out.same sx) j (.int .i64 x) (by rw [List.getElem?_map, hx]; rfl)
   have HTJ := Lib.hid (HT.out j x hx)
   have HKK := Lib.hid hk
   have CX := Lib.hid (CT.out x (gI rs x) (gI_bd HRS.out x))
   have RX := Lib.hid (RI.out x)
   clear hk hx sx CT RI
   try dsimp only at HTJ
   generalize mostL (fun i => wrR (ofR s i k) (gI rs i)) (o.rd.take j) = v at *
   generalize wrR (ofR s x k) (gI rs x) = y at *
   generalize gI rs x = r at *
   obtain ⟨v', hv'⟩ : ∃ v', v' = max v y := ⟨_, rfl⟩
   have hmx : (if v < y then y else v) = v' := by rw [hv']; split <;> omega
   have HV := Lib.hid hv'
   clear hv'
   go_wp2_with fail
   refine (RX.out _ HSX.out).mono ?_
   rintro e w2 ⟨⟨b, rfl⟩, s2⟩
   have HS2 := Lib.hid (HSX.out.trans s2)
   have c0 := s2.cell c0
   have c1 := s2.cell c1
   clear s2 y0 RX
   go_wp2_with fail
   refine (CX.out _ HS2.out).mono ?_
   rintro e w3 ⟨rfl, s3⟩
   have HS3 := Lib.hid (HS2.out.trans s3)
   clear s3 CX
   go_wp2_with fail
   go_roundg GK
   case rel => exact ⟨j + 1, by have := HKK.out; omega, by go_num, by rw [HTJ.out, HV.out], HS3.out⟩
   case measure => omega
set_option maxRecDepth 100000 in
set_option maxHeartbeats 4000000 in
theorem mostf_any (A B : Option Addr) (n c m d : Nat) (s : PS) (k : Nat) (o : PO) (C : Option Addr) (cl cc : Nat) (rs : List Int) (hrs : ∀ y ∈ rs, (Lit.int .i64 y).wf = true) (hsl : ∀ o ∈ s.os, o.sl ≤ 9223372036854775807) (w : World) (hs : SysAt w A n B m s) (hnm : n ≤ maxLen ∧ m ≤ maxLen) (hf : ∀ p ∈ s.ts, p.code.length ≤ 200) (ho : Sy.OFew s.os 5000) (hT : Is.Tabs w) (hox : s.os[k]? = some o) (hcl : rs.length = cl) (hr : Row w C (rs.map (Value.int .i64))) :
 Calls Tryz.prog 32 #[.agg #[.slice A n c, .slice B m d], .int .i64 (k : Int), .slice C cl cc, .func (.func 18) #[] #[]] w fun e w' => e = .returned (.int .i64 (flM s k rs)) ∧ Same w w' := by
 obtain ⟨w0, hw0⟩ : ∃ w0, w0 = w.alloc (.cells #[.slice A n c, .slice B m d] 25) := ⟨_, rfl⟩
 obtain ⟨g, hg⟩ : ∃ g, g = w.heap.size := ⟨_, rfl⟩
 have s0 : Same w w0 := hw0 ▸ (Same.refl w).alloc _
 have b0 : Blk w0 g 25 #[.slice A n c, .slice B m d] := by rw [hw0, hg]; exact Blk.new w _ _
 have HE0 := Lib.hid hw0
 have HG := Lib.hid hg
 have S0 := Lib.hid s0
 have HOB := Lib.hid (obj_in hox)
 have k2 : (k : Int) < m := by have := (List.getElem?_eq_some_iff.1 hox).1; have := hs.hm; omega
 have k0 : (0 : Int) ≤ k := by omega
 have OO := (hs.ho.same s0).at_ hox
 obtain ⟨bB, oB, rfl, Xo, co, Yo, do_, o0, o1, o2, o3, o4, o5, o6, o7, hsa, _, _, hrd, _, hrl⟩ := OO
 have hdb : (o.rd.length : Int) ≤ 9223372036854775807 := by unfold maxLen at hrl; omega
 obtain ⟨c0, c1⟩ := (⟨b0.cell 0, b0.cell 1⟩ : _ ∧ _)
 simp only [Ws.q_] at c0 c1
 have B0 := Lib.hid b0
 have RI := Lib.hid (fun (i : Int) W (h : Same w0 W) => rowi_any C cl cc rs i W hcl (hr.same (s0.trans h)))
 have CT := Lib.hid (fun (i r : Int) (br : -9223372036854775808 ≤ r ∧ r ≤ 9223372036854775807) W (h : Same w0 W) => Sl.ifails_any A (some ⟨bB, oB, none⟩) n c m d s i k r br hsl W (hs.same (s0.trans h)) hnm hf ho (hT.same (s0.trans h)))
 have HRD := Lib.hid hrd
 have HRS := Lib.hid hrs
 have HM := Lib.hid (show flM s k rs = mostL (fun i => flR (ofR s i k) (gI rs i)) o.rd from by unfold flM; rw [HOB.out])
 have HT := Lib.hid (fun (j : Nat) (x : Int) (h : o.rd[j]? = some x) => mostL_take (f := fun i => flR (ofR s i k) (gI rs i)) h)
 have HTK := Lib.hid (show mostL (fun i => flR (ofR s i k) (gI rs i)) (o.rd.take o.rd.length) = mostL (fun i => flR (ofR s i k) (gI rs i)) o.rd from by rw [List.take_length])
 clear hw0 hg s0 b0 hs hT hf ho hox hcl hr hrd hrs o0 o1 o2 o3 o4 o5 o6
 go_enter Tryz.func32, Tryz.ntmps32
 go_upto_region 1 with fail
 rw [← HE0.out, ← HG.out]
 clear HE0 HG
 go_wp2_with fail
 go_loopg [21, 9] o.rd.length (fun gk iv nv wx => ∃ j : Nat, j + gk = o.rd.length ∧ iv = .int .i64 (j : Int) ∧ nv = .int .i64 (mostL (fun i => flR (ofR s i k) (gI rs i)) (o.rd.take j)) ∧ Same w0 wx)
 case atStart => exact ⟨0, by omega, rfl, rfl, Same.refl _⟩
 case round =>
  obtain ⟨j, hk, rfl, rfl, sx⟩ := hrel
  have HSX := Lib.hid sx
  have c0 := sx.cell c0
  have c1 := sx.cell c1
  clear o7
  cases gk with
  | zero =>
   obtain rfl : j = o.rd.length := by omega
   have hge : ¬ (o.rd.length : Int) < (o.rd.length : Int) := by omega
   rw [HTK.out]
   clear sx
   go_wp2_with fail
   go_ret
   exact ⟨ret_int (by rw [HM.out]), S0.out.trans HSX.out⟩
  | succ GK =>
   have hlt : (j : Int) < o.rd.length := by omega
   have hj0 : (0 : Int) ≤ j := by omega
   obtain ⟨x, hx⟩ : ∃ x, o.rd[j]? = some x := ⟨o.rd[j]'(by omega), List.getElem?_eq_getElem _⟩
   obtain ⟨bY, oY, rfl, y0⟩ := (HRD.out.same sx) j (.int .i64 x) (by rw [List.getElem?_map, hx]; rfl)
   have HTJ := Lib.hid (HT.out j x hx)
   have HKK := Lib.hid hk
   have CX := Lib.hid (CT.out x (gI rs x) (gI_bd HRS.out x))
   have RX := Lib.hid (RI.out x)
   clear hk hx sx CT RI
   try dsimp only at HTJ
   generalize mostL (fun i => flR (ofR s i k) (gI rs i)) (o.rd.take j) = v at *
   generalize flR (ofR s x k) (gI rs x) = y at *
   generalize gI rs x = r at *
   obtain ⟨v', hv'⟩ : ∃ v', v' = max v y := ⟨_, rfl⟩
   have hmx : (if v < y then y else v) = v' := by rw [hv']; split <;> omega
   have HV := Lib.hid hv'
   clear hv'
   go_wp2_with fail
   refine (RX.out _ HSX.out).mono ?_
   rintro e w2 ⟨⟨b, rfl⟩, s2⟩
   have HS2 := Lib.hid (HSX.out.trans s2)
   have c0 := s2.cell c0
   have c1 := s2.cell c1
   clear s2 y0 RX
   go_wp2_with fail
   refine (CX.out _ HS2.out).mono ?_
   rintro e w3 ⟨rfl, s3⟩
   have HS3 := Lib.hid (HS2.out.trans s3)
   clear s3 CX
   go_wp2_with fail
   go_roundg GK
   case rel => exact ⟨j + 1, by have := HKK.out; omega, by go_num, by rw [HTJ.out, HV.out], HS3.out⟩
   case measure => omega
end Go.Proofs.YthhbhbfkbncegabGreatDoor.Sz
end
section
section
set_option linter.unusedVariables false
set_option linter.unusedSimpArgs false
namespace Go.Proofs.YthhbhbfkbncegabGreatDoor.Sz
open Go.ChangeShapes Go.WideShapes Go.ChangeAt Go.RowKit Ws
open Im (PT PO PS TsAt OsAt SysAt tcells ocells)
open Go.Proofs.YthhbhbfkbncegabGreatDoor.Wd (ret_bool ret_int)
open Sl (ofR wrR flR obj)
set_option maxRecDepth 100000 in
set_option maxHeartbeats 4000000 in
theorem slots_any (A B : Option Addr) (n c m d : Nat) (s : PS) (k : Int) (C : Option Addr) (cl cc : Nat) (rs : List Int) (hrs : ∀ y ∈ rs, (Lit.int .i64 y).wf = true) (w : World) (hs : SysAt w A n B m s) (hnm : n ≤ maxLen ∧ m ≤ maxLen) (hf : ∀ p ∈ s.ts, p.code.length ≤ 200) (ho : Sy.OFew s.os 5000) (hT : Is.Tabs w) (hcl : rs.length = cl) (hr : Row w C (rs.map (Value.int .i64))) :
 Calls Tryz.prog 13 #[.agg #[.slice A n c, .slice B m d], .int .i64 k, .slice C cl cc] w fun e w' => e = .returned (.int .i64 (slotsI s k rs)) ∧ Same w w' := by
 obtain ⟨w0, hw0⟩ : ∃ w0, w0 = w.alloc (.cells #[.slice A n c, .slice B m d] 25) := ⟨_, rfl⟩
 obtain ⟨g, hg⟩ : ∃ g, g = w.heap.size := ⟨_, rfl⟩
 have s0 : Same w w0 := hw0 ▸ (Same.refl w).alloc _
 have b0 : Blk w0 g 25 #[.slice A n c, .slice B m d] := by rw [hw0, hg]; exact Blk.new w _ _
 have HE0 := Lib.hid hw0
 have HG := Lib.hid hg
 have S0 := Lib.hid s0
 obtain ⟨c0, c1⟩ := (⟨b0.cell 0, b0.cell 1⟩ : _ ∧ _)
 simp only [Ws.q_] at c0 c1
 have B0 := Lib.hid b0
 have RO := Lib.hid (Dm.rowo_any B m d s.os k w0 (hs.ho.same s0) hs.hm)
 have MO := Lib.hid (fun (kk : Nat) (o : PO) (hox : s.os[kk]? = some o) W (h : Same w0 W) => mostw_any A B n c m d s kk o C cl cc rs hrs W (hs.same (s0.trans h)) hnm hf ho (hT.same (s0.trans h)) hox hcl (hr.same (s0.trans h)))
 have hmb := wrM_bd s k rs
 clear hw0 hg s0 b0 hs hT hf ho hcl hr
 go_enter Tryz.func13, Tryz.ntmps13
 go_upto_region 1 with fail
 rw [← HE0.out, ← HG.out]
 clear HE0 HG
 go_wp2_with fail
 refine RO.out.mono ?_
 rintro e w1 ⟨s1, ho⟩
 have S1 := Lib.hid s1
 have B1 := Lib.hid (B0.out.same s1)
 clear s1 RO c0 c1 B0
 rcases ho with ⟨kk, o, Xo, co, Yo, do_, rfl, hox, hsa, rfl⟩ | ⟨hout, rfl⟩
 ·have HB4 := Lib.hid (B1.out.same ((Same.refl w1).alloc (.cells #[.int .i64 o.k, .int .i64 o.wd, .int .i64 o.sl, .int .i64 o.cp, .int .u32 o.sa, .slice Xo o.ini.length co, .int .i64 o.ow, .slice Yo o.rd.length do_] 43)))
  have HQ4 := Lib.hid (Blk.new w1 43 #[.int .i64 o.k, .int .i64 o.wd, .int .i64 o.sl, .int .i64 o.cp, .int .u32 o.sa, .slice Xo o.ini.length co, .int .i64 o.ow, .slice Yo o.rd.length do_])
  have HS4 := Lib.hid (S1.out.alloc (.cells #[.int .i64 o.k, .int .i64 o.wd, .int .i64 o.sl, .int .i64 o.cp, .int .u32 o.sa, .slice Xo o.ini.length co, .int .i64 o.ow, .slice Yo o.rd.length do_] 43))
  have HOB := obj_in hox
  have hkl := (List.getElem?_eq_some_iff.1 hox).1
  have HVY := Lib.hid (show o.k = 4 → slotsI s (kk : Int) rs = 2 + wrM s kk rs from fun h => if_pos ⟨by omega, by rw [HOB]; exact h⟩)
  have HVN := Lib.hid (show ¬ o.k = 4 → slotsI s (kk : Int) rs = 0 from fun h => if_neg (fun g => h (by rw [← HOB]; exact g.2)))
  have MK := Lib.hid (MO.out kk o hox)
  clear HOB hkl hox MO
  go_upto_region 2 with fail
  generalize w1.alloc (.cells #[.int .i64 o.k, .int .i64 o.wd, .int .i64 o.sl, .int .i64 o.cp, .int .u32 o.sa, .slice Xo o.ini.length co, .int .i64 o.ow, .slice Yo o.rd.length do_] 43) = w4 at *
  generalize w1.heap.size = q1 at *
  have z0 := HQ4.out.cell 0
  simp only [Ws.q_] at z0
  obtain ⟨c0, c1⟩ := (⟨HB4.out.cell 0, HB4.out.cell 1⟩ : _ ∧ _)
  simp only [Ws.q_] at c0 c1
  by_cases h4 : o.k = 4
  ·have f4 : (o.k != 4) = false := by simpa using h4
   generalize hM : wrM s (kk : Int) rs = mm at *
   have HVV := Lib.hid (HVY.out h4)
   clear HVY HVN hM
   go_wp2_with fail
   refine (MK.out _ HS4.out).mono ?_
   rintro e w5 ⟨rfl, s5⟩
   go_wp2_with fail
   go_ret
   exact ⟨ret_int (by rw [HVV.out]), S0.out.trans (HS4.out.trans s5)⟩
  ·have f4 : (o.k != 4) = true := by simpa using h4
   have HVV := Lib.hid (HVN.out h4)
   clear HVY HVN
   go_wp2_with fail
   go_ret
   exact ⟨ret_int (by rw [HVV.out]), S0.out.trans HS4.out⟩
 ·have HB4 := Lib.hid (B1.out.same ((Same.refl w1).alloc (.cells #[.int .i64 0, .int .i64 0, .int .i64 0, .int .i64 0, .int .u32 0, .slice none 0 0, .int .i64 0, .slice none 0 0] 43)))
  have HQ4 := Lib.hid (Blk.new w1 43 #[.int .i64 0, .int .i64 0, .int .i64 0, .int .i64 0, .int .u32 0, .slice none 0 0, .int .i64 0, .slice none 0 0])
  have HS4 := Lib.hid (S1.out.alloc (.cells #[.int .i64 0, .int .i64 0, .int .i64 0, .int .i64 0, .int .u32 0, .slice none 0 0, .int .i64 0, .slice none 0 0] 43))
  have HVV := Lib.hid (show slotsI s k rs = 0 from if_neg (fun g => by omega))
  clear hout MO
  go_upto_region 2 with fail
  generalize w1.alloc (.cells #[.int .i64 0, .int .i64 0, .int .i64 0, .int .i64 0, .int .u32 0, .slice none 0 0, .int .i64 0, .slice none 0 0] 43) = w4 at *
  generalize w1.heap.size = q1 at *
  have z0 := HQ4.out.cell 0
  simp only [Ws.q_] at z0
  go_wp2_with fail
  go_ret
  exact ⟨ret_int (by rw [HVV.out]), S0.out.trans HS4.out⟩
set_option maxRecDepth 100000 in
set_option maxHeartbeats 4000000 in
theorem caps_any (A B : Option Addr) (n c m d : Nat) (s : PS) (k : Int) (C : Option Addr) (cl cc : Nat) (rs : List Int) (hrs : ∀ y ∈ rs, (Lit.int .i64 y).wf = true) (hsl : ∀ o ∈ s.os, o.sl ≤ 9223372036854775807) (w : World) (hs : SysAt w A n B m s) (hnm : n ≤ maxLen ∧ m ≤ maxLen) (hf : ∀ p ∈ s.ts, p.code.length ≤ 200) (ho : Sy.OFew s.os 5000) (hT : Is.Tabs w) (hcl : rs.length = cl) (hr : Row w C (rs.map (Value.int .i64))) :
 Calls Tryz.prog 15 #[.agg #[.slice A n c, .slice B m d], .int .i64 k, .slice C cl cc] w fun e w' => e = .returned (.int .i64 (capsI s k rs)) ∧ Same w w' := by
 obtain ⟨w0, hw0⟩ : ∃ w0, w0 = w.alloc (.cells #[.slice A n c, .slice B m d] 25) := ⟨_, rfl⟩
 obtain ⟨g, hg⟩ : ∃ g, g = w.heap.size := ⟨_, rfl⟩
 have s0 : Same w w0 := hw0 ▸ (Same.refl w).alloc _
 have b0 : Blk w0 g 25 #[.slice A n c, .slice B m d] := by rw [hw0, hg]; exact Blk.new w _ _
 have HE0 := Lib.hid hw0
 have HG := Lib.hid hg
 have S0 := Lib.hid s0
 obtain ⟨c0, c1⟩ := (⟨b0.cell 0, b0.cell 1⟩ : _ ∧ _)
 simp only [Ws.q_] at c0 c1
 have B0 := Lib.hid b0
 have RO := Lib.hid (Dm.rowo_any B m d s.os k w0 (hs.ho.same s0) hs.hm)
 have MO := Lib.hid (fun (kk : Nat) (o : PO) (hox : s.os[kk]? = some o) W (h : Same w0 W) => mostf_any A B n c m d s kk o C cl cc rs hrs hsl W (hs.same (s0.trans h)) hnm hf ho (hT.same (s0.trans h)) hox hcl (hr.same (s0.trans h)))
 have hmb := flM_bd s k rs
 clear hw0 hg s0 b0 hs hT hf ho hcl hr
 go_enter Tryz.func15, Tryz.ntmps15
 go_upto_region 1 with fail
 rw [← HE0.out, ← HG.out]
 clear HE0 HG
 go_wp2_with fail
 refine RO.out.mono ?_
 rintro e w1 ⟨s1, ho⟩
 have S1 := Lib.hid s1
 have B1 := Lib.hid (B0.out.same s1)
 clear s1 RO c0 c1 B0
 rcases ho with ⟨kk, o, Xo, co, Yo, do_, rfl, hox, hsa, rfl⟩ | ⟨hout, rfl⟩
 ·have HB4 := Lib.hid (B1.out.same ((Same.refl w1).alloc (.cells #[.int .i64 o.k, .int .i64 o.wd, .int .i64 o.sl, .int .i64 o.cp, .int .u32 o.sa, .slice Xo o.ini.length co, .int .i64 o.ow, .slice Yo o.rd.length do_] 43)))
  have HQ4 := Lib.hid (Blk.new w1 43 #[.int .i64 o.k, .int .i64 o.wd, .int .i64 o.sl, .int .i64 o.cp, .int .u32 o.sa, .slice Xo o.ini.length co, .int .i64 o.ow, .slice Yo o.rd.length do_])
  have HS4 := Lib.hid (S1.out.alloc (.cells #[.int .i64 o.k, .int .i64 o.wd, .int .i64 o.sl, .int .i64 o.cp, .int .u32 o.sa, .slice Xo o.ini.length co, .int .i64 o.ow, .slice Yo o.rd.length do_] 43))
  have HOB := obj_in hox
  have hkl := (List.getElem?_eq_some_iff.1 hox).1
  have HVY := Lib.hid (show (o.k = 3 ∨ o.k = 4 ∨ o.k = 5) → capsI s (kk : Int) rs = 1 + flM s kk rs from fun h => if_pos ⟨by omega, by rw [HOB]; exact h⟩)
  have HVN := Lib.hid (show ¬ (o.k = 3 ∨ o.k = 4 ∨ o.k = 5) → capsI s (kk : Int) rs = 0 from fun h => if_neg (fun g => h (by rw [← HOB]; exact g.2)))
  have MK := Lib.hid (MO.out kk o hox)
  clear HOB hkl hox MO
  go_upto_region 2 with fail
  generalize w1.alloc (.cells #[.int .i64 o.k, .int .i64 o.wd, .int .i64 o.sl, .int .i64 o.cp, .int .u32 o.sa, .slice Xo o.ini.length co, .int .i64 o.ow, .slice Yo o.rd.length do_] 43) = w4 at *
  generalize w1.heap.size = q1 at *
  have z0 := HQ4.out.cell 0
  simp only [Ws.q_] at z0
  obtain ⟨c0, c1⟩ := (⟨HB4.out.cell 0, HB4.out.cell 1⟩ : _ ∧ _)
  simp only [Ws.q_] at c0 c1
  by_cases h3 : o.k = 3
  ·have f3 : (o.k == 3) = true := by simp <;> omega
   have f4 : (o.k == 4) = false := by simp <;> omega
   have f5 : (o.k == 5) = false := by simp <;> omega
   generalize hM : flM s (kk : Int) rs = mm at *
   have HVV := Lib.hid (HVY.out (by omega))
   clear HVY HVN hM
   go_wp2_with fail
   refine (MK.out _ HS4.out).mono ?_
   rintro e w5 ⟨rfl, s5⟩
   go_wp2_with fail
   go_ret
   exact ⟨ret_int (by rw [HVV.out]), S0.out.trans (HS4.out.trans s5)⟩
  by_cases h4 : o.k = 4
  ·have f3 : (o.k == 3) = false := by simp <;> omega
   have f4 : (o.k == 4) = true := by simp <;> omega
   have f5 : (o.k == 5) = false := by simp <;> omega
   generalize hM : flM s (kk : Int) rs = mm at *
   have HVV := Lib.hid (HVY.out (by omega))
   clear HVY HVN hM
   go_wp2_with fail
   refine (MK.out _ HS4.out).mono ?_
   rintro e w5 ⟨rfl, s5⟩
   go_wp2_with fail
   go_ret
   exact ⟨ret_int (by rw [HVV.out]), S0.out.trans (HS4.out.trans s5)⟩
  by_cases h5 : o.k = 5
  ·have f3 : (o.k == 3) = false := by simp <;> omega
   have f4 : (o.k == 4) = false := by simp <;> omega
   have f5 : (o.k == 5) = true := by simp <;> omega
   generalize hM : flM s (kk : Int) rs = mm at *
   have HVV := Lib.hid (HVY.out (by omega))
   clear HVY HVN hM
   go_wp2_with fail
   refine (MK.out _ HS4.out).mono ?_
   rintro e w5 ⟨rfl, s5⟩
   go_wp2_with fail
   go_ret
   exact ⟨ret_int (by rw [HVV.out]), S0.out.trans (HS4.out.trans s5)⟩
  ·have f3 : (o.k == 3) = false := by simp <;> omega
   have f4 : (o.k == 4) = false := by simp <;> omega
   have f5 : (o.k == 5) = false := by simp <;> omega
   have HVV := Lib.hid (HVN.out (by omega))
   clear HVY HVN
   go_wp2_with fail
   go_ret
   exact ⟨ret_int (by rw [HVV.out]), S0.out.trans HS4.out⟩
 ·have HB4 := Lib.hid (B1.out.same ((Same.refl w1).alloc (.cells #[.int .i64 0, .int .i64 0, .int .i64 0, .int .i64 0, .int .u32 0, .slice none 0 0, .int .i64 0, .slice none 0 0] 43)))
  have HQ4 := Lib.hid (Blk.new w1 43 #[.int .i64 0, .int .i64 0, .int .i64 0, .int .i64 0, .int .u32 0, .slice none 0 0, .int .i64 0, .slice none 0 0])
  have HS4 := Lib.hid (S1.out.alloc (.cells #[.int .i64 0, .int .i64 0, .int .i64 0, .int .i64 0, .int .u32 0, .slice none 0 0, .int .i64 0, .slice none 0 0] 43))
  have HVV := Lib.hid (show capsI s k rs = 0 from if_neg (fun g => by omega))
  clear hout MO
  go_upto_region 2 with fail
  generalize w1.alloc (.cells #[.int .i64 0, .int .i64 0, .int .i64 0, .int .i64 0, .int .u32 0, .slice none 0 0, .int .i64 0, .slice none 0 0] 43) = w4 at *
  generalize w1.heap.size = q1 at *
  have z0 := HQ4.out.cell 0
  simp only [Ws.q_] at z0
  go_wp2_with fail
  go_ret
  exact ⟨ret_int (by rw [HVV.out]), S0.out.trans HS4.out⟩
end Go.Proofs.YthhbhbfkbncegabGreatDoor.Sz
end
section
set_option linter.unusedVariables false
set_option linter.unusedSimpArgs false
namespace Go.Proofs.YthhbhbfkbncegabGreatDoor.Sz
open Go.ChangeShapes Go.WideShapes Go.ChangeAt Go.RowKit Ws
open Im (PT PO PS TsAt OsAt SysAt tcells ocells)
open Go.Proofs.YthhbhbfkbncegabGreatDoor.Wd (ret_bool ret_int)
open Sl (ofR wrR flR obj)
def sA : PS := Sl.pairS ⟨4, 1, 2, 1, 0, 0, [1], [1]⟩
def sB : PS := Sl.pairS ⟨3, 1, 0, 1, 0, 0, [1], [1]⟩
theorem sA_of : ofR sA 1 0 = ⟨4, 2, 3, true, 1, 10⟩ := by decide +kernel
theorem sB_of : ofR sB 1 0 = ⟨3, 0, 3, true, 1, 10⟩ := by decide +kernel
theorem sA_s : slotsI sA 0 [0, 25] = 5 := by
 have h : wrM sA 0 [0, 25] = 3 := by
  show max 0 (wrR (ofR sA 1 0) 25) = 3
  rw [sA_of]
  decide
 show (if (0 ≤ (0 : Int) ∧ (0 : Int) < 1) ∧ (4 : Int) = 4 then 2 + wrM sA 0 [0, 25] else 0) = 5
 rw [h]
 decide
theorem sB_c : capsI sB 0 [0, 25] = 4 := by
 have h : flM sB 0 [0, 25] = 3 := by
  show max 0 (flR (ofR sB 1 0) 25) = 3
  rw [sB_of]
  decide
 show (if (0 ≤ (0 : Int) ∧ (0 : Int) < 1) ∧ ((3 : Int) = 3 ∨ (3 : Int) = 4 ∨ (3 : Int) = 5) then 1 + flM sB 0 [0, 25] else 0) = 4
 rw [h]
 decide
theorem slB : ∀ o ∈ sB.os, o.sl ≤ 9223372036854775807 := by
 intro p hp
 simp only [sB, Sl.pairS, List.mem_cons, List.not_mem_nil, or_false] at hp
 subst hp
 decide
set_option maxRecDepth 100000 in
set_option maxHeartbeats 4000000 in
theorem awake39 (w : World) (hT : Is.Tabs w) : Calls Tryz.prog 12 #[] w fun e w' => e = .returned (.bool true) ∧ Same w w' := by
 have HT := Lib.hid hT
 have HIS := Lib.hid (show (Tryz.prog.info? 25).map (·.size) = some (#[.slice none 0 0, .slice none 0 0] : Array Value).size by kernel_rfl)
 clear hT
 go_enter Tryz.func12, Tryz.ntmps12
 go_upto_region 1 with fail
 obtain ⟨ux, hux⟩ : ∃ u, u = w.heap.size := ⟨_, rfl⟩
 obtain ⟨wx1, hwx1⟩ : ∃ x, x = w.alloc (.cells #[.int .u32 1] 40) := ⟨_, rfl⟩
 have sx1 : Same w wx1 := hwx1 ▸ (Same.refl w).alloc _
 have bux : Blk wx1 ux 40 #[.int .u32 1] := by rw [hwx1, hux]; exact Blk.new w _ _
 have PR := Lib.hid (Sl.pair_any 4 1 2 1 0 0 (some ⟨ux, 0, none⟩) none 1 1 0 0 [1] wx1 rfl (by unfold maxLen; omega) (by omega) (Cs.blk_row bux) (fun y hy => by simp only [List.mem_cons, List.not_mem_nil, or_false] at hy; subst hy; omega))
 have E1 := Lib.hid hwx1
 have U := Lib.hid hux
 have Sx1 := Lib.hid sx1
 clear hwx1 hux bux sx1
 unfold Sl.PairP at PR
 go_wp2_with fail
 rw [← U.out, ← E1.out]
 clear E1 U
 refine PR.out.mono ?_
 rintro e wx2 ⟨ax, bx, rfl, hsy, s2⟩
 have HPAx := Lib.hid hsy
 have Sx2 := Lib.hid (Sx1.out.trans s2)
 clear PR hsy s2 Sx1
 have BN := Lib.hid (Blk.new wx2 25 #[.slice none 0 0, .slice none 0 0])
 have SN := Lib.hid ((Same.refl wx2).alloc (.cells #[.slice none 0 0, .slice none 0 0] 25))
 go_upto_region 2 with (first | (refine wpList_store_row rfl 25 (.tmp 1) (.tmp 5) rfl wx2.heap.size #[.slice (some ⟨ax, 0, none⟩) 2 2, .slice (some ⟨bx, 0, none⟩) 1 1] rfl rfl 25 #[.slice none 0 0, .slice none 0 0] BN.out HIS.out rfl (by simp [Value.oneCell']) ?_))
 obtain ⟨qx, hqx⟩ : ∃ g, g = wx2.heap.size := ⟨_, rfl⟩
 obtain ⟨wx3, hwx3⟩ : ∃ x, x = World.setRow (wx2.alloc (.cells #[.slice none 0 0, .slice none 0 0] 25)) qx #[.slice (some ⟨ax, 0, none⟩) 2 2, .slice (some ⟨bx, 0, none⟩) 1 1] := ⟨_, rfl⟩
 have s3 : Same wx2 wx3 := by rw [hwx3, hqx]; exact Dm.chgRow SN.out (.inr (Nat.le_refl _)) _
 have BQx := Lib.hid (show Blk wx3 qx 25 #[.slice (some ⟨ax, 0, none⟩) 2 2, .slice (some ⟨bx, 0, none⟩) 1 1] by rw [hwx3, hqx]; exact Dm.rowb BN.out)
 rw [← hqx, ← hwx3]
 have Sx3 := Lib.hid (Sx2.out.trans s3)
 have HPAx := Lib.hid (HPAx.out.same s3)
 clear hqx hwx3 BN SN s3 Sx2
 obtain ⟨uz, huz⟩ : ∃ u, u = wx3.heap.size := ⟨_, rfl⟩
 obtain ⟨wz1, hwz1⟩ : ∃ x, x = wx3.alloc (.cells #[.int .u32 1] 40) := ⟨_, rfl⟩
 have sz1 : Same wx3 wz1 := hwz1 ▸ (Same.refl wx3).alloc _
 have buz : Blk wz1 uz 40 #[.int .u32 1] := by rw [hwz1, huz]; exact Blk.new wx3 _ _
 have PR := Lib.hid (Sl.pair_any 3 1 0 1 0 0 (some ⟨uz, 0, none⟩) none 1 1 0 0 [1] wz1 rfl (by unfold maxLen; omega) (by omega) (Cs.blk_row buz) (fun y hy => by simp only [List.mem_cons, List.not_mem_nil, or_false] at hy; subst hy; omega))
 have E1 := Lib.hid hwz1
 have U := Lib.hid huz
 have Sz1 := Lib.hid sz1
 clear hwz1 huz buz sz1
 unfold Sl.PairP at PR
 go_wp2_with fail
 rw [← U.out, ← E1.out]
 clear E1 U
 refine PR.out.mono ?_
 rintro e wz2 ⟨az, bz, rfl, hsy, s2⟩
 have HPAz := Lib.hid hsy
 have Sz2 := Lib.hid (Sz1.out.trans s2)
 clear PR hsy s2 Sz1
 have BN := Lib.hid (Blk.new wz2 25 #[.slice none 0 0, .slice none 0 0])
 have SN := Lib.hid ((Same.refl wz2).alloc (.cells #[.slice none 0 0, .slice none 0 0] 25))
 go_upto_region 3 with (first | (refine wpList_store_row rfl 25 (.tmp 2) (.tmp 8) rfl wz2.heap.size #[.slice (some ⟨az, 0, none⟩) 2 2, .slice (some ⟨bz, 0, none⟩) 1 1] rfl rfl 25 #[.slice none 0 0, .slice none 0 0] BN.out HIS.out rfl (by simp [Value.oneCell']) ?_))
 obtain ⟨qz, hqz⟩ : ∃ g, g = wz2.heap.size := ⟨_, rfl⟩
 obtain ⟨wz3, hwz3⟩ : ∃ x, x = World.setRow (wz2.alloc (.cells #[.slice none 0 0, .slice none 0 0] 25)) qz #[.slice (some ⟨az, 0, none⟩) 2 2, .slice (some ⟨bz, 0, none⟩) 1 1] := ⟨_, rfl⟩
 have s3 : Same wz2 wz3 := by rw [hwz3, hqz]; exact Dm.chgRow SN.out (.inr (Nat.le_refl _)) _
 have BQz := Lib.hid (show Blk wz3 qz 25 #[.slice (some ⟨az, 0, none⟩) 2 2, .slice (some ⟨bz, 0, none⟩) 1 1] by rw [hwz3, hqz]; exact Dm.rowb BN.out)
 rw [← hqz, ← hwz3]
 have Sz3 := Lib.hid (Sz2.out.trans s3)
 have HPAz := Lib.hid (HPAz.out.same s3)
 clear hqz hwz3 BN SN s3 Sz2
 have hnm : 2 ≤ maxLen ∧ 1 ≤ maxLen := by unfold maxLen; omega
 have SA := Lib.hid (HPAx.out.same Sz3.out)
 have BQX := Lib.hid (BQx.out.same Sz3.out)
 have SW := Lib.hid (Sx3.out.trans Sz3.out)
 have fA := Sl.pair_few ⟨4, 1, 2, 1, 0, 0, [1], [1]⟩ ⟨by decide, by decide⟩
 have fB := Sl.pair_few ⟨3, 1, 0, 1, 0, 0, [1], [1]⟩ ⟨by decide, by decide⟩
 have hrs : ∀ y ∈ ([0, 25] : List Int), (Lit.int .i64 y).wf = true := by decide
 have ST := Lib.hid (fun (C : Nat) W (h : Same wz3 W) (hr : Blk W C 3 #[.int .i64 0, .int .i64 25]) => slots_any (some ⟨ax, 0, none⟩) (some ⟨bx, 0, none⟩) 2 2 1 1 sA 0 (some ⟨C, 0, none⟩) 2 2 [0, 25] hrs W (SA.out.same h) hnm fA.1 fA.2 (HT.out.same (SW.out.trans h)) rfl (Cs.blk_row hr))
 rw [sA_s] at ST
 have CP := Lib.hid (fun (C : Nat) W (h : Same wz3 W) (hr : Blk W C 3 #[.int .i64 0, .int .i64 25]) => caps_any (some ⟨az, 0, none⟩) (some ⟨bz, 0, none⟩) 2 2 1 1 sB 0 (some ⟨C, 0, none⟩) 2 2 [0, 25] hrs slB W (HPAz.out.same h) hnm fB.1 fB.2 (HT.out.same (SW.out.trans h)) rfl (Cs.blk_row hr))
 rw [sB_c] at CP
 obtain ⟨c0, c1⟩ := (⟨BQX.out.cell 0, BQX.out.cell 1⟩ : _ ∧ _)
 simp only [Ws.q_] at c0 c1
 have sa : Same wz3 (wz3.alloc (.cells #[.int .i64 0, .int .i64 25] 3)) := (Same.refl wz3).alloc _
 have STA := Lib.hid (ST.out _ _ sa (Blk.new wz3 3 #[.int .i64 0, .int .i64 25]))
 have Sa := Lib.hid sa
 clear hnm fA fB hrs ST HPAx BQx SA sa
 go_wp2_with fail
 refine STA.out.mono ?_
 rintro e w5 ⟨rfl, s5⟩
 have S5 := Lib.hid (Sa.out.trans s5)
 have BQY := Lib.hid (BQz.out.same S5.out)
 obtain ⟨d0, d1⟩ := (⟨BQY.out.cell 0, BQY.out.cell 1⟩ : _ ∧ _)
 simp only [Ws.q_] at d0 d1
 have sb : Same wz3 (w5.alloc (.cells #[.int .i64 0, .int .i64 25] 3)) := S5.out.alloc _
 have CPA := Lib.hid (CP.out _ _ sb (Blk.new w5 3 #[.int .i64 0, .int .i64 25]))
 have Sb := Lib.hid sb
 clear s5 STA CP c0 c1 sb
 go_wp2_with fail
 refine CPA.out.mono ?_
 rintro e w6 ⟨rfl, s6⟩
 go_wp2_with fail
 go_ret
 exact ⟨rfl, SW.out.trans (Sb.out.trans s6)⟩
end Go.Proofs.YthhbhbfkbncegabGreatDoor.Sz
end
end
end
end
section
section
set_option linter.unusedVariables false
set_option linter.unusedSimpArgs false
namespace Go.Proofs.YthhbhbfkbncegabGreatDoor.Sz
open Go.ChangeShapes Go.WideShapes Go.ChangeAt Go.RowKit Ws
open Im (PT PO PS TsAt OsAt SysAt ocells)
open Sl (ofR wrR flR obj readsP aheadP zeroR)

/-- the k-th object's slots are x -/
def withSl (s : PS) (k : Nat) (o : PO) (x : Int) : PS := { s with os := s.os.set k { o with sl := x } }
section
variable {s : PS} {k : Nat} {o : PO} (hk : s.os[k]? = some o) (x : Int)
include hk
theorem with_at : (withSl s k o x).os[k]? = some { o with sl := x } := by
 have hl := (List.getElem?_eq_some_iff.1 hk).1
 unfold withSl
 simp only [List.getElem?_set_self hl]
theorem with_obj : obj (withSl s k o x) (k : Int) = { o with sl := x } := obj_in (with_at hk x)
theorem with_role (i : Int) : Sy.roleF (withSl s k o x) i k = Sy.roleF s i k := by
 by_cases hi : 0 ≤ i ∧ i < s.ts.length
 ·rw [Sy.role_at hi hk, Sy.role_at (s := withSl s k o x) hi (with_at hk x)]
  rfl
 ·unfold Sy.roleF
  rw [if_neg (fun h => hi h.1), if_neg (fun h => hi h.1)]
omit hk in
theorem with_dem (i j a b : Int) : Dm.demI (withSl s k o x) i j a b = Dm.demI s i j a b := by
 unfold Dm.demI withSl
 simp only [List.length_set]
theorem with_of (i : Int) : ofR (withSl s k o x) i k = { ofR s i k with sl := if readsP s i k = true then x else 0, fl := (ofR (withSl s k o x) i k).fl } := by
 have h1 : readsP (withSl s k o x) i k = readsP s i k := by unfold readsP; rw [with_role hk, with_dem]
 have h2 : (obj (withSl s k o x) (k : Int)).ow = (obj s (k : Int)).ow := by rw [with_obj hk, obj_in hk]
 have h3 : aheadP (withSl s k o x) i k = aheadP s i k := by unfold aheadP; rw [h2]; rfl
 unfold ofR
 rw [h1, h3, with_dem, h2, with_obj hk, obj_in hk]
 cases readsP s i k with
 | false => rfl
 | true =>
  cases aheadP s i k with
  | false => rfl
  | true => rfl
theorem of_kind (i : Int) : (ofR s i k).k = if readsP s i k = true then o.k else 0 := by
 unfold ofR
 rw [obj_in hk]
 cases readsP s i k with
 | false => rfl
 | true =>
  cases aheadP s i k with
  | false => rfl
  | true => rfl
/-- with so many slots no attempt is spoilt -/
theorem none_fails (h4 : o.k = 4) {i r : Int} (h : wrR (ofR s i k) r ≤ x - 2) : flR (ofR (withSl s k o x) i k) r = 0 := by
 have e := with_of hk x i
 have hK := of_kind hk i
 have hw := Sl.wr_bd (ofR s i k) r
 have e1 : (ofR (withSl s k o x) i k).k = (ofR s i k).k := by rw [e]
 have e2 : (ofR (withSl s k o x) i k).sl = if readsP s i k = true then x else 0 := by rw [e]
 have e3 : wrR (ofR (withSl s k o x) i k) r = wrR (ofR s i k) r := by rw [e]; rfl
 unfold flR
 rw [e1, hK, e2, e3, h4]
 cases readsP s i k with
 | false => rfl
 | true =>
  simp only [if_true, reduceIte]
  rw [if_neg (by decide)]
  exact Int.ediv_eq_zero_of_lt hw.1 (by omega)
end
theorem slots_fails {s : PS} {k : Nat} {o : PO} (hk : s.os[k]? = some o) {rs : List Int} {x : Int} (hx : slotsI s k rs = x) (h0 : 0 < x) {i : Int} (hi : i ∈ o.rd) : flR (ofR (withSl s k o x) i k) (gI rs i) = 0 := by
 unfold slotsI at hx
 rw [obj_in hk] at hx
 by_cases h : (0 ≤ (k : Int) ∧ (k : Int) < s.os.length) ∧ o.k = 4
 ·rw [if_pos h] at hx
  refine none_fails hk x h.2 ?_
  have h1 : wrR (ofR s i k) (gI rs i) ≤ wrM s k rs := mostL_le (f := fun i => wrR (ofR s i k) (gI rs i)) (by rw [obj_in hk]; exact hi)
  omega
 ·rw [if_neg h] at hx
  omega
theorem caps_fails {s : PS} {k : Nat} {o : PO} (hk : s.os[k]? = some o) {rs : List Int} {x : Int} (hx : capsI s k rs = x) (h0 : 0 < x) {i : Int} (hi : i ∈ o.rd) : flR (ofR s i k) (gI rs i) < x := by
 unfold capsI at hx
 rw [obj_in hk] at hx
 by_cases h : (0 ≤ (k : Int) ∧ (k : Int) < s.os.length) ∧ (o.k = 3 ∨ o.k = 4 ∨ o.k = 5)
 ·rw [if_pos h] at hx
  have h1 : flR (ofR s i k) (gI rs i) ≤ flM s k rs := mostL_le (f := fun i => flR (ofR s i k) (gI rs i)) (by rw [obj_in hk]; exact hi)
  omega
 ·rw [if_neg h] at hx
  omega
theorem slots_bd (s : PS) (k : Int) (rs : List Int) : 0 ≤ slotsI s k rs ∧ slotsI s k rs ≤ 2199023255552 := by
 have := wrM_bd s k rs
 unfold slotsI
 split <;> omega
theorem caps_bd (s : PS) (k : Int) (rs : List Int) : 0 ≤ capsI s k rs ∧ capsI s k rs ≤ 2199023255552 := by
 have := flM_bd s k rs
 unfold capsI
 split <;> omega
/-- a system of few objects stays one -/
theorem with_few {s : PS} {k : Nat} {o : PO} (hk : s.os[k]? = some o) {x N : Int} (h : Sy.OFew s.os N) : Sy.OFew (withSl s k o x).os N := by
 refine ⟨?_, fun p hp => ?_⟩
 ·show (((s.os.set k { o with sl := x }).length : Nat) : Int) ≤ N
  rw [List.length_set]; exact h.1
 ·rcases List.mem_or_eq_of_mem_set hp with hp | rfl
  ·exact h.2 p hp
  ·exact h.2 o (List.mem_of_getElem? hk)
theorem with_sl {s : PS} {k : Nat} {o : PO} {x : Int} (hx : x ≤ 9223372036854775807) (h : ∀ o ∈ s.os, o.sl ≤ 9223372036854775807) : ∀ o' ∈ (withSl s k o x).os, o'.sl ≤ 9223372036854775807 := by
 intro p hp
 rcases List.mem_or_eq_of_mem_set hp with hp | rfl
 ·exact h p hp
 ·exact hx

/-- an object and where its lists lie -/
structure Ob where
 p : PO
 X : Option Addr
 c : Nat
 Y : Option Addr
 d : Nat
def Ob.cells (x : Ob) : List Value := ocells x.p x.X x.c x.Y x.d
def Ob.ok (w : World) (x : Ob) : Prop := (0 ≤ x.p.sa ∧ x.p.sa < 4294967296) ∧ Row w x.X (x.p.ini.map (Value.int .u32)) ∧ (∀ y ∈ x.p.ini, 0 ≤ y ∧ y < 4294967296) ∧ Row w x.Y (x.p.rd.map (Value.int .i64)) ∧ x.p.ini.length ≤ maxLen ∧ x.p.rd.length ≤ maxLen
def flat (l : List Ob) : List Value := l.flatMap Ob.cells
theorem cells_len (x : Ob) : x.cells.length = 8 := rfl
theorem flat_cons (x : Ob) (l : List Ob) : flat (x :: l) = x.cells ++ flat l := List.flatMap_cons
theorem flat_len : ∀ l : List Ob, (flat l).length = l.length * 8
 | [] => rfl
 | x :: l => by rw [flat_cons, List.length_append, flat_len l, cells_len, List.length_cons]; omega
theorem flat_at : ∀ (l : List Ob) (i : Nat) (x : Ob), l[i]? = some x → ∀ (j : Nat) (v : Value), x.cells[j]? = some v → (flat l)[i * 8 + j]? = some v
 | [], i, x, h, _, _, _ => by simp at h
 | y :: l, 0, x, h, j, v, hv => by
  obtain rfl : y = x := by simpa using h
  rw [flat_cons, Nat.zero_mul, Nat.zero_add, List.getElem?_append_left (List.getElem?_eq_some_iff.1 hv).1]
  exact hv
 | y :: l, i + 1, x, h, j, v, hv => by
  have hj := (List.getElem?_eq_some_iff.1 hv).1
  rw [flat_cons, List.getElem?_append_right (by rw [cells_len]; omega), cells_len, show (i + 1) * 8 + j - 8 = i * 8 + j by omega]
  exact flat_at l i x (by simpa using h) j v hv
theorem flat_one : ∀ (l : List Ob) (u : Value), u ∈ flat l → u.oneCell' = true
 | [], u, h => by cases h
 | x :: l, u, h => by
  rw [flat_cons] at h
  rcases List.mem_append.1 h with h | h
  ·unfold Ob.cells ocells at h
   simp only [List.mem_cons, List.not_mem_nil, or_false] at h
   rcases h with rfl | rfl | rfl | rfl | rfl | rfl | rfl | rfl <;> rfl
  ·exact flat_one l u h
theorem flat_set : ∀ (l : List Ob) (k : Nat) (x : Ob) (n : Int), l[k]? = some x → (flat l).set (k * 8 + 2) (.int .i64 n) = flat (l.set k { x with p := { x.p with sl := n } })
 | [], k, x, n, h => by simp at h
 | y :: l, 0, x, n, h => by
  obtain rfl : y = x := by simpa using h
  rfl
 | y :: l, k + 1, x, n, h => by
  have ih := flat_set l k x n (by simpa using h)
  rw [List.set_cons_succ, flat_cons, flat_cons, ← ih, show (k + 1) * 8 + 2 = (k * 8 + 2) + 8 by omega]
  rfl
theorem ps_set {l : List Ob} {os : List PO} (h : l.map Ob.p = os) {k : Nat} {x : Ob} {n : Int} : (l.set k { x with p := { x.p with sl := n } }).map Ob.p = os.set k { x.p with sl := n } := by
 rw [List.map_set, h]
theorem ok_set {w : World} {l : List Ob} (h : ∀ x ∈ l, x.ok w) {k : Nat} {x : Ob} (hx : x.ok w) {n : Int} : ∀ y ∈ l.set k { x with p := { x.p with sl := n } }, y.ok w := by
 intro y hy
 rcases List.mem_or_eq_of_mem_set hy with hy | rfl
 ·exact h y hy
 ·exact hx
theorem Ob.ok.same {w w' : World} {x : Ob} (h : x.ok w) (hs : Same w w') : x.ok w' := ⟨h.1, h.2.1.same hs, h.2.2.1, h.2.2.2.1.same hs, h.2.2.2.2⟩
theorem flat_from {w : World} {b : Nat} : ∀ (os : List PO) (o : Nat), (∀ i p, os[i]? = some p → ∃ X c Y d, (∀ j v, (ocells p X c Y d)[j]? = some v → w.cell? ⟨b, o + i * 8 + j, none⟩ = some v) ∧ Ob.ok w ⟨p, X, c, Y, d⟩) →
 ∃ l : List Ob, l.map Ob.p = os ∧ (∀ x ∈ l, x.ok w) ∧ ∀ j v, (flat l)[j]? = some v → w.cell? ⟨b, o + j, none⟩ = some v
 | [], o, _ => by
  refine ⟨[], rfl, ?_, ?_⟩
  ·intro x hx
   exact absurd hx List.not_mem_nil
  ·intro j v hv
   exact absurd (show ([] : List Value)[j]? = some v from hv) (by simp)
 | p :: os, o, h => by
  obtain ⟨X, c, Y, d, h1, h2⟩ := h 0 p rfl
  obtain ⟨l, h3, h4, h5⟩ := flat_from os (o + 8) (fun i q hq => by
   obtain ⟨X, c, Y, d, g1, g2⟩ := h (i + 1) q (by simpa using hq)
   exact ⟨X, c, Y, d, fun j v hv => by rw [show o + 8 + i * 8 + j = o + (i + 1) * 8 + j by omega]; exact g1 j v hv, g2⟩)
  refine ⟨⟨p, X, c, Y, d⟩ :: l, by rw [List.map_cons, h3], ?_, ?_⟩
  ·intro x hx
   rcases List.mem_cons.1 hx with rfl | hx
   ·exact h2
   ·exact h4 x hx
  ·intro j v hv
   rw [flat_cons] at hv
   rcases Nat.lt_or_ge j 8 with hj | hj
   ·rw [List.getElem?_append_left (by rw [cells_len]; exact hj)] at hv
    have := h1 j v hv
    rwa [Nat.zero_mul, Nat.add_zero] at this
   ·rw [List.getElem?_append_right (by rw [cells_len]; exact hj), cells_len] at hv
    have := h5 (j - 8) v hv
    rwa [show o + 8 + (j - 8) = o + j by omega] at this
/-- a row of objects is a row of cells -/
theorem flat_of {w : World} {b o : Nat} {os : List PO} (h : OsAt w (some ⟨b, o, none⟩) os) : ∃ l : List Ob, l.map Ob.p = os ∧ (∀ x ∈ l, x.ok w) ∧ Row w (some ⟨b, o, none⟩) (flat l) := by
 obtain ⟨l, h1, h2, h3⟩ := flat_from (w := w) (b := b) os o (fun i p hp => by
  obtain ⟨b', o', e, X, c, Y, d, g1, g2⟩ := h i p hp
  injection e with e
  injection e with e1 e2
  subst e1
  subst e2
  exact ⟨X, c, Y, d, g1, g2⟩)
 exact ⟨l, h1, h2, fun j v hv => ⟨b, o, rfl, h3 j v hv⟩⟩
/-- and back -/
theorem of_flat {w : World} {g : Nat} {l : List Ob} (h : Row w (some ⟨g, 0, none⟩) (flat l)) (hk : ∀ x ∈ l, x.ok w) : OsAt w (some ⟨g, 0, none⟩) (l.map Ob.p) := by
 intro i p hp
 rw [List.getElem?_map] at hp
 cases hx : l[i]? with
 | none => rw [hx] at hp; cases hp
 | some x =>
  rw [hx] at hp
  obtain rfl : x.p = p := by simpa using hp
  refine ⟨g, 0, rfl, x.X, x.c, x.Y, x.d, fun j v hv => ?_, hk x (List.mem_of_getElem? hx)⟩
  have := h.get (flat_at l i x hx j v hv)
  rwa [show 0 + i * 8 + j = 0 + (i * 8 + j) by omega]
theorem thaw_k {w : World} {B : Nat} {e : TypeId} {s g n c : Nat} {l : List Value} (h : OwnK w B e s (some ⟨g, 0, none⟩) n c l) (j : Nat) : w.frozen? ⟨g, j, none⟩ = false := by
 rcases h.2 with ⟨h2, _⟩ | ⟨g', cap, cur, hv, hB, hg, _⟩
 ·cases h2
 ·injection hv with hv
  injection hv with hv
  injection hv with hv
  subst hv
  exact Blk.thaw (t := e) hg j
theorem own_some {w : World} {B : Nat} {e : TypeId} {s n c : Nat} {A : Option Addr} {l : List Value} (h : OwnK w B e s A n c l) (h0 : 0 < n) : ∃ g, A = some ⟨g, 0, none⟩ := by
 rcases h.2 with ⟨_, hz⟩ | ⟨g', cap, cur, hv, _⟩
 ·omega
 ·injection hv with hv
  exact ⟨g', hv⟩
theorem obs_at {l : List Ob} {os : List PO} (h : l.map Ob.p = os) {k : Nat} {o : PO} (hk : os[k]? = some o) : ∃ x, l[k]? = some x ∧ x.p = o := by
 rw [← h, List.getElem?_map] at hk
 cases hx : l[k]? with
 | none => rw [hx] at hk; cases hk
 | some x => rw [hx] at hk; exact ⟨x, rfl, by simpa using hk⟩
/-- the copied row with the new number -/
theorem copied {w : World} {B : Nat} {e : TypeId} {g n c k : Nat} {l : List Ob} {s : PS} {o : PO} {x : Int} (h : OwnK w B e 8 (some ⟨g, 0, none⟩) n c ((flat l).set (k * 8 + 2) (.int .i64 x))) (hl : l.map Ob.p = s.os) (hok : ∀ y ∈ l, y.ok w) (hk : s.os[k]? = some o) :
 OsAt w (some ⟨g, 0, none⟩) (withSl s k o x).os := by
 obtain ⟨y, hy, rfl⟩ := obs_at hl hk
 rw [flat_set l k y x hy] at h
 have h2 := of_flat h.row (ok_set hok (hok y (List.mem_of_getElem? hy)))
 rwa [ps_set hl] at h2
end Go.Proofs.YthhbhbfkbncegabGreatDoor.Sz
end
section
section
section
section
section
set_option linter.unusedVariables false
set_option linter.unusedSimpArgs false
namespace Go.Proofs.YthhbhbfkbncegabGreatDoor.Cs
open Go.ChangeShapes Go.WideShapes Go.ChangeAt Go.RowKit Ws
open Go.Proofs.YthhbhbfkbncegabGreatDoor.Fp (Ins at_ Fine at_some lp loopsL nextL hasB)
open Go.Proofs.YthhbhbfkbncegabGreatDoor.Fw (Prg Spn spanCells spn_of)

end Go.Proofs.YthhbhbfkbncegabGreatDoor.Cs
end
section
set_option linter.unusedVariables false
set_option linter.unusedSimpArgs false
namespace Go.Proofs.YthhbhbfkbncegabGreatDoor.Cs
open Go.ChangeShapes Go.WideShapes Go.ChangeAt Go.RowKit Ws
open Go.Proofs.YthhbhbfkbncegabGreatDoor.Fp (Ins at_ Fine at_some lp loopsL nextL hasB)
open Go.Proofs.YthhbhbfkbncegabGreatDoor.Fw (Prg Spn spanCells spn_of)

/-- what stands between two places -/
structure PI (w : World) (q C : Nat) (a b m : Nat) (st : St) (W : World) : Prop where
 p : Blk W q 103 #[.int .i64 a, .int .i64 b]
 r : Blk W (q + 1) 98 #[.int .i64 0, .int .i64 0]
 c : OwnK W C 3 1 (some ⟨C, 0, none⟩) (m + 1) (m + 1) (st.come.map (Value.int .i64))
 o : Blk W (C + 1) 98 #[.int .i64 st.all.thru, .int .i64 st.all.fin]
 same : Same w W
 lt : w.heap.size = q ∧ C = q + 2
theorem PI.same_ {w : World} {q C a b m : Nat} {st : St} {W W' : World} (h : PI w q C a b m st W) (hs : Same W W') : PI w q C a b m st W' := ⟨h.p.same hs, h.r.same hs, h.c.same hs, h.o.same hs, h.same.trans hs, h.lt⟩
theorem PI.come_ {w : World} {q C a b m : Nat} {st : St} {W W' : World} (h : PI w q C a b m st W) (hc : Chg (fun i => i = C) W W') {come : List Int} (hn : OwnK W' C 3 1 (some ⟨C, 0, none⟩) (m + 1) (m + 1) (come.map (Value.int .i64))) : PI w q C a b m ⟨come, st.all⟩ W' := by
 have h2 := h.lt
 exact ⟨h.p.chg hc (by omega), h.r.chg hc (by omega), hn, h.o.chg hc (by omega), Same.more h.same hc (fun i hi => by omega), h.lt⟩
end Go.Proofs.YthhbhbfkbncegabGreatDoor.Cs
end
end
section
section
section
set_option linter.unusedVariables false
set_option linter.unusedSimpArgs false
namespace Go.Proofs.YthhbhbfkbncegabGreatDoor.Cs
open Go.ChangeShapes Go.WideShapes Go.ChangeAt Go.RowKit Ws
open Go.Proofs.YthhbhbfkbncegabGreatDoor.Fp (Ins at_ Fine at_some lp loopsL nextL hasB)
open Go.Proofs.YthhbhbfkbncegabGreatDoor.Fw (Prg Spn spanCells spn_of)

end Go.Proofs.YthhbhbfkbncegabGreatDoor.Cs
end
section
section
set_option linter.unusedVariables false
set_option linter.unusedSimpArgs false
namespace Go.Proofs.YthhbhbfkbncegabGreatDoor.Dm
open Go.ChangeShapes Go.WideShapes Go.ChangeAt Go.RowKit Ws
open Im (PT PO PS TsAt OsAt SysAt tcells ocells)
open Go.Proofs.YthhbhbfkbncegabGreatDoor.Is (callB callV rightB)

end Go.Proofs.YthhbhbfkbncegabGreatDoor.Dm
end
section
set_option linter.unusedVariables false
set_option linter.unusedSimpArgs false
namespace Go.Proofs.YthhbhbfkbncegabGreatDoor.Sl
open Go.ChangeShapes Go.WideShapes Go.ChangeAt Go.RowKit Ws
open Im (PT PO PS TsAt OsAt SysAt tcells ocells)
open Dm (demI dearI dearE)
open Go.Proofs.YthhbhbfkbncegabGreatDoor.Wd (ret_bool ret_int mulv ceilv addv)
end Go.Proofs.YthhbhbfkbncegabGreatDoor.Sl
end
end
end
section
section
set_option linter.unusedVariables false
set_option linter.unusedSimpArgs false
namespace Go.Proofs.YthhbhbfkbncegabGreatDoor.Sl
open Go.ChangeShapes Go.WideShapes Go.ChangeAt Go.RowKit Ws
open Im (PT PO PS TsAt OsAt SysAt tcells ocells)
open Dm (demI dearI dearE)
open Go.Proofs.YthhbhbfkbncegabGreatDoor.Wd (ret_bool ret_int mulv ceilv addv)
end Go.Proofs.YthhbhbfkbncegabGreatDoor.Sl
end
section
set_option linter.unusedVariables false
set_option linter.unusedSimpArgs false
namespace Go.Proofs.YthhbhbfkbncegabGreatDoor.Sl
open Go.ChangeShapes Go.WideShapes Go.ChangeAt Go.RowKit Ws
open Im (PT PO PS TsAt OsAt SysAt tcells ocells)
open Go.Proofs.YthhbhbfkbncegabGreatDoor.Wd (ret_bool ret_int)
end Go.Proofs.YthhbhbfkbncegabGreatDoor.Sl
end
end
end
end
section
set_option linter.unusedVariables false
set_option linter.unusedSimpArgs false
namespace Go.Proofs.YthhbhbfkbncegabGreatDoor.Sz
open Go.ChangeShapes Go.WideShapes Go.ChangeAt Go.RowKit Ws
open Im (PT PO PS TsAt OsAt SysAt tcells ocells)
open Go.Proofs.YthhbhbfkbncegabGreatDoor.Wd (ret_bool ret_int)
open Sl (ofR wrR flR obj)
theorem ticks_any (A : Option Addr) (n c : Nat) (l : List Int) (i : Int) (w : World) (hl : l.length = n) (hr : Row w A (l.map (Value.int .i64))) :
 Calls Tryz.prog 17 #[.slice A n c, .int .i64 i] w fun e w' => e = .returned (.int .i64 (gI l i)) ∧ Same w w' := by
 rcases (show i < 0 ∨ (¬ i < 0 ∧ (n : Int) ≤ i) ∨ (¬ i < 0 ∧ ¬ (n : Int) ≤ i) by omega) with h0 | ⟨h1, h2⟩ | ⟨h1, h2⟩
 ·have d0 : decide (i < 0) = true := decide_eq_true h0
  have HG := Lib.hid (gI_no (l := l) (.inl h0))
  clear h0 hr
  go_enter Tryz.func17, Tryz.ntmps17
  go_wp2_with fail
  go_ret
  exact ⟨ret_int HG.out.symm, Same.refl _⟩
 ·have d0 : decide (i < 0) = false := decide_eq_false h1
  have d1 : decide ((n : Int) ≤ i) = true := decide_eq_true h2
  have HG := Lib.hid (gI_no (l := l) (.inr (by rw [hl]; exact h2)))
  clear h1 h2 hr
  go_enter Tryz.func17, Tryz.ntmps17
  go_wp2_with fail
  go_ret
  exact ⟨ret_int HG.out.symm, Same.refl _⟩
 ·have d0 : decide (i < 0) = false := decide_eq_false h1
  have d1 : decide ((n : Int) ≤ i) = false := decide_eq_false h2
  obtain ⟨k, rfl⟩ : ∃ k : Nat, i = k := ⟨i.toNat, by omega⟩
  obtain ⟨v, hk⟩ : ∃ v, l[k]? = some v := ⟨l[k]'(by omega), List.getElem?_eq_getElem _⟩
  obtain ⟨b, o, rfl, c0⟩ := hr k (.int .i64 v) (by rw [List.getElem?_map, hk]; rfl)
  have HG := Lib.hid (gI_at hk)
  have hlt : (k : Int) < n := by omega
  have hk0 : (0 : Int) ≤ k := by omega
  clear hr hk h1 h2
  go_enter Tryz.func17, Tryz.ntmps17
  go_wp2_with fail
  go_ret
  exact ⟨ret_int HG.out.symm, Same.refl _⟩
end Go.Proofs.YthhbhbfkbncegabGreatDoor.Sz
end
end
section
set_option linter.unusedVariables false
set_option linter.unusedSimpArgs false
namespace Go.Proofs.YthhbhbfkbncegabGreatDoor.Sz
open Go.ChangeShapes Go.WideShapes Go.ChangeAt Go.RowKit Ws
open Im (PT PO PS TsAt OsAt SysAt tcells ocells)
open Go.Proofs.YthhbhbfkbncegabGreatDoor.Wd (ret_bool ret_int)
open Sl (ofR wrR flR obj)
theorem ob_inf : (Tryz.prog.info? 43).map (fun i => (i.zero, i.size, i.bytes)) = some (some (.agg #[.int .i64 0, .int .i64 0, .int .i64 0, .int .i64 0, .int .u32 0, .slice none 0 0, .int .i64 0, .slice none 0 0]), 8, 96) := by kernel_rfl
set_option maxRecDepth 100000 in
set_option maxHeartbeats 8000000 in
theorem enough_walk (A B C : Option Addr) (n c m d cl cc : Nat) (s : PS) (k : Int) (rs : List Int) (hrs : ∀ y ∈ rs, (Lit.int .i64 y).wf = true) (w : World) (hs : SysAt w A n B m s) (hwf : Im.SysWg s) (hnm : n ≤ maxLen ∧ m ≤ maxLen) (hT : Is.Tabs w) (hcl : rs.length = cl) (hr : Row w C (rs.map (Value.int .i64))) :
 Calls Tryz.prog 5 #[.agg #[.slice A n c, .slice B m d], .int .i64 k, .slice C cl cc] w fun e w' => e = .returned (.bool true) ∧ Same w w' := by
 obtain ⟨ii, hii, hz0, hz1, hz2⟩ := info_parts ob_inf
 obtain ⟨w0, hw0⟩ : ∃ w0, w0 = w.alloc (.cells #[.slice A n c, .slice B m d] 25) := ⟨_, rfl⟩
 obtain ⟨g, hg⟩ : ∃ g, g = w.heap.size := ⟨_, rfl⟩
 have s0 : Same w w0 := hw0 ▸ (Same.refl w).alloc _
 have b0 : Blk w0 g 25 #[.slice A n c, .slice B m d] := by rw [hw0, hg]; exact Blk.new w _ _
 have HE0 := Lib.hid hw0
 have HG := Lib.hid hg
 have S0 := Lib.hid s0
 obtain ⟨c0, c1⟩ := (⟨b0.cell 0, b0.cell 1⟩ : _ ∧ _)
 simp only [Ws.q_] at c0 c1
 have B0 := Lib.hid b0
 have FE := Lib.hid (Sy.few31 A B n c m d s 20 w0 (hs.same S0.out) hnm)
 have HS := Lib.hid (hs.same S0.out)
 have HT := Lib.hid (hT.same S0.out)
 have HR := Lib.hid (hr.same s0)
 clear hw0 hg s0 b0 hs hT hr
 go_enter Tryz.func5, Tryz.ntmps5
 go_upto_region 1 with fail
 rw [← HE0.out, ← HG.out]
 clear HE0 HG
 go_wp2_with fail
 refine FE.out.mono ?_
 rintro e wf ⟨⟨bf, rfl, hbf⟩, sf⟩
 have SF := Lib.hid sf
 have AW := Lib.hid (fun W (h : Same wf W) => awake39 W (HT.out.same (sf.trans h)))
 have HT := Lib.hid (HT.out.same sf)
 have HS := Lib.hid (HS.out.same sf)
 have HR := Lib.hid (HR.out.same sf)
 have B0 := Lib.hid (B0.out.same sf)
 have c0 := sf.cell c0
 have c1 := sf.cell c1
 clear sf FE
 cases bf with
 | false =>
  clear hbf
  go_wp2_with fail
  refine (AW.out _ (Same.refl _)).mono ?_
  rintro e w3 ⟨rfl, s3⟩
  go_wp2_with fail
  go_ret
  exact ⟨rfl, S0.out.trans (SF.out.trans s3)⟩
 | true =>
  by_cases hlong : (cl : Int) > 100
  ·have g : decide ((100 : Int) < cl) = true := by simpa using hlong
   clear hbf
   go_wp2_with fail
   refine (AW.out _ (Same.refl _)).mono ?_
   rintro e w3 ⟨rfl, s3⟩
   go_wp2_with fail
   go_ret
   exact ⟨rfl, S0.out.trans (SF.out.trans s3)⟩
  ·have g : decide ((100 : Int) < cl) = false := by simpa using hlong
   by_cases hneg : k < 0
   ·have g2 : decide (k < 0) = true := decide_eq_true hneg
    clear hbf
    go_wp2_with fail
    refine (AW.out _ (Same.refl _)).mono ?_
    rintro e w3 ⟨rfl, s3⟩
    go_wp2_with fail
    go_ret
    exact ⟨rfl, S0.out.trans (SF.out.trans s3)⟩
   ·have g2 : decide (k < 0) = false := decide_eq_false hneg
    by_cases hbig : (m : Int) ≤ k
    ·have g3 : decide ((m : Int) ≤ k) = true := decide_eq_true hbig
     clear hbf
     go_wp2_with fail
     refine (AW.out _ (Same.refl _)).mono ?_
     rintro e w3 ⟨rfl, s3⟩
     go_wp2_with fail
     go_ret
     exact ⟨rfl, S0.out.trans (SF.out.trans s3)⟩
    ·have g3 : decide ((m : Int) ≤ k) = false := decide_eq_false hbig
     obtain ⟨k, rfl⟩ : ∃ k' : Nat, k = k' := ⟨k.toNat, by omega⟩
     have hk0 : (0 : Int) ≤ k := by omega
     have hkm : (k : Int) < m := by omega
     have g3' : decide (m ≤ k) = false := decide_eq_false (by omega)
     obtain ⟨o, hox⟩ : ∃ o, s.os[k]? = some o := ⟨s.os[k]'(by have := HS.out.hm; omega), List.getElem?_eq_getElem _⟩
     obtain ⟨hft, hfo⟩ := hbf rfl
     have hf : ∀ p ∈ s.ts, p.code.length ≤ 200 := hft.2
     have ho := Sl.few_wid hfo (by omega)
     have hsl := hwf.sl
     obtain ⟨bB, oB, rfl, Xo, co, Yo, do_, e0, e1, e2, e3, e4, e5, e6, e7, hrest⟩ := HS.out.ho.at_ hox
     have HO7c := Lib.hid e7
     have HRD := Lib.hid hrest.2.2.2.1
     have HRL := Lib.hid (ho.2 o (List.mem_of_getElem? hox)).2
     have HMM := Lib.hid (show m ≤ 1000 by have := hfo.1; rw [HS.out.hm] at this; omega)
     have ST := Lib.hid (fun W (h : Same wf W) => slots_any A _ n c m d s k C cl cc rs hrs W (HS.out.same h) hnm hf ho (HT.out.same h) hcl (HR.out.same h))
     have CP := Lib.hid (fun W (h : Same wf W) => caps_any A _ n c m d s k C cl cc rs hrs hsl W (HS.out.same h) hnm hf ho (HT.out.same h) hcl (HR.out.same h))
     have FA := Lib.hid (fun (i : Int) W (h : Same wf W) => Sl.ifails_any A _ n c m d s i k (gI rs i) (gI_bd hrs i) hsl W (HS.out.same h) hnm hf ho (HT.out.same h))
     have FX := Lib.hid (fun (i x : Int) (hx : x ≤ 9223372036854775807) (A' : Option Addr) (c' : Nat) W (h : Same wf W) (hw : OsAt W A' (withSl s k o x).os) => Sl.ifails_any A A' n c m c' (withSl s k o x) i k (gI rs i) (gI_bd hrs i) (with_sl hx hsl) W ⟨(HS.out).hn, by show (s.os.set k { o with sl := x }).length = m; rw [List.length_set]; exact HS.out.hm, HS.out.ht.same h, hw⟩ hnm hf (with_few hox ho) (HT.out.same h))
     have TI := Lib.hid (fun (i : Int) W (h : Same wf W) => ticks_any C cl cc rs i W hcl (HR.out.same h))
     obtain ⟨obs, hob1, hob2, hob3⟩ := flat_of HS.out.ho
     have HOB := Lib.hid hob1
     have HOK := Lib.hid hob2
     have HOR := Lib.hid hob3
     have HOX := Lib.hid hox
     have b1 := slots_bd s k rs
     have b2 := caps_bd s k rs
     have HB1 := Lib.hid (show slotsI s k rs ≤ 9223372036854775807 by omega)
     have SF1 := Lib.hid (fun (x : Int) (hx : slotsI s k rs = x) (h0 : 0 < x) (i : Int) (hi : i ∈ o.rd) => slots_fails hox hx h0 hi)
     have CF1 := Lib.hid (fun (x : Int) (hx : capsI s k rs = x) (h0 : 0 < x) (i : Int) (hi : i ∈ o.rd) => caps_fails hox hx h0 hi)
     clear hbf hft hfo hf ho hsl hcl hlong hneg hbig e0 e1 e2 e3 e4 e5 e6 e7 hrest hob1 hob2 hob3 hox
     generalize hX1 : slotsI s k rs = x1 at *
     generalize hX2 : capsI s k rs = x2 at *
     have HX1 := Lib.hid hX1
     have HX2 := Lib.hid hX2
     clear hX1 hX2
     go_upto_region 3 with fail
     clear c0 c1
     have BB0 := Lib.hid (B0.out.same (Same.refl wf))
     refine wp_region_held_drew (S := fun w' => Same wf w') (by kernel_rfl) ?_ (fun hHeld => ?_)
     ·exact (Same.refl wf).drew
     refine Ro.tn 0 ?_ ?_ ?_
     rotate_left
     ·intro wS hSw; (try dsimp only at hSw); obtain ⟨v0, v1⟩ := (⟨(BB0.out.same hSw).cell 0, (BB0.out.same hSw).cell 1⟩ : _ ∧ _); simp only [Ws.q_] at v0 v1; go_simp; try with_reducible rfl
     try simp only [Ro.p]
     refine Ro.tn 1 ?_ ?_ ?_
     rotate_left
     ·intro wS hSw; (try dsimp only at hSw); go_simp; try with_reducible rfl
     try simp only [Ro.p]
     refine Ro.tn 2 ?_ ?_ ?_
     rotate_left
     ·intro wS hSw; (try dsimp only at hSw); go_simp; try with_reducible rfl
     try simp only [Ro.p]
     refine Ro.tn 4 ?_ ?_ ?_
     rotate_left
     ·intro wS hSw; (try dsimp only at hSw); obtain ⟨v0, v1⟩ := (⟨(BB0.out.same hSw).cell 0, (BB0.out.same hSw).cell 1⟩ : _ ∧ _); simp only [Ws.q_] at v0 v1; go_simp; try with_reducible rfl
     try simp only [Ro.p]
     refine Ro.tn 5 ?_ ?_ ?_
     rotate_left
     ·intro wS hSw; (try dsimp only at hSw); go_simp; try with_reducible rfl
     try simp only [Ro.p]
     refine Ro.tn 6 ?_ ?_ ?_
     rotate_left
     ·intro wS hSw; (try dsimp only at hSw); go_simp; try with_reducible rfl
     try simp only [Ro.p]
     refine Ro.one_on (i := 3) rfl (by kernel_rfl) (by rfl) (fun K hK => ?_)
     go_simp
     go_at_call 13
     refine (ST.out _ hHeld).mono ?_
     rintro e wN ⟨rfl, sN⟩
     refine hK.out _ _ ?_ (fun hNew => ?_)
     ·exact hHeld.trans sN
     clear hK K hHeld; have hHeld := hNew; clear hNew
     try simp only [Ro.p]
     refine Ro.one_on (i := 7) rfl (by kernel_rfl) (by rfl) (fun K hK => ?_)
     go_simp
     go_at_call 15
     refine (CP.out _ hHeld).mono ?_
     rintro e wN ⟨rfl, sN⟩
     refine hK.out _ _ ?_ (fun hNew => ?_)
     ·exact hHeld.trans sN
     clear hK K hHeld; have hHeld := hNew; clear hNew
     try simp only [Ro.p]
     refine Ro.tn 8 ?_ ?_ ?_
     rotate_left
     ·intro wS hSw; (try dsimp only at hSw); go_simp; try with_reducible rfl
     try simp only [Ro.p]
     refine Ro.tn 9 ?_ ?_ ?_
     rotate_left
     ·intro wS hSw; (try dsimp only at hSw); go_simp; try with_reducible rfl
     try simp only [Ro.p]
     refine wpAnyH_done (by kernel_rfl) ?_ _
     have S4 := Lib.hid hHeld
     obtain ⟨c0, c1⟩ := (⟨(B0.out.same hHeld).cell 0, (B0.out.same hHeld).cell 1⟩ : _ ∧ _)
     simp only [Ws.q_] at c0 c1
     have BB0 := Lib.hid (B0.out.same hHeld)
     clear hHeld
     go_upto_region 5 with fail
     have HQ := Lib.hid (Blk.new wN 25 #[.slice A n c, .slice (some ⟨bB, oB, none⟩) m d])
     have S5 := Lib.hid (S4.out.alloc (.cells #[.slice A n c, .slice (some ⟨bB, oB, none⟩) m d] 25))
     have hg2 := S4.out.size
     have BB0 := Lib.hid (BB0.out.same ((Same.refl _).alloc (.cells #[.slice A n c, .slice (some ⟨bB, oB, none⟩) m d] 25)))
     generalize wN.alloc (.cells #[.slice A n c, .slice (some ⟨bB, oB, none⟩) m d] 25) = w5 at *
     generalize wN.heap.size = g2 at *
     have HG2 := Lib.hid hg2
     have hg25 := HQ.out.lt
     have HG25 := Lib.hid hg25
     clear S4 hg2 hg25 c0 c1
     obtain ⟨c0, c1⟩ := (⟨BB0.out.cell 0, BB0.out.cell 1⟩ : _ ∧ _)
     simp only [Ws.q_] at c0 c1
     have hol : obs.length = m := by have h1 := congrArg List.length HOB.out; rw [List.length_map, HS.out.hm] at h1; exact h1
     have HOL := Lib.hid hol
     clear hol
     have cx := ((Same.refl w5).alloc (.cells #[] 43)).cell c1
     go_wp2_with (at_builtin; go_loud (refine wpList_appK rfl (.tmp 42) (.tmp 44) 23 rfl w5.heap.size 43 ii _ 8 96 Tryz.underlying23 hii hz0 hz1 hz2 rfl (by omega) (some ⟨w5.heap.size, 0, none⟩) 0 0 [] rfl (World.ownsRow_made w5 #[] 0 (Nat.le_refl _) (Nat.zero_le _) rfl) ⟨bB, oB, none⟩ m d (flat obs) rfl ?c1 (HOR.out.same (S5.out.alloc _)) (fun u hu => flat_one obs u hu) ?c2 (by omega) ?c3 ?_))
     case c1 => rw [flat_len, HOL.out]
     case c2 => have := HMM.out; omega
     case c3 => simp
     intro A2 c2' w6 ho6 hc6
     have ho6 : OwnK w6 w5.heap.size 43 8 A2 m c2' (flat obs) := by simpa using ho6
     try simp only [Nat.zero_add]
     obtain ⟨g3, rfl⟩ := own_some ho6 (by omega)
     have hlt6 := ho6.lt
     have h56 : Same w5 w6 := Same.more ((Same.refl w5).alloc (.cells #[] 43)) hc6 fun g hg => by
      have hg : w5.heap.size = g := by
       first
        | exact hg
        | (have hg : (some ⟨w5.heap.size, 0, none⟩ : Option Addr) = some ⟨g, 0, none⟩ := hg
           injection hg with hg
           injection hg)
      omega
     have S6 := Lib.hid (S5.out.trans h56)
     have BB0 := Lib.hid (BB0.out.same h56)
     have HQ := Lib.hid (HQ.out.same h56)
     have HG3 := Lib.hid (show g2 < g3 from Nat.lt_of_lt_of_le HG25.out hlt6.1)
     have HO6 := Lib.hid ho6
     clear ho6 hc6 h56 c0 c1 cx S5 HG25 hlt6
     have d1 := HQ.out.cell 1
     have f1 := HQ.out.thaw 1
     simp only [Ws.q_] at d1
     go_upto_region 6 with fail
     have hch := (Chg.refl (fun i => i = g2) w6).set (p := ⟨g2, 1, none⟩) (.inl rfl) (.slice (some ⟨g3, 0, none⟩) m c2')
     have HQ := Lib.hid (HQ.out.put 1 (.slice (some ⟨g3, 0, none⟩) m c2'))
     generalize w6.setCell ⟨g2, 1, none⟩ (.slice (some ⟨g3, 0, none⟩) m c2') = w7 at *
     have S7 := Lib.hid (Same.more S6.out hch fun i hi => by have := HG2.out; have hi : i = g2 := hi; omega)
     have BB0 := Lib.hid (BB0.out.chg hch (fun hi => by have := HG2.out; have := B0.out.lt; have hi : _ = g2 := hi; omega))
     have HO7 := Lib.hid (HO6.out.chg hch (fun i hi hi2 => by
      have := HG3.out
      have hi2 : i = g2 := hi2
      injection hi with hi
      injection hi with hi
      omega))
     clear hch d1 f1 S6 HO6
     have q1 := HQ.out.cell 0
     have q2 := HQ.out.cell 1
     simp only [List.setIfInBounds_toArray, List.set_cons_zero, List.set_cons_succ, List.getElem?_toArray, List.getElem?_cons_zero, List.getElem?_cons_succ] at q1 q2
     obtain ⟨c0, c1⟩ := (⟨BB0.out.cell 0, BB0.out.cell 1⟩ : _ ∧ _)
     simp only [Ws.q_] at c0 c1
     by_cases hp1 : 0 < x1
     ·have gx1 : decide ((0 : Int) < x1) = true := decide_eq_true hp1
      have HP1 := Lib.hid hp1
      clear hp1
      have e2 : w7.cell? ⟨g3, k * 8 + 2, none⟩ = some (.int .i64 o.sl) := by
       obtain ⟨y, hy, hyp⟩ := obs_at HOB.out HOX.out
       have := HO7.out.row.get (flat_at obs k y hy 2 (.int .i64 o.sl) (by rw [← hyp]; rfl))
       rwa [Nat.zero_add] at this
      have f2 := thaw_k HO7.out (k * 8 + 2)
      go_upto_region 8 with fail
      have hch := (Chg.refl (fun i => i = g3) w7).set (p := ⟨g3, k * 8 + 2, none⟩) (.inl rfl) (.int .i64 x1)
      have ho8 := (World.ownsRow.stored HO7.out (k * 8 + 2) (.int .i64 x1)).1
      generalize w7.setCell ⟨g3, k * 8 + 2, none⟩ (.int .i64 x1) = w8 at *
      have S8 := Lib.hid (Same.more S7.out hch fun i hi => by have := HG2.out; have := HG3.out; have hi : i = g3 := hi; omega)
      have BB0 := Lib.hid (BB0.out.chg hch (fun hi => by have := HG2.out; have := HG3.out; have := B0.out.lt; have hi : _ = g3 := hi; omega))
      have HQ := Lib.hid (HQ.out.chg hch (fun hi => by have := HG3.out; have hi : g2 = g3 := hi; omega))
      have OS8 := Lib.hid (copied (s := s) (o := o) (x := x1) ho8 HOB.out (fun y hy => (HOK.out y hy).same S8.out) HOX.out)
      clear hch ho8 HO7 q1 q2 c0 c1 e2 f2 S7 HOR HOB HOK HOL
      have q1 := HQ.out.cell 0
      have q2 := HQ.out.cell 1
      simp only [List.setIfInBounds_toArray, List.set_cons_zero, List.set_cons_succ, List.getElem?_toArray, List.getElem?_cons_zero, List.getElem?_cons_succ] at q1 q2
      obtain ⟨c0, c1⟩ := (⟨BB0.out.cell 0, BB0.out.cell 1⟩ : _ ∧ _)
      simp only [Ws.q_] at c0 c1
      have e7 := S8.out.cell HO7c.out
      go_wp2_with fail
      go_loopg [62] o.rd.length (fun gk iv wx => ∃ j : Nat, j + gk = o.rd.length ∧ iv = .int .i64 (j : Int) ∧ Same w8 wx)
      case atStart => exact ⟨0, by omega, rfl, Same.refl _⟩
      case round =>
       obtain ⟨j, hk, rfl, sx⟩ := hrel
       have HS9 := Lib.hid (S8.out.trans sx)
       have HR9 := Lib.hid sx
       cases gk with
       | zero =>
        have hge : ¬ (j : Int) < (o.rd.length : Int) := by omega
        clear sx
        go_wp2_with fail
        refine (AW.out _ HS9.out).mono ?_
        rintro e w9 ⟨rfl, s9⟩
        go_wp2_with fail
        go_ret
        exact ⟨rfl, S0.out.trans (SF.out.trans (HS9.out.trans s9))⟩
       | succ GK =>
        have hlt : (j : Int) < (o.rd.length : Int) := by omega
        have hj0 : (0 : Int) ≤ j := by omega
        have HK := Lib.hid hk
        have hjl : j < o.rd.length := by omega
        obtain ⟨bY, oY, rfl, cY⟩ := (HRD.out.same HS9.out).at_ (k := j) (by rw [List.length_map]; exact hjl)
        have hx : o.rd[j]'hjl = o.rd.getD j 0 := by
         rw [List.getD_eq_getElem?_getD, List.getElem?_eq_getElem hjl]
         rfl
        rw [List.getElem_map, hx] at cY
        have him : o.rd.getD j 0 ∈ o.rd := hx ▸ List.getElem_mem _
        have hrl : (o.rd.length : Int) ≤ 100 := by have := HRL.out; omega
        have q1 := sx.cell q1
        have q2 := sx.cell q2
        have c0 := sx.cell c0
        have c1 := sx.cell c1
        clear sx hk hx hjl e7
        generalize o.rd.getD j 0 = i at *
        have TK := Lib.hid (fun W (h : Same wf W) => TI.out i W h)
        have FI := Lib.hid (fun W (h : Same wf W) => FA.out i W h)
        have hsf := SF1.out x1 rfl HP1.out i him
        have XI := Lib.hid (fun W (h : Same wf W) (hw : Same w8 W) => FX.out i x1 HB1.out _ c2' W h (OS8.out.same hw))
        rw [hsf] at XI
        clear hsf
        have hcf := fun h0 => CF1.out x2 rfl h0 i him
        clear him
        generalize flR (ofR s i k) (gI rs i) = fa at *
        generalize gI rs i = tk at *
        go_wp2_with fail
        refine (TK.out _ HS9.out).mono ?_
        rintro e w10 ⟨rfl, s10⟩
        have HS10 := Lib.hid (HS9.out.trans s10)
        have HR10 := Lib.hid (HR9.out.trans s10)
        have q1 := s10.cell q1
        have q2 := s10.cell q2
        have c0 := s10.cell c0
        have c1 := s10.cell c1
        clear s10 TK
        by_cases hc : 0 < x2
        ·have gc : decide ((0 : Int) < x2) = true := decide_eq_true hc
         have hcf := hcf hc
         have gf : decide (x2 ≤ fa) = false := decide_eq_false (by omega)
         clear hc hcf
         go_wp2_with fail
         refine (FI.out _ HS10.out).mono ?_
         rintro e w11 ⟨rfl, s11⟩
         have HS11 := Lib.hid (HS10.out.trans s11)
         have HR11 := Lib.hid (HR10.out.trans s11)
         have q1 := s11.cell q1
         have q2 := s11.cell q2
         clear s11
         go_wp2_with fail
         refine (XI.out _ HS11.out HR11.out).mono ?_
         rintro e w12 ⟨rfl, s12⟩
         have HR12 := Lib.hid (HR11.out.trans s12)
         clear s12
         go_wp2_with fail
         go_roundg GK
         case rel => exact ⟨j + 1, by have := HK.out; omega, by go_num, HR12.out⟩
         case measure => omega
        ·have gc : decide ((0 : Int) < x2) = false := decide_eq_false hc
         clear hc hcf
         have HS11 := Lib.hid HS10.out
         have HR11 := Lib.hid HR10.out
         go_wp2_with fail
         refine (XI.out _ HS11.out HR11.out).mono ?_
         rintro e w12 ⟨rfl, s12⟩
         have HR12 := Lib.hid (HR11.out.trans s12)
         clear s12
         go_wp2_with fail
         go_roundg GK
         case rel => exact ⟨j + 1, by have := HK.out; omega, by go_num, HR12.out⟩
         case measure => omega
     ·have gx1 : decide ((0 : Int) < x1) = false := decide_eq_false hp1
      clear hp1
      go_upto_region 8 with fail
      clear HO7 HOR HOB HOK HOL
      have S8 := Lib.hid S7.out
      clear S7
      generalize w7 = w8 at *
      have e7 := S8.out.cell HO7c.out
      go_wp2_with fail
      go_loopg [62] o.rd.length (fun gk iv wx => ∃ j : Nat, j + gk = o.rd.length ∧ iv = .int .i64 (j : Int) ∧ Same w8 wx)
      case atStart => exact ⟨0, by omega, rfl, Same.refl _⟩
      case round =>
       obtain ⟨j, hk, rfl, sx⟩ := hrel
       have HS9 := Lib.hid (S8.out.trans sx)
       have HR9 := Lib.hid sx
       cases gk with
       | zero =>
        have hge : ¬ (j : Int) < (o.rd.length : Int) := by omega
        clear sx
        go_wp2_with fail
        refine (AW.out _ HS9.out).mono ?_
        rintro e w9 ⟨rfl, s9⟩
        go_wp2_with fail
        go_ret
        exact ⟨rfl, S0.out.trans (SF.out.trans (HS9.out.trans s9))⟩
       | succ GK =>
        have hlt : (j : Int) < (o.rd.length : Int) := by omega
        have hj0 : (0 : Int) ≤ j := by omega
        have HK := Lib.hid hk
        have hjl : j < o.rd.length := by omega
        obtain ⟨bY, oY, rfl, cY⟩ := (HRD.out.same HS9.out).at_ (k := j) (by rw [List.length_map]; exact hjl)
        have hx : o.rd[j]'hjl = o.rd.getD j 0 := by
         rw [List.getD_eq_getElem?_getD, List.getElem?_eq_getElem hjl]
         rfl
        rw [List.getElem_map, hx] at cY
        have him : o.rd.getD j 0 ∈ o.rd := hx ▸ List.getElem_mem _
        have hrl : (o.rd.length : Int) ≤ 100 := by have := HRL.out; omega
        have q1 := sx.cell q1
        have q2 := sx.cell q2
        have c0 := sx.cell c0
        have c1 := sx.cell c1
        clear sx hk hx hjl e7
        generalize o.rd.getD j 0 = i at *
        have TK := Lib.hid (fun W (h : Same wf W) => TI.out i W h)
        have FI := Lib.hid (fun W (h : Same wf W) => FA.out i W h)
        have hcf := fun h0 => CF1.out x2 rfl h0 i him
        clear him
        generalize flR (ofR s i k) (gI rs i) = fa at *
        generalize gI rs i = tk at *
        go_wp2_with fail
        refine (TK.out _ HS9.out).mono ?_
        rintro e w10 ⟨rfl, s10⟩
        have HS10 := Lib.hid (HS9.out.trans s10)
        have HR10 := Lib.hid (HR9.out.trans s10)
        have q1 := s10.cell q1
        have q2 := s10.cell q2
        have c0 := s10.cell c0
        have c1 := s10.cell c1
        clear s10 TK
        by_cases hc : 0 < x2
        ·have gc : decide ((0 : Int) < x2) = true := decide_eq_true hc
         have hcf := hcf hc
         have gf : decide (x2 ≤ fa) = false := decide_eq_false (by omega)
         clear hc hcf
         go_wp2_with fail
         refine (FI.out _ HS10.out).mono ?_
         rintro e w11 ⟨rfl, s11⟩
         have HS11 := Lib.hid (HS10.out.trans s11)
         have HR11 := Lib.hid (HR10.out.trans s11)
         have q1 := s11.cell q1
         have q2 := s11.cell q2
         clear s11
         go_wp2_with fail
         have HR12 := Lib.hid HR11.out
         go_roundg GK
         case rel => exact ⟨j + 1, by have := HK.out; omega, by go_num, HR12.out⟩
         case measure => omega
        ·have gc : decide ((0 : Int) < x2) = false := decide_eq_false hc
         clear hc hcf
         have HS11 := Lib.hid HS10.out
         have HR11 := Lib.hid HR10.out
         have HR12 := Lib.hid HR11.out
         go_wp2_with fail
         go_roundg GK
         case rel => exact ⟨j + 1, by have := HK.out; omega, by go_num, HR12.out⟩
         case measure => omega
end Go.Proofs.YthhbhbfkbncegabGreatDoor.Sz
end
end
end
end
end
end
end
