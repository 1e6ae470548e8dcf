/-

 Package cost (layer 12): what a part weighs from its first place to its last one (once).
-/
import Derived.Test.YthhbhbfkbncegaaGreatDoorFlowUse
import Derived.Laws.CopyOwn
import Derived.Deep.CutBlock
import Derived.Deep.LoopGhost
import Derived.Test.YthhbhbfkbncegaaGreatDoorRegionOff
import Derived.Laws.Bits64b
import Derived.Test.YthhbhbfkbncegaaGreatDoorCstPure
import Derived.Test.YthhbhbfkbncegaaGreatDoorWordBase
import Derived.StillTailTactics
import Derived.RangeFuncWrites
import Derived.RangeFuncKeeps
import Derived.Test.YthhbhbfkbncegaaGreatDoorFlow
import Derived.RangeFuncNested
import Derived.RangeFuncBound
import Derived.RangeFuncCalls
import Derived.RangeFuncLeaves
import Derived.RangeFuncFrom
import Derived.Shelf.Abstract
import Derived.Shelf.RegionOpen
import Derived.OwnWalkIn
import Derived.TacticsInMore
import Derived.LoopNIn
import Derived.LoopIn
import Derived.BigQuiet
import Derived.WalkKit
import Derived.Deep.RegionHeld3
import Derived.OrdersIn
import Derived.Test.YthhbhbfkbncegaaGreatDoorCstNext
import Derived.Test.YthhbhbfkbncegaaGreatDoorFlowEnd
import Derived.WalkMore
import Derived.Laws.EntriesVeiled
section
set_option linter.unusedVariables false
set_option linter.unusedSimpArgs false
namespace Go.Proofs.YthhbhbfkbncegaaGreatDoor.Cs
open Go.ChangeShapes Go.WideShapes Go.ChangeAt Go.RowKit Ws

theorem mul64_one (y : Nat) (hy : y ≤ 100000) (w : World) : Calls Tryz.prog 183 #[.int .u64 1, .int .u64 (y : Int)] w fun e w' => e = .returned (.tuple #[.int .u64 0, .int .u64 (y : Int)]) ∧ w = w' := by
 have h1 : bits .and .u64 (y : Int) 4294967295 = (y : Int) := by
  have h := bits_and_u64_nat y 4294967295 (by omega) (by omega)
  have e : y &&& 4294967295 = y % 4294967296 := Nat.and_two_pow_sub_one_eq_mod y 32
  rw [e, Nat.mod_eq_of_lt (by omega)] at h
  exact h
 have h1' : bits .and .u64 1 4294967295 = 1 := by decide
 have h1'' : bits .and .u64 0 4294967295 = 0 := by decide
 have h2 : (y : Int) / 4294967296 = 0 := by omega
 have h3 : IntKind.u64.wrap (y : Int) = (y : Int) := by rw [IntKind.wrap_u64]; omega
 have h4 : IntKind.u64.wrap 0 = 0 := by decide
 go_enter Tryz.func183, Tryz.ntmps183
 go_wp2
 go_ret2
 exact ⟨rfl, rfl⟩
theorem mul_one' (y : Nat) (hy : y ≤ 100000) (w : World) : Calls Tryz.prog 165 #[.int .u64 1, .int .u64 (y : Int)] w fun e w' => e = .returned (.tuple #[.int .u64 0, .int .u64 (y : Int)]) ∧ w = w' := by
 have M := Lib.hid (mul64_one y hy)
 go_enter Tryz.func165, Tryz.ntmps165
 go_wp2_with fail
 refine (M.out _).mono ?_
 rintro e w' ⟨rfl, rfl⟩
 go_wp2_with fail
 go_ret2
 exact ⟨rfl, rfl⟩
theorem int_info1 : (Tryz.prog.info? 3).map (fun i => (i.zero, i.size, i.bytes)) = some (some (.int .i64 0), 1, 8) := by kernel_rfl
theorem ownI_blk {w : World} {g B c : Nat} {e : TypeId} {l : List Value} (h : w.heap[g]? = some (.cells l.toArray e (0, 0))) (hc : l.length = c) (hm : c ≤ maxLen) (hB : B ≤ g) : Own w B e (some ⟨g, 0, none⟩) c l := by
 refine ⟨by omega, .inr ⟨g, c, l.toArray, rfl, hB, h, by omega, hm, by simpa using hc, ?_⟩⟩
 simp
def izr (n : Nat) : Array Value := madeCells (Value.int .i64 0).cells (n * 1)
theorem izr_list (n : Nat) : (izr n).toList = (List.replicate n (0 : Int)).map (Value.int .i64) := by
 unfold izr madeCells
 apply List.ext_getElem
 ·simp
 ·intro i h1 h2
  simp [Value.cells]
  show [Value.int IntKind.i64 0][i % 1]?.getD default = _
  rw [Nat.mod_one]
  rfl
theorem izr_make (n : Nat) (hn : n ≤ 100000) (W : World) : (Instr.makeSlice 32 (.int .i64 (n : Int)) (.int .i64 (n : Int))).run Tryz.prog W = .ok (.slice (some ⟨W.heap.size, 0, none⟩) n n) (W.alloc (.cells (izr n) 3)) := by
 obtain ⟨i0, hi, hz0, hz1, hz2⟩ := info_parts int_info1
 have h := run_make (P := Tryz.prog) W 32 3 i0 _ Tryz.underlying32 hi hz0 .i64 .i64 n n (by omega) (by omega) (by rw [hz2]; omega) (by omega)
 rw [hz1, Int.toNat_natCast] at h
 exact h
theorem int_one : (Tryz.prog.info? 3).map (·.size) = some 1 := by kernel_rfl
theorem ints_one (l : List Int) : ∀ u ∈ l.map (Value.int .i64), u.oneCell' = true := by
 intro u hu
 obtain ⟨x, _, rfl⟩ := List.mem_map.1 hu
 rfl
/-- so many of them are laid -/
def grown (n j : Nat) (v : Int) : List Value := (List.replicate j v ++ List.replicate (n - j) 0).map (Value.int .i64)
theorem grown_len {n j : Nat} (v : Int) (h : j ≤ n) : (grown n j v).length = n := by simp [grown]; omega
theorem grown_more {n j k : Nat} (v : Int) (h : j + k ≤ n) : splice (grown n j v) j ((List.replicate k v).map (Value.int .i64)) = grown n (j + k) v := by
 unfold splice grown
 rw [← List.map_take, ← List.map_drop, List.length_map, List.length_replicate, ← List.map_append, ← List.map_append]
 congr 1
 rw [List.take_left' (by simp), List.drop_append, List.drop_eq_nil_of_le (by simp), List.nil_append, List.drop_replicate, List.length_replicate, ← List.append_assoc, List.replicate_append_replicate]
 congr 2
 omega
theorem grown_none (n : Nat) (v : Int) : grown n 0 v = (izr n).toList := by rw [izr_list]; simp [grown]
theorem oper_copy {P : Program} {o : Oper} {a : Act} {w : World} {K : Act → World → Prop} {Q : Exit → Act → World → Prop} (d s : Operand) (dT sT : TypeId) (hgd : o.guard = none)
  (ho : o.op = .call { callee := .builtin .copy, args := #[d, s], argTypes := #[dT, sT] }) (elem : TypeId) (hu : P.underlying dT = some (.slice elem)) (hsz : (P.info? elem).map (·.size) = some 1)
  (dp sp : Option Addr) (dLen dCap sLen sCap : Nat) (hd : a.eval d = .slice dp dLen dCap) (hs : a.eval s = .slice sp sLen sCap)
  (g off : Nat) (cur : List Value) (t : TypeId) (hg : w.heap[g]? = some (.cells cur.toArray t (0, 0))) (cs : List Value) (hn : cs.length = Nat.min sLen dLen)
  (hpos : 0 < cs.length → dp = some ⟨g, off, none⟩ ∧ ∃ ad, sp = some ad ∧ ∀ j v, cs[j]? = some v → w.cell? (ad.add j) = some v)
  (hfit : off + cs.length ≤ cur.length) (h1 : ∀ v ∈ cs, v.oneCell' = true) (B : Nat) (w0 : World) (hb : Below B w0 w) (hBg : B ≤ g)
  (h : ∀ w', RowKit.Hid (w'.heap[g]? = some (.cells (splice cur off cs).toArray t (0, 0))) → Below B w0 w' → K (a.put o.dst (goInt cs.length)) w') : Oper.wp P o a w K Q := by
 have h2 := step_copy_splice (P := P) (ops := #[]) (E := True) (Q := Q) hgd d s dT sT ho elem hu hsz dp sp dLen dCap sLen sCap hd hs g off cur t hg cs hn hpos hfit h1 B w0 hb hBg h
 rw [if_pos (by simp [Region.wanted, hgd])] at h2
 exact h2
set_option maxRecDepth 100000 in
theorem repeat_one (v : Int) (n g : Nat) (hn1 : 1 ≤ n) (hn : n ≤ 100000) (w : World) (hx : w.cell? ⟨g, 0, none⟩ = some (.int .i64 v)) :
  Calls Tryz.prog 127 #[.slice (some ⟨g, 0, none⟩) 1 1, .int .i64 (n : Int)] w fun e w' => ∃ q, e = .returned (.slice (some ⟨q, 0, none⟩) n n) ∧ Own w' w.heap.size 3 (some ⟨q, 0, none⟩) n ((List.replicate n v).map (Value.int .i64)) ∧ Same w w' := by
 have MO := Lib.hid (mul_one' n hn)
 have hmk := izr_make n hn
 have f1 : IntKind.u64.wrap (n : Int) = (n : Int) := by rw [IntKind.wrap_u64]; omega
 have f2 : IntKind.i64.wrap (n : Int) = (n : Int) := by rw [IntKind.wrap_i64]; omega
 have f3 : ¬ (n : Int) < 0 := by omega
 have f4 : ¬ (9223372036854775807 : Int) < (n : Int) := by omega
 have HX := Lib.hid hx
 clear hx
 go_enter Tryz.func127, Tryz.ntmps127
 go_wp2_with fail
 refine (MO.out _).mono ?_
 rintro e w' ⟨rfl, rfl⟩
 go_upto_region 7 with fail
 obtain ⟨w1, hw1⟩ : ∃ w1, w1 = w.alloc (.cells (izr n) 3) := ⟨_, rfl⟩
 rw [← hw1]
 have hs1 : Same w w1 := hw1 ▸ (Same.refl w).alloc _
 have HG := Lib.hid (show w1.heap[w.heap.size]? = some (.cells (grown n 0 v).toArray 3 (0, 0)) from by rw [hw1, grown_none]; exact Blk.new w _ _)
 have HX1 := Lib.hid (hs1.cell HX.out)
 have HBW := Lib.hid (hs1.below)
 have HSZ := Lib.hid (show w.heap.size < w1.heap.size by rw [hw1]; simp)
 clear hs1 hw1 hmk
 obtain ⟨b, hb⟩ : ∃ b, b = w.heap.size := ⟨_, rfl⟩
 have HB := Lib.hid hb
 have HGL := Lib.hid (grown_len (n := n) v (Nat.zero_le n))
 rw [← hb] at HG HSZ
 rw [← hb]
 clear hb
 go_wp2_with (first | (refine wpList_copy_splice rfl (.tmp 31) (.tmp 32) 32 32 rfl 3 Tryz.underlying32 int_one (some ⟨b, 0, none⟩) (some ⟨g, 0, none⟩) n n 1 1 rfl rfl b 0 (grown n 0 v) 3 HG.out [.int .i64 v] ?c1 (fun _ => ⟨rfl, _, rfl, ?c2⟩) ?c3 (ints_one [v]) w.heap.size w HBW.out (by rw [HB.out]; exact Nat.le_refl _) ?_))
 case c1 => show 1 = Nat.min 1 n; exact (Nat.min_eq_left hn1).symm
 case c3 => rw [HGL.out]; exact hn1
 case c2 =>
  intro j u hj
  match j with
  | 0 => injection hj with hj; subst hj; exact HX1.out
  | j + 1 => simp at hj
 intro w2 hw2 hb2
 have HW2 := Lib.hid (show w2.heap[b]? = some (.cells (grown n 1 v).toArray 3 (0, 0)) from by
  have h := hw2.out
  rw [show [Value.int .i64 v] = (List.replicate 1 v).map (Value.int .i64) from rfl, grown_more v (by omega : 0 + 1 ≤ n)] at h
  exact h)
 have HB2 := Lib.hid hb2
 clear hw2 hb2 HG HX1 HGL
 go_wp2_with fail
 go_loopg [8] (n - 1) (fun gk iv wx => ∃ j : Nat, 1 ≤ j ∧ j + gk = n ∧ iv = .int .i64 j ∧ Hid (wx.heap[b]? = some (.cells (grown n j v).toArray 3 (0, 0))) ∧ Hid (Below w.heap.size w wx))
 case atStart => exact ⟨1, Nat.le_refl _, by omega, rfl, HW2, HB2⟩
 case round =>
  obtain ⟨j, hj1, hjn, rfl, HR, HBR⟩ := hrel
  cases gk with
  | zero =>
   obtain rfl : j = n := by omega
   have hge : ¬ (j : Int) < j := by omega
   go_wp2_with fail
   go_ret
   refine ⟨b, rfl, ?_, Same.of_below HBR.out⟩
   have h := HR.out
   rw [show grown j j v = (List.replicate j v).map (Value.int .i64) from by simp [grown]] at h
   have hl : ((List.replicate j v).map (Value.int .i64)).length = j := by rw [List.length_map, List.length_replicate]
   have ho := ownI_blk (B := w.heap.size) h hl (by unfold maxLen; omega) (by rw [HB.out]; exact Nat.le_refl _)
   simpa using ho
  | succ GK =>
   have hlt : (j : Int) < n := by omega
   have hj0 : (0 : Int) ≤ (j : Int) := by omega
   have hj2 : (j : Int) ≤ n := by omega
   have hnj : ¬ n = j := by omega
   obtain ⟨k, hk⟩ : ∃ k, k = Nat.min j (n - j) := ⟨_, rfl⟩
   have hk1 : 1 ≤ k := by rw [hk]; exact Nat.le_min.2 ⟨hj1, by omega⟩
   have hk2 : k ≤ n - j := by rw [hk]; exact Nat.min_le_right _ _
   have hk3 : k ≤ j := by rw [hk]; exact Nat.min_le_left _ _
   have C1 := Lib.hid (show ((List.replicate k v).map (Value.int .i64)).length = Nat.min j (n - j) by rw [List.length_map, List.length_replicate]; exact hk)
   have C2 := Lib.hid (show ∀ i u, ((List.replicate k v).map (Value.int .i64))[i]? = some u → wr.drew.cell? ((⟨b, 0, none⟩ : Addr).add i) = some u from by
    intro i u hu
    have hi : i < k := by
     rcases Nat.lt_or_ge i k with h | h
     ·exact h
     ·rw [List.getElem?_eq_none (by simp; exact h)] at hu; cases hu
    have hv : u = .int .i64 v := by
     rw [List.getElem?_map, List.getElem?_replicate, if_pos hi] at hu
     injection hu with hu
     exact hu.symm
    subst hv
    have hc := cell_of_row wr b i (grown n j v).toArray 3 (0, 0) HR.out
    have he : (⟨b, 0, none⟩ : Addr).add i = ⟨b, i, none⟩ := by simp [Addr.add, eq_comm]
    rw [he, show wr.drew.cell? ⟨b, i, none⟩ = wr.cell? ⟨b, i, none⟩ from rfl, hc, List.getElem?_toArray, grown, List.getElem?_map, List.getElem?_append_left (by simp; omega), List.getElem?_replicate, if_pos (by omega)]
    rfl)
   have C3 := Lib.hid (show j + ((List.replicate k v).map (Value.int .i64)).length ≤ (grown n j v).length by rw [grown_len v (by omega), List.length_map, List.length_replicate]; omega)
   have HRD := Lib.hid (show wr.drew.heap[b]? = some (.cells (grown n j v).toArray 3 (0, 0)) from HR.out)
   have HBD := Lib.hid (show Below w.heap.size w wr.drew from HBR.out.drew)
   have HBB := Lib.hid (show w.heap.size ≤ b by rw [HB.out]; exact Nat.le_refl _)
   have KK := Lib.hid (show 1 ≤ k ∧ k ≤ n - j from ⟨hk1, hk2⟩)
   clear hk hk1 hk2 hk3 HR HBR MO HX HW2 HB2
   obtain ⟨cs, hcs⟩ : ∃ cs, cs = (List.replicate k v).map (Value.int .i64) := ⟨_, rfl⟩
   obtain ⟨row, hrow⟩ : ∃ row, row = grown n j v := ⟨_, rfl⟩
   have CO := Lib.hid (show ∀ u ∈ cs, u.oneCell' = true by rw [hcs]; exact ints_one _)
   rw [← hcs] at C1 C2 C3
   rw [← hrow] at C3 HRD
   have HCS := Lib.hid hcs
   have HROW := Lib.hid hrow
   clear hcs hrow
   go_wp2_with fail
   refine wp_region_held_drew (S := fun w' => Below w.heap.size w w') (by kernel_rfl) ?_ (fun hHeld => ?_)
   ·exact HBD.out
   refine Ro.tn 0 ?_ ?_ ?_
   rotate_left
   ·intro wS hSw; (try dsimp only at hSw); go_simp; try with_reducible rfl
   try simp only [Ro.p]
   refine Ro.tn 1 ?_ ?_ ?_
   rotate_left
   ·intro wS hSw; (try dsimp only at hSw); go_simp; try with_reducible rfl
   try simp only [Ro.p]
   refine Ro.tn 2 ?_ ?_ ?_
   rotate_left
   ·intro wS hSw; (try dsimp only at hSw); go_simp; try with_reducible rfl
   try simp only [Ro.p]
   refine Ro.tn 3 ?_ ?_ ?_
   rotate_left
   ·intro wS hSw; (try dsimp only at hSw); go_simp; try with_reducible rfl
   try simp only [Ro.p]
   refine Ro.tn 4 ?_ ?_ ?_
   rotate_left
   ·intro wS hSw; (try dsimp only at hSw); go_simp; try with_reducible rfl
   try simp only [Ro.p]
   refine Ro.tn 5 ?_ ?_ ?_
   rotate_left
   ·intro wS hSw; (try dsimp only at hSw); go_simp; try with_reducible rfl
   try simp only [Ro.p]
   refine Ro.tn 6 ?_ ?_ ?_
   rotate_left
   ·intro wS hSw; (try dsimp only at hSw); go_simp; try with_reducible rfl
   try simp only [Ro.p]
   refine Ro.one_on (i := 7) rfl (by kernel_rfl) (by rfl) (fun K hK => ?_)
   refine oper_copy (.tmp 41) (.tmp 44) 32 32 rfl rfl 3 Tryz.underlying32 int_one (some ⟨b, j, none⟩) (some ⟨b, 0, none⟩) (n - j) (n - j) j n rfl rfl b j row 3 HRD.out cs C1.out (fun _ => ⟨rfl, _, rfl, C2.out⟩) C3.out CO.out w.heap.size w HBD.out HBB.out ?_
   intro w5 hw5 hbel
   refine hK.out _ _ ?_ (fun hNew => ?_)
   ·exact hbel
   clear hK K hHeld; have hHeld := hNew; clear hNew
   try simp only [Ro.p]
   -- END
   have HR5 := Lib.hid (show w5.heap[b]? = some (.cells (grown n (j + k) v).toArray 3 (0, 0)) from by
    have h := hw5.out
    rw [HCS.out, HROW.out, grown_more v (by have := KK.out; omega)] at h
    exact h)
   have HB5 := Lib.hid hbel
   have HCL := Lib.hid (show cs.length = k by rw [HCS.out, List.length_map, List.length_replicate])
   clear hw5 hbel
   rw [show goInt cs.length = .int .i64 (k : Int) from by rw [HCL.out]; rfl]
   have hsum : (j : Int) + (k : Int) ≤ n := by have := KK.out; omega
   have hadd : IntKind.i64.wrap ((j : Int) + (k : Int)) = (j : Int) + k := Go.IntWalk.i64_in _ (by omega)
   refine Ro.tn 8 ?_ ?_ ?_
   rotate_left
   ·intro wS hSw; (try dsimp only at hSw); go_simp; try with_reducible rfl
   try simp only [Ro.p]
   refine Ro.tn 9 ?_ ?_ ?_
   rotate_left
   ·intro wS hSw; (try dsimp only at hSw); go_simp; try with_reducible rfl
   try simp only [Ro.p]
   refine wpAnyH_done (by kernel_rfl) ?_ _
   go_wp2_with fail
   go_roundg (n - (j + k))
   case measure => have := KK.out; omega
   case rel => exact ⟨j + k, by omega, by have := KK.out; omega, by go_num, HR5, HB5⟩
end Go.Proofs.YthhbhbfkbncegaaGreatDoor.Cs
end
section
section
section
set_option linter.unusedVariables false
set_option linter.unusedSimpArgs false
namespace Go.Proofs.YthhbhbfkbncegaaGreatDoor.Cs
open Go.ChangeShapes Go.WideShapes Go.ChangeAt Go.RowKit Ws
open Go.Proofs.YthhbhbfkbncegaaGreatDoor.Fp (Ins at_ Fine at_some)
open Go.Proofs.YthhbhbfkbncegaaGreatDoor.Fw (Prg Spn spanCells)

theorem ret_int {a b : Int} (h : a = b) : Ending.returned (.int .i64 a) = .returned (.int .i64 b) := by rw [h]
/-- the dearest walk, or the cheapest one -/
def btB (mx : Bool) : Int → Int → Bool := fun a b => if mx then decide (a > b) else decide (a > b)
def fvB : Bool → Value
 | true => .func (.func 94) #[] #[]
 | false => .func (.func 94) #[] #[]
theorem most1 (a b : Int) (w : World) : Calls Tryz.prog 94 #[.int .i64 a, .int .i64 b] w fun e w' => e = .returned (.bool (decide (a > b))) ∧ w = w' := by
 go_enter Tryz.func94, Tryz.ntmps94
 go_wp2
 go_ret
 exact ⟨rfl, rfl⟩
theorem least1 (a b : Int) (w : World) : Calls Tryz.prog 94 #[.int .i64 a, .int .i64 b] w fun e w' => e = .returned (.bool (decide (a > b))) ∧ w = w' := by
 go_enter Tryz.func94, Tryz.ntmps94
 go_wp2
 go_ret
 exact ⟨rfl, rfl⟩
theorem both_any (a b : Int) (w : World) : Calls Tryz.prog 126 #[.int .i64 a, .int .i64 b] w fun e w' => e = .returned (.int .i64 (bothI a b)) ∧ w = w' := by
 have WA := Lib.hid (Wd.wadd a b w)
 have HE := Lib.hid (show Wd.addv a b = adI a b from rfl)
 by_cases h : a = -1 ∨ b = -1
 ·have h2 : bothI a b = -1 := if_pos h
  rw [h2]
  by_cases ha : a = -1
  ·have a1 : (a == -1) = true := by simpa using ha
   clear h h2 ha
   go_enter Tryz.func126, Tryz.ntmps126
   go_wp2
   go_ret
   exact ⟨rfl, rfl⟩
  ·have a1 : (a == -1) = false := by simpa using ha
   have b1 : (b == -1) = true := by rcases h with h | h; exact absurd h ha; simpa using h
   clear h h2 ha
   go_enter Tryz.func126, Tryz.ntmps126
   go_wp2
   go_ret
   exact ⟨rfl, rfl⟩
 ·have h2 : bothI a b = adI a b := if_neg h
  have a1 : (a == -1) = false := by simp; omega
  have b1 : (b == -1) = false := by simp; omega
  rw [h2]
  clear h h2
  go_enter Tryz.func126, Tryz.ntmps126
  go_wp2_with fail
  refine WA.out.mono ?_
  rintro e w' ⟨rfl, rfl⟩
  go_wp2
  go_ret
  exact ⟨ret_int HE.out, rfl⟩
theorem best_any (mx : Bool) (q : Nat) (a b : Int) (w : World) (hc : w.cell? ⟨q, 2, none⟩ = some (fvB mx)) :
  Calls Tryz.prog 125 #[.pointer (some ⟨q, 0, none⟩), .int .i64 a, .int .i64 b] w fun e w' => e = .returned (.int .i64 (bestI (btB mx) a b)) ∧ w = w' := by
 by_cases hb : b = -1
 ·have b1 : (b == -1) = true := by simpa using hb
  rw [show bestI (btB mx) a b = a from if_pos (.inl hb)]
  clear hb
  go_enter Tryz.func125, Tryz.ntmps125
  go_wp2
  go_ret
  exact ⟨rfl, rfl⟩
 ·have b1 : (b == -1) = false := by simpa using hb
  by_cases ha : a = -1
  ·have a1 : (a == -1) = true := by simpa using ha
   have a2 : (a != -1) = false := by simpa using ha
   rw [show bestI (btB mx) a b = b from if_neg (fun h => h.elim hb fun h => h.1 ha)]
   clear hb ha
   go_enter Tryz.func125, Tryz.ntmps125
   go_wp2
   go_ret
   exact ⟨rfl, rfl⟩
  ·have a1 : (a == -1) = false := by simpa using ha
   have a2 : (a != -1) = true := by simpa using ha
   have HE : Hid (bestI (btB mx) a b = if btB mx a b = true then a else b) := Lib.hid (by
    unfold bestI
    by_cases h : btB mx a b = true
    ·rw [if_pos (.inr ⟨ha, h⟩), if_pos h]
    ·rw [if_neg (fun h' => h'.elim hb fun h' => h h'.2), if_neg h])
   clear ha hb
   cases mx with
   | true =>
    have M1 := Lib.hid (fun w' => most1 a b w')
    have hc' : w.cell? ⟨q, 2, none⟩ = some (.func (.func 94) #[] #[]) := hc
    clear hc
    by_cases hk : a > b
    ·have d1 : decide (a > b) = true := decide_eq_true hk
     rw [d1] at M1
     rw [HE.out, show btB true a b = true from d1]
     clear HE d1 hk
     go_enter Tryz.func125, Tryz.ntmps125
     go_wp2_with fail
     refine (M1.out _).mono ?_
     rintro e w' ⟨rfl, rfl⟩
     go_wp2
     go_ret
     exact ⟨rfl, rfl⟩
    ·have d1 : decide (a > b) = false := decide_eq_false hk
     rw [d1] at M1
     rw [HE.out, show btB true a b = false from d1]
     clear HE d1 hk
     go_enter Tryz.func125, Tryz.ntmps125
     go_wp2_with fail
     refine (M1.out _).mono ?_
     rintro e w' ⟨rfl, rfl⟩
     go_wp2
     go_ret
     exact ⟨rfl, rfl⟩
   | false =>
    have M1 := Lib.hid (fun w' => least1 a b w')
    have hc' : w.cell? ⟨q, 2, none⟩ = some (.func (.func 94) #[] #[]) := hc
    clear hc
    by_cases hk : a > b
    ·have d1 : decide (a > b) = true := decide_eq_true hk
     rw [d1] at M1
     rw [HE.out, show btB false a b = true from d1]
     clear HE d1 hk
     go_enter Tryz.func125, Tryz.ntmps125
     go_wp2_with fail
     refine (M1.out _).mono ?_
     rintro e w' ⟨rfl, rfl⟩
     go_wp2
     go_ret
     exact ⟨rfl, rfl⟩
    ·have d1 : decide (a > b) = false := decide_eq_false hk
     rw [d1] at M1
     rw [HE.out, show btB false a b = false from d1]
     clear HE d1 hk
     go_enter Tryz.func125, Tryz.ntmps125
     go_wp2_with fail
     refine (M1.out _).mono ?_
     rintro e w' ⟨rfl, rfl⟩
     go_wp2
     go_ret
     exact ⟨rfl, rfl⟩
theorem still_of {P : Program} {f : FuncId} {l : Array Value} {w : World} {r : Value} (h : Calls P f l w fun e w' => e = .returned r ∧ w = w') : Calls P f l w fun e w' => e = .returned r ∧ w' = w := h.mono fun e w' ⟨h1, h2⟩ => ⟨h1, h2.symm⟩
def wyA (x : Wy) : Array Value := #[.int .i64 x.thru, .int .i64 x.fin]
set_option maxRecDepth 100000 in
theorem rep_any (mx : Bool) (q : Nat) (x : Wy) (t : Int) (w : World) (hc : w.cell? ⟨q, 2, none⟩ = some (fvB mx)) (ht : t ≤ 1000000) :
  Calls Tryz.prog 113 #[.pointer (some ⟨q, 0, none⟩), .agg #[.int .i64 x.thru, .int .i64 x.fin], .int .i64 t] w fun e w' =>
   e = .returned (.agg #[.int .i64 (repW (btB mx) x t.toNat).thru, .int .i64 (repW (btB mx) x t.toNat).fin]) ∧ Same w w' := by
 have HC := Lib.hid hc
 clear hc
 go_enter Tryz.func113, Tryz.ntmps113
 go_wp2_with fail
 go_loopg [10] t.toNat (fun gk iv wx => ∃ (k : Nat), k + gk = t.toNat ∧ iv = .int .i64 k ∧ Blk wx w.heap.size 123 (wyA x) ∧ (∃ u, Blk wx (w.heap.size + 1) 123 u ∧ u.size = 2) ∧ Blk wx (w.heap.size + 2) 123 (wyA (repW (btB mx) x k)) ∧ Same w wx)
 case atStart =>
  refine ⟨0, by omega, rfl, ?_, ⟨#[.int .i64 0, .int .i64 0], ?_, rfl⟩, ?_, ?_⟩
  ·exact ((Blk.new w _ _).same ((Same.refl _).alloc _)).same ((Same.refl _).alloc _)
  ·exact (show Blk _ (w.heap.size + 1) 123 _ from (by
    have h := Blk.new (w.alloc (.cells (wyA x) 123)) 123 #[.int .i64 0, .int .i64 0]
    rw [World.size_alloc] at h
    exact h.same ((Same.refl _).alloc _)))
  ·have h := Blk.new ((w.alloc (.cells (wyA x) 123)).alloc (.cells #[.int .i64 0, .int .i64 0] 123)) 123 #[.int .i64 0, .int .i64 (-1)]
   rw [World.size_alloc, World.size_alloc] at h
   exact h
  ·exact (((Same.refl _).alloc _).alloc _).alloc _
 case round =>
  obtain ⟨k, hk, rfl, h4, ⟨u, h6, h6s⟩, h7, hs⟩ := hrel
  have H4 := Lib.hid h4
  have H6 := Lib.hid h6
  have H7 := Lib.hid h7
  have HS := Lib.hid hs
  clear h4 h7 h6 hs
  cases gk with
  | zero =>
   have hge : ¬ (k : Int) < t := by omega
   obtain rfl : k = t.toNat := by omega
   have y0 := H7.out.cell 0
   have y1 := H7.out.cell 1
   simp only [wyA, List.getElem?_toArray, List.getElem?_cons_zero, List.getElem?_cons_succ] at y0 y1
   obtain ⟨u0, u1, rfl⟩ : ∃ u0 u1, u = #[u0, u1] := by
    obtain ⟨l⟩ := u
    match l, h6s with
    | [a, b], _ => exact ⟨a, b, rfl⟩
   have z0 := H6.out.cell 0
   have z1 := H6.out.cell 1
   have f0 := H6.out.thaw 0
   have f1 := H6.out.thaw 1
   simp only [Ws.q_] at z0 z1
   obtain ⟨r, hr⟩ : ∃ r, r = repW (btB mx) x t.toNat := ⟨_, rfl⟩
   rw [← hr] at y0 y1
   have HR := Lib.hid hr
   clear hr
   go_wp2_with fail
   have hb1 := (H6.out.put 0 (.int .i64 r.thru)).put 1 (.int .i64 r.fin)
   have hs1 := HS.out.size
   refine bodyPost_ret (v := .agg #[.int .i64 r.thru, .int .i64 r.fin]) (results_cell_row Tryz.results113 _ _ (w.heap.size + 1) 123 #[.int .i64 r.thru, .int .i64 r.fin] (0, 0) _ rfl hb1 Tryz.underlying123 rfl (by kernel_rfl)) rfl ?_
   exact ⟨by rw [HR.out], Same.more (Same.more HS.out ((Chg.refl (fun i => i = w.heap.size + 1) _).set (p := ⟨w.heap.size + 1, 0, none⟩) (.inl rfl) _) (fun i hi => by omega)) ((Chg.refl (fun i => i = w.heap.size + 1) _).set (p := ⟨w.heap.size + 1, 1, none⟩) (.inl rfl) _) (fun i hi => by omega)⟩
  | succ GK =>
   have hlt : (k : Int) < t := by omega
   have HK := Lib.hid hk
   have x0 := H4.out.cell 0
   have x1 := H4.out.cell 1
   have y0 := H7.out.cell 0
   have y1 := H7.out.cell 1
   have u1 := H7.out.thaw 1
   have u0 := H7.out.thaw 0
   simp only [wyA, List.getElem?_toArray, List.getElem?_cons_zero, List.getElem?_cons_succ] at x0 x1 y0 y1
   have HR := Lib.hid (show repW (btB mx) x (k + 1) = ⟨bothI (repW (btB mx) x k).thru x.thru, bestI (btB mx) (repW (btB mx) x k).fin (bothI (repW (btB mx) x k).thru x.fin)⟩ from rfl)
   have B1 := Lib.hid (both_any (repW (btB mx) x k).thru x.fin)
   have B2 := Lib.hid (both_any (repW (btB mx) x k).thru x.thru)
   have B3 := Lib.hid (fun W (hs : Same wr W) => best_any mx q (repW (btB mx) x k).fin (bothI (repW (btB mx) x k).thru x.fin) W ((HS.out.trans hs).cell HC.out))
   generalize repW (btB mx) x k = r at *
   go_wp2_with fail
   go_still_tail 10, (by kernel_rfl)
   still_call (still_of (B1.out _))
   still_call (still_of (B3.out _ (Same.refl _).drew))
   still_step
   refine wpStill_nil ?_
   change wpList _ _ _ _ _ wr.drew
   have sd : Same wr wr.drew := (Same.refl _).drew
   have HD4 := Lib.hid (H4.out.same sd)
   have HD6 := Lib.hid (H6.out.same sd)
   have HD7 := Lib.hid (H7.out.same sd)
   have HDS := Lib.hid (HS.out.trans sd)
   clear sd x0 x1 y0 y1 u0 u1
   generalize wr.drew = wd at *
   have x0 := HD4.out.cell 0
   have y0 := HD7.out.cell 0
   have y1 := HD7.out.cell 1
   have u1 := HD7.out.thaw 1
   have u0 := HD7.out.thaw 0
   simp only [wyA, List.getElem?_toArray, List.getElem?_cons_zero, List.getElem?_cons_succ] at x0 y0 y1
   go_wp2_with fail
   refine (B2.out _).mono ?_
   rintro e w' ⟨rfl, rfl⟩
   go_wp2_with fail
   go_roundg GK
   case measure => omega
   case rel =>
    have hz := HDS.out.size
    have hq : Chg (fun i => i = w.heap.size + 2) wd ((wd.setCell ⟨w.heap.size + 1 + 1, 1, none⟩ (.int .i64 (bestI (btB mx) r.fin (bothI r.thru x.fin)))).setCell ⟨w.heap.size + 1 + 1, 0, none⟩ (.int .i64 (bothI r.thru x.thru))) :=
     ((Chg.refl (fun i => i = w.heap.size + 2) wd).set (p := ⟨w.heap.size + 1 + 1, 1, none⟩) (.inl rfl) _).set (p := ⟨w.heap.size + 1 + 1, 0, none⟩) (.inl rfl) _
    refine ⟨k + 1, by have := HK.out; omega, by go_num, ?_, ⟨u, ?_, h6s⟩, ?_, ?_⟩
    ·exact HD4.out.chg hq (by omega)
    ·exact HD6.out.chg hq (by omega)
    ·rw [HR.out]
     exact (HD7.out.put 1 (.int .i64 (bestI (btB mx) r.fin (bothI r.thru x.fin)))).put 0 (.int .i64 (bothI r.thru x.thru))
    ·exact Same.more HDS.out hq (fun i hi => by omega)
end Go.Proofs.YthhbhbfkbncegaaGreatDoor.Cs
end
section
set_option linter.unusedVariables false
set_option linter.unusedSimpArgs false
namespace Go.Proofs.YthhbhbfkbncegaaGreatDoor.Cs
open Go.ChangeShapes Go.WideShapes Go.ChangeAt Go.RowKit Ws

set_option maxRecDepth 100000 in
theorem lead_any (mx : Bool) (q q2 q6 C c m : Nat) (l : List Int) (to : Nat) (n : Int) (w : World) (hm : l.length = m) (hto : to < m) (hmb : m ≤ 100000)
  (h2 : w.cell? ⟨q2, 0, none⟩ = some (.pointer (some ⟨q, 0, none⟩))) (h6 : w.cell? ⟨q6, 0, none⟩ = some (.slice (some ⟨C, 0, none⟩) m c))
  (ho : Own w 0 3 (some ⟨C, 0, none⟩) c (l.map (Value.int .i64))) (hc : w.cell? ⟨q, 2, none⟩ = some (fvB mx)) :
  Calls Tryz.prog 128 #[.int .i64 to, .int .i64 n, .pointer (some ⟨q2, 0, none⟩), .pointer (some ⟨q6, 0, none⟩)] w fun e w' =>
   e = .returned (.tuple #[]) ∧ Own w' 0 3 (some ⟨C, 0, none⟩) c ((leadI (btB mx) l to n).map (Value.int .i64)) ∧ w' = w.drew.setCell ⟨C, to, none⟩ (.int .i64 (bestI (btB mx) (l.getD to 0) n)) := by
 have B := Lib.hid (fun W (hs : Same w W) => best_any mx q (l.getD to 0) n W (hs.cell hc))
 have HO := Lib.hid ho
 have k1 : (to : Int) < m := by omega
 have k0 : (0 : Int) ≤ to := by omega
 have x0 : w.cell? ⟨C, to, none⟩ = some (.int .i64 (l.getD to 0)) := by
  have := ho.row to (.int .i64 (l.getD to 0)) (by rw [List.getElem?_map, List.getD_eq_getElem?_getD, List.getElem?_eq_getElem (by omega)]; rfl)
  obtain ⟨b, o, e, hb⟩ := this
  injection e with e
  injection e with e1 e2
  subst e1 e2
  simpa using hb
 have f0 : w.frozen? ⟨C, to, none⟩ = false := by
  obtain ⟨g, e, _, _, hf⟩ := ho.thaw (by rw [List.length_map]; omega)
  injection e with e
  injection e with e1
  subst e1
  exact hf to
 have HE := Lib.hid (show leadI (btB mx) l to n = l.set to (bestI (btB mx) (l.getD to 0) n) from by simp [leadI])
 clear ho hc hm hto
 generalize l.getD to 0 = v at *
 go_enter Tryz.func128, Tryz.ntmps128
 go_wp2_with fail
 go_still_tail 9, (by kernel_rfl)
 still_call (still_of (B.out _ (Same.refl _).drew))
 refine wpStill_nil ?_
 change wpList _ _ _ _ _ w.drew
 have HOD := Lib.hid (HO.out.same (Same.refl _).drew)
 have x1 : w.drew.cell? ⟨C, to, none⟩ = some (.int .i64 v) := x0
 have f1 : w.drew.frozen? ⟨C, to, none⟩ = false := f0
 have E1 := Lib.hid (show w.drew = w.drew from rfl)
 clear x0 f0 h2 h6
 obtain ⟨wd, hwd⟩ : ∃ wd, wd = w.drew := ⟨_, rfl⟩
 rw [← hwd] at HOD x1 f1
 rw [← hwd]
 have ED := Lib.hid hwd
 clear hwd E1
 go_wp2_with fail
 go_end0
 refine ⟨rfl, ?_, ?_⟩
 ·have h := HOD.out.put to (.int .i64 (bestI (btB mx) v n))
  rw [HE.out, List.map_set]
  exact h
 ·rw [ED.out]
end Go.Proofs.YthhbhbfkbncegaaGreatDoor.Cs
end
end
section
section
set_option linter.unusedSimpArgs false
set_option linter.unusedVariables false
namespace Go.Proofs.YthhbhbfkbncegaaGreatDoor.Rr
open Go Go.RowKit

section
variable {P : Program} {n : Nat}
/-- the record of a range: its state and the jump that is pending -/
abbrev recOf (fn : FuncId) (a : Act) (ps : Array Tmp) (assign body : Code) (k : Nat) (st : LoopState) (pe : Option Code) : Loop :=
 { state := st, pending := pe, fn, tmps := a.tmps, params := ps, assign, body, defers := k }
/-- the two blocks of a range: its record, and the one for what rounds defer -/
structure Two (fn : FuncId) (a : Act) (ps : Array Tmp) (assign body : Code) (k : Nat) (st : LoopState) (pe : Option Code) (W : World) : Prop where
 rec_ : W.heap[k + 1]? = some (.loop (recOf fn a ps assign body k st pe))
 coll : W.heap[k]? = some (.deferred (some []))
theorem Two.keep {fn : FuncId} {a : Act} {ps : Array Tmp} {assign body : Code} {k : Nat} {st : LoopState} {pe : Option Code} {W W' : World} (h : Two fn a ps assign body k st pe W) (hk : KeepsFrom k W W') : Two fn a ps assign body k st pe W' :=
 ⟨hk.same _ _ (by omega) h.rec_ rfl, hk.same _ _ (Nat.le_refl _) h.coll rfl⟩
theorem Two.lt {fn : FuncId} {a : Act} {ps : Array Tmp} {assign body : Code} {k : Nat} {st : LoopState} {pe : Option Code} {W : World} (h : Two fn a ps assign body k st pe W) : k + 1 < W.heap.size := (Array.getElem?_eq_some_iff.1 h.rec_).1
theorem Two.put {fn : FuncId} {a : Act} {ps : Array Tmp} {assign body : Code} {k : Nat} {st : LoopState} {pe : Option Code} {W : World} (h : Two fn a ps assign body k st pe W) (st' : LoopState) (pe' : Option Code) :
  Two fn a ps assign body k st' pe' (W.putObj (k + 1) (.loop (recOf fn a ps assign body k st' pe'))) :=
 ⟨World.putObj_heap_same h.lt, (World.putObj_heap_other (by omega)).trans h.coll⟩
theorem range_box {α : Type} {g : Operand} {ps : Array Tmp} {assign body : Code} {Q : Exit → Act → World → Prop} {a : Act} {w : World} (h1 : 1 ≤ n) {gf : Nat} {lb : Array Value} (hg : a.eval g = .func (.func gf) #[] lb)
  (eg : ∀ args w, (callFunc gf args).run P w = .ok (.enter gf args) w) {encs : α → Array Value} {n₀ : Nat} {S Sp : List α → Prop} {N : Nat} (hseq : SeqStopsK Fence.wide (n - 1) P gf lb encs (Below n₀) S Sp N w) (hn : n₀ ≤ w.heap.size) (hps : ∀ x, (encs x).size = ps.size)
  (I : List α → World → Prop) (Ix : Code → List α → World → Prop) (a₁ : α → Nat → Act) (A : List α × α × Nat → World → Prop) (hI : OwnFrom w.heap.size I) (hIx : ∀ c, OwnFrom w.heap.size (Ix c)) (hA : OwnFrom w.heap.size A) (h0 : I [] w)
  (hassign : ∀ (l : Nat) (pre : List α) (x : α) (W : World), I pre W → pre.length < N → ∀ K : Act → World → Prop, (∀ b W₁, KeepsFrom w.heap.size W W₁ → Below n₀ W W₁ → A (pre, x, b) W₁ → K (a₁ x b) W₁) →
   assign.wpIn (Fence.wide.inRound l) (n - 1 - 1) P (Exit.then K (fun _ _ _ => False)) { tmps := (ps.zip (encs x)).foldl (fun t (p, v) => t.setIfInBounds p v) a.tmps, defers := [] } W)
  (hbody : ∀ (l : Nat) (pre : List α) (x : α) (b : Nat) (W : World), A (pre, x, b) W → pre.length < N → body.wpIn (Fence.wide.inRound l) (n - 1 - 1) P (ownPostG w.heap.size (Below n₀) I Ix (pre ++ [x]) W) (a₁ x b) W)
  (hdone : ∀ (D : Nat) (xs : List α) (W : World), w.heap.size ≤ D → S xs → I xs W → W.heap[D]? = some (.deferred (some [])) → Q .normal { a with defers := { target := .collected D, args := #[] } :: a.defers } W)
  (hstop : ∀ (D : Nat) (c : Code) (pre : List α) (W : World), w.heap.size ≤ D → Sp pre → Ix c pre W → W.heap[D]? = some (.deferred (some [])) → c.wpIn Fence.wide n P Q { a with defers := { target := .collected D, args := #[] } :: a.defers } W) :
  (Code.rangeFunc g ps assign body).wpIn Fence.wide n P Q a w := by
 refine wpIn_rangeFunc fun fn _ => ?_
 have hT : Two fn a ps assign body w.heap.size .ready none ((w.alloc (.deferred (some []))).alloc (.loop (recOf fn a ps assign body w.heap.size .ready none))) :=
  ⟨by have h := World.alloc_heap_new (w.alloc (.deferred (some []))) (.loop (recOf fn a ps assign body w.heap.size .ready none)); rwa [World.size_alloc] at h,
   (Below.heap_alloc _ _ _ (by simp)).trans (World.alloc_heap_new w _)⟩
 have hIn := hI.alloc (.loop (recOf fn a ps assign body w.heap.size .ready none)) (hI.alloc (.deferred (some [])) h0)
 have hBn : Below w.heap.size w ((w.alloc (.deferred (some []))).alloc (.loop (recOf fn a ps assign body w.heap.size .ready none))) := ((Below.refl _ w).alloc (Nat.le_refl _) _).alloc (by simp) _
 have hsz : ((w.alloc (.deferred (some []))).alloc (.loop (recOf fn a ps assign body w.heap.size .ready none))).heap.size = w.heap.size + 2 := by simp
 refine ⟨w.heap.size + 1, [{ target := .collected w.heap.size, args := #[] }], ((w.alloc (.deferred (some []))).alloc (.loop (recOf fn a ps assign body w.heap.size .ready none))), { target := .fn (.func gf) lb, args := #[.func (.yield (w.heap.size + 1)) #[] #[]] }, ((w.alloc (.deferred (some []))).alloc (.loop (recOf fn a ps assign body w.heap.size .ready none))), gf,
  #[.func (.yield (w.heap.size + 1)) #[] #[]] ++ lb, ((w.alloc (.deferred (some []))).alloc (.loop (recOf fn a ps assign body w.heap.size .ready none))), run_enterLoop_outer _ _ _ _ _, ?_, ?_, ?_, fun _ => h1, ?_⟩
 ·simp only [resolve, hg]
  simp [go_sem]
 ·exact fun _ _ => trivial
 ·simp [invoke, go_sem, eg]
 ·generalize ((w.alloc (.deferred (some []))).alloc (.loop (recOf fn a ps assign body w.heap.size .ready none))) = W1 at *
  have hrow : ∀ {X Y : World} {row : Option Nat}, X.grownBy Y row → (∀ r, row = some r → W1.heap.size ≤ r ∧ ∃ o : Obj, X.heap[r]? = some o ∧ o.isWalk = true) →
    (∀ r, row = some r → w.heap.size ≤ r ∧ ∃ o : Obj, X.heap[r]? = some o ∧ o.isCells = false) ∧ (∀ st pe, Two fn a ps assign body w.heap.size st pe X → Two fn a ps assign body w.heap.size st pe Y) := by
   intro X Y row hXY hr
   refine ⟨fun r e => ?_, fun st pe hT => ⟨(grownBy_keeps hXY (fun r e => (hr r e).2) hT.rec_ rfl).trans hT.rec_, (grownBy_keeps hXY (fun r e => (hr r e).2) hT.coll rfl).trans hT.coll⟩⟩
   obtain ⟨hB, o, ho, hw⟩ := hr r e
   exact ⟨by omega, o, ho, Obj.not_cells_of_walk hw⟩
  have hput : ∀ {X : World} {st st' : LoopState} {pe pe' : Option Code}, Two fn a ps assign body w.heap.size st pe X → Below n₀ X (X.putObj (w.heap.size + 1) (.loop (recOf fn a ps assign body w.heap.size st' pe'))) :=
   fun hT => belowK_b (w := w) hn _ _ _ _ (by omega) hT.rec_ rfl rfl
  refine (hseq (w.heap.size + 1) (fun pre W => I pre W ∧ Two fn a ps assign body w.heap.size .ready none W) (fun pre W => ∃ c, Ix c pre W ∧ Two fn a ps assign body w.heap.size .done (some c) W) W1 hBn
   (fun s X Y row hs hXY hr => ⟨hI s X Y row hs.1 hXY (hrow hXY hr).1, (hrow hXY hr).2 _ _ hs.2⟩)
   (fun s X Y row ⟨c, h2, h3⟩ hXY hr => ⟨c, hIx c s X Y row h2 hXY (hrow hXY hr).1, (hrow hXY hr).2 _ _ h3⟩) ?_ ⟨hIn, hT⟩).mono ?_
  ·rintro pre x W ⟨hi, hW⟩ hlen
   refine ⟨fn, _, assign, body, run_yield (P := P) (args := encs x) hW.rec_ (hps x), roundIn_of_wpIn trivial (hassign _ pre x W hi hlen _ fun b W₁ k1 b1 ha => ⟨_, run_beginRound (hW.keep k1).rec_ rfl, ?_⟩)⟩
   have hW1 := hW.keep k1
   have hW2 := hW1.put .busy none
   have hb2 := b1.trans (hput (st' := .busy) (pe' := none) hW1)
   refine wpIn_mono (hbody _ pre x b _ (hA.putObj _ ha (by omega) hW1.rec_ rfl) hlen) ?_
   have fin : ∀ (jump : Option Code) (W3 : World), KeepsFrom w.heap.size (W₁.putObj (w.heap.size + 1) (.loop (recOf fn a ps assign body w.heap.size .busy none))) W3 →
     (Instr.endRound (w.heap.size + 1) jump).run P W3 = .ok (.bool jump.isNone) (W3.putObj (w.heap.size + 1) (.loop (recOf fn a ps assign body w.heap.size (if jump.isNone then .ready else .done) jump))) ∧ Two fn a ps assign body w.heap.size .busy none W3 :=
    fun jump W3 k3 => ⟨run_endRound (P := P) jump (hW2.keep k3).rec_, hW2.keep k3⟩
   rintro e a3 W3 hp
   cases e with
   | normal =>
    obtain ⟨k3, b3, hi3⟩ := hp
    obtain ⟨hr, h3⟩ := fin none W3 k3
    exact ⟨_, _, hr, .inl ⟨rfl, ⟨hI.putObj _ hi3 (by omega) h3.rec_ rfl, h3.put .ready none⟩, (hb2.trans b3).trans (hput h3)⟩⟩
   | ret =>
    obtain ⟨k3, hi3⟩ := hp
    obtain ⟨hr, h3⟩ := fin (some .ret) W3 k3
    exact ⟨_, _, hr, .inr ⟨rfl, .ret, (hIx _).putObj _ hi3 (by omega) h3.rec_ rfl, h3.put .done (some .ret)⟩⟩
   | exit id =>
    obtain ⟨k3, hi3⟩ := hp
    obtain ⟨hr, h3⟩ := fin (some (.exit id)) W3 k3
    exact ⟨_, _, hr, .inr ⟨rfl, .exit id, (hIx _).putObj _ hi3 (by omega) h3.rec_ rfl, h3.put .done (some (.exit id))⟩⟩
   | goto t =>
    obtain ⟨k3, hi3⟩ := hp
    obtain ⟨hr, h3⟩ := fin (some (.goto t)) W3 k3
    exact ⟨_, _, hr, .inr ⟨rfl, .goto t, (hIx _).putObj _ hi3 (by omega) h3.rec_ rfl, h3.put .done (some (.goto t))⟩⟩
   | panic ch => exact hp.elim
   | outgrown => exact hp.elim
  ·rintro e W2 ⟨⟨v, rfl⟩, (⟨xs, hS, hi, h2⟩ | ⟨pre, hSp, c, hi, h2⟩)⟩
   ·exact ⟨none, _, run_endLoop (P := P) h2.rec_ (by simp), hdone _ xs _ (Nat.le_refl _) hS (hI.putObj _ hi (by omega) h2.rec_ rfl) ((World.putObj_heap_other (by omega)).trans h2.coll)⟩
   ·exact ⟨some c, _, run_endLoop (P := P) h2.rec_ (by simp), hstop _ c pre _ (Nat.le_refl _) hSp ((hIx c).putObj _ hi (by omega) h2.rec_ rfl) ((World.putObj_heap_other (by omega)).trans h2.coll)⟩
end
end Go.Proofs.YthhbhbfkbncegaaGreatDoor.Rr
end
section
section
set_option linter.unusedVariables false
set_option linter.unusedSimpArgs false
namespace Go.Proofs.YthhbhbfkbncegaaGreatDoor.Cs
open Go.ChangeShapes Go.WideShapes Go.ChangeAt Go.RowKit Ws
open Go.Shelf
open Go.Proofs.YthhbhbfkbncegaaGreatDoor.Fw (Spn)
open Go.Proofs.YthhbhbfkbncegaaGreatDoor.Fp (lp)

/-- the places of a row, the last one first -/
def downL : Nat → List Nat
 | 0 => []
 | n + 1 => n :: downL n
theorem downL_len : ∀ n, (downL n).length = n
 | 0 => rfl
 | n + 1 => by simp [downL, downL_len n]
theorem back_any (A : Option Addr) (m c : Nat) (w : World) :
  Calls Tryz.prog 129 #[.slice A m c] w fun e w' => e = .returned (.func (.func 166) #[] #[.pointer (some ⟨w.heap.size, 0, none⟩)]) ∧ w' = w.alloc (.cells #[.slice A m c] 94) := by
 go_enter Tryz.func129, Tryz.ntmps129
 go_wp2_with fail
 go_ret
 exact ⟨rfl, rfl⟩
def encSp (ls : List (Int × Int)) {m : Nat} (k : Fin m) : Array Value := #[.int .i64 ((k : Nat) : Int), .agg #[.int .i64 (lp ls k).1, .int .i64 (lp ls k).2]]
set_option maxRecDepth 100000 in
set_option maxHeartbeats 2000000 in
theorem back_in (n : Nat) (hn : 1 ≤ n) (l Bm n₀ m c : Nat) (A : Option Addr) (ls : List (Int × Int)) (hm : ls.length = m) (hmb : m ≤ 5000) (hBn : Bm < n₀) (hAn : ∀ b o, A = some ⟨b, o, none⟩ → b < n₀) (J Jx : List (Fin m) → World → Prop)
  (hY : ∀ (pre : List (Fin m)) (x : Fin m) (W : World), J pre W → pre.length < m → YieldAt Fence.wide (n - 1) Tryz.prog l (encSp ls x) W fun e W' =>
   (e = .returned (.bool true) ∧ J (pre ++ [x]) W' ∧ Below n₀ W W') ∨ (e = .returned (.bool false) ∧ Jx (pre ++ [x]) W'))
  (W : World) (hB : W.cell? ⟨Bm, 0, none⟩ = some (.slice A m c)) (hS : Spn W A ls) (h0 : J [] W) :
  CallsIn Fence.wide n Tryz.prog 166 #[.func (.yield l) #[] #[], .pointer (some ⟨Bm, 0, none⟩)] W fun e W' => (∃ v, e = .returned v) ∧
   ((∃ xs, xs.map Fin.val = downL m ∧ J xs W') ∨ (∃ pre, pre.map Fin.val <+: downL m ∧ Jx pre W')) := by
 have HM := Lib.hid hm
 clear hm
 refine callsIn_of_wp Tryz.func166 rfl trivial ?_ rfl
 simp only [Tryz.ntmps166, List.size_toArray, List.length_cons, List.length_nil, Nat.reduceAdd, Nat.reduceSub, Array.replicate_succ, Array.replicate_zero, List.push_toArray, List.append_toArray, List.nil_append, List.cons_append]
 gi_wp2
 gi_loopw [3] (fun p wr => ∃ (pre : List (Fin m)) (k : Nat) (i : Int), p = .int .i64 i ∧ i + 1 = (k : Int) ∧ k ≤ m ∧ downL m = pre.map Fin.val ++ downL k ∧ J pre wr ∧ Below n₀ W wr)
  (fun p wr => (intOf p + 1).toNat)
 case atStart => exact ⟨[], m, _, rfl, by omega, Nat.le_refl _, rfl, h0, Below.refl _ _⟩
 case round =>
  obtain ⟨pre, k, i, rfl, hi, hk, hp, hJs, hbw⟩ := hrel
  cases k with
  | zero =>
   obtain rfl : i = -1 := by omega
   rw [show downL 0 = [] from rfl, List.append_nil] at hp
   gi_wp2
   refine bodyPost_end (results_none rfl _ _ _) rfl ?_
   exact ⟨⟨_, rfl⟩, .inl ⟨pre, hp.symm, hJs⟩⟩
  | succ k =>
   obtain rfl : i = (k : Int) := by omega
   have hk1 : (0 : Int) ≤ (k : Int) := by omega
   have hk2 : (k : Int) < m := by omega
   obtain ⟨b, o, rfl, c0, c1⟩ := hS.at_ (k := k) (by rw [HM.out]; omega)
   have hbn := hAn b o rfl
   have z0 := (hbw.cell (p := ⟨b, o + k * 2, none⟩) hbn).trans c0
   have z1 := (hbw.cell (p := ⟨b, o + k * 2 + 1, none⟩) hbn).trans c1
   have zb := (hbw.cell (p := ⟨Bm, 0, none⟩) hBn).trans hB
   have HP := Lib.hid hp
   obtain ⟨fn, tmps, assign, body, hy, hR⟩ := hY pre ⟨k, by omega⟩ wr hJs (by have h := congrArg List.length hp; rw [downL_len, List.length_append, List.length_map, downL_len] at h; omega)
   clear hp c0 c1 hB
   unfold encSp at hy
   gi_wp2
   refine hR.mono ?_
   rintro e W3 (⟨rfl, hJ3, hk3⟩ | ⟨rfl, hJx3⟩)
   ·gi_wp2
    go_roundw
    case rel => exact ⟨pre ++ [⟨k, by omega⟩], k, _, rfl, by omega, by omega, by rw [HP.out, List.map_append, List.append_assoc]; rfl, hJ3, hbw.trans hk3⟩
    case measure => simp only [intOf]; omega
   ·gi_wp2
    refine bodyPost_ret (results_none rfl _ _ _) rfl ?_
    exact ⟨⟨_, rfl⟩, .inr ⟨pre ++ [⟨k, by omega⟩], ⟨downL k, by rw [HP.out]; simp [downL]⟩, hJx3⟩⟩
theorem back_stops (n : Nat) (hn : 1 ≤ n) (Bm n₀ m c : Nat) (A : Option Addr) (ls : List (Int × Int)) (w : World) (hm : ls.length = m) (hmb : m ≤ 5000) (hBn : Bm < n₀) (hAn : ∀ b o, A = some ⟨b, o, none⟩ → b < n₀) (hle : n₀ ≤ w.heap.size)
  (hB : w.cell? ⟨Bm, 0, none⟩ = some (.slice A m c)) (hS : Spn w A ls) :
  SeqStopsK Fence.wide n Tryz.prog 166 #[.pointer (some ⟨Bm, 0, none⟩)] (encSp ls (m := m)) (Below n₀) (fun xs => xs.map Fin.val = downL m) (fun pre => pre.map Fin.val <+: downL m) m w := by
 intro l J Jx W hW _ _ hY h0
 have hb := hW.mono hle
 exact back_in n hn l Bm n₀ m c A ls hm hmb hBn hAn J Jx hY W ((hb.cell (p := ⟨Bm, 0, none⟩) hBn).trans hB) (fun k s hk => by
  obtain ⟨b, o, h1, h2, h3⟩ := hS k s hk
  exact ⟨b, o, h1, (hb.cell (p := ⟨b, o + k * 2, none⟩) (hAn b o h1)).trans h2, (hb.cell (p := ⟨b, o + k * 2 + 1, none⟩) (hAn b o h1)).trans h3⟩) h0
end Go.Proofs.YthhbhbfkbncegaaGreatDoor.Cs
end
section
section
set_option linter.unusedSimpArgs false
set_option linter.unusedVariables false
namespace Go.Proofs.YthhbhbfkbncegaaGreatDoor.Rr
open Go

section
variable {P : Program} {Q : Exit → Act → World → Prop}
theorem oper_lift {o : Oper} {a : Act} {w : World} {K : Act → World → Prop} (l n : Nat) (hd : ∀ c, o.op ≠ .defer c) (h : o.wp P a w K Q) : o.wpIn (Fence.wide.inRound l) n P a w K Q := by
 refine ⟨fun _ _ => trivial, ?_⟩
 rw [show (Fence.wide.inRound l).round = some l from rfl, Oper.semAt_eq _ _ _ hd]
 unfold Oper.wp at h
 generalize (execOp a.eval o).run P w = r at *
 cases r with
 | ok x w' =>
  cases x with
  | value v => exact h
  | skip => exact h
  | defer d => exact h
  | enter f args => exact ⟨(fun hh => by cases hh), CallsIn.inRound l (callsIn_wide.2 h)⟩
  | row r args =>
   refine ⟨(fun hh => by cases hh), ?_⟩
   intro c cs _
   obtain ⟨v, w2, h1, h2⟩ := h c cs
   exact ⟨v, w2, h1, stepsIn_wide.2 h2⟩
  | _ => exact h.elim
 | halt x w' => cases x <;> first | exact h | exact h.elim
theorem op_lift {ops : Array Oper} {i : Nat} {K K' : Act → World → Prop} {a : Act} {w : World} (l n : Nat) (hd : ∀ (j : Nat) (o : Oper), ops[j]? = some o → ∀ c, o.op ≠ .defer c) (hQ : ¬ LetsOut Q) (hK : ∀ a w, K a w → K' a w) (h : wpOp P ops Q i K a w) : wpOpIn (Fence.wide.inRound l) n P ops Q i K' a w := by
 unfold wpOp at h
 unfold wpOpIn
 cases ho : ops[i]? with
 | none => rw [ho] at h; exact hK _ _ h
 | some o =>
  rw [ho] at h
  simp only at h ⊢
  by_cases hw : Region.wanted o (yielded ops a.tmps) = true
  ·rw [if_pos hw] at h ⊢
   rcases h with h | h
   ·exact Oper.wpIn_mono hK (oper_lift l n (hd i o ho) h)
   ·exact absurd h.2 hQ
  ·rw [if_neg hw] at h ⊢
   exact ⟨fun _ _ => trivial, hK _ _ h⟩
theorem any_lift {ops : Array Oper} {md : Region.Mode} (l n : Nat) (hd : ∀ (j : Nat) (o : Oper), ops[j]? = some o → ∀ c, o.op ≠ .defer c) (hQ : ¬ LetsOut Q) : ∀ (fuel : Nat) (listed : Array Bool) (a : Act) (w : World), wpAny P md ops Q fuel listed a w → wpAnyIn (Fence.wide.inRound l) n P md ops Q fuel listed a w
 | 0, _, _, _, h => h
 | fuel + 1, listed, a, w, h => ⟨h.1, fun i hi => op_lift l n hd hQ (fun a w h => any_lift l n hd hQ fuel _ a w h) (h.2 i hi)⟩
def noDefer : List Oper → Bool
 | [] => true
 | o :: l => (match o.op with | .defer _ => false | _ => true) && noDefer l
theorem noDefer_get : ∀ {l : List Oper}, noDefer l = true → ∀ (j : Nat) (o : Oper), l.toArray[j]? = some o → ∀ c, o.op ≠ .defer c
 | [], _, j, o, h, _ => by simp at h
 | x :: l, hn, 0, o, h, c => by
  simp at h
  subst h
  intro hc
  unfold noDefer at hn
  rw [hc] at hn
  simp at hn
 | x :: l, hn, j + 1, o, h, c => by
  unfold noDefer at hn
  rw [Bool.and_eq_true] at hn
  exact noDefer_get hn.2 j o (by simpa using h) c
/-- a region of which all but the tail reads alone, the tail being forced -/
theorem any_tail {a : Act} {w : World} {l : List Oper} (n : Nat) (hB : Region.lexTailB .any l.toArray n = true)
  (h : wpStill P l.toArray w (fun a' => wpList P l.toArray Q (l.drop n) a' w) (l.take n) a) : wpAny P .any l.toArray Q l.toArray.size (Array.replicate l.toArray.size false) a w := by
 simp only [Region.lexTailB, Bool.and_eq_true, decide_eq_true_eq] at hB
 obtain ⟨⟨⟨⟨h1, h2⟩, h3⟩, h4⟩, h5⟩ := hB
 have ht : (l.take n).length = n := by simp at h2; simp; omega
 have hd : (l.drop n).length = l.toArray.size - n := by simp
 have hL := wpAnyL_lex (md := .any) (g := l.toArray.size - n) h1 h3 h4 h2 (l.take n) 0 _ a
  (fun j hj => by
   rw [ht] at hj
   simp [hj]) (by simpa using ht)
  (show HeadInv .any l.toArray n (Array.replicate l.toArray.size false) from ⟨by simp, fun j oj _ hl => (by rw [getD_replicate_false] at hl; cases hl), fun t _ ht => getD_in (by simpa using ht) (getD_replicate_false _ _)⟩) (by rw [ht]; exact h5) h
 have := wpAny_of_head (Q' := Q) (g := l.toArray.size - n) (fun listed a' hl => by
  have := wpAny_of_seq (md := .any) (Q' := Q) (l.drop n) n listed a' w (fun j => by simp [List.getElem?_drop]) (by rw [hd]; exact hl.1) hl.2
  rwa [hd] at this) _ _ _ hL
 rw [ht, show n + (l.toArray.size - n) = l.toArray.size by omega] at this
 exact this
theorem round_tail {id : Nat} {a : Act} {w : World} {ops : List Oper} {l n : Nat} (k : Nat) (hm : P.follows .mixedOrders = true) (hd : noDefer ops = true) (hQ : ¬ LetsOut Q) (hB : Region.lexTailB .any ops.toArray k = true)
  (h : wpStill P ops.toArray w.drew (fun a' => wpList P ops.toArray Q (ops.drop k) a' w.drew) (ops.take k) a) : (Code.region id ops.toArray true).wpIn (Fence.wide.inRound l) n P Q a w :=
 wpIn_region_any hm (any_lift l n (noDefer_get hd) hQ _ _ _ _ (any_tail k hB h))
end
end Go.Proofs.YthhbhbfkbncegaaGreatDoor.Rr
end
section
set_option linter.unusedVariables false
set_option linter.unusedSimpArgs false
namespace Go.Proofs.YthhbhbfkbncegaaGreatDoor.Cs
open Go.ChangeShapes Go.WideShapes Go.ChangeAt Go.RowKit Ws
open Go.Shelf
attribute [local go_sem] Oper.semAt_some
open Go.Proofs.YthhbhbfkbncegaaGreatDoor.Fp (Ins at_ Fine at_some lp loopsL nextL hasB)
open Go.Proofs.YthhbhbfkbncegaaGreatDoor.Fw (Prg Spn spanCells)

/-- the marks of ranges over functions that are over -/
def marks (Ds : List Nat) : List Deferred := Ds.map fun D => { target := .collected D, args := #[] }
theorem leaves_marks {F : Fence} {n : Nat} {P : Program} {fn : Func} {tmps : Array Value} {R : Ending → World → Prop} {u : FrameMode} (hu : u ≠ .run) (S : Nat → Prop) : ∀ (Ds : List Nat) (w : World), Ds.Nodup → (∀ D ∈ Ds, S D ∧ w.heap[D]? = some (.deferred (some []))) →
  (∀ w', Chg S w w' → LeavesIn F n P fn tmps R [] u w') → LeavesInM F n P fn tmps R (marks Ds) u w
 | [], w, _, _, h => h w (Chg.refl _ _)
 | D :: Ds, w, hn, hK, h => by
  obtain ⟨hD, hn'⟩ := List.nodup_cons.1 hn
  obtain ⟨hS, hk⟩ := hK D (by simp)
  refine ⟨hu, .inl ⟨D, _, rfl, run_takeDeferred hk, ?_⟩⟩
  have hc : Chg S w (w.putObj D (.deferred none)) := ⟨rfl, rfl, rfl, by simp, fun i hi hn2 => World.putObj_heap_other (fun he => hn2 (he ▸ hS))⟩
  refine leaves_marks hu S Ds _ hn' (fun D' h' => ?_) (fun w' hw' => h w' (hc.trans hw'))
  obtain ⟨h1, h2⟩ := hK D' (by simp [h'])
  exact ⟨h1, (World.putObj_heap_other (by rintro rfl; exact hD h')).trans h2⟩

/-- no panic besides -/
def NoPanic (Q : Exit → Act → World → Prop) : Exit → Act → World → Prop
 | .panic _, _, _ => False
 | e, a, w => Q e a w
theorem noPanic_of {Q : Exit → Act → World → Prop} {e : Exit} {a : Act} {w : World} (h : NoPanic Q e a w) : Q e a w := by
 cases e <;> first | exact h | exact h.elim
theorem own_cell {w : World} {B : Nat} {e : TypeId} {C c : Nat} {l : List Value} (h : Ws.Own w B e (some ⟨C, 0, none⟩) c l) {k : Nat} {u : Value} (hk : l[k]? = some u) : w.cell? ⟨C, k, none⟩ = some u := by
 obtain ⟨b, o, e, hb⟩ := h.row k u hk
 injection e with e
 injection e with e1 e2
 subst e1 e2
 simpa using hb
theorem own_thaw {w : World} {B : Nat} {e : TypeId} {C c : Nat} {l : List Value} (h : Ws.Own w B e (some ⟨C, 0, none⟩) c l) (h0 : 0 < l.length) (k : Nat) : w.frozen? ⟨C, k, none⟩ = false := by
 obtain ⟨g, e, _, _, h⟩ := h.thaw h0
 injection e with e
 injection e with e1
 subst e1
 exact h k
/-- what stands in memory between two places -/
structure OI (w : World) (q q2 q3 q4 q5 q6 q7 C M : Nat) (a : Nat) (pb : Int) (come : List Int) (al : Wy) (W : World) : Prop where
 b2 : Blk W q2 136 #[.pointer (some ⟨q, 0, none⟩)]
 b3 : Blk W q3 97 #[.int .i64 (a : Int), .int .i64 pb]
 b4 : Blk W q4 123 #[.int .i64 0, .int .i64 0]
 b5 : Blk W q5 123 (wyA al)
 b6 : Blk W q6 32 #[.slice (some ⟨C, 0, none⟩) M M]
 b7 : Blk W q7 138 #[.func (.func 128) #[] #[.pointer (some ⟨q2, 0, none⟩), .pointer (some ⟨q6, 0, none⟩)]]
 own : Ws.Own W 0 3 (some ⟨C, 0, none⟩) M (come.map (Value.int .i64))
 same : Same w W
 len : come.length = M
/-- what stands in memory at a place: the place in its box, and the blocks of the ranges that are over -/
structure RI (w : World) (q q2 q3 q4 q5 q6 q7 C M : Nat) (a : Nat) (pb : Int) (come : List Int) (al : Wy) (q8 k : Nat) (Ds : List Nat) (W : World) : Prop where
 oi : OI w q q2 q3 q4 q5 q6 q7 C M a pb come al W
 b8 : Blk W q8 3 #[.int .i64 (k : Int)]
 ds : ∀ D ∈ Ds, q7 < D ∧ W.heap[D]? = some (.deferred (some []))
 lt : q7 < q8
theorem OI.same_ {w : World} {q q2 q3 q4 q5 q6 q7 C M a : Nat} {pb : Int} {come : List Int} {al : Wy} {W W' : World} (h : OI w q q2 q3 q4 q5 q6 q7 C M a pb come al W) (hs : Same W W') : OI w q q2 q3 q4 q5 q6 q7 C M a pb come al W' :=
 ⟨h.b2.same hs, h.b3.same hs, h.b4.same hs, h.b5.same hs, h.b6.same hs, h.b7.same hs, h.own.same hs, h.same.trans hs, h.len⟩
theorem RI.same_ {w : World} {q q2 q3 q4 q5 q6 q7 C M a : Nat} {pb : Int} {come : List Int} {al : Wy} {q8 k : Nat} {Ds : List Nat} {W W' : World} (h : RI w q q2 q3 q4 q5 q6 q7 C M a pb come al q8 k Ds W) (hs : Same W W') : RI w q q2 q3 q4 q5 q6 q7 C M a pb come al q8 k Ds W' :=
 ⟨h.oi.same_ hs, h.b8.same hs, fun D hD => ⟨(h.ds D hD).1, (hs.block D (Array.getElem?_eq_some_iff.1 (h.ds D hD).2).1 id).trans (h.ds D hD).2⟩, h.lt⟩
/-- the place is within a loop that is known -/
def loopS (bt : Int → Int → Bool) (s : St) (k : Nat) (l : (Int × Int) × Wy) : St :=
 if (k : Int) = l.1.1 then ⟨leadI bt s.come (l.1.2 + 1) (bothI (s.come.getD k 0) l.2.thru), ⟨s.all.thru, bestI bt s.all.fin (bothI (s.come.getD k 0) l.2.fin)⟩⟩ else s
/-- where the loops lie -/
abbrev fstL (ls : Known) : List (Int × Int) := ls.map fun l => l.1
def dk : (Int × Int) × Wy := ((0, 0), ⟨0, 0⟩)
theorem onceS_in {bt : Int → Int → Bool} {p : List Ins} {w : List Int} {ls : Known} {last : Int} {s : St} {k : Nat} {l : (Int × Int) × Wy} (h : lastIn ls k = some l) : onceS bt p w ls last s k = loopS bt s k l := by
 unfold onceS loopS
 rw [h]
theorem onceS_no {bt : Int → Int → Bool} {p : List Ins} {w : List Int} {ls : Known} {last : Int} {s : St} {k : Nat} (h : lastIn ls k = none) : onceS bt p w ls last s k =
  if (at_ p k).op = 21 then ⟨s.come, ⟨s.all.thru, bestI bt s.all.fin (hereI w s.come k)⟩⟩ else if (k : Int) = last then ⟨s.come, ⟨hereI w s.come k, s.all.fin⟩⟩ else ⟨(nextL p k).foldl (fun c t => leadI bt c t (hereI w s.come k)) s.come, s.all⟩ := by
 unfold onceS
 rw [h]
theorem downL_get : ∀ (n i : Nat), i < n → (downL n)[i]? = some (n - 1 - i)
 | 0, i, h => by omega
 | n + 1, 0, _ => by simp [downL]
 | n + 1, i + 1, h => by
  rw [downL, List.getElem?_cons_succ, downL_get n i (by omega)]
  congr 1
  omega
theorem rev_down (ls : Known) : ls.reverse = (downL ls.length).map fun i => ls.getD i dk := by
 apply List.ext_getElem?
 intro i
 rw [List.getElem?_map]
 by_cases h : i < ls.length
 ·rw [List.getElem?_reverse h, downL_get _ _ h, Option.map_some, List.getD_eq_getElem?_getD, List.getElem?_eq_getElem (by omega)]
  rfl
 ·rw [List.getElem?_eq_none (by simp; omega), List.getElem?_eq_none (by rw [downL_len]; omega)]
  rfl
theorem find_pre {f : ((Int × Int) × Wy) → Bool} {g : Nat → (Int × Int) × Wy} : ∀ {pre : List Nat}, (∀ y ∈ pre, f (g y) = false) → ∀ l : List Nat, ((pre ++ l).map g).find? f = (l.map g).find? f
 | [], _, l => rfl
 | y :: pre, h, l => by
  rw [List.cons_append, List.map_cons, List.find?_cons, h y (by simp)]
  exact find_pre (fun z hz => h z (by simp [hz])) l
theorem last_some {ls : Known} {nl : Nat} (hn : ls.length = nl) {k : Int} {pre : List (Fin nl)} {x : Fin nl} (hp : (pre ++ [x]).map Fin.val <+: downL nl) (hno : ∀ y ∈ pre, hasB (ls.getD y dk).1 k = false) (hx : hasB (ls.getD x dk).1 k = true) : lastIn ls k = some (ls.getD x dk) := by
 obtain ⟨r, hr⟩ := hp
 unfold lastIn
 rw [show (pre ++ [x]).map Fin.val ++ r = pre.map Fin.val ++ ((x : Nat) :: r) by simp] at hr
 rw [rev_down, hn, ← hr, find_pre (f := fun l => hasB l.1 k) (g := fun i => ls.getD i dk) (fun y hy => by
  obtain ⟨z, hz, rfl⟩ := List.mem_map.1 hy
  exact hno z hz)]
 rw [List.map_cons, List.find?_cons, hx]
theorem last_none {ls : Known} {nl : Nat} (hn : ls.length = nl) {k : Int} {xs : List (Fin nl)} (hp : xs.map Fin.val = downL nl) (hno : ∀ y ∈ xs, hasB (ls.getD y dk).1 k = false) : lastIn ls k = none := by
 unfold lastIn
 have h := find_pre (f := fun l => hasB l.1 k) (g := fun i => ls.getD i dk) (pre := xs.map Fin.val) (fun y hy => by
  obtain ⟨z, hz, rfl⟩ := List.mem_map.1 hy
  exact hno z hz) []
 rw [rev_down, hn, ← hp]
 rw [List.append_nil] at h
 exact h
theorem lp_fst {ls : Known} {x : Nat} (h : x < ls.length) : lp (ls.map (·.1)) x = (ls.getD x dk).1 := by
 unfold lp
 rw [List.getD_eq_getElem?_getD, List.getElem?_map, List.getD_eq_getElem?_getD, List.getElem?_eq_getElem h]
 rfl
theorem lp_wy {ls : Known} {x : Nat} (h : x < ls.length) : lp (ls.map fun l => (l.2.thru, l.2.fin)) x = ((ls.getD x dk).2.thru, (ls.getD x dk).2.fin) := by
 unfold lp
 rw [List.getD_eq_getElem?_getD, List.getElem?_map, List.getD_eq_getElem?_getD, List.getElem?_eq_getElem h]
 rfl
def elt (ls : Known) (x : Nat) : (Int × Int) × Wy := ls.getD x dk
def hasE (ls : Known) (t x : Nat) : Bool := hasB (elt ls x).1 t
theorem others_of_same {a b : World} (h : Same a b) : KeepsOthers a b :=
 ⟨h.size, fun k o hk _ => by rw [h.block k (Array.getElem?_eq_some_iff.1 hk).1 id]; exact hk⟩
/-- how the blocks lie -/
def Od (z q q2 q3 q4 q5 q6 q7 C : Nat) : Prop := q2 < q6 ∧ q3 < q6 ∧ q4 < q6 ∧ q5 < q6 ∧ C < q6 ∧ q6 < q7 ∧ q2 < C ∧ q3 < C ∧ q4 < C ∧ q5 < C ∧ q4 < q5 ∧ q < q2 ∧ z = q2 ∧ q2 < q3 ∧ q3 < q4
section
variable {w : World} {q q2 q3 q4 q5 q6 q7 C M a : Nat} {pb : Int} {come : List Int} {al : Wy} {q8 k : Nat} {Ds : List Nat} {W W' : World}
theorem RI.come_ (h : RI w q q2 q3 q4 q5 q6 q7 C M a pb come al q8 k Ds W) (hO : Od w.heap.size q q2 q3 q4 q5 q6 q7 C) {come' : List Int} (hc : Chg (fun i => i = C) W W') (ho : Ws.Own W' 0 3 (some ⟨C, 0, none⟩) M (come'.map (Value.int .i64))) (hl' : come'.length = come.length) :
  RI w q q2 q3 q4 q5 q6 q7 C M a pb come' al q8 k Ds W' := by
 unfold Od at hO
 have hl := h.lt
 refine ⟨⟨h.oi.b2.chg hc (by omega), h.oi.b3.chg hc (by omega), h.oi.b4.chg hc (by omega), h.oi.b5.chg hc (by omega), h.oi.b6.chg hc (by omega), h.oi.b7.chg hc (by omega), ho, Same.more h.oi.same hc (by omega), hl'.trans h.oi.len⟩, h.b8.chg hc (by omega), fun D hD => ?_, hl⟩
 obtain ⟨h1, h2⟩ := h.ds D hD
 exact ⟨h1, (hc.block D (Array.getElem?_eq_some_iff.1 h2).1 (by omega)).trans h2⟩
theorem RI.all_ (h : RI w q q2 q3 q4 q5 q6 q7 C M a pb come al q8 k Ds W) (hO : Od w.heap.size q q2 q3 q4 q5 q6 q7 C) {al' : Wy} (hc : Chg (fun i => i = q5) W W') (hb : Blk W' q5 123 (wyA al')) :
  RI w q q2 q3 q4 q5 q6 q7 C M a pb come al' q8 k Ds W' := by
 unfold Od at hO
 have hl := h.lt
 refine ⟨⟨h.oi.b2.chg hc (by omega), h.oi.b3.chg hc (by omega), h.oi.b4.chg hc (by omega), hb, h.oi.b6.chg hc (by omega), h.oi.b7.chg hc (by omega), h.oi.own.chg hc (fun g e => by injection e with e; injection e with e; omega), Same.more h.oi.same hc (by omega), h.oi.len⟩, h.b8.chg hc (by omega), fun D hD => ?_, hl⟩
 obtain ⟨h1, h2⟩ := h.ds D hD
 exact ⟨h1, (hc.block D (Array.getElem?_eq_some_iff.1 h2).1 (by omega)).trans h2⟩
theorem RI.next_ (h : RI w q q2 q3 q4 q5 q6 q7 C M a pb come al q8 k Ds W) (hs : Same W W') {q9 k' D : Nat} (hb : Blk W' q9 3 #[.int .i64 (k' : Int)]) (h9 : q7 < q9) (hD : q7 < D) (hK : W.heap[D]? = some (.deferred (some []))) :
  RI w q q2 q3 q4 q5 q6 q7 C M a pb come al q9 k' (D :: Ds) W' := by
 refine ⟨h.oi.same_ hs, hb, fun D' hD' => ?_, h9⟩
 rcases List.mem_cons.1 hD' with rfl | hD'
 ·exact ⟨hD, (hs.block _ (Array.getElem?_eq_some_iff.1 hK).1 id).trans hK⟩
 ·obtain ⟨h1, h2⟩ := h.ds D' hD'
  exact ⟨h1, (hs.block D' (Array.getElem?_eq_some_iff.1 h2).1 id).trans h2⟩
theorem RI.own_ {B : Nat} {row : Option Nat} (h : RI w q q2 q3 q4 q5 q6 q7 C M a pb come al q8 k Ds W) (hD : ∀ D ∈ Ds, D < B) (hg : W.grownBy W' row) (hr : ∀ r, row = some r → B ≤ r ∧ ∃ o : Obj, W.heap[r]? = some o ∧ o.isCells = false) (h8 : q8 < B) (hO : Od w.heap.size q q2 q3 q4 q5 q6 q7 C) :
  RI w q q2 q3 q4 q5 q6 q7 C M a pb come al q8 k Ds W' := by
 unfold Od at hO
 have hl := h.lt
 have hc := Chg.of_grown hg
 have hn : ∀ i, i < B → ¬ some i = row := fun i hi he => by
  have := (hr i he.symm).1
  omega
 refine ⟨⟨h.oi.b2.chg hc (hn _ (by omega)), h.oi.b3.chg hc (hn _ (by omega)), h.oi.b4.chg hc (hn _ (by omega)), h.oi.b5.chg hc (hn _ (by omega)), h.oi.b6.chg hc (hn _ (by omega)), h.oi.b7.chg hc (hn _ (by omega)),
  h.oi.own.chg hc (fun g e => by injection e with e; injection e with e; exact hn _ (by omega)), Same.more h.oi.same hc (fun i hi => by
   rcases Nat.lt_or_ge i w.heap.size with h | h
   ·exact absurd hi (hn i (by omega))
   ·exact h), h.oi.len⟩, h.b8.chg hc (hn _ h8), fun D hD' => ?_, hl⟩
 obtain ⟨h1, h2⟩ := h.ds D hD'
 exact ⟨h1, (hc.block D (Array.getElem?_eq_some_iff.1 h2).1 (hn _ (hD D hD'))).trans h2⟩
end
set_option maxRecDepth 100000 in
set_option maxHeartbeats 8000000 in
theorem once_any (mx : Bool) (q : Nat) (A : Option Addr) (m c : Nat) (p : List Ins) (Wt : Option Addr) (cW : Nat) (ws : List Int) (LA : Option Addr) (cL : Nat) (KA : Option Addr) (cK nl : Nat) (ls : Known) (part : Int × Int) (w : World)
  (hB : Blk w q 109 #[.slice A m c, .slice Wt m cW, fvB mx, .slice LA nl cL, .slice KA nl cK]) (hl : p.length = m) (hm : m ≤ 5000) (hp : Prg w A p) (hok : Fw.okB p = true) (hW : Row w Wt (ws.map (Value.int .i64))) (hwl : ws.length = m)
  (hn : ls.length = nl) (hnl : nl ≤ 5000) (hS : Spn w LA (ls.map (·.1))) (hK : Spn w KA (ls.map fun l => (l.2.thru, l.2.fin))) (hpa : 0 ≤ part.1 ∧ part.1 ≤ part.2 ∧ part.2 < m) (hLA : ∀ b o, LA = some ⟨b, o, none⟩ → b < w.heap.size) (hin : ∀ l ∈ ls, 0 ≤ l.1.1 ∧ l.1.1 ≤ l.1.2 ∧ l.1.2 < m) (hT : Is.Tabs w) :
  Calls Tryz.prog 114 #[.pointer (some ⟨q, 0, none⟩), .agg #[.int .i64 part.1, .int .i64 part.2]] w fun e w' =>
   e = .returned (.agg #[.int .i64 (onceW (btB mx) p ws ls part).thru, .int .i64 (onceW (btB mx) p ws ls part).fin]) ∧ Same w w' := by
 have HB := Lib.hid hB
 have HP := Lib.hid hp
 have HL := Lib.hid hl
 have HOK := Lib.hid hok
 have HWT := Lib.hid hW
 have HWL := Lib.hid hwl
 have HN := Lib.hid hn
 have HSP := Lib.hid hS
 have HKN := Lib.hid hK
 have HPA := Lib.hid hpa
 have HLA := Lib.hid hLA
 have HIN := Lib.hid hin
 have HTB := Lib.hid hT
 clear hLA hin hT hB hp hl hok hW hwl hn hS hK hpa
 obtain ⟨pa, pb⟩ := part
 simp only at HPA ⊢
 obtain ⟨a, rfl⟩ : ∃ a : Nat, pa = (a : Int) := ⟨pa.toNat, by have := HPA.out; omega⟩
 have b0 := HB.out.cell 0
 have b1 := HB.out.cell 1
 have b2 := HB.out.cell 2
 have b3 := HB.out.cell 3
 have b4 := HB.out.cell 4
 simp only [Ws.q_] at b0 b1 b2 b3 b4
 refine (callsIn_wide (n := 6)).1 ?_
 refine callsIn_of_wp_marks Tryz.func114 rfl trivial ?_ rfl
 refine wpIn_wide.2 ?_
 simp only [Tryz.ntmps114, List.size_toArray, List.length_cons, List.length_nil, Nat.reduceAdd, Nat.reduceSub, Array.replicate_succ, Array.replicate_zero, List.push_toArray, List.append_toArray, List.nil_append, List.cons_append]
 refine wp_mono (Q := NoPanic (bodyPostM Fence.wide 6 Tryz.prog Tryz.f114 _)) ?_ (fun e a w h => noPanic_of h)
 generalize hQ : NoPanic _ = Q'
 have HQP := Lib.hid (show ∀ c a w, Q' (.panic c) a w → False from by rw [← hQ]; exact fun _ _ _ h => h)
 have HQ := Lib.hid hQ
 clear hQ
 go_wp2_with fail
 go_step3
 go_upto_region 2 with fail
 obtain ⟨w1, hw1⟩ : ∃ w1, w1 = ((((w.alloc (Obj.cells #[Value.pointer (some { block := q, off := 0 })] 136)).alloc (Obj.cells #[Value.int IntKind.i64 (a : Int), Value.int IntKind.i64 pb] 97)).alloc (Obj.cells #[Value.int IntKind.i64 0, Value.int IntKind.i64 0] 123)).alloc (Obj.cells #[Value.int IntKind.i64 (-1), Value.int IntKind.i64 (-1)] 123)) := ⟨_, rfl⟩
 rw [← hw1]
 have B2 := Lib.hid (show Blk w1 w.heap.size 136 #[.pointer (some ⟨q, 0, none⟩)] from by
  rw [hw1]
  exact (Blk.new w _ _).same ((((Same.refl _).alloc _).alloc _).alloc _))
 have B3 := Lib.hid (show Blk w1 (w.heap.size + 1) 97 #[.int .i64 (a : Int), .int .i64 pb] from by
  have h := (Blk.new (w.alloc (Obj.cells #[Value.pointer (some { block := q, off := 0 })] 136)) 97 #[.int .i64 (a : Int), .int .i64 pb])
  rw [World.size_alloc] at h
  rw [hw1]
  exact h.same (((Same.refl _).alloc _).alloc _))
 have B4 := Lib.hid (show Blk w1 (w.heap.size + 1 + 1) 123 #[.int .i64 0, .int .i64 0] from by
  have h := (Blk.new ((w.alloc (Obj.cells #[Value.pointer (some { block := q, off := 0 })] 136)).alloc (Obj.cells #[Value.int IntKind.i64 (a : Int), Value.int IntKind.i64 pb] 97)) 123 #[.int .i64 0, .int .i64 0])
  rw [World.size_alloc, World.size_alloc] at h
  rw [hw1]
  exact h.same ((Same.refl _).alloc _))
 have B5 := Lib.hid (show Blk w1 (w.heap.size + 1 + 1 + 1) 123 #[.int .i64 (-1), .int .i64 (-1)] from by
  have h := (Blk.new (((w.alloc (Obj.cells #[Value.pointer (some { block := q, off := 0 })] 136)).alloc (Obj.cells #[Value.int IntKind.i64 (a : Int), Value.int IntKind.i64 pb] 97)).alloc (Obj.cells #[Value.int IntKind.i64 0, Value.int IntKind.i64 0] 123)) 123 #[.int .i64 (-1), .int .i64 (-1)])
  rw [World.size_alloc, World.size_alloc, World.size_alloc] at h
  rw [hw1]
  exact h)
 have HS1 := Lib.hid (show Same w w1 from by rw [hw1]; exact ((((Same.refl w).alloc _).alloc _).alloc _).alloc _)
 have HZ1 := Lib.hid (show w1.heap.size = w.heap.size + 4 from by rw [hw1]; simp)
 clear hw1
 obtain ⟨q5, hq5⟩ : ∃ q5, q5 = w.heap.size + 1 + 1 + 1 := ⟨_, rfl⟩
 obtain ⟨q4, hq4⟩ : ∃ q4, q4 = w.heap.size + 1 + 1 := ⟨_, rfl⟩
 obtain ⟨q3, hq3⟩ : ∃ q3, q3 = w.heap.size + 1 := ⟨_, rfl⟩
 obtain ⟨q2, hq2⟩ : ∃ q2, q2 = w.heap.size := ⟨_, rfl⟩
 rw [← hq5] at B5
 rw [← hq4] at B4
 rw [← hq3] at B3
 rw [← hq2] at B2
 rw [← hq5, ← hq4, ← hq3, ← hq2]
 have HQ2 := Lib.hid hq2
 have HQ3 := Lib.hid hq3
 have HQ4 := Lib.hid hq4
 have HQ5 := Lib.hid hq5
 clear hq2 hq3 hq4 hq5
 have hR := fun (W : World) (g : Nat) (hx : W.cell? ⟨g, 0, none⟩ = some (.int .i64 (-1))) => repeat_one (-1) (m + 1) g (by omega) (by omega) W hx
 rw [show ((m + 1 : Nat) : Int) = (m : Int) + 1 from rfl] at hR
 have HR := Lib.hid hR
 clear hR b0 b1 b2 b3 b4
 have s1' := (Same.refl w1).alloc (.cells #[.int .i64 (-1)] 3)
 have c2 : (w1.alloc (.cells #[.int .i64 (-1)] 3)).cell? ⟨q2, 0, none⟩ = some (.pointer (some ⟨q, 0, none⟩)) := s1'.cell (B2.out.cell 0)
 have d0 : (w1.alloc (.cells #[.int .i64 (-1)] 3)).cell? ⟨q, 0, none⟩ = some (.slice A m c) := s1'.cell (HS1.out.cell (HB.out.cell 0))
 clear s1'
 go_wp2_with fail
 refine (HR.out _ _ ((Same.refl (w1.alloc (.cells #[.int .i64 (-1)] 3))).new (by rfl))).mono ?_
 rintro e w2 ⟨C, rfl, ho, hs⟩
 go_upto_region 3 with fail
 obtain ⟨w3, hw3⟩ : ∃ w3, w3 = w2.alloc (Obj.cells #[Value.slice (some { block := C, off := 0 }) (m + 1) (m + 1)] 32) := ⟨_, rfl⟩
 obtain ⟨q6, hq6⟩ : ∃ q6, q6 = w2.heap.size := ⟨_, rfl⟩
 rw [← hw3, ← hq6]
 have hs2 : Same w1 w2 := ((Same.refl w1).alloc _).trans hs
 have hs3 : Same w2 w3 := by rw [hw3]; exact (Same.refl _).alloc _
 have B6 := Lib.hid (show Blk w3 q6 32 #[.slice (some ⟨C, 0, none⟩) (m + 1) (m + 1)] from by rw [hw3, hq6]; exact Blk.new w2 _ _)
 have HO3 := Lib.hid ((ho.base (by simp : w1.heap.size ≤ _)).same hs3)
 have HS3 := Lib.hid (HS1.out.trans (hs2.trans hs3))
 have B23 := Lib.hid (B2.out.same (hs2.trans hs3))
 have B33 := Lib.hid (B3.out.same (hs2.trans hs3))
 have B43 := Lib.hid (B4.out.same (hs2.trans hs3))
 have B53 := Lib.hid (B5.out.same (hs2.trans hs3))
 have HC := Lib.hid (show w1.heap.size ≤ C ∧ C < q6 from by
  obtain ⟨g, e, h1, h2, _⟩ := ho.thaw (by simp)
  injection e with e
  injection e with e1
  subst e1
  rw [hq6]
  exact ⟨Nat.le_trans (by simp) h1, h2⟩)
 have hf : w3.frozen? ⟨C, a, none⟩ = false := own_thaw HO3.out (by simp) a
 have hx : w3.cell? ⟨C, a, none⟩ = some (.int .i64 (-1)) := own_cell HO3.out (by rw [List.getElem?_map, List.getElem?_replicate, if_pos (by have := HPA.out; omega)]; rfl)
 have HQ6 := Lib.hid (show w1.heap.size ≤ q6 ∧ q6 < w3.heap.size from ⟨by rw [hq6]; exact hs2.size, B6.out.lt⟩)
 clear hw3 hq6 hs ho hs2 hs3 c2 d0
 have c6 : w3.cell? ⟨q6, 0, none⟩ = some (.slice (some ⟨C, 0, none⟩) (m + 1) (m + 1)) := B6.out.cell 0
 have c3 : w3.cell? ⟨q3, 0, none⟩ = some (.int .i64 (a : Int)) := B33.out.cell 0
 have ha1 : (0 : Int) ≤ (a : Int) := by omega
 have ha2 : (a : Int) < ((m + 1 : Nat) : Int) := by have := HPA.out; omega
 go_upto_region 4 with fail
 obtain ⟨w4, hw4⟩ : ∃ w4, w4 = w3.setCell ⟨C, a, none⟩ (.int .i64 0) := ⟨_, rfl⟩
 rw [← hw4]
 have hC := HC.out
 have hz1 := HZ1.out
 have hz6 := HQ6.out
 have hqq := HQ2.out
 have hqq3 := HQ3.out
 have hqq4 := HQ4.out
 have hqq5 := HQ5.out
 have hch : Chg (fun i => i = C) w3 w4 := by rw [hw4]; exact (Chg.refl (fun i => i = C) w3).set (p := ⟨C, a, none⟩) (.inl rfl) _
 have B24 := Lib.hid (B23.out.chg hch (by omega))
 have B34 := Lib.hid (B33.out.chg hch (by omega))
 have B44 := Lib.hid (B43.out.chg hch (by omega))
 have B54 := Lib.hid (B53.out.chg hch (by omega))
 have B64 := Lib.hid (B6.out.chg hch (by omega))
 have HO4 := Lib.hid (show Ws.Own w4 0 3 (some ⟨C, 0, none⟩) (m + 1) ((come0 m a).map (Value.int .i64)) from by
  have h := (HO3.out.put a (.int .i64 0)).base (Nat.zero_le _)
  rw [hw4]
  unfold come0
  rw [List.map_set]
  exact h)
 have HS4 := Lib.hid (Same.more HS3.out hch (by omega))
 clear hw4 hch c6 c3 hf hx ha1 ha2 hz1 hqq hqq3 hqq4 hqq5 hC hz6
 have HZ4 := Lib.hid (B64.out.lt)
 go_upto_region 5 with fail
 obtain ⟨w5, hw5⟩ : ∃ w5, w5 = w4.alloc (Obj.cells #[Value.func (Fn.func 128) #[] #[Value.pointer (some { block := q2, off := 0 }), Value.pointer (some { block := q6, off := 0 })]] 138) := ⟨_, rfl⟩
 obtain ⟨q7, hq7⟩ : ∃ q7, q7 = w4.heap.size := ⟨_, rfl⟩
 rw [← hw5, ← hq7]
 have hs5 : Same w4 w5 := by rw [hw5]; exact (Same.refl _).alloc _
 have OI5 := Lib.hid (show OI w q q2 q3 q4 q5 q6 q7 C (m + 1) a pb (come0 m a) ⟨-1, -1⟩ w5 from
  ⟨B24.out.same hs5, B34.out.same hs5, B44.out.same hs5, B54.out.same hs5, B64.out.same hs5, by rw [hw5, hq7]; exact Blk.new w4 _ _, HO4.out.same hs5, HS4.out.trans hs5, by simp [come0]⟩)
 have HQ7 := Lib.hid (show q6 < q7 ∧ q7 < w5.heap.size from ⟨by rw [hq7]; exact B64.out.lt, OI5.out.b7.lt⟩)
 clear hw5 hq7 hs5
 have c3 : w5.cell? ⟨q3, 0, none⟩ = some (.int .i64 (a : Int)) := OI5.out.b3.cell 0
 go_wp2_with fail
 refine wp_label ?_
 go_wp2_with fail
 obtain ⟨w6, hw6⟩ : ∃ w6, w6 = w5.alloc (Obj.cells #[Value.int .i64 (a : Int)] 3) := ⟨_, rfl⟩
 obtain ⟨q8, hq8⟩ : ∃ q8, q8 = w5.heap.size := ⟨_, rfl⟩
 rw [← hw6, ← hq8]
 have RI6 := Lib.hid (show RI w q q2 q3 q4 q5 q6 q7 C (m + 1) a pb (come0 m a) ⟨-1, -1⟩ q8 (a + 0 : Nat) [] w6 from
  ⟨OI5.out.same_ (by rw [hw6]; exact (Same.refl _).alloc _), by rw [hw6, hq8]; exact Blk.new w5 _ _, by simp, by rw [hq8]; exact HQ7.out.2⟩)
 clear hw6 hq8 c3
 have HORD := Lib.hid (show Od w.heap.size q q2 q3 q4 q5 q6 q7 C from by
  have := HC.out; have := HZ1.out; have := HQ2.out; have := HQ3.out; have := HQ4.out; have := HQ5.out; have := HQ6.out; have := HQ7.out; have := HB.out.lt
  unfold Od
  omega)
 clear HS1 HZ1 B2 B3 B4 B5 HQ2 HQ3 HQ4 HQ5 HR B6 HO3 HS3 B23 B33 B43 B53 HC HQ6 B24 B34 B44 B54 B64 HO4 HS4 HZ4 OI5 HQ7
 obtain ⟨n, hn0⟩ : ∃ n, n = (pb + 1 - (a : Int)).toNat := ⟨_, rfl⟩
 have HNN := Lib.hid (show (a : Int) + n = pb + 1 from by have := HPA.out; omega)
 have HN0 := Lib.hid hn0
 clear hn0
 refine wp_loop_ghost_k (fun gk a' wx => ∃ (u8 u9 u10 u11 u12 u13 u14 u15 u16 u17 u18 u19 u20 u21 u22 u23 u24 u25 u26 u27 u28 u29 u30 u31 u32 u33 u34 u35 u36 u37 u38 u39 u40 u41 u42 u43 u44 u45 u46 u47 u48 u49 u50 u51 u52 u53 u54 u55 u56 u57 u58 u59 u60 u61 u62 u63 u64 u65 u66 u67 u68 u69 u70 u71 u72 u73 u74 u75 u76 u77 u78 u79 u80 u81 u82 u83 u84 u85 u86 u87 u88 u89 u90 u91 u92 u93 u94 u95 u96 u97 u98 u99 u100 u101 u102 u103 u104 u105 u106 u107 u108 u109 u110 u111 u112 u113 u114 u115 u116 u117 u118 u119 u120 u121 u122 u123 u124 u125 u126 u127 u128 u129 u130 u131 u132 u133 u134 u135 u136 u137 u138 u139 u140 u141 u142 u143 u144 u145 u146 : Value) (ds : List Deferred), (∃ (k q8 : Nat) (Ds : List Nat), k + gk = n ∧ u8 = .pointer (some ⟨q8, 0, none⟩) ∧ Hid (ds = marks Ds) ∧ Hid Ds.Nodup ∧
   Hid (RI w q q2 q3 q4 q5 q6 q7 C (m + 1) a pb (onceT (btB mx) p ws ls a pb k).come (onceT (btB mx) p ws ls a pb k).all q8 (a + k) Ds wx)) ∧ a' = { tmps := #[Value.pointer (some ⟨q, 0, none⟩), Value.agg #[Value.int .i64 (a : Int), Value.int .i64 pb], Value.pointer (some ⟨q2, 0, none⟩), Value.pointer (some ⟨q3, 0, none⟩), Value.pointer (some ⟨q4, 0, none⟩), Value.pointer (some ⟨q5, 0, none⟩), Value.pointer (some ⟨q6, 0, none⟩), Value.pointer (some ⟨q7, 0, none⟩), u8, u9, u10, u11, u12, u13, u14, u15, u16, u17, u18, u19, u20, u21, u22, u23, u24, u25, u26, u27, u28, u29, u30, u31, u32, u33, u34, u35, u36, u37, u38, u39, u40, u41, u42, u43, u44, u45, u46, u47, u48, u49, u50, u51, u52, u53, u54, u55, u56, u57, u58, u59, u60, u61, u62, u63, u64, u65, u66, u67, u68, u69, u70, u71, u72, u73, u74, u75, u76, u77, u78, u79, u80, u81, u82, u83, u84, u85, u86, u87, u88, u89, u90, u91, u92, u93, u94, u95, u96, u97, u98, u99, u100, u101, u102, u103, u104, u105, u106, u107, u108, u109, u110, u111, u112, u113, u114, u115, u116, u117, u118, u119, u120, u121, u122, u123, u124, u125, u126, u127, u128, u129, u130, u131, u132, u133, u134, u135, u136, u137, u138, u139, u140, u141, u142, u143, u144, u145, u146], defers := ds }) n ?atStart ?round
 case atStart =>
  (repeat apply Exists.intro)
  refine ⟨⟨0, q8, [], by omega, rfl, rfl, List.nodup_nil, ?_⟩, rfl⟩
  have h := RI6.out
  have e : onceT (btB mx) p ws ls a pb 0 = ⟨come0 m a, ⟨-1, -1⟩⟩ := by rw [← HL.out]; rfl
  rw [e]
  exact h
 case round =>
  intro gk _ wr hinv
  obtain ⟨u8, hinv⟩ := hinv
  obtain ⟨u9, hinv⟩ := hinv
  obtain ⟨u10, hinv⟩ := hinv
  obtain ⟨u11, hinv⟩ := hinv
  obtain ⟨u12, hinv⟩ := hinv
  obtain ⟨u13, hinv⟩ := hinv
  obtain ⟨u14, hinv⟩ := hinv
  obtain ⟨u15, hinv⟩ := hinv
  obtain ⟨u16, hinv⟩ := hinv
  obtain ⟨u17, hinv⟩ := hinv
  obtain ⟨u18, hinv⟩ := hinv
  obtain ⟨u19, hinv⟩ := hinv
  obtain ⟨u20, hinv⟩ := hinv
  obtain ⟨u21, hinv⟩ := hinv
  obtain ⟨u22, hinv⟩ := hinv
  obtain ⟨u23, hinv⟩ := hinv
  obtain ⟨u24, hinv⟩ := hinv
  obtain ⟨u25, hinv⟩ := hinv
  obtain ⟨u26, hinv⟩ := hinv
  obtain ⟨u27, hinv⟩ := hinv
  obtain ⟨u28, hinv⟩ := hinv
  obtain ⟨u29, hinv⟩ := hinv
  obtain ⟨u30, hinv⟩ := hinv
  obtain ⟨u31, hinv⟩ := hinv
  obtain ⟨u32, hinv⟩ := hinv
  obtain ⟨u33, hinv⟩ := hinv
  obtain ⟨u34, hinv⟩ := hinv
  obtain ⟨u35, hinv⟩ := hinv
  obtain ⟨u36, hinv⟩ := hinv
  obtain ⟨u37, hinv⟩ := hinv
  obtain ⟨u38, hinv⟩ := hinv
  obtain ⟨u39, hinv⟩ := hinv
  obtain ⟨u40, hinv⟩ := hinv
  obtain ⟨u41, hinv⟩ := hinv
  obtain ⟨u42, hinv⟩ := hinv
  obtain ⟨u43, hinv⟩ := hinv
  obtain ⟨u44, hinv⟩ := hinv
  obtain ⟨u45, hinv⟩ := hinv
  obtain ⟨u46, hinv⟩ := hinv
  obtain ⟨u47, hinv⟩ := hinv
  obtain ⟨u48, hinv⟩ := hinv
  obtain ⟨u49, hinv⟩ := hinv
  obtain ⟨u50, hinv⟩ := hinv
  obtain ⟨u51, hinv⟩ := hinv
  obtain ⟨u52, hinv⟩ := hinv
  obtain ⟨u53, hinv⟩ := hinv
  obtain ⟨u54, hinv⟩ := hinv
  obtain ⟨u55, hinv⟩ := hinv
  obtain ⟨u56, hinv⟩ := hinv
  obtain ⟨u57, hinv⟩ := hinv
  obtain ⟨u58, hinv⟩ := hinv
  obtain ⟨u59, hinv⟩ := hinv
  obtain ⟨u60, hinv⟩ := hinv
  obtain ⟨u61, hinv⟩ := hinv
  obtain ⟨u62, hinv⟩ := hinv
  obtain ⟨u63, hinv⟩ := hinv
  obtain ⟨u64, hinv⟩ := hinv
  obtain ⟨u65, hinv⟩ := hinv
  obtain ⟨u66, hinv⟩ := hinv
  obtain ⟨u67, hinv⟩ := hinv
  obtain ⟨u68, hinv⟩ := hinv
  obtain ⟨u69, hinv⟩ := hinv
  obtain ⟨u70, hinv⟩ := hinv
  obtain ⟨u71, hinv⟩ := hinv
  obtain ⟨u72, hinv⟩ := hinv
  obtain ⟨u73, hinv⟩ := hinv
  obtain ⟨u74, hinv⟩ := hinv
  obtain ⟨u75, hinv⟩ := hinv
  obtain ⟨u76, hinv⟩ := hinv
  obtain ⟨u77, hinv⟩ := hinv
  obtain ⟨u78, hinv⟩ := hinv
  obtain ⟨u79, hinv⟩ := hinv
  obtain ⟨u80, hinv⟩ := hinv
  obtain ⟨u81, hinv⟩ := hinv
  obtain ⟨u82, hinv⟩ := hinv
  obtain ⟨u83, hinv⟩ := hinv
  obtain ⟨u84, hinv⟩ := hinv
  obtain ⟨u85, hinv⟩ := hinv
  obtain ⟨u86, hinv⟩ := hinv
  obtain ⟨u87, hinv⟩ := hinv
  obtain ⟨u88, hinv⟩ := hinv
  obtain ⟨u89, hinv⟩ := hinv
  obtain ⟨u90, hinv⟩ := hinv
  obtain ⟨u91, hinv⟩ := hinv
  obtain ⟨u92, hinv⟩ := hinv
  obtain ⟨u93, hinv⟩ := hinv
  obtain ⟨u94, hinv⟩ := hinv
  obtain ⟨u95, hinv⟩ := hinv
  obtain ⟨u96, hinv⟩ := hinv
  obtain ⟨u97, hinv⟩ := hinv
  obtain ⟨u98, hinv⟩ := hinv
  obtain ⟨u99, hinv⟩ := hinv
  obtain ⟨u100, hinv⟩ := hinv
  obtain ⟨u101, hinv⟩ := hinv
  obtain ⟨u102, hinv⟩ := hinv
  obtain ⟨u103, hinv⟩ := hinv
  obtain ⟨u104, hinv⟩ := hinv
  obtain ⟨u105, hinv⟩ := hinv
  obtain ⟨u106, hinv⟩ := hinv
  obtain ⟨u107, hinv⟩ := hinv
  obtain ⟨u108, hinv⟩ := hinv
  obtain ⟨u109, hinv⟩ := hinv
  obtain ⟨u110, hinv⟩ := hinv
  obtain ⟨u111, hinv⟩ := hinv
  obtain ⟨u112, hinv⟩ := hinv
  obtain ⟨u113, hinv⟩ := hinv
  obtain ⟨u114, hinv⟩ := hinv
  obtain ⟨u115, hinv⟩ := hinv
  obtain ⟨u116, hinv⟩ := hinv
  obtain ⟨u117, hinv⟩ := hinv
  obtain ⟨u118, hinv⟩ := hinv
  obtain ⟨u119, hinv⟩ := hinv
  obtain ⟨u120, hinv⟩ := hinv
  obtain ⟨u121, hinv⟩ := hinv
  obtain ⟨u122, hinv⟩ := hinv
  obtain ⟨u123, hinv⟩ := hinv
  obtain ⟨u124, hinv⟩ := hinv
  obtain ⟨u125, hinv⟩ := hinv
  obtain ⟨u126, hinv⟩ := hinv
  obtain ⟨u127, hinv⟩ := hinv
  obtain ⟨u128, hinv⟩ := hinv
  obtain ⟨u129, hinv⟩ := hinv
  obtain ⟨u130, hinv⟩ := hinv
  obtain ⟨u131, hinv⟩ := hinv
  obtain ⟨u132, hinv⟩ := hinv
  obtain ⟨u133, hinv⟩ := hinv
  obtain ⟨u134, hinv⟩ := hinv
  obtain ⟨u135, hinv⟩ := hinv
  obtain ⟨u136, hinv⟩ := hinv
  obtain ⟨u137, hinv⟩ := hinv
  obtain ⟨u138, hinv⟩ := hinv
  obtain ⟨u139, hinv⟩ := hinv
  obtain ⟨u140, hinv⟩ := hinv
  obtain ⟨u141, hinv⟩ := hinv
  obtain ⟨u142, hinv⟩ := hinv
  obtain ⟨u143, hinv⟩ := hinv
  obtain ⟨u144, hinv⟩ := hinv
  obtain ⟨u145, hinv⟩ := hinv
  obtain ⟨u146, hinv⟩ := hinv
  obtain ⟨ds, ⟨k, q8, Ds, hk, hu8, HDS, HND, HRI⟩, ha⟩ := hinv
  subst hu8
  subst ha
  intro _ _ _ _
  have c8 : wr.cell? ⟨q8, 0, none⟩ = some (.int .i64 ((a + k : Nat) : Int)) := HRI.out.b8.cell 0
  have c31 : wr.cell? ⟨q3, 1, none⟩ = some (.int .i64 pb) := HRI.out.oi.b3.cell 1
  cases gk with
  | zero =>
   have hgt : ¬ (a : Int) + (k : Int) ≤ pb := by have := HNN.out; omega
   obtain rfl : k = n := by omega
   have y0 := HRI.out.oi.b5.cell 0
   have y1 := HRI.out.oi.b5.cell 1
   simp only [wyA, List.getElem?_toArray, List.getElem?_cons_zero, List.getElem?_cons_succ] at y0 y1
   have z0 : wr.cell? ⟨q4, 0, none⟩ = some (.int .i64 0) := HRI.out.oi.b4.cell 0
   have z1 : wr.cell? ⟨q4, 1, none⟩ = some (.int .i64 0) := HRI.out.oi.b4.cell 1
   have f0 : wr.frozen? ⟨q4, 0, none⟩ = false := HRI.out.oi.b4.thaw 0
   have f1 : wr.frozen? ⟨q4, 1, none⟩ = false := HRI.out.oi.b4.thaw 1
   have HRV := Lib.hid (show onceW (btB mx) p ws ls ((a : Int), pb) = (onceT (btB mx) p ws ls a pb k).all from by unfold onceW; simp only [Int.toNat_natCast]; rw [← HN0.out])
   generalize (onceT (btB mx) p ws ls a pb k).all = r at *
   generalize (onceT (btB mx) p ws ls a pb k).come = cm at *
   go_wp2_with fail
   rw [← HQ.out]
   have hc4 : Chg (fun i => i = q4) wr ((wr.setCell ⟨q4, 0, none⟩ (.int .i64 r.thru)).setCell ⟨q4, 1, none⟩ (.int .i64 r.fin)) := ((Chg.refl (fun i => i = q4) wr).set (p := ⟨q4, 0, none⟩) (.inl rfl) _).set (p := ⟨q4, 1, none⟩) (.inl rfl) _
   have hb4 : Blk ((wr.setCell ⟨q4, 0, none⟩ (.int .i64 r.thru)).setCell ⟨q4, 1, none⟩ (.int .i64 r.fin)) q4 123 #[.int .i64 r.thru, .int .i64 r.fin] := (HRI.out.oi.b4.put 0 _).put 1 _
   have ho := HORD.out
   unfold Od at ho
   generalize ((wr.setCell ⟨q4, 0, none⟩ (.int .i64 r.thru)).setCell ⟨q4, 1, none⟩ (.int .i64 r.fin)) = Wz at *
   show LeavesInM Fence.wide 6 Tryz.prog Tryz.f114 _ _ ds .returning Wz
   rw [HDS.out]
   refine leaves_marks (by simp) (fun D => q7 < D) Ds Wz HND.out (fun D hD => ?_) (fun w' hc => ?_)
   ·obtain ⟨h1, h2⟩ := HRI.out.ds D hD
    exact ⟨h1, (hc4.block D (Array.getElem?_eq_some_iff.1 h2).1 (by omega)).trans h2⟩
   ·have hb5 := hb4.chg hc (by omega)
    refine ⟨_, results_cell_row Tryz.results114 _ _ q4 123 #[.int .i64 r.thru, .int .i64 r.fin] (0, 0) _ rfl hb5 Tryz.underlying123 rfl (by kernel_rfl), ?_⟩
    refine ⟨?_, Same.more (Same.more HRI.out.oi.same hc4 (fun i hi => by omega)) hc (fun i hi => by omega)⟩
    rw [HRV.out]
  | succ GK =>
   have hle : (((a + k : Nat) : Int)) ≤ pb := by have := HNN.out; omega
   have HK := Lib.hid hk
   clear hk
   have e2 : wr.cell? ⟨q2, 0, none⟩ = some (.pointer (some ⟨q, 0, none⟩)) := HRI.out.oi.b2.cell 0
   have e3 : wr.cell? ⟨q, 3, none⟩ = some (.slice LA nl cL) := HRI.out.oi.same.cell (HB.out.cell 3)
   have BK := Lib.hid (back_any LA nl cL wr)
   go_wp2_with fail
   refine BK.out.mono ?_
   rintro e w1 ⟨rfl, rfl⟩
   go_wp2_with fail
   obtain ⟨wB, hwB⟩ : ∃ wB, wB = wr.alloc (Obj.cells #[Value.slice LA nl cL] 94) := ⟨_, rfl⟩
   obtain ⟨bm, hbm⟩ : ∃ bm, bm = wr.heap.size := ⟨_, rfl⟩
   rw [← hwB, ← hbm]
   have hsB : Same wr wB := by rw [hwB]; exact (Same.refl _).alloc _
   have RB := Lib.hid (HRI.out.same_ hsB)
   have hzB : wB.heap.size = bm + 1 := by rw [hwB, hbm]; simp
   have HZB := Lib.hid hzB
   have cB : wB.cell? ⟨bm, 0, none⟩ = some (.slice LA nl cL) := by rw [hwB, hbm]; exact (Blk.new wr _ _).cell 0
   have HDL := Lib.hid (show (∀ D ∈ Ds, D < wB.heap.size) ∧ q8 < wB.heap.size from ⟨fun D hD => (Array.getElem?_eq_some_iff.1 (RB.out.ds D hD).2).1, RB.out.b8.lt⟩)
   have hSB : Spn wB LA (fstL ls) := HSP.out.same RB.out.oi.same
   have hLB : ∀ b o, LA = some ⟨b, o, none⟩ → b < wB.heap.size := fun b o e => Nat.lt_of_lt_of_le (HLA.out b o e) RB.out.oi.same.size
   have BS := back_stops 5 (by omega) bm wB.heap.size nl cL LA (fstL ls) wB (by rw [List.length_map]; exact HN.out) hnl (by omega) hLB (Nat.le_refl _) cB hSB
   obtain ⟨st, hst⟩ : ∃ st, st = onceT (btB mx) p ws ls a pb k := ⟨_, rfl⟩
   rw [← hst] at RB
   have HST := Lib.hid (show onceT (btB mx) p ws ls a pb (k + 1) = onceS (btB mx) p ws ls pb st (a + k) from by rw [hst]; rfl)
   clear hwB hbm hsB c8 c31 e2 e3 cB hSB hLB BK HRI hst hzB
   refine (wpIn_wide (n := 6)).1 ?_
   refine Rr.range_box (n := 6) (by omega) (gf := 166) (lb := #[.pointer (some ⟨bm, 0, none⟩)]) rfl (enters_of Tryz.func166 (by kernel_rfl) rfl) BS (Nat.le_refl _) (fun _ => rfl)
    (fun (pre : List (Fin nl)) W => (∀ y ∈ pre, hasE ls (a + k) y = false) ∧ RI w q q2 q3 q4 q5 q6 q7 C (m + 1) a pb st.come st.all q8 (a + k) Ds W ∧ wB.heap.size ≤ W.heap.size)
    (fun cd (pre : List (Fin nl)) W => cd = .exit 1 ∧ ∃ (p0 : List (Fin nl)) (x : Fin nl), pre = p0 ++ [x] ∧ (∀ y ∈ p0, hasE ls (a + k) y = false) ∧ hasE ls (a + k) x = true ∧
     RI w q q2 q3 q4 q5 q6 q7 C (m + 1) a pb (loopS (btB mx) st (a + k) (elt ls x)).come (loopS (btB mx) st (a + k) (elt ls x)).all q8 (a + k) Ds W)
    (fun (x : Fin nl) b => { tmps := #[Value.pointer (some ⟨q, 0, none⟩), Value.agg #[Value.int .i64 (a : Int), Value.int .i64 pb], Value.pointer (some ⟨q2, 0, none⟩), Value.pointer (some ⟨q3, 0, none⟩), Value.pointer (some ⟨q4, 0, none⟩), Value.pointer (some ⟨q5, 0, none⟩), Value.pointer (some ⟨q6, 0, none⟩), Value.pointer (some ⟨q7, 0, none⟩), Value.pointer (some ⟨q8, 0, none⟩), Value.int .i64 ((x : Nat) : Int), Value.pointer (some ⟨b, 0, none⟩), u11, u12, u13, u14, u15, u16, u17, u18, u19, u20, u21, u22, u23, u24, u25, u26, u27, u28, u29, Value.int .i64 ((a : Int) + (k : Int)), Value.pointer (some ⟨q3, 1, none⟩), Value.int .i64 pb, Value.bool true, u34, u35, Value.pointer (some ⟨q, 0, none⟩), Value.pointer (some ⟨q, 0, none⟩), Value.pointer (some ⟨q, 3, none⟩), Value.slice LA nl cL, Value.func (Fn.func 166) #[] #[Value.pointer (some ⟨bm, 0, none⟩)], Value.int .i64 ((x : Nat) : Int), Value.agg #[Value.int .i64 (lp (fstL ls) x).1, Value.int .i64 (lp (fstL ls) x).2], u43, u44, u45, u46, u47, u48, u49, u50, u51, u52, u53, u54, u55, u56, u57, u58, u59, u60, u61, u62, u63, u64, u65, u66, u67, u68, u69, u70, u71, u72, u73, u74, u75, u76, u77, u78, u79, u80, u81, u82, u83, u84, u85, u86, u87, u88, u89, u90, u91, u92, u93, u94, u95, u96, u97, u98, u99, u100, u101, u102, u103, u104, u105, u106, u107, u108, u109, u110, u111, u112, u113, u114, u115, u116, u117, u118, u119, u120, u121, u122, u123, u124, u125, u126, u127, u128, u129, u130, u131, u132, u133, u134, u135, u136, u137, u138, u139, u140, u141, u142, u143, u144, u145, u146], defers := [] })
    (fun (e : List (Fin nl) × Fin nl × Nat) W => (∀ y ∈ e.1, hasE ls (a + k) y = false) ∧ RI w q q2 q3 q4 q5 q6 q7 C (m + 1) a pb st.come st.all q8 (a + k) Ds W ∧ wB.heap.size ≤ W.heap.size ∧
     (wB.heap.size ≤ e.2.2 ∧ Blk W e.2.2 97 #[.int .i64 (lp (fstL ls) e.2.1).1, .int .i64 (lp (fstL ls) e.2.1).2]))
    (fun e X Y row hs hg hr => ⟨hs.1, hs.2.1.own_ HDL.out.1 hg hr HDL.out.2 HORD.out, Nat.le_trans hs.2.2 hg.size⟩)
    (fun cd e X Y row hs hg hr => by
     obtain ⟨h1, p0, x, h2, h3, h4, h5⟩ := hs
     exact ⟨h1, p0, x, h2, h3, h4, h5.own_ HDL.out.1 hg hr HDL.out.2 HORD.out⟩)
    (fun e X Y row hs hg hr => ⟨hs.1, hs.2.1.own_ HDL.out.1 hg hr HDL.out.2 HORD.out, Nat.le_trans hs.2.2.1 hg.size, hs.2.2.2.1, hs.2.2.2.2.chg (Chg.of_grown hg) (fun he => by
     obtain ⟨_, o, ho, hc⟩ := hr _ he.symm
     have := hs.2.2.2.2
     unfold Blk at this
     rw [this] at ho
     injection ho with ho
     subst ho
     cases hc)⟩)
    ⟨by simp, RB.out, Nat.le_refl _⟩ ?assign ?body ?done ?stop
   case assign =>
    rintro l pre x W ⟨hno, hI, hz⟩ hlt K hK
    have HK' := Lib.hid hK
    clear hK
    unfold encSp
    gi_wp2
    refine HK'.out _ _ ((KeepsOthers.alloc W _).from _) ((Below.refl _ W).alloc hz _) ⟨hno, hI.same_ ((Same.refl _).alloc _), Nat.le_trans hz (by simp), hz, Blk.new W _ _⟩
   case body =>
    rintro l pre x b W ⟨hno, hI, hz, hbz, hbb⟩ hlt
    have hxl : (x : Nat) < ls.length := by rw [HN.out]; exact x.2
    obtain ⟨fa, fb, ft, ff, hF⟩ : ∃ fa fb ft ff, elt ls x = ((fa, fb), ⟨ft, ff⟩) := ⟨_, _, _, _, rfl⟩
    have hf1 : lp (fstL ls) x = (fa, fb) := by rw [lp_fst hxl]; exact congrArg (·.1) hF
    have hf2 : lp (ls.map fun l => (l.2.thru, l.2.fin)) x = (ft, ff) := by rw [lp_wy hxl]; exact congrArg (fun l => (l.2.thru, l.2.fin)) hF
    have HF := Lib.hid (show 0 ≤ fa ∧ fa ≤ fb ∧ fb < m from HIN.out ((fa, fb), ⟨ft, ff⟩) (by rw [← hF]; unfold elt; rw [List.getD_eq_getElem?_getD, List.getElem?_eq_getElem hxl]; exact List.getElem_mem hxl))
    rw [hf1] at hbb
    rw [hf1]
    have c8 : W.cell? ⟨q8, 0, none⟩ = some (.int .i64 ((a : Int) + (k : Int))) := hI.b8.cell 0
    have d0 : W.cell? ⟨b, 0, none⟩ = some (.int .i64 fa) := hbb.cell 0
    have d1 : W.cell? ⟨b, 1, none⟩ = some (.int .i64 fb) := hbb.cell 1
    have HI := Lib.hid hI
    have HNO := Lib.hid hno
    have HFE := Lib.hid hF
    have HF2 := Lib.hid hf2
    have HBB := Lib.hid hbb
    have HBZ := Lib.hid hbz
    have HZW := Lib.hid hz
    have HXL := Lib.hid hxl
    clear hI hno hf1 hf2 hF hbb hbz hz hxl BS
    have HOFF := Lib.hid (fun h : ¬ (fa ≤ (a : Int) + (k : Int) ∧ (a : Int) + (k : Int) ≤ fb) => (show ∀ y ∈ pre ++ [x], hasE ls (a + k) y = false from by
     intro y hy
     rcases List.mem_append.1 hy with hy | hy
     ·exact HNO.out y hy
     ·rw [List.mem_singleton] at hy
      rw [hy]
      unfold hasE hasB
      rw [HFE.out]
      simpa using h))
    have HON := Lib.hid (fun h : fa ≤ (a : Int) + (k : Int) ∧ (a : Int) + (k : Int) ≤ fb => (show hasE ls (a + k) x = true from by
      unfold hasE hasB
      rw [HFE.out]
      simpa using h))
    have HLS := Lib.hid (show loopS (btB mx) st (a + k) (elt ls x) = if ((a + k : Nat) : Int) = fa then ⟨leadI (btB mx) st.come (fb + 1) (bothI (st.come.getD (a + k) 0) ft), ⟨st.all.thru, bestI (btB mx) st.all.fin (bothI (st.come.getD (a + k) 0) ff)⟩⟩ else st from by
      unfold loopS
      rw [HFE.out])
    by_cases h1 : (a : Int) + (k : Int) < fa
    ·gi_wp2
     exact ⟨(KeepsOthers.refl W).from _, Below.refl _ _, HOFF.out (by omega), HI.out, HZW.out⟩
    ·by_cases h2 : fb < (a : Int) + (k : Int)
     ·gi_wp2
      exact ⟨(KeepsOthers.refl W).from _, Below.refl _ _, HOFF.out (by omega), HI.out, HZW.out⟩
     ·by_cases h3 : (a : Int) + (k : Int) = fa
      ·subst h3
       obtain ⟨kb, ko, hKA, k0, k1⟩ := (HKN.out.same HI.out.oi.same).at_ (k := x) (by rw [List.length_map]; exact HXL.out)
       subst hKA
       rw [HF2.out] at k0 k1
       have hx2 := x.2
       have e2 : W.cell? ⟨q2, 0, none⟩ = some (.pointer (some ⟨q, 0, none⟩)) := HI.out.oi.b2.cell 0
       have e5 : W.cell? ⟨q5, 1, none⟩ = some (.int .i64 st.all.fin) := HI.out.oi.b5.cell 1
       have f5 : W.frozen? ⟨q5, 1, none⟩ = false := HI.out.oi.b5.thaw 1
       have e6 : W.cell? ⟨q6, 0, none⟩ = some (.slice (some ⟨C, 0, none⟩) (m + 1) (m + 1)) := HI.out.oi.b6.cell 0
       have e4 : W.cell? ⟨q, 4, none⟩ = some (.slice (some ⟨kb, ko, none⟩) nl cK) := HI.out.oi.same.cell (HB.out.cell 4)
       have hak : a + k < m + 1 := by have := HNN.out; have := HPA.out; have := HK.out; omega
       have HLEN := Lib.hid (show st.come.length = m + 1 from HI.out.oi.len)
       have ec : W.cell? ⟨C, a + k, none⟩ = some (.int .i64 (st.come.getD (a + k) 0)) := own_cell HI.out.oi.own (by rw [List.getElem?_map, List.getD_eq_getElem?_getD, List.getElem?_eq_getElem (by rw [HLEN.out]; exact hak)]; rfl)
       have B1 := Lib.hid (both_any (st.come.getD (a + k) 0) ff)
       have B2 := Lib.hid (fun W' (hs : Same W W') => best_any mx q st.all.fin (bothI (st.come.getD (a + k) 0) ff) W' ((HI.out.oi.same.trans hs).cell (HB.out.cell 2)))
       obtain ⟨v, hv⟩ : ∃ v, v = st.come.getD (a + k) 0 := ⟨_, rfl⟩
       rw [← hv] at ec B1 B2
       have HV := Lib.hid hv
       clear hv
       have g1 : (0 : Int) ≤ (a : Int) + (k : Int) := by omega
       have g2 : (a : Int) + (k : Int) < (m : Int) + 1 := by omega
       have g5 : ((a : Int) + (k : Int)).toNat = a + k := by omega
       have g3 : (((x : Nat) : Int)) < (nl : Int) := by omega
       have g4 : (0 : Int) ≤ ((x : Nat) : Int) := by omega
       gi_wp2
       refine Rr.round_tail 18 (by kernel_rfl) (by kernel_rfl) (by rintro ⟨_, _, h⟩; exact h) (by kernel_rfl) ?_
       simp only [List.take_succ_cons, List.take_zero, List.drop_succ_cons, List.drop_zero]
       repeat still_step
       still_call (still_of (B1.out _))
       still_call (still_of (B2.out _ (Same.refl _).drew))
       repeat still_step
       refine wpStill_nil ?_
       clear e2 e5 e6 e4 ec c8 d0 d1 k0 k1
       have f5' : W.drew.frozen? ⟨q5, 1, none⟩ = false := f5
       have e5' : W.drew.cell? ⟨q5, 1, none⟩ = some (.int .i64 st.all.fin) := HI.out.oi.b5.cell 1
       clear f5
       go_wp2_with fail
       obtain ⟨W2, hW2⟩ : ∃ W2, W2 = (W.setCell ⟨q5, 1, none⟩ (.int .i64 (bestI (btB mx) st.all.fin (bothI v ff)))).drew := ⟨_, rfl⟩
       rw [← hW2]
       have hc2 : Chg (fun i => i = q5) W W2 := by rw [hW2]; exact ((Chg.refl (fun i => i = q5) W).set (p := ⟨q5, 1, none⟩) (.inl rfl) _).drew
       have HI2 := Lib.hid (show RI w q q2 q3 q4 q5 q6 q7 C (m + 1) a pb st.come ⟨st.all.thru, bestI (btB mx) st.all.fin (bothI v ff)⟩ q8 (a + k) Ds W2 from
        HI.out.all_ HORD.out hc2 (by rw [hW2]; exact (HI.out.oi.b5.put 1 _).same (Same.refl _).drew))
       have HO2 := Lib.hid (show KeepsOthers W W2 from by rw [hW2]; exact (KeepsOthers.setCell _ _ _).trans (others_of_same (Same.refl _).drew))
       have HBB2 := Lib.hid (HBB.out.chg hc2 (by have := HORD.out; unfold Od at this; have := HDL.out; have := HI.out.lt; have := HBZ.out; omega))
       clear hW2 hc2 e5' f5' B1 B2 HI HBB
       have c8 : W2.cell? ⟨q8, 0, none⟩ = some (.int .i64 ((a : Int) + (k : Int))) := HI2.out.b8.cell 0
       have d1 : W2.cell? ⟨b, 1, none⟩ = some (.int .i64 fb) := HBB2.out.cell 1
       have e2 : W2.cell? ⟨q2, 0, none⟩ = some (.pointer (some ⟨q, 0, none⟩)) := HI2.out.oi.b2.cell 0
       have e6 : W2.cell? ⟨q6, 0, none⟩ = some (.slice (some ⟨C, 0, none⟩) (m + 1) (m + 1)) := HI2.out.oi.b6.cell 0
       have e7 : W2.cell? ⟨q7, 0, none⟩ = some (.func (.func 128) #[] #[.pointer (some ⟨q2, 0, none⟩), .pointer (some ⟨q6, 0, none⟩)]) := HI2.out.oi.b7.cell 0
       have e4 : W2.cell? ⟨q, 4, none⟩ = some (.slice (some ⟨kb, ko, none⟩) nl cK) := HI2.out.oi.same.cell (HB.out.cell 4)
       have ec : W2.cell? ⟨C, a + k, none⟩ = some (.int .i64 v) := own_cell HI2.out.oi.own (by rw [List.getElem?_map, HV.out, List.getD_eq_getElem?_getD, List.getElem?_eq_getElem (by rw [HLEN.out]; exact hak)]; rfl)
       obtain ⟨kb', ko', hKA, k0, k1⟩ := (HKN.out.same HI2.out.oi.same).at_ (k := x) (by rw [List.length_map]; exact HXL.out)
       injection hKA with hKA
       injection hKA with hk1 hk2
       subst hk1 hk2
       rw [HF2.out] at k0 k1
       have hfb := HF.out
       have hfb1 : fb ≤ 5000 := by omega
       have hfb2 : 0 ≤ fb := by omega
       have B1 := Lib.hid (both_any v ft)
       clear hfb
       refine Rr.round_tail 17 (by kernel_rfl) (by kernel_rfl) (by rintro ⟨_, _, h⟩; exact h) (by kernel_rfl) ?_
       simp only [List.take_succ_cons, List.take_zero, List.drop_succ_cons, List.drop_zero]
       repeat still_step
       still_call (still_of (B1.out _))
       repeat still_step
       refine wpStill_nil ?_
       clear c8 d1 e2 e6 e7 e4 ec k0 k1
       have LD := lead_any mx q q2 q6 C (m + 1) (m + 1) st.come (fb + 1).toNat (bothI v ft) W2.drew HLEN.out (by have := HF.out; omega) (by omega) (HI2.out.oi.b2.cell 0) (HI2.out.oi.b6.cell 0) HI2.out.oi.own (HI2.out.oi.same.cell (HB.out.cell 2))
       rw [show (((fb + 1).toNat : Nat) : Int) = fb + 1 by omega] at LD
       have HLD := Lib.hid LD
       clear LD
       go_wp2_with fail
       refine HLD.out.mono ?_
       rintro e W3 ⟨rfl, ho3, hw3⟩
       have hc3 : Chg (fun i => i = C) W2 W3 := by rw [hw3]; exact (((Chg.refl (fun i => i = C) W2).drew).drew).set (p := ⟨C, _, none⟩) (.inl rfl) _
       have hk3 : KeepsOthers W2 W3 := by rw [hw3]; exact (others_of_same ((Same.refl W2).drew.drew)).trans (KeepsOthers.setCell _ _ _)
       have HI3 := Lib.hid (HI2.out.come_ HORD.out hc3 ho3 (by unfold leadI; rw [List.length_set]))
       have HK3 := Lib.hid (HO2.out.trans hk3)
       clear hc3 hk3 ho3 hw3 HLD HI2 HO2 HBB2
       go_wp2_with fail
       gi_step
       gi_wp2
       exact ⟨HK3.out.from _, rfl, pre, x, rfl, HNO.out, HON.out (by omega), by rw [HLS.out, if_pos (by omega), ← HV.out]; exact HI3.out⟩
      ·gi_wp2
       exact ⟨(KeepsOthers.refl W).from _, rfl, pre, x, rfl, HNO.out, HON.out (by omega), by rw [HLS.out, if_neg (by omega)]; exact HI.out⟩
   case stop =>
    rintro D cd pre W hD hp ⟨rfl, p0, x, rfl, hno, hx, hI⟩ hKD
    have hls : lastIn ls ((a + k : Nat) : Int) = some (elt ls x) := last_some HN.out hp hno hx
    have HT : onceT (btB mx) p ws ls a pb (k + 1) = loopS (btB mx) st (a + k) (elt ls x) := by rw [HST.out, onceS_in hls]
    rw [← HT] at hI
    have HI := Lib.hid hI
    have HKD := Lib.hid hKD
    have HDD := Lib.hid hD
    clear hls HT hI hKD hD hx hno hp HST BS RB
    refine wpIn_wide.2 ?_
    have c8 : W.cell? ⟨q8, 0, none⟩ = some (.int .i64 ((a : Int) + (k : Int))) := HI.out.b8.cell 0
    have g9 : (a : Int) + (k : Int) ≤ 100000 := by have := HNN.out; have := HPA.out; have := HK.out; omega
    go_wp2_with fail
    refine Handed.intro GK ?measure ?_
    case measure => exact Nat.lt_succ_self GK
    go_step
    (repeat apply Exists.intro)
    refine ⟨⟨k + 1, W.heap.size, D :: Ds, by have := HK.out; omega, rfl, Lib.hid (by rw [HDS.out]; rfl), Lib.hid (List.nodup_cons.2 ⟨fun h => by have := HDL.out.1 D h; have := HDD.out; omega, HND.out⟩), Lib.hid ?_⟩, rfl⟩
    have hlt := HI.out.lt
    have hl8 := HI.out.b8.lt
    exact HI.out.next_ ((Same.refl W).alloc _) (by rw [show ((a + (k + 1) : Nat) : Int) = (a : Int) + (k : Int) + 1 by omega]; exact Blk.new W _ _) (by omega) (by have := HDL.out.2; have := HDD.out; omega) HKD.out
   case done =>
    rintro D xs W hD hxs ⟨hno, hI, hz⟩ hKD
    have hln : lastIn ls ((a + k : Nat) : Int) = none := last_none HN.out hxs hno
    obtain ⟨v, hv⟩ : ∃ v, v = st.come.getD (a + k) 0 := ⟨_, rfl⟩
    have hak : a + k < m := by have := HNN.out; have := HPA.out; have := HK.out; omega
    have hT := HST.out
    rw [onceS_no hln] at hT
    obtain ⟨he, hhe⟩ : ∃ he, he = hereI ws st.come (a + k) := ⟨_, rfl⟩
    rw [← hhe] at hT
    have HHE := Lib.hid (show he = bothI v (clI (ws.getD (a + k) 0)) from by rw [hhe, hv]; rfl)
    have HI := Lib.hid hI
    have HKD := Lib.hid hKD
    have HDD := Lib.hid hD
    have HTT := Lib.hid hT
    have HLEN := Lib.hid (show st.come.length = m + 1 from HI.out.oi.len)
    have ec : W.cell? ⟨C, a + k, none⟩ = some (.int .i64 v) := own_cell HI.out.oi.own (by rw [List.getElem?_map, hv, List.getD_eq_getElem?_getD, List.getElem?_eq_getElem (by rw [HLEN.out]; omega)]; rfl)
    have HAK := Lib.hid hak
    have HV := Lib.hid hv
    obtain ⟨wb, wo, hWt, ew⟩ := (HWT.out.same HI.out.oi.same) (a + k) (.int .i64 (ws.getD (a + k) 0)) (by rw [List.getElem?_map, List.getD_eq_getElem?_getD, List.getElem?_eq_getElem (by rw [HWL.out]; exact hak)]; rfl)
    subst hWt
    have WC := Lib.hid (show ∀ W, Calls Tryz.prog 108 #[.int .i64 (ws.getD (a + k) 0), .int .i64 0, .int .i64 1099511627776] W fun e w' => e = .returned (.int .i64 (clI (ws.getD (a + k) 0))) ∧ W = w' from fun W => Wd.wclamp _ _ _ W)
    have BB := Lib.hid (both_any v (clI (ws.getD (a + k) 0)))
    rw [← HHE.out] at BB
    clear hln hT hI hKD hD hz hno hxs HST BS RB hv hhe
    generalize ws.getD (a + k) 0 = wv at *
    have c8 : W.cell? ⟨q8, 0, none⟩ = some (.int .i64 ((a : Int) + (k : Int))) := HI.out.b8.cell 0
    have e2 : W.cell? ⟨q2, 0, none⟩ = some (.pointer (some ⟨q, 0, none⟩)) := HI.out.oi.b2.cell 0
    have e6 : W.cell? ⟨q6, 0, none⟩ = some (.slice (some ⟨C, 0, none⟩) (m + 1) (m + 1)) := HI.out.oi.b6.cell 0
    have e1 : W.cell? ⟨q, 1, none⟩ = some (.slice (some ⟨wb, wo, none⟩) m cW) := HI.out.oi.same.cell (HB.out.cell 1)
    have g1 : (0 : Int) ≤ (a : Int) + (k : Int) := by omega
    have g2 : (a : Int) + (k : Int) < (m : Int) + 1 := by omega
    have g3 : (a : Int) + (k : Int) < (m : Int) := by omega
    have g5 : ((a : Int) + (k : Int)).toNat = a + k := by omega
    go_wp2_with fail
    go_still_tail 13, (by kernel_rfl)
    still_call (still_of (WC.out _))
    still_call (still_of (BB.out _))
    refine wpStill_nil ?_
    change wpList _ _ _ _ _ W.drew
    have sd : Same W W.drew := (Same.refl _).drew
    have HID := Lib.hid (HI.out.same_ sd)
    have HKE := Lib.hid (show W.drew.heap[D]? = some (.deferred (some [])) from HKD.out)
    clear c8 e2 e6 e1 ec ew HI HKD WC BB
    generalize W.drew = Wd at *
    clear sd
    have HPG := Lib.hid (HP.out.same HID.out.oi.same)
    obtain ⟨hok, zb, zo, hA, z0, _⟩ := HPG.out.at_ (k := a + k) (by rw [HL.out]; exact HAK.out)
    have HNX := Lib.hid (fun t ht => ((Fw.okB_fine HOK.out).edge HP.out.nn (k := a + k) (by rw [HL.out]; exact HAK.out) (t := t) ht).1)
    have NF := Lib.hid (fun W' (s : Same w W') => Fw.nextsf_any A m c p ((a + k : Nat) : Int) W' HL.out hm (HP.out.same s) (HTB.out.same s))
    have HNL := Lib.hid (show Fw.nextsL p ((a + k : Nat) : Int) = nextL p (a + k) from by unfold Fw.nextsL; rw [if_pos ⟨HOK.out, by omega, by rw [HL.out]; omega⟩, Int.toNat_natCast])
    rw [HNL.out, show ((a + k : Nat) : Int) = (a : Int) + (k : Int) from rfl] at NF
    have HLL := Lib.hid (Fp.next_len p (a + k))
    subst hA
    clear hok HPG HNL
    have HT2 := Lib.hid (show onceT (btB mx) p ws ls a pb (k + 1) = if (at_ p (a + k)).op = 21 then ⟨st.come, ⟨st.all.thru, bestI (btB mx) st.all.fin he⟩⟩ else if ((a + k : Nat) : Int) = pb then ⟨st.come, ⟨he, st.all.fin⟩⟩ else ⟨(nextL p (a + k)).foldl (fun c t => leadI (btB mx) c t he) st.come, st.all⟩ from HTT.out)
    clear HTT
    generalize (at_ p (a + k)).op = op at *
    have c8 : Wd.cell? ⟨q8, 0, none⟩ = some (.int .i64 ((a : Int) + (k : Int))) := HID.out.b8.cell 0
    have e2 : Wd.cell? ⟨q2, 0, none⟩ = some (.pointer (some ⟨q, 0, none⟩)) := HID.out.oi.b2.cell 0
    have e0 : Wd.cell? ⟨q, 0, none⟩ = some (.slice (some ⟨zb, zo, none⟩) m c) := HID.out.oi.same.cell (HB.out.cell 0)
    by_cases h21 : op = 21
    ·have b21 : (op == 21) = true := by simpa using h21
     have HTT := Lib.hid (HT2.out.trans (if_pos h21))
     clear h21 HT2 NF HNX
     go_wp2_with fail
     go_still_tail 9, (by kernel_rfl)
     change wpList _ _ _ _ _ Wd.drew
     have HID2 := Lib.hid (HID.out.same_ (Same.refl _).drew)
     have HKE2 := Lib.hid (show Wd.drew.heap[D]? = some (.deferred (some [])) from HKE.out)
     clear c8 e2 e0 z0 HID HKE
     generalize Wd.drew = We at *
     have e2 : We.cell? ⟨q2, 0, none⟩ = some (.pointer (some ⟨q, 0, none⟩)) := HID2.out.oi.b2.cell 0
     have e5 : We.cell? ⟨q5, 1, none⟩ = some (.int .i64 st.all.fin) := HID2.out.oi.b5.cell 1
     have f5 : We.frozen? ⟨q5, 1, none⟩ = false := HID2.out.oi.b5.thaw 1
     have BE := Lib.hid (best_any mx q st.all.fin he We (HID2.out.oi.same.cell (HB.out.cell 2)))
     go_wp2_with fail
     refine BE.out.mono ?_
     rintro e w' ⟨rfl, rfl⟩
     go_upto_region 25 with fail
     obtain ⟨W4, hW4⟩ : ∃ W4, W4 = We.setCell ⟨q5, 1, none⟩ (.int .i64 (bestI (btB mx) st.all.fin he)) := ⟨_, rfl⟩
     rw [← hW4]
     have hc4 : Chg (fun i => i = q5) We W4 := by rw [hW4]; exact (Chg.refl (fun i => i = q5) We).set (p := ⟨q5, 1, none⟩) (.inl rfl) _
     have HI := Lib.hid (show RI w q q2 q3 q4 q5 q6 q7 C (m + 1) a pb (onceT (btB mx) p ws ls a pb (k + 1)).come (onceT (btB mx) p ws ls a pb (k + 1)).all q8 (a + k) Ds W4 from by
      rw [HTT.out]
      exact HID2.out.all_ HORD.out hc4 (by rw [hW4]; exact HID2.out.oi.b5.put 1 _))
     have HKD := Lib.hid (show W4.heap[D]? = some (.deferred (some [])) from (hc4.block D (Array.getElem?_eq_some_iff.1 HKE2.out).1 (by have := HORD.out; unfold Od at this; have := HDD.out; have := HDL.out.2; have := HID2.out.lt; omega)).trans HKE2.out)
     clear hW4 hc4 HID2 HKE2
     clear e2 e5 f5 BE
     have c8 : W4.cell? ⟨q8, 0, none⟩ = some (.int .i64 ((a : Int) + (k : Int))) := HI.out.b8.cell 0
     have g9 : (a : Int) + (k : Int) ≤ 100000 := by have := HNN.out; have := HPA.out; have := HK.out; omega
     go_wp2_with fail
     refine Handed.intro GK ?measure ?_
     case measure => exact Nat.lt_succ_self GK
     go_step
     (repeat apply Exists.intro)
     refine ⟨⟨k + 1, W4.heap.size, D :: Ds, by have := HK.out; omega, rfl, Lib.hid (by rw [HDS.out]; rfl), Lib.hid (List.nodup_cons.2 ⟨fun h => by have := HDL.out.1 D h; have := HDD.out; omega, HND.out⟩), Lib.hid ?_⟩, rfl⟩
     have hlt := HI.out.lt
     have hl8 := HI.out.b8.lt
     exact HI.out.next_ ((Same.refl W4).alloc _) (by rw [show ((a + (k + 1) : Nat) : Int) = (a : Int) + (k : Int) + 1 by omega]; exact Blk.new W4 _ _) (by omega) (by have := HDL.out.2; have := HDD.out; omega) HKD.out
    ·have b21 : (op == 21) = false := by simpa using h21
     have HT3 := Lib.hid (HT2.out.trans (if_neg h21))
     clear h21 HT2
     go_wp2_with fail
     go_still_tail 9, (by kernel_rfl)
     change wpList _ _ _ _ _ Wd.drew
     have HID2 := Lib.hid (HID.out.same_ (Same.refl _).drew)
     have HKE2 := Lib.hid (show Wd.drew.heap[D]? = some (.deferred (some [])) from HKE.out)
     clear c8 e2 e0 z0 HID HKE
     generalize Wd.drew = We at *
     have c8 : We.cell? ⟨q8, 0, none⟩ = some (.int .i64 ((a : Int) + (k : Int))) := HID2.out.b8.cell 0
     have e31 : We.cell? ⟨q3, 1, none⟩ = some (.int .i64 pb) := HID2.out.oi.b3.cell 1
     by_cases hpb : (a : Int) + (k : Int) = pb
     ·have bpb : ((a : Int) + (k : Int) == pb) = true := by simpa using hpb
      have HTT := Lib.hid (HT3.out.trans (if_pos (by omega)))
      clear hpb HT3 NF HNX
      have e5 : We.cell? ⟨q5, 0, none⟩ = some (.int .i64 st.all.thru) := HID2.out.oi.b5.cell 0
      have f5 : We.frozen? ⟨q5, 0, none⟩ = false := HID2.out.oi.b5.thaw 0
      go_upto_region 25 with fail
      obtain ⟨W4, hW4⟩ : ∃ W4, W4 = We.setCell ⟨q5, 0, none⟩ (.int .i64 he) := ⟨_, rfl⟩
      rw [← hW4]
      have hc4 : Chg (fun i => i = q5) We W4 := by rw [hW4]; exact (Chg.refl (fun i => i = q5) We).set (p := ⟨q5, 0, none⟩) (.inl rfl) _
      have HI := Lib.hid (show RI w q q2 q3 q4 q5 q6 q7 C (m + 1) a pb (onceT (btB mx) p ws ls a pb (k + 1)).come (onceT (btB mx) p ws ls a pb (k + 1)).all q8 (a + k) Ds W4 from by
       rw [HTT.out]
       exact HID2.out.all_ HORD.out hc4 (by rw [hW4]; exact HID2.out.oi.b5.put 0 _))
      have HKD := Lib.hid (show W4.heap[D]? = some (.deferred (some [])) from (hc4.block D (Array.getElem?_eq_some_iff.1 HKE2.out).1 (by have := HORD.out; unfold Od at this; have := HDD.out; have := HDL.out.2; have := HID2.out.lt; omega)).trans HKE2.out)
      clear hW4 hc4 HID2 HKE2
      clear c8 e31 e5 f5
      have c8 : W4.cell? ⟨q8, 0, none⟩ = some (.int .i64 ((a : Int) + (k : Int))) := HI.out.b8.cell 0
      have g9 : (a : Int) + (k : Int) ≤ 100000 := by have := HNN.out; have := HPA.out; have := HK.out; omega
      go_wp2_with fail
      refine Handed.intro GK ?measure ?_
      case measure => exact Nat.lt_succ_self GK
      go_step
      (repeat apply Exists.intro)
      refine ⟨⟨k + 1, W4.heap.size, D :: Ds, by have := HK.out; omega, rfl, Lib.hid (by rw [HDS.out]; rfl), Lib.hid (List.nodup_cons.2 ⟨fun h => by have := HDL.out.1 D h; have := HDD.out; omega, HND.out⟩), Lib.hid ?_⟩, rfl⟩
      have hlt := HI.out.lt
      have hl8 := HI.out.b8.lt
      exact HI.out.next_ ((Same.refl W4).alloc _) (by rw [show ((a + (k + 1) : Nat) : Int) = (a : Int) + (k : Int) + 1 by omega]; exact Blk.new W4 _ _) (by omega) (by have := HDL.out.2; have := HDD.out; omega) HKD.out
     ·have bpb : ((a : Int) + (k : Int) == pb) = false := by simpa using hpb
      have HTT := Lib.hid (HT3.out.trans (if_neg (by omega)))
      clear hpb HT3
      have e2 : We.cell? ⟨q2, 0, none⟩ = some (.pointer (some ⟨q, 0, none⟩)) := HID2.out.oi.b2.cell 0
      have e0 : We.cell? ⟨q, 0, none⟩ = some (.slice (some ⟨zb, zo, none⟩) m c) := HID2.out.oi.same.cell (HB.out.cell 0)
      go_wp2_with fail
      refine wp_region_held_drew (S := fun w' => w'.cell? ⟨q2, 0, none⟩ = some (.pointer (some ⟨q, 0, none⟩)) ∧ w'.cell? ⟨q, 0, none⟩ = some (.slice (some ⟨zb, zo, none⟩) m c) ∧ w'.cell? ⟨q8, 0, none⟩ = some (.int .i64 ((a : Int) + (k : Int))) ∧ Same We w') (by kernel_rfl) ?_ (fun hHeld => ?_)
      ·exact ⟨e2, e0, c8, (Same.refl _).drew⟩
      first
       | (refine Ro.take_off (i := 0) rfl (by kernel_rfl) (by kernel_rfl) (by kernel_rfl) (fun _ _ _ h => (HQP.out _ _ _ h).elim) (by rfl) (by assumption) ?_)
       | (refine Ro.take_on (i := 0) (v := ?_) rfl (by kernel_rfl) (by kernel_rfl) (by kernel_rfl) (fun _ _ _ h => (HQP.out _ _ _ h).elim) (by rfl) (by assumption) ?_ ?_; rotate_left; · (intro wS hSw; (try dsimp only at hSw); go_simp; try with_reducible rfl))
      try simp only [Ro.p]
      first
       | (refine Ro.take_off (i := 1) rfl (by kernel_rfl) (by kernel_rfl) (by kernel_rfl) (fun _ _ _ h => (HQP.out _ _ _ h).elim) (by rfl) (by assumption) ?_)
       | (refine Ro.take_on (i := 1) (v := ?_) rfl (by kernel_rfl) (by kernel_rfl) (by kernel_rfl) (fun _ _ _ h => (HQP.out _ _ _ h).elim) (by rfl) (by assumption) ?_ ?_; rotate_left; · (intro wS hSw; (try dsimp only at hSw); go_simp; try with_reducible rfl))
      try simp only [Ro.p]
      first
       | (refine Ro.take_off (i := 2) rfl (by kernel_rfl) (by kernel_rfl) (by kernel_rfl) (fun _ _ _ h => (HQP.out _ _ _ h).elim) (by rfl) (by assumption) ?_)
       | (refine Ro.take_on (i := 2) (v := ?_) rfl (by kernel_rfl) (by kernel_rfl) (by kernel_rfl) (fun _ _ _ h => (HQP.out _ _ _ h).elim) (by rfl) (by assumption) ?_ ?_; rotate_left; · (intro wS hSw; (try dsimp only at hSw); go_simp; try with_reducible rfl))
      try simp only [Ro.p]
      first
       | (refine Ro.take_off (i := 3) rfl (by kernel_rfl) (by kernel_rfl) (by kernel_rfl) (fun _ _ _ h => (HQP.out _ _ _ h).elim) (by rfl) (by assumption) ?_)
       | (refine Ro.take_on (i := 3) (v := ?_) rfl (by kernel_rfl) (by kernel_rfl) (by kernel_rfl) (fun _ _ _ h => (HQP.out _ _ _ h).elim) (by rfl) (by assumption) ?_ ?_; rotate_left; · (intro wS hSw; (try dsimp only at hSw); go_simp; try with_reducible rfl))
      try simp only [Ro.p]
      first
       | (refine Ro.take_off (i := 4) rfl (by kernel_rfl) (by kernel_rfl) (by kernel_rfl) (fun _ _ _ h => (HQP.out _ _ _ h).elim) (by rfl) (by assumption) ?_)
       | (refine Ro.take_on (i := 4) (v := ?_) rfl (by kernel_rfl) (by kernel_rfl) (by kernel_rfl) (fun _ _ _ h => (HQP.out _ _ _ h).elim) (by rfl) (by assumption) ?_ ?_; rotate_left; · (intro wS hSw; (try dsimp only at hSw); go_simp; try with_reducible rfl))
      try simp only [Ro.p]
      first
       | (refine Ro.take_off (i := 7) rfl (by kernel_rfl) (by kernel_rfl) (by kernel_rfl) (fun _ _ _ h => (HQP.out _ _ _ h).elim) (by rfl) (by assumption) ?_)
       | (refine Ro.take_on (i := 7) (v := ?_) rfl (by kernel_rfl) (by kernel_rfl) (by kernel_rfl) (fun _ _ _ h => (HQP.out _ _ _ h).elim) (by rfl) (by assumption) ?_ ?_; rotate_left; · (intro wS hSw; (try dsimp only at hSw); go_simp; try with_reducible rfl))
      try simp only [Ro.p]
      first
       | (refine Ro.take_off (i := 5) rfl (by kernel_rfl) (by kernel_rfl) (by kernel_rfl) (fun _ _ _ h => (HQP.out _ _ _ h).elim) (by rfl) (by assumption) ?_)
       | (refine Ro.one_on (i := 5) rfl (by kernel_rfl) (by rfl) (fun K hK => ?_); go_simp; go_at_call 130; refine (NF.out _ (HID2.out.oi.same.trans hHeld.2.2.2)).mono ?_; rintro e Wg ⟨NA, nc, rfl, hr, hs, hf⟩; (first | refine hK.out _ _ ?_ (fun hNew => ?_) | (go_wp2_with fail; refine hK.out _ _ ?_ (fun hNew => ?_))); (· (exact ⟨hs.cell hHeld.1, hs.cell hHeld.2.1, hs.cell hHeld.2.2.1, hHeld.2.2.2.trans hs⟩)); clear hK K hHeld; have hHeld := hNew; clear hNew)
      try simp only [Ro.p]
      first
       | (refine Ro.take_off (i := 6) rfl (by kernel_rfl) (by kernel_rfl) (by kernel_rfl) (fun _ _ _ h => (HQP.out _ _ _ h).elim) (by rfl) (by assumption) ?_)
       | (refine Ro.take_on (i := 6) (v := ?_) rfl (by kernel_rfl) (by kernel_rfl) (by kernel_rfl) (fun _ _ _ h => (HQP.out _ _ _ h).elim) (by rfl) (by assumption) ?_ ?_; rotate_left; · (intro wS hSw; (try dsimp only at hSw); go_simp; try with_reducible rfl))
      try simp only [Ro.p]
      refine wpAnyH_done (by kernel_rfl) ?_ _
      have HIG := Lib.hid (HID2.out.same_ hHeld.2.2.2)
      have HKG := Lib.hid ((hHeld.2.2.2.block D (Array.getElem?_eq_some_iff.1 HKE2.out).1 id).trans HKE2.out)
      have HFR := Lib.hid (fun b o (e : NA = some ⟨b, o, none⟩) => Nat.lt_of_lt_of_le (Nat.lt_trans (by have := HORD.out; unfold Od at this; omega : C < q6) HID2.out.oi.b6.lt) (hf b o e))
      have HRG := Lib.hid hr
      clear hr hs hf HID2 HKE2 NF hHeld c8 e2 e0 e31
      obtain ⟨nx, hnx⟩ : ∃ nx, nx = nextL p (a + k) := ⟨_, rfl⟩
      rw [← hnx] at HTT HRG HNX HLL
      rw [← hnx]
      obtain ⟨nn, hnn⟩ : ∃ nn, nn = nx.length := ⟨_, rfl⟩
      rw [← hnn]
      have HNLEN := Lib.hid hnn
      have hn2 : nn ≤ 2 := by rw [hnn]; exact HLL.out
      clear hnx hnn HLL
      go_wp2_with fail
      go_loopg [113] nn (fun gk iv wx => ∃ j : Nat, j + gk = nn ∧ iv = .int .i64 (j : Int) ∧ Hid (RI w q q2 q3 q4 q5 q6 q7 C (m + 1) a pb ((nx.take j).foldl (fun c t => leadI (btB mx) c t he) st.come) st.all q8 (a + k) Ds wx) ∧ Hid (wx.heap[D]? = some (.deferred (some []))) ∧ Hid (Row wx NA (nx.map (Value.int .i64))))
      case atStart => exact ⟨0, by omega, rfl, HIG, HKG, HRG⟩
      case round =>
       obtain ⟨j, hj, rfl, HIJ, HKJ, HRJ⟩ := hrel
       clear HIG HKG HRG
       cases gk with
       | zero =>
        have hjn : ¬ (j : Int) < nn := by omega
        have HI := Lib.hid (show RI w q q2 q3 q4 q5 q6 q7 C (m + 1) a pb (onceT (btB mx) p ws ls a pb (k + 1)).come (onceT (btB mx) p ws ls a pb (k + 1)).all q8 (a + k) Ds wr from by
         rw [HTT.out]
         have h := HIJ.out
         rw [List.take_of_length_le (by have := HNLEN.out; omega)] at h
         exact h)
        have HKD := HKJ
        clear HIJ HKJ HRJ hj
        have c8 : wr.cell? ⟨q8, 0, none⟩ = some (.int .i64 ((a : Int) + (k : Int))) := HI.out.b8.cell 0
        have g9 : (a : Int) + (k : Int) ≤ 100000 := by have := HNN.out; have := HPA.out; have := HK.out; omega
        go_wp2_with fail
        refine Handed.intro GK ?measure ?_
        case measure => exact Nat.lt_succ_self GK
        go_step
        (repeat apply Exists.intro)
        refine ⟨⟨k + 1, wr.heap.size, D :: Ds, by have := HK.out; omega, rfl, Lib.hid (by rw [HDS.out]; rfl), Lib.hid (List.nodup_cons.2 ⟨fun h => by have := HDL.out.1 D h; have := HDD.out; omega, HND.out⟩), Lib.hid ?_⟩, rfl⟩
        have hlt := HI.out.lt
        have hl8 := HI.out.b8.lt
        exact HI.out.next_ ((Same.refl wr).alloc _) (by rw [show ((a + (k + 1) : Nat) : Int) = (a : Int) + (k : Int) + 1 by omega]; exact Blk.new wr _ _) (by omega) (by have := HDL.out.2; have := HDD.out; omega) HKD.out
       | succ GJ =>
        have hjn : (j : Int) < nn := by omega
        have hj0 : (0 : Int) ≤ (j : Int) := by omega
        have hjl : j < nx.length := by rw [← HNLEN.out]; omega
        have HJ := Lib.hid hj
        obtain ⟨nb, no, hNA, hc⟩ := HRJ.out j (.int .i64 (nx.getD j 0)) (by rw [List.getElem?_map, List.getD_eq_getElem?_getD, List.getElem?_eq_getElem hjl]; rfl)
        have HTK := Lib.hid (show nx.take (j + 1) = nx.take j ++ [nx.getD j 0] from by rw [List.take_succ_eq_append_getElem hjl, List.getD_eq_getElem?_getD, List.getElem?_eq_getElem hjl]; rfl)
        have hb := HNX.out (nx.getD j 0) (by rw [List.getD_eq_getElem?_getD, List.getElem?_eq_getElem hjl]; exact List.getElem_mem hjl)
        rw [HL.out] at hb
        clear hj hjl
        subst hNA
        obtain ⟨t, ht⟩ : ∃ t : Nat, (t : Int) = nx.getD j 0 := ⟨(nx.getD j 0).toNat, by omega⟩
        rw [← ht] at hc HTK hb
        have HTM := Lib.hid hb
        have LD := Lib.hid (lead_any mx q q2 q6 C (m + 1) (m + 1) _ t he wr HIJ.out.oi.len (by omega) (by omega) (HIJ.out.oi.b2.cell 0) (HIJ.out.oi.b6.cell 0) HIJ.out.oi.own (HIJ.out.oi.same.cell (HB.out.cell 2)))
        have e7 : wr.cell? ⟨q7, 0, none⟩ = some (.func (.func 128) #[] #[.pointer (some ⟨q2, 0, none⟩), .pointer (some ⟨q6, 0, none⟩)]) := HIJ.out.oi.b7.cell 0
        clear ht hb
        go_wp2_with fail
        refine LD.out.mono ?_
        rintro e W5 ⟨rfl, ho5, hw5⟩
        have hc5 : Chg (fun i => i = C) wr W5 := by rw [hw5]; exact ((Chg.refl (fun i => i = C) wr).drew).set (p := ⟨C, _, none⟩) (.inl rfl) _
        have HI5 := Lib.hid (HIJ.out.come_ HORD.out hc5 ho5 (by unfold leadI; rw [List.length_set]))
        have HK5 := Lib.hid ((hc5.block D (Array.getElem?_eq_some_iff.1 HKJ.out).1 (by have := HORD.out; unfold Od at this; have := HDD.out; have := HDL.out.2; have := HIJ.out.lt; omega)).trans HKJ.out)
        have HR5 := Lib.hid (HRJ.out.chg hc5 (fun b o e _ => by have := HFR.out b o e; omega))
        clear hc5 ho5 hw5 LD HIJ HKJ HRJ e7 hc
        go_wp2_with fail
        go_roundg GJ
        case measure => omega
        case rel =>
         refine ⟨j + 1, by have := HJ.out; omega, by go_num, ?_, HK5, HR5⟩
         rw [HTK.out, List.foldl_append]
         exact HI5
end Go.Proofs.YthhbhbfkbncegaaGreatDoor.Cs
end
end
end
end
end
