/-

 The document's Job of layer 37.
-/
import Derived.Test.YthhbhbfkbncegaaGreatDoorDmdRd
import Derived.Test.YthhbhbfkbncegaaGreatDoorCstRefMost
import Derived.Test.YthhbhbfkbncegaaGreatDoorDmdWeigh
import Derived.Test.YthhbhbfkbncegaaGreatDoorAhead
import Derived.Test.YthhbhbfkbncegaaGreatDoorRegionOff
import Derived.Deep.RegionHeld3
import Derived.Deep.Cut
import Derived.Lib.Hide
import Derived.ProofKit
import Derived.Test.YthhbhbfkbncegaaGreatDoorSplSpec
import Derived.Test.YthhbhbfkbncegaaGreatDoorDmdMost
section
set_option linter.unusedVariables false
set_option linter.unusedSimpArgs false
namespace Go.Proofs.YthhbhbfkbncegaaGreatDoor.Dm
open Go.ChangeShapes Go.WideShapes Go.ChangeAt Go.RowKit Ws
open Im (PT PO PS TsAt OsAt SysAt tcells ocells)
open Go.Proofs.YthhbhbfkbncegaaGreatDoor.Is (callB callV rightB)

def kx (wr : Bool) : Int := if wr then 18 else 17
def ky (wr : Bool) : Int := if wr then 19 else 20
def cntR (k x y : Int) (i : Fp.Ins) : Int := if (i.op = x ∨ i.op = y) ∧ i.b = k then 1 else 0
theorem cnt_eq {P : List Fp.Ins} (hok : Fw.okB P = true) (k : Int) (wr : Bool) : P.map (cntI k (kx wr) (ky wr)) = P.map (cntR k (kx wr) (ky wr)) := by
 apply List.map_congr_left
 intro i hi
 obtain ⟨j, hj, rfl⟩ := List.getElem_of_mem hi
 have hr := (Fw.okB_fine hok).right j hj
 rw [Fp.at_eq (List.getElem?_eq_getElem hj)] at hr
 have hr' : rightB P[j].op P[j].a P[j].b P[j].c P[j].n = true := hr
 unfold cntI cntR
 rw [hr', Bool.true_and]
 by_cases h : P[j].op = kx wr ∨ P[j].op = ky wr
 ·have hc : callB P[j].op = true := by
   unfold callB
   rw [decide_eq_true_eq]
   cases wr <;> (unfold kx ky at h; simp at h; omega)
  by_cases hb : P[j].b = k
  ·rw [if_pos ⟨hc, hb, h⟩, if_pos ⟨h, hb⟩]
  ·rw [if_neg (fun h' => hb h'.2.1), if_neg (fun h' => hb h'.2)]
 ·rw [if_neg (fun h' => h h'.2.2), if_neg (fun h' => h h'.1)]
theorem wei_ok {P : List Fp.Ins} (hok : Fw.okB P = true) (k : Int) (wr : Bool) : Cs.weI true P (P.map (cntI k (kx wr) (ky wr))) = Cs.weighW Cs.btG P (P.map (cntR k (kx wr) (ky wr))) := by
 have he : Cs.weE P (P.map (cntI k (kx wr) (ky wr))).length = 0 := by
  unfold Cs.weE
  rw [if_pos (of_decide_eq_true hok), List.length_map, if_pos rfl]
 unfold Cs.weI
 rw [if_pos he, cnt_eq hok]
 rfl
theorem wei_no {P : List Fp.Ins} (hok : Fw.okB P = false) (k x y : Int) : Cs.weI true P (P.map (cntI k x y)) = 0 := by
 have hc : ¬ Fw.ckE P = 0 := fun h => by unfold Fw.okB at hok; rw [h] at hok; cases hok
 have he : ¬ Cs.weE P (P.map (cntI k x y)).length = 0 := by
  unfold Cs.weE
  rw [if_neg hc]
  exact hc
 exact Cs.wei_bad he

set_option maxRecDepth 100000 in
set_option maxHeartbeats 8000000 in
theorem rcalls_true (A B : Option Addr) (n c m d : Nat) (s : PS) (i k : Int) (w : World) (hs : SysAt w A n B m s) (hnm : n ≤ maxLen ∧ m ≤ maxLen) (hf : ∀ p ∈ s.ts, p.code.length ≤ 200) :
  Calls Tryz.prog 34 #[.agg #[.slice A n c, .slice B m d], .int .i64 i, .int .i64 k, .bool true] w fun e w' => e = .returned (.int .i64 (demI s i k (kx true) (ky true))) ∧ Same w w' := by
 obtain ⟨i0, hi, hz0, hz1, hz2⟩ := info_parts int_inf
 have hbn : (n : Int) ≤ 9223372036854775807 ∧ (m : Int) ≤ 9223372036854775807 := by unfold maxLen at hnm; omega
 have s0 := (Same.refl w).alloc (.cells #[.slice A n c, .slice B m d] 25)
 have b0 := Blk.new w 25 #[.slice A n c, .slice B m d]
 obtain ⟨w0, hw0⟩ : ∃ w0, w0 = w.alloc (.cells #[.slice A n c, .slice B m d] 25) := ⟨_, rfl⟩
 rw [← hw0] at s0 b0
 have HE := Lib.hid hw0
 have c0 := b0.cell 0
 have c1 := b0.cell 1
 simp only [Ws.q_] at c0 c1
 have HS := Lib.hid hs
 have HF := Lib.hid hf
 have S0 := Lib.hid s0
 clear hs hf hw0 s0 b0
 go_enter Tryz.func34, Tryz.ntmps34
 go_upto_region 1 with fail
 rw [← HE.out]
 clear HE
 by_cases h1 : i < 0
 ·have HD := Lib.hid (show demI s i k (kx true) (ky true) = 0 from dem_out (.inl (.inl h1)))
  go_wp2_with fail
  go_ret
  exact ⟨by rw [HD.out]; rfl, S0.out⟩
 ·by_cases h2 : i ≥ n
  ·have HD := Lib.hid (show demI s i k (kx true) (ky true) = 0 from dem_out (.inl (.inr (by rw [HS.out.hn]; exact h2))))
   go_wp2_with fail
   go_ret
   exact ⟨by rw [HD.out]; rfl, S0.out⟩
  ·by_cases h3 : k < 0
   ·have HD := Lib.hid (show demI s i k (kx true) (ky true) = 0 from dem_out (.inr (.inl h3)))
    go_wp2_with fail
    go_ret
    exact ⟨by rw [HD.out]; rfl, S0.out⟩
   ·by_cases h4 : k ≥ m
    ·have HD := Lib.hid (show demI s i k (kx true) (ky true) = 0 from dem_out (.inr (.inr (by rw [HS.out.hm]; exact h4))))
     go_wp2_with fail
     go_ret
     exact ⟨by rw [HD.out]; rfl, S0.out⟩
    ·obtain ⟨ki, rfl⟩ : ∃ ki : Nat, i = ki := ⟨i.toNat, by omega⟩
     obtain ⟨kk, rfl⟩ : ∃ kk : Nat, k = kk := ⟨k.toNat, by omega⟩
     have hki : ki < s.ts.length := by rw [HS.out.hn]; omega
     obtain ⟨p, hp⟩ : ∃ p, s.ts[ki]? = some p := ⟨s.ts[ki], List.getElem?_eq_getElem hki⟩
     have HP := Lib.hid hp
     have HLE := Lib.hid (HF.out p (List.mem_of_getElem? hp))
     have HD := Lib.hid (dem_in (x := kx true) (y := ky true) hp (show kk < s.os.length by rw [HS.out.hm]; omega))
     obtain ⟨bA, oA, rfl, X, cX, _, _, _, _, _, _, t6, hcode, _⟩ := (HS.out.ht.same S0.out).at_ hp
     have HCW := Lib.hid hcode
     have FI := Lib.hid (Fw.rfine_any X p.code.length cX (pI p) w0 (by unfold pI; rw [List.length_map]) (by have := HLE.out; omega) (prgI hcode))
     have h1' : (0 : Int) ≤ ki := by omega
     have h2' : (ki : Int) < n := by omega
     clear hp hki hcode
     go_wp2_with fail
     refine FI.out.mono ?_
     rintro e w4 ⟨rfl, s4⟩
     cases hok : Fw.okB (pI p) with
     | false =>
      have HDZ := Lib.hid (HD.out.trans (wei_no hok _ _ _))
      clear hok HD
      have S04 := Lib.hid (S0.out.trans s4)
      clear s4
      go_wp2_with fail
      go_ret
      exact ⟨by rw [HDZ.out]; rfl, S04.out⟩
     | true =>
      have HOK := Lib.hid hok
      have HS4a := Lib.hid s4
      have c0 := s4.cell c0
      have c1 := s4.cell c1
      have t6 := s4.cell t6
      have HS4 := Lib.hid (S0.out.trans s4)
      clear hok s4 FI
      have HLE2 := HLE.out
      obtain ⟨CN, hCN⟩ : ∃ CN : Im.Ins → Value, CN = fun i => Value.int .i64 (cntR kk (kx true) (ky true) (fpI i)) := ⟨_, rfl⟩
      have HCN := Lib.hid (fun i => (show Value.int .i64 (cntR kk (kx true) (ky true) (fpI i)) = CN i by rw [hCN]))
      obtain ⟨b4, hb4⟩ : ∃ b4, b4 = w4.heap.size := ⟨_, rfl⟩
      have HB4 := Lib.hid hb4
      clear hb4
      have HLN := Lib.hid (show (p.code.map CN) = ((pI p).map (cntR kk (kx true) (ky true))).map (Value.int .i64) by rw [hCN]; unfold pI; rw [List.map_map, List.map_map]; rfl)
      clear hCN
      go_wp2_with fail
      go_loopg [9, 50] p.code.length (fun gk lv iv wx => ∃ (j : Nat) (A' : Option Addr) (c' : Nat), j + gk = p.code.length ∧ iv = .int .i64 j ∧ lv = .slice A' j c' ∧ Ws.Own wx b4 3 A' c' ((p.code.map CN).take j) ∧ Same w4 wx)
      case atStart => exact ⟨0, none, 0, by omega, rfl, rfl, own_nil _ _ _, Same.refl _⟩
      case round =>
       obtain ⟨j, A', c', hk, rfl, rfl, ho, sx⟩ := hrel
       have HO := Lib.hid ho
       have HSX := Lib.hid sx
       have HSW := Lib.hid (HS4.out.trans sx)
       have HS0W := Lib.hid (HS4a.out.trans sx)
       have c0' := sx.cell c0
       have c1' := sx.cell c1
       have t6' := sx.cell t6
       clear ho sx c0 c1 t6
       cases gk with
       | zero =>
        obtain rfl : j = p.code.length := by omega
        have hge : ¬ (p.code.length : Int) < (p.code.length : Int) := by omega
        have HR := Lib.hid (show Row wr A' (((pI p).map (cntR kk (kx true) (ky true))).map (Value.int .i64)) from by rw [← HLN.out]; have := HO.out.row; rwa [show p.code.length = (p.code.map CN).length from (List.length_map ..).symm, List.take_length] at this)
        have MO := Lib.hid (Cs.rmost_any X p.code.length cX (pI p) A' c' ((pI p).map (cntR kk (kx true) (ky true))) wr (by unfold pI; rw [List.length_map]) (prgI (HCW.out.same HS0W.out)) HR.out (by unfold pI; rw [List.length_map, List.length_map]) HOK.out)
        rw [← wei_ok HOK.out kk true] at MO
        generalize Cs.weI true (pI p) ((pI p).map (cntI kk (kx true) (ky true))) = wv at *
        go_wp2_with fail
        refine MO.out.mono ?_
        rintro e w5 ⟨rfl, s5⟩
        go_wp2_with fail
        go_ret
        exact ⟨by rw [HD.out]; rfl, HSW.out.trans s5⟩
       | succ GK =>
        have hlt : (j : Int) < p.code.length := by omega
        have hj0 : (0 : Int) ≤ j := by omega
        have HJL := Lib.hid (show j < p.code.length by omega)
        have HJK := Lib.hid hk
        clear hk
        obtain ⟨xj, hxj⟩ : ∃ xj, p.code[j]? = some xj := ⟨p.code[j], List.getElem?_eq_getElem HJL.out⟩
        have HJ := Lib.hid hxj
        clear hxj
        obtain ⟨hxn, bX, oX, rfl, y0, y1, y2, y3, y4⟩ := (HCW.out.same HS0W.out).at_ HJ.out
        have HQ5 := Lib.hid (Blk.new wr 70 #[.int .i64 xj.op, .int .i64 xj.a, .int .i64 xj.b, .int .i64 xj.c, .int .u32 xj.n])
        have HO5 := Lib.hid (HO.out.same ((Same.refl wr).alloc (.cells #[.int .i64 xj.op, .int .i64 xj.a, .int .i64 xj.b, .int .i64 xj.c, .int .u32 xj.n] 70)))
        have HX5 := Lib.hid (HSX.out.alloc (.cells #[.int .i64 xj.op, .int .i64 xj.a, .int .i64 xj.b, .int .i64 xj.c, .int .u32 xj.n] 70))
        go_upto_region 8 with fail
        generalize wr.alloc (.cells #[.int .i64 xj.op, .int .i64 xj.a, .int .i64 xj.b, .int .i64 xj.c, .int .u32 xj.n] 70) = w5 at *
        generalize wr.heap.size = q5 at *
        obtain ⟨v0, v2⟩ := (⟨HQ5.out.cell 0, HQ5.out.cell 2⟩ : _ ∧ _)
        simp only [Ws.q_] at v0 v2
        clear y0 y1 y2 y3 y4 HSX HSW c0' c1' t6'
        by_cases ha : xj.op = 18
        ·have ea : (xj.op == 18) = true := by simpa using ha
         have HA := Lib.hid ha
         clear ha
         by_cases hb : xj.b = (kk : Int)
         ·have eb : (xj.b == (kk : Int)) = true := by simpa using hb
          have HBK := Lib.hid hb
          clear hb
          have HV := Lib.hid (show cntR kk (kx true) (ky true) (fpI xj) = 1 from by unfold cntR fpI kx ky; simp only; exact if_pos ⟨.inl HA.out, HBK.out⟩)
          go_wp2_with (at_builtin; go_loud (refine wpList_app rfl (.tmp 91) (.tmp 93) 32 rfl b4 3 i0 _ 8 Tryz.underlying32 hi hz0 hz1 hz2 rfl A' j c' ((p.code.map CN).take j) rfl ?c1 (HO5.out.same ((Same.refl _).alloc _)) _ 1 1 [.int .i64 1] rfl rfl (row_new _ _ _) ?c2 ?c3 (by omega) ?c4 ?_))
          case c1 => rw [List.length_take, List.length_map]; have := HJL.out; omega
          case c2 => intro u hu; simp at hu; subst hu; rfl
          case c3 => rw [List.length_take, List.length_map]; simp; omega
          case c4 => have := HB4.out; have := HX5.out.size; simp; omega
          intro A2 c2' w8 ho2 hc2 _
          have HS8 := Lib.hid (Same.more (HX5.out.alloc _) hc2 (fun g hg => by have := own_low HO.out hg; have := HB4.out; omega))
          rw [show (p.code.map CN).take j ++ [.int .i64 1] = (p.code.map CN).take (j + 1) from by rw [take_snoc (p.code.map CN) (v := CN xj) (by rw [List.getElem?_map, HJ.out]; rfl), ← HCN.out, HV.out]] at ho2
          have HO8 := Lib.hid ho2
          clear ho2 hc2
          go_wp2_with fail
          go_roundg GK
          case rel => exact ⟨j + 1, A2, c2', by have := HJK.out; omega, by go_num, rfl, HO8.out, HS8.out⟩
          case measure => omega
         ·have eb : (xj.b == (kk : Int)) = false := by simpa using hb
          have HBK := Lib.hid hb
          clear hb
          have HV := Lib.hid (show cntR kk (kx true) (ky true) (fpI xj) = 0 from by unfold cntR fpI kx ky; simp only; exact if_neg (fun h => HBK.out h.2))
          go_wp2_with (at_builtin; go_loud (refine wpList_app rfl (.tmp 91) (.tmp 93) 32 rfl b4 3 i0 _ 8 Tryz.underlying32 hi hz0 hz1 hz2 rfl A' j c' ((p.code.map CN).take j) rfl ?c1 (HO5.out.same ((Same.refl _).alloc _)) _ 1 1 [.int .i64 0] rfl rfl (row_new _ _ _) ?c2 ?c3 (by omega) ?c4 ?_))
          case c1 => rw [List.length_take, List.length_map]; have := HJL.out; omega
          case c2 => intro u hu; simp at hu; subst hu; rfl
          case c3 => rw [List.length_take, List.length_map]; simp; omega
          case c4 => have := HB4.out; have := HX5.out.size; simp; omega
          intro A2 c2' w8 ho2 hc2 _
          have HS8 := Lib.hid (Same.more (HX5.out.alloc _) hc2 (fun g hg => by have := own_low HO.out hg; have := HB4.out; omega))
          rw [show (p.code.map CN).take j ++ [.int .i64 0] = (p.code.map CN).take (j + 1) from by rw [take_snoc (p.code.map CN) (v := CN xj) (by rw [List.getElem?_map, HJ.out]; rfl), ← HCN.out, HV.out]] at ho2
          have HO8 := Lib.hid ho2
          clear ho2 hc2
          go_wp2_with fail
          go_roundg GK
          case rel => exact ⟨j + 1, A2, c2', by have := HJK.out; omega, by go_num, rfl, HO8.out, HS8.out⟩
          case measure => omega
        ·have ea : (xj.op == 18) = false := by simpa using ha
         have HA := Lib.hid ha
         clear ha
         by_cases hc : xj.op = 19
         ·have ec : (xj.op == 19) = true := by simpa using hc
          have HCC := Lib.hid hc
          clear hc
          by_cases hb : xj.b = (kk : Int)
          ·have eb : (xj.b == (kk : Int)) = true := by simpa using hb
           have HBK := Lib.hid hb
           clear hb
           have HV := Lib.hid (show cntR kk (kx true) (ky true) (fpI xj) = 1 from by unfold cntR fpI kx ky; simp only; exact if_pos ⟨.inr HCC.out, HBK.out⟩)
           go_wp2_with (at_builtin; go_loud (refine wpList_app rfl (.tmp 91) (.tmp 93) 32 rfl b4 3 i0 _ 8 Tryz.underlying32 hi hz0 hz1 hz2 rfl A' j c' ((p.code.map CN).take j) rfl ?c1 (HO5.out.same ((Same.refl _).alloc _)) _ 1 1 [.int .i64 1] rfl rfl (row_new _ _ _) ?c2 ?c3 (by omega) ?c4 ?_))
           case c1 => rw [List.length_take, List.length_map]; have := HJL.out; omega
           case c2 => intro u hu; simp at hu; subst hu; rfl
           case c3 => rw [List.length_take, List.length_map]; simp; omega
           case c4 => have := HB4.out; have := HX5.out.size; simp; omega
           intro A2 c2' w8 ho2 hc2 _
           have HS8 := Lib.hid (Same.more (HX5.out.alloc _) hc2 (fun g hg => by have := own_low HO.out hg; have := HB4.out; omega))
           rw [show (p.code.map CN).take j ++ [.int .i64 1] = (p.code.map CN).take (j + 1) from by rw [take_snoc (p.code.map CN) (v := CN xj) (by rw [List.getElem?_map, HJ.out]; rfl), ← HCN.out, HV.out]] at ho2
           have HO8 := Lib.hid ho2
           clear ho2 hc2
           go_wp2_with fail
           go_roundg GK
           case rel => exact ⟨j + 1, A2, c2', by have := HJK.out; omega, by go_num, rfl, HO8.out, HS8.out⟩
           case measure => omega
          ·have eb : (xj.b == (kk : Int)) = false := by simpa using hb
           have HBK := Lib.hid hb
           clear hb
           have HV := Lib.hid (show cntR kk (kx true) (ky true) (fpI xj) = 0 from by unfold cntR fpI kx ky; simp only; exact if_neg (fun h => HBK.out h.2))
           go_wp2_with (at_builtin; go_loud (refine wpList_app rfl (.tmp 91) (.tmp 93) 32 rfl b4 3 i0 _ 8 Tryz.underlying32 hi hz0 hz1 hz2 rfl A' j c' ((p.code.map CN).take j) rfl ?c1 (HO5.out.same ((Same.refl _).alloc _)) _ 1 1 [.int .i64 0] rfl rfl (row_new _ _ _) ?c2 ?c3 (by omega) ?c4 ?_))
           case c1 => rw [List.length_take, List.length_map]; have := HJL.out; omega
           case c2 => intro u hu; simp at hu; subst hu; rfl
           case c3 => rw [List.length_take, List.length_map]; simp; omega
           case c4 => have := HB4.out; have := HX5.out.size; simp; omega
           intro A2 c2' w8 ho2 hc2 _
           have HS8 := Lib.hid (Same.more (HX5.out.alloc _) hc2 (fun g hg => by have := own_low HO.out hg; have := HB4.out; omega))
           rw [show (p.code.map CN).take j ++ [.int .i64 0] = (p.code.map CN).take (j + 1) from by rw [take_snoc (p.code.map CN) (v := CN xj) (by rw [List.getElem?_map, HJ.out]; rfl), ← HCN.out, HV.out]] at ho2
           have HO8 := Lib.hid ho2
           clear ho2 hc2
           go_wp2_with fail
           go_roundg GK
           case rel => exact ⟨j + 1, A2, c2', by have := HJK.out; omega, by go_num, rfl, HO8.out, HS8.out⟩
           case measure => omega
         ·have ec : (xj.op == 19) = false := by simpa using hc
          have HCC := Lib.hid hc
          clear hc
          have HV := Lib.hid (show cntR kk (kx true) (ky true) (fpI xj) = 0 from by unfold cntR fpI kx ky; simp only; exact if_neg (fun h => h.1.elim HA.out HCC.out))
          go_wp2_with (at_builtin; go_loud (refine wpList_app rfl (.tmp 91) (.tmp 93) 32 rfl b4 3 i0 _ 8 Tryz.underlying32 hi hz0 hz1 hz2 rfl A' j c' ((p.code.map CN).take j) rfl ?c1 (HO5.out.same ((Same.refl _).alloc _)) _ 1 1 [.int .i64 0] rfl rfl (row_new _ _ _) ?c2 ?c3 (by omega) ?c4 ?_))
          case c1 => rw [List.length_take, List.length_map]; have := HJL.out; omega
          case c2 => intro u hu; simp at hu; subst hu; rfl
          case c3 => rw [List.length_take, List.length_map]; simp; omega
          case c4 => have := HB4.out; have := HX5.out.size; simp; omega
          intro A2 c2' w8 ho2 hc2 _
          have HS8 := Lib.hid (Same.more (HX5.out.alloc _) hc2 (fun g hg => by have := own_low HO.out hg; have := HB4.out; omega))
          rw [show (p.code.map CN).take j ++ [.int .i64 0] = (p.code.map CN).take (j + 1) from by rw [take_snoc (p.code.map CN) (v := CN xj) (by rw [List.getElem?_map, HJ.out]; rfl), ← HCN.out, HV.out]] at ho2
          have HO8 := Lib.hid ho2
          clear ho2 hc2
          go_wp2_with fail
          go_roundg GK
          case rel => exact ⟨j + 1, A2, c2', by have := HJK.out; omega, by go_num, rfl, HO8.out, HS8.out⟩
          case measure => omega

set_option maxRecDepth 100000 in
set_option maxHeartbeats 8000000 in
theorem rcalls_false (A B : Option Addr) (n c m d : Nat) (s : PS) (i k : Int) (w : World) (hs : SysAt w A n B m s) (hnm : n ≤ maxLen ∧ m ≤ maxLen) (hf : ∀ p ∈ s.ts, p.code.length ≤ 200) :
  Calls Tryz.prog 34 #[.agg #[.slice A n c, .slice B m d], .int .i64 i, .int .i64 k, .bool false] w fun e w' => e = .returned (.int .i64 (demI s i k (kx false) (ky false))) ∧ Same w w' := by
 obtain ⟨i0, hi, hz0, hz1, hz2⟩ := info_parts int_inf
 have hbn : (n : Int) ≤ 9223372036854775807 ∧ (m : Int) ≤ 9223372036854775807 := by unfold maxLen at hnm; omega
 have s0 := (Same.refl w).alloc (.cells #[.slice A n c, .slice B m d] 25)
 have b0 := Blk.new w 25 #[.slice A n c, .slice B m d]
 obtain ⟨w0, hw0⟩ : ∃ w0, w0 = w.alloc (.cells #[.slice A n c, .slice B m d] 25) := ⟨_, rfl⟩
 rw [← hw0] at s0 b0
 have HE := Lib.hid hw0
 have c0 := b0.cell 0
 have c1 := b0.cell 1
 simp only [Ws.q_] at c0 c1
 have HS := Lib.hid hs
 have HF := Lib.hid hf
 have S0 := Lib.hid s0
 clear hs hf hw0 s0 b0
 go_enter Tryz.func34, Tryz.ntmps34
 go_upto_region 1 with fail
 rw [← HE.out]
 clear HE
 by_cases h1 : i < 0
 ·have HD := Lib.hid (show demI s i k (kx false) (ky false) = 0 from dem_out (.inl (.inl h1)))
  go_wp2_with fail
  go_ret
  exact ⟨by rw [HD.out]; rfl, S0.out⟩
 ·by_cases h2 : i ≥ n
  ·have HD := Lib.hid (show demI s i k (kx false) (ky false) = 0 from dem_out (.inl (.inr (by rw [HS.out.hn]; exact h2))))
   go_wp2_with fail
   go_ret
   exact ⟨by rw [HD.out]; rfl, S0.out⟩
  ·by_cases h3 : k < 0
   ·have HD := Lib.hid (show demI s i k (kx false) (ky false) = 0 from dem_out (.inr (.inl h3)))
    go_wp2_with fail
    go_ret
    exact ⟨by rw [HD.out]; rfl, S0.out⟩
   ·by_cases h4 : k ≥ m
    ·have HD := Lib.hid (show demI s i k (kx false) (ky false) = 0 from dem_out (.inr (.inr (by rw [HS.out.hm]; exact h4))))
     go_wp2_with fail
     go_ret
     exact ⟨by rw [HD.out]; rfl, S0.out⟩
    ·obtain ⟨ki, rfl⟩ : ∃ ki : Nat, i = ki := ⟨i.toNat, by omega⟩
     obtain ⟨kk, rfl⟩ : ∃ kk : Nat, k = kk := ⟨k.toNat, by omega⟩
     have hki : ki < s.ts.length := by rw [HS.out.hn]; omega
     obtain ⟨p, hp⟩ : ∃ p, s.ts[ki]? = some p := ⟨s.ts[ki], List.getElem?_eq_getElem hki⟩
     have HP := Lib.hid hp
     have HLE := Lib.hid (HF.out p (List.mem_of_getElem? hp))
     have HD := Lib.hid (dem_in (x := kx false) (y := ky false) hp (show kk < s.os.length by rw [HS.out.hm]; omega))
     obtain ⟨bA, oA, rfl, X, cX, _, _, _, _, _, _, t6, hcode, _⟩ := (HS.out.ht.same S0.out).at_ hp
     have HCW := Lib.hid hcode
     have FI := Lib.hid (Fw.rfine_any X p.code.length cX (pI p) w0 (by unfold pI; rw [List.length_map]) (by have := HLE.out; omega) (prgI hcode))
     have h1' : (0 : Int) ≤ ki := by omega
     have h2' : (ki : Int) < n := by omega
     clear hp hki hcode
     go_wp2_with fail
     refine FI.out.mono ?_
     rintro e w4 ⟨rfl, s4⟩
     cases hok : Fw.okB (pI p) with
     | false =>
      have HDZ := Lib.hid (HD.out.trans (wei_no hok _ _ _))
      clear hok HD
      have S04 := Lib.hid (S0.out.trans s4)
      clear s4
      go_wp2_with fail
      go_ret
      exact ⟨by rw [HDZ.out]; rfl, S04.out⟩
     | true =>
      have HOK := Lib.hid hok
      have HS4a := Lib.hid s4
      have c0 := s4.cell c0
      have c1 := s4.cell c1
      have t6 := s4.cell t6
      have HS4 := Lib.hid (S0.out.trans s4)
      clear hok s4 FI
      have HLE2 := HLE.out
      obtain ⟨CN, hCN⟩ : ∃ CN : Im.Ins → Value, CN = fun i => Value.int .i64 (cntR kk (kx false) (ky false) (fpI i)) := ⟨_, rfl⟩
      have HCN := Lib.hid (fun i => (show Value.int .i64 (cntR kk (kx false) (ky false) (fpI i)) = CN i by rw [hCN]))
      obtain ⟨b4, hb4⟩ : ∃ b4, b4 = w4.heap.size := ⟨_, rfl⟩
      have HB4 := Lib.hid hb4
      clear hb4
      have HLN := Lib.hid (show (p.code.map CN) = ((pI p).map (cntR kk (kx false) (ky false))).map (Value.int .i64) by rw [hCN]; unfold pI; rw [List.map_map, List.map_map]; rfl)
      clear hCN
      go_wp2_with fail
      go_loopg [9, 50] p.code.length (fun gk lv iv wx => ∃ (j : Nat) (A' : Option Addr) (c' : Nat), j + gk = p.code.length ∧ iv = .int .i64 j ∧ lv = .slice A' j c' ∧ Ws.Own wx b4 3 A' c' ((p.code.map CN).take j) ∧ Same w4 wx)
      case atStart => exact ⟨0, none, 0, by omega, rfl, rfl, own_nil _ _ _, Same.refl _⟩
      case round =>
       obtain ⟨j, A', c', hk, rfl, rfl, ho, sx⟩ := hrel
       have HO := Lib.hid ho
       have HSX := Lib.hid sx
       have HSW := Lib.hid (HS4.out.trans sx)
       have HS0W := Lib.hid (HS4a.out.trans sx)
       have c0' := sx.cell c0
       have c1' := sx.cell c1
       have t6' := sx.cell t6
       clear ho sx c0 c1 t6
       cases gk with
       | zero =>
        obtain rfl : j = p.code.length := by omega
        have hge : ¬ (p.code.length : Int) < (p.code.length : Int) := by omega
        have HR := Lib.hid (show Row wr A' (((pI p).map (cntR kk (kx false) (ky false))).map (Value.int .i64)) from by rw [← HLN.out]; have := HO.out.row; rwa [show p.code.length = (p.code.map CN).length from (List.length_map ..).symm, List.take_length] at this)
        have MO := Lib.hid (Cs.rmost_any X p.code.length cX (pI p) A' c' ((pI p).map (cntR kk (kx false) (ky false))) wr (by unfold pI; rw [List.length_map]) (prgI (HCW.out.same HS0W.out)) HR.out (by unfold pI; rw [List.length_map, List.length_map]) HOK.out)
        rw [← wei_ok HOK.out kk false] at MO
        generalize Cs.weI true (pI p) ((pI p).map (cntI kk (kx false) (ky false))) = wv at *
        go_wp2_with fail
        refine MO.out.mono ?_
        rintro e w5 ⟨rfl, s5⟩
        go_wp2_with fail
        go_ret
        exact ⟨by rw [HD.out]; rfl, HSW.out.trans s5⟩
       | succ GK =>
        have hlt : (j : Int) < p.code.length := by omega
        have hj0 : (0 : Int) ≤ j := by omega
        have HJL := Lib.hid (show j < p.code.length by omega)
        have HJK := Lib.hid hk
        clear hk
        obtain ⟨xj, hxj⟩ : ∃ xj, p.code[j]? = some xj := ⟨p.code[j], List.getElem?_eq_getElem HJL.out⟩
        have HJ := Lib.hid hxj
        clear hxj
        obtain ⟨hxn, bX, oX, rfl, y0, y1, y2, y3, y4⟩ := (HCW.out.same HS0W.out).at_ HJ.out
        have HQ5 := Lib.hid (Blk.new wr 70 #[.int .i64 xj.op, .int .i64 xj.a, .int .i64 xj.b, .int .i64 xj.c, .int .u32 xj.n])
        have HO5 := Lib.hid (HO.out.same ((Same.refl wr).alloc (.cells #[.int .i64 xj.op, .int .i64 xj.a, .int .i64 xj.b, .int .i64 xj.c, .int .u32 xj.n] 70)))
        have HX5 := Lib.hid (HSX.out.alloc (.cells #[.int .i64 xj.op, .int .i64 xj.a, .int .i64 xj.b, .int .i64 xj.c, .int .u32 xj.n] 70))
        go_upto_region 8 with fail
        generalize wr.alloc (.cells #[.int .i64 xj.op, .int .i64 xj.a, .int .i64 xj.b, .int .i64 xj.c, .int .u32 xj.n] 70) = w5 at *
        generalize wr.heap.size = q5 at *
        obtain ⟨v0, v2⟩ := (⟨HQ5.out.cell 0, HQ5.out.cell 2⟩ : _ ∧ _)
        simp only [Ws.q_] at v0 v2
        clear y0 y1 y2 y3 y4 HSX HSW c0' c1' t6'
        by_cases ha : xj.op = 17
        ·have ea : (xj.op == 17) = true := by simpa using ha
         have HA := Lib.hid ha
         clear ha
         by_cases hb : xj.b = (kk : Int)
         ·have eb : (xj.b == (kk : Int)) = true := by simpa using hb
          have HBK := Lib.hid hb
          clear hb
          have HV := Lib.hid (show cntR kk (kx false) (ky false) (fpI xj) = 1 from by unfold cntR fpI kx ky; simp only; exact if_pos ⟨.inl HA.out, HBK.out⟩)
          go_wp2_with (at_builtin; go_loud (refine wpList_app rfl (.tmp 91) (.tmp 93) 32 rfl b4 3 i0 _ 8 Tryz.underlying32 hi hz0 hz1 hz2 rfl A' j c' ((p.code.map CN).take j) rfl ?c1 (HO5.out.same ((Same.refl _).alloc _)) _ 1 1 [.int .i64 1] rfl rfl (row_new _ _ _) ?c2 ?c3 (by omega) ?c4 ?_))
          case c1 => rw [List.length_take, List.length_map]; have := HJL.out; omega
          case c2 => intro u hu; simp at hu; subst hu; rfl
          case c3 => rw [List.length_take, List.length_map]; simp; omega
          case c4 => have := HB4.out; have := HX5.out.size; simp; omega
          intro A2 c2' w8 ho2 hc2 _
          have HS8 := Lib.hid (Same.more (HX5.out.alloc _) hc2 (fun g hg => by have := own_low HO.out hg; have := HB4.out; omega))
          rw [show (p.code.map CN).take j ++ [.int .i64 1] = (p.code.map CN).take (j + 1) from by rw [take_snoc (p.code.map CN) (v := CN xj) (by rw [List.getElem?_map, HJ.out]; rfl), ← HCN.out, HV.out]] at ho2
          have HO8 := Lib.hid ho2
          clear ho2 hc2
          go_wp2_with fail
          go_roundg GK
          case rel => exact ⟨j + 1, A2, c2', by have := HJK.out; omega, by go_num, rfl, HO8.out, HS8.out⟩
          case measure => omega
         ·have eb : (xj.b == (kk : Int)) = false := by simpa using hb
          have HBK := Lib.hid hb
          clear hb
          have HV := Lib.hid (show cntR kk (kx false) (ky false) (fpI xj) = 0 from by unfold cntR fpI kx ky; simp only; exact if_neg (fun h => HBK.out h.2))
          go_wp2_with (at_builtin; go_loud (refine wpList_app rfl (.tmp 91) (.tmp 93) 32 rfl b4 3 i0 _ 8 Tryz.underlying32 hi hz0 hz1 hz2 rfl A' j c' ((p.code.map CN).take j) rfl ?c1 (HO5.out.same ((Same.refl _).alloc _)) _ 1 1 [.int .i64 0] rfl rfl (row_new _ _ _) ?c2 ?c3 (by omega) ?c4 ?_))
          case c1 => rw [List.length_take, List.length_map]; have := HJL.out; omega
          case c2 => intro u hu; simp at hu; subst hu; rfl
          case c3 => rw [List.length_take, List.length_map]; simp; omega
          case c4 => have := HB4.out; have := HX5.out.size; simp; omega
          intro A2 c2' w8 ho2 hc2 _
          have HS8 := Lib.hid (Same.more (HX5.out.alloc _) hc2 (fun g hg => by have := own_low HO.out hg; have := HB4.out; omega))
          rw [show (p.code.map CN).take j ++ [.int .i64 0] = (p.code.map CN).take (j + 1) from by rw [take_snoc (p.code.map CN) (v := CN xj) (by rw [List.getElem?_map, HJ.out]; rfl), ← HCN.out, HV.out]] at ho2
          have HO8 := Lib.hid ho2
          clear ho2 hc2
          go_wp2_with fail
          go_roundg GK
          case rel => exact ⟨j + 1, A2, c2', by have := HJK.out; omega, by go_num, rfl, HO8.out, HS8.out⟩
          case measure => omega
        ·have ea : (xj.op == 17) = false := by simpa using ha
         have HA := Lib.hid ha
         clear ha
         by_cases hc : xj.op = 20
         ·have ec : (xj.op == 20) = true := by simpa using hc
          have HCC := Lib.hid hc
          clear hc
          by_cases hb : xj.b = (kk : Int)
          ·have eb : (xj.b == (kk : Int)) = true := by simpa using hb
           have HBK := Lib.hid hb
           clear hb
           have HV := Lib.hid (show cntR kk (kx false) (ky false) (fpI xj) = 1 from by unfold cntR fpI kx ky; simp only; exact if_pos ⟨.inr HCC.out, HBK.out⟩)
           go_wp2_with (at_builtin; go_loud (refine wpList_app rfl (.tmp 91) (.tmp 93) 32 rfl b4 3 i0 _ 8 Tryz.underlying32 hi hz0 hz1 hz2 rfl A' j c' ((p.code.map CN).take j) rfl ?c1 (HO5.out.same ((Same.refl _).alloc _)) _ 1 1 [.int .i64 1] rfl rfl (row_new _ _ _) ?c2 ?c3 (by omega) ?c4 ?_))
           case c1 => rw [List.length_take, List.length_map]; have := HJL.out; omega
           case c2 => intro u hu; simp at hu; subst hu; rfl
           case c3 => rw [List.length_take, List.length_map]; simp; omega
           case c4 => have := HB4.out; have := HX5.out.size; simp; omega
           intro A2 c2' w8 ho2 hc2 _
           have HS8 := Lib.hid (Same.more (HX5.out.alloc _) hc2 (fun g hg => by have := own_low HO.out hg; have := HB4.out; omega))
           rw [show (p.code.map CN).take j ++ [.int .i64 1] = (p.code.map CN).take (j + 1) from by rw [take_snoc (p.code.map CN) (v := CN xj) (by rw [List.getElem?_map, HJ.out]; rfl), ← HCN.out, HV.out]] at ho2
           have HO8 := Lib.hid ho2
           clear ho2 hc2
           go_wp2_with fail
           go_roundg GK
           case rel => exact ⟨j + 1, A2, c2', by have := HJK.out; omega, by go_num, rfl, HO8.out, HS8.out⟩
           case measure => omega
          ·have eb : (xj.b == (kk : Int)) = false := by simpa using hb
           have HBK := Lib.hid hb
           clear hb
           have HV := Lib.hid (show cntR kk (kx false) (ky false) (fpI xj) = 0 from by unfold cntR fpI kx ky; simp only; exact if_neg (fun h => HBK.out h.2))
           go_wp2_with (at_builtin; go_loud (refine wpList_app rfl (.tmp 91) (.tmp 93) 32 rfl b4 3 i0 _ 8 Tryz.underlying32 hi hz0 hz1 hz2 rfl A' j c' ((p.code.map CN).take j) rfl ?c1 (HO5.out.same ((Same.refl _).alloc _)) _ 1 1 [.int .i64 0] rfl rfl (row_new _ _ _) ?c2 ?c3 (by omega) ?c4 ?_))
           case c1 => rw [List.length_take, List.length_map]; have := HJL.out; omega
           case c2 => intro u hu; simp at hu; subst hu; rfl
           case c3 => rw [List.length_take, List.length_map]; simp; omega
           case c4 => have := HB4.out; have := HX5.out.size; simp; omega
           intro A2 c2' w8 ho2 hc2 _
           have HS8 := Lib.hid (Same.more (HX5.out.alloc _) hc2 (fun g hg => by have := own_low HO.out hg; have := HB4.out; omega))
           rw [show (p.code.map CN).take j ++ [.int .i64 0] = (p.code.map CN).take (j + 1) from by rw [take_snoc (p.code.map CN) (v := CN xj) (by rw [List.getElem?_map, HJ.out]; rfl), ← HCN.out, HV.out]] at ho2
           have HO8 := Lib.hid ho2
           clear ho2 hc2
           go_wp2_with fail
           go_roundg GK
           case rel => exact ⟨j + 1, A2, c2', by have := HJK.out; omega, by go_num, rfl, HO8.out, HS8.out⟩
           case measure => omega
         ·have ec : (xj.op == 20) = false := by simpa using hc
          have HCC := Lib.hid hc
          clear hc
          have HV := Lib.hid (show cntR kk (kx false) (ky false) (fpI xj) = 0 from by unfold cntR fpI kx ky; simp only; exact if_neg (fun h => h.1.elim HA.out HCC.out))
          go_wp2_with (at_builtin; go_loud (refine wpList_app rfl (.tmp 91) (.tmp 93) 32 rfl b4 3 i0 _ 8 Tryz.underlying32 hi hz0 hz1 hz2 rfl A' j c' ((p.code.map CN).take j) rfl ?c1 (HO5.out.same ((Same.refl _).alloc _)) _ 1 1 [.int .i64 0] rfl rfl (row_new _ _ _) ?c2 ?c3 (by omega) ?c4 ?_))
          case c1 => rw [List.length_take, List.length_map]; have := HJL.out; omega
          case c2 => intro u hu; simp at hu; subst hu; rfl
          case c3 => rw [List.length_take, List.length_map]; simp; omega
          case c4 => have := HB4.out; have := HX5.out.size; simp; omega
          intro A2 c2' w8 ho2 hc2 _
          have HS8 := Lib.hid (Same.more (HX5.out.alloc _) hc2 (fun g hg => by have := own_low HO.out hg; have := HB4.out; omega))
          rw [show (p.code.map CN).take j ++ [.int .i64 0] = (p.code.map CN).take (j + 1) from by rw [take_snoc (p.code.map CN) (v := CN xj) (by rw [List.getElem?_map, HJ.out]; rfl), ← HCN.out, HV.out]] at ho2
          have HO8 := Lib.hid ho2
          clear ho2 hc2
          go_wp2_with fail
          go_roundg GK
          case rel => exact ⟨j + 1, A2, c2', by have := HJK.out; omega, by go_num, rfl, HO8.out, HS8.out⟩
          case measure => omega
end Go.Proofs.YthhbhbfkbncegaaGreatDoor.Dm
end
section
section
section
set_option linter.unusedVariables false
set_option linter.unusedSimpArgs false
namespace Go.Proofs.YthhbhbfkbncegaaGreatDoor.Dm
open Go.ChangeShapes Go.WideShapes Go.ChangeAt Go.RowKit Ws
open Im (PT PO PS TsAt OsAt SysAt tcells ocells)
open Go.Proofs.YthhbhbfkbncegaaGreatDoor.Is (callB callV rightB)

def boundO (o : PO) (op : Int) : Int := Fc.boundF o.k o.wd o.sl o.cp o.sa o.ini.length o.rd.length op
theorem aft_bound (o : PO) (op fails : Int) : (0 < boundO o op → 1 ≤ aftO o op fails) ∧ (¬ 0 < boundO o op → aftO o op fails = 0) := by
 unfold boundO aftO
 have hb := Bd.after_bd o.k o.wd o.sl o.cp o.sa o.ini.length o.rd.length op fails
 have hbb := Bd.bound_bd o.k o.wd o.sl o.cp o.sa o.ini.length o.rd.length op
 cases ht : Bd.trB o.k o.wd o.sl o.cp o.sa o.ini.length o.rd.length op
 ·have e : Bd.afterI o.k o.wd o.sl o.cp o.sa o.ini.length o.rd.length op fails = Fc.boundF o.k o.wd o.sl o.cp o.sa o.ini.length o.rd.length op := by
   unfold Bd.afterI Bd.cleanI Bd.failI
   rw [ht]
   simp
  rw [e]
  exact ⟨fun h => by omega, fun h => by omega⟩
 ·obtain ⟨_, _, _, h4, h5, h6⟩ := Bd.tr_yes ht
  have e1 : 3 ≤ Bd.endI o.k o.wd o.sl o.cp o.sa o.ini.length o.rd.length op := by
   unfold Bd.endI
   rw [if_pos ht]
   split <;> omega
  have e2 : ∀ f, Bd.afterI o.k o.wd o.sl o.cp o.sa o.ini.length o.rd.length op f = Bd.endI o.k o.wd o.sl o.cp o.sa o.ini.length o.rd.length op + Bd.failI o.k o.wd o.sl o.cp o.sa o.ini.length o.rd.length op * Wd.clamp f 0 (Bd.lastI o.cp) := fun f => by
   unfold Bd.afterI Bd.cleanI
   rw [if_pos ht]
  have e3 := Bd.after_cap o.k o.wd o.sl o.cp o.sa o.ini.length o.rd.length op
  have e4 := Bd.after_bd o.k o.wd o.sl o.cp o.sa o.ini.length o.rd.length op o.cp
  rw [e2] at e3
  rw [e2]
  exact ⟨fun _ => by omega, fun h => by omega⟩
theorem fitB_call : ∀ op : Int, 17 ≤ op ∧ op ≤ 20 → Is.loL.getD (Is.hasC op.toNat 1) 0 = 0 := by
 intro op h
 have : op = 17 ∨ op = 18 ∨ op = 19 ∨ op = 20 := by omega
 rcases this with rfl | rfl | rfl | rfl <;> decide +kernel
theorem call_b {x : Im.Ins} (h : rightB x.op x.a x.b x.c x.n = true) (hc : callB x.op = true) : 0 ≤ x.b := by
 unfold callB at hc
 rw [decide_eq_true_eq] at hc
 have e := fitB_call x.op hc
 unfold rightB at h
 simp only [Bool.and_eq_true] at h
 have h2 := h.2.2.1
 unfold Is.fitB at h2
 rw [e] at h2
 simp at h2
 omega
/-- the weight as the document says it -/
theorem wgt_doc (s : PS) (fails : Int) (x : Im.Ins) : wgtI s fails x = if 0 < callV x.op ∧ rightB x.op x.a x.b x.c x.n = true ∧ x.b < s.os.length ∧ 0 < boundO (s.os.getD x.b.toNat default) (callV x.op) then aftO (s.os.getD x.b.toNat default) (callV x.op) fails else 1 := by
 have hcv : callB x.op = true ↔ 0 < callV x.op := by
  unfold callB callV
  rw [decide_eq_true_eq]
  split <;> omega
 unfold wgtI
 by_cases h1 : rightB x.op x.a x.b x.c x.n = true
 ·by_cases h2 : callB x.op = true
  ·have hb := call_b h1 h2
   by_cases h3 : x.b < s.os.length
   ·have ha := aft_bound (s.os.getD x.b.toNat default) (callV x.op) fails
    rw [if_pos ⟨by rw [h1, h2]; rfl, hb, h3⟩]
    by_cases h4 : 0 < boundO (s.os.getD x.b.toNat default) (callV x.op)
    ·rw [if_pos ⟨hcv.1 h2, h1, h3, h4⟩]
     have := ha.1 h4
     omega
    ·rw [if_neg (fun h => h4 h.2.2.2), ha.2 h4]
     rfl
   ·rw [if_neg (fun h => h3 h.2.2), if_neg (fun h => h3 h.2.2.1)]
  ·have h2' : callB x.op = false := by simpa using h2
   rw [if_neg (fun h => by rw [h2', Bool.and_false] at h; cases h.1), if_neg (fun h => h2 (hcv.2 h.1))]
 ·have h1' : rightB x.op x.a x.b x.c x.n = false := by simpa using h1
  rw [if_neg (fun h => by rw [h1', Bool.false_and] at h; cases h.1), if_neg (fun h => h1 h.2.1)]
end Go.Proofs.YthhbhbfkbncegaaGreatDoor.Dm
end
section
set_option linter.unusedVariables false
set_option linter.unusedSimpArgs false
namespace Go.Proofs.YthhbhbfkbncegaaGreatDoor.Dm
open Go.ChangeShapes Go.WideShapes Go.ChangeAt Go.RowKit Ws
open Im (PT PO PS TsAt OsAt SysAt tcells ocells)
open Go.Proofs.YthhbhbfkbncegaaGreatDoor.Is (callB callV rightB)
theorem callV_b {op : Int} (h : 0 < callV op) : callB op = true := by
 unfold callV at h
 unfold callB
 rw [decide_eq_true_eq]
 split at h
 ·assumption
 ·omega
set_option maxRecDepth 100000 in
set_option maxHeartbeats 8000000 in
theorem rweights_any (A B : Option Addr) (n c m d : Nat) (s : PS) (ki : Nat) (p : PT) (fails : Int) (w : World) (hs : SysAt w A n B m s) (hp : s.ts[ki]? = some p) (hf : p.code.length ≤ 200) (hfl : fails ≤ 100) :
  Calls Tryz.prog 68 #[.agg #[.slice A n c, .slice B m d], .int .i64 ki, .int .i64 fails] w (WgtP w (p.code.map (wgtI s fails))) := by
 obtain ⟨i0, hi, hz0, hz1, hz2⟩ := info_parts int_inf
 obtain ⟨w0, hw0⟩ : ∃ w0, w0 = w.alloc (.cells #[.slice A n c, .slice B m d] 25) := ⟨_, rfl⟩
 have s0 : Same w w0 := hw0 ▸ (Same.refl w).alloc _
 have b0 : Blk w0 w.heap.size 25 #[.slice A n c, .slice B m d] := hw0 ▸ Blk.new w _ _
 have hkn : ki < n := by have := (List.getElem?_eq_some_iff.1 hp).1; have := hs.hn; omega
 obtain ⟨bA, oA, rfl, X, cX, _, _, _, _, _, _, t6, hcode, _⟩ := (hs.ht.same s0).at_ hp
 have HE0 := Lib.hid hw0
 have c0 := b0.cell 0
 simp only [Ws.q_] at c0
 have S0 := Lib.hid s0
 have B0 := Lib.hid b0
 have HCW := Lib.hid hcode
 have HLE := Lib.hid hf
 have HO_ := Lib.hid (hs.ho.same s0)
 have HM := Lib.hid hs.hm
 have HFL := Lib.hid hfl
 have hk1 : (ki : Int) < n := by omega
 have hk0 : (0 : Int) ≤ ki := by omega
 clear hw0 s0 b0 hs hf hp hcode hkn hfl
 go_enter Tryz.func68, Tryz.ntmps68
 go_upto_region 1 with fail
 rw [← HE0.out]
 clear HE0
 generalize hq0 : w.heap.size = q0 at *
 clear hq0
 have HLE2 := HLE.out
 obtain ⟨CN, hCN⟩ : ∃ CN : Im.Ins → Value, CN = fun x => Value.int .i64 (wgtI s fails x) := ⟨_, rfl⟩
 have HCN := Lib.hid (fun x => (show Value.int .i64 (wgtI s fails x) = CN x by rw [hCN]))
 obtain ⟨b4, hb4⟩ : ∃ b4, b4 = w0.heap.size := ⟨_, rfl⟩
 have HB4 := Lib.hid hb4
 clear hb4
 have HLN := Lib.hid (show (p.code.map CN) = (p.code.map (wgtI s fails)).map (Value.int .i64) by rw [hCN, List.map_map]; rfl)
 clear hCN
 go_wp2_with fail
 go_loopg [7, 19] p.code.length (fun gk lv iv wx => ∃ (j : Nat) (A' : Option Addr) (c' : Nat), j + gk = p.code.length ∧ iv = .int .i64 j ∧ lv = .slice A' j c' ∧ Ws.Own wx b4 3 A' c' ((p.code.map CN).take j) ∧ Same w0 wx)
 case atStart => exact ⟨0, none, 0, by omega, rfl, rfl, own_nil _ _ _, Same.refl _⟩
 case round =>
  clear c0 t6
  obtain ⟨j, A', c', hk, rfl, rfl, ho, sx⟩ := hrel
  have HO := Lib.hid ho
  have HSX := Lib.hid sx
  clear ho sx
  cases gk with
  | zero =>
   obtain rfl : j = p.code.length := by omega
   have hge : ¬ (p.code.length : Int) < (p.code.length : Int) := by omega
   have HR := Lib.hid (show Row wr A' ((p.code.map (wgtI s fails)).map (Value.int .i64)) from by rw [← HLN.out]; have := HO.out.row; rwa [show p.code.length = (p.code.map CN).length from (List.length_map ..).symm, List.take_length] at this)
   go_wp2_with fail
   go_ret
   exact wgt_mk (by rw [List.length_map]) HR.out (S0.out.trans HSX.out)
  | succ GK =>
   have hlt : (j : Int) < p.code.length := by omega
   have hj0 : (0 : Int) ≤ j := by omega
   have HJL := Lib.hid (show j < p.code.length by omega)
   have HJK := Lib.hid hk
   clear hk
   obtain ⟨⟨op, ia, ib, ic, iN⟩, hxj⟩ : ∃ xj : Im.Ins, p.code[j]? = some xj := ⟨p.code[j], List.getElem?_eq_getElem HJL.out⟩
   have HJ := Lib.hid hxj
   clear hxj
   obtain ⟨hxn, bX, oX, rfl, y0, y1, y2, y3, y4⟩ := (HCW.out.same HSX.out).at_ HJ.out
   dsimp only at hxn y0 y1 y2 y3 y4
   have HQ5 := Lib.hid (Blk.new wr 70 #[.int .i64 op, .int .i64 ia, .int .i64 ib, .int .i64 ic, .int .u32 iN])
   have HO5 := Lib.hid (HO.out.same ((Same.refl wr).alloc (.cells #[.int .i64 op, .int .i64 ia, .int .i64 ib, .int .i64 ic, .int .u32 iN] 70)))
   have HX5 := Lib.hid (HSX.out.alloc (.cells #[.int .i64 op, .int .i64 ia, .int .i64 ib, .int .i64 ic, .int .u32 iN] 70))
   have HWD := Lib.hid (wgt_doc s fails ⟨op, ia, ib, ic, iN⟩)
   go_upto_region 6 with fail
   generalize wr.alloc (.cells #[.int .i64 op, .int .i64 ia, .int .i64 ib, .int .i64 ic, .int .u32 iN] 70) = w5 at *
   generalize wr.heap.size = q5 at *
   obtain ⟨v0, v1, v2, v3, v4⟩ := (⟨HQ5.out.cell 0, HQ5.out.cell 1, HQ5.out.cell 2, HQ5.out.cell 3, HQ5.out.cell 4⟩ : _ ∧ _ ∧ _ ∧ _ ∧ _)
   have HB5 := Lib.hid (B0.out.same HX5.out)
   have u1 := HB5.out.cell 1
   simp only [Ws.q_] at v0 v1 v2 v3 v4 u1
   have RC := Lib.hid (Is.rcalls_any op w5)
   clear y0 y1 y2 y3 y4 HSX
   go_wp2_with fail
   refine RC.out.mono ?_
   rintro e w5 ⟨rfl, rfl⟩
   clear RC
   by_cases h1 : 0 < callV op
   ·have RR := Lib.hid (show Calls Tryz.prog 89 #[.agg #[.int .i64 op, .int .i64 ia, .int .i64 ib, .int .i64 ic, .int .u32 iN]] w5 fun e w' => e = .returned (.bool (rightB op ia ib ic iN)) ∧ Same w5 w' from Is.rright_any op ia ib ic iN hxn w5)
    cases hr : rightB op ia ib ic iN with
    | false =>
     have HR1 := Lib.hid hr
     rw [hr] at RR
     have HD := Lib.hid (show wgtI s fails ⟨op, ia, ib, ic, iN⟩ = 1 by rw [HWD.out]; exact if_neg (fun h => by have h2 : rightB op ia ib ic iN = true := h.2.1; rw [HR1.out] at h2; cases h2))
     clear hr
     go_wp2_with fail
     refine RR.out.mono ?_
     rintro e w7 ⟨rfl, s7⟩
     have HO7 := Lib.hid (HO5.out.same s7)
     have HS7 := Lib.hid (HX5.out.trans s7)
     clear s7 RR v0 v1 v2 v3 v4 u1
     go_wp2_with (at_builtin; go_loud (refine wpList_app rfl (.tmp 60) (.tmp 62) 32 rfl b4 3 i0 _ 8 Tryz.underlying32 hi hz0 hz1 hz2 rfl A' j c' ((p.code.map CN).take j) rfl ?c1 (HO7.out.same ((Same.refl _).alloc _)) _ 1 1 [.int .i64 1] rfl rfl (row_new _ _ _) ?c2 ?c3 (by omega) ?c4 ?_))
     case c1 => (try rw [List.length_take, List.length_map]); have := HJL.out; omega
     case c2 => first | rfl | (intro u hu; simp at hu; subst hu; rfl)
     case c3 => (try rw [List.length_take, List.length_map]); (try simp); omega
     case c4 => have := HB4.out; have := HS7.out.size; simp; omega
     intro A2 c2' w9 ho2 hc2 _
     have HS9 := Lib.hid (Same.more (HS7.out.alloc _) hc2 (fun g hg => by have := own_low HO.out hg; have := HB4.out; omega))
     rw [show (p.code.map CN).take j ++ [.int .i64 1] = (p.code.map CN).take (j + 1) from by rw [take_snoc (p.code.map CN) (v := CN ⟨op, ia, ib, ic, iN⟩) (by rw [List.getElem?_map, HJ.out]; rfl), ← HCN.out, HD.out]] at ho2
     have HO9 := Lib.hid ho2
     clear ho2 hc2
     go_wp2_with fail
     go_roundg GK
     case rel => exact ⟨j + 1, A2, c2', by have := HJK.out; omega, by go_num, rfl, HO9.out, HS9.out⟩
     case measure => omega
    | true =>
     have hb0 : 0 ≤ ib := call_b (x := ⟨op, ia, ib, ic, iN⟩) hr (callV_b h1)
     obtain ⟨kb, rfl⟩ : ∃ kb : Nat, ib = kb := ⟨ib.toNat, by omega⟩
     have HR1 := Lib.hid hr
     rw [hr] at RR
     have H1 := Lib.hid h1
     clear hr hb0
     have hkb0 : (0 : Int) ≤ kb := by omega
     by_cases h3 : (kb : Int) < m
     ·obtain ⟨o, ho⟩ : ∃ o, s.os[kb]? = some o := ⟨s.os[kb]'(by rw [HM.out]; omega), List.getElem?_eq_getElem _⟩
      have HGO := Lib.hid (show s.os.getD ((kb : Int)).toNat default = o by rw [Int.toNat_natCast, List.getD_eq_getElem?_getD, ho]; rfl)
      have HKL := Lib.hid (List.getElem?_eq_some_iff.1 ho).1
      obtain ⟨bB, oB, hBe, Xo, co, Yo, do_, o0, o1, o2, o3, o4, o5, o6, o7, hsa, _⟩ := (HO_.out.same HX5.out).at_ ho
      subst hBe
      clear ho
      have RB := Lib.hid (fun W => Fc.rbound_any o.k o.wd o.sl o.cp o.sa o.ow Xo Yo o.ini.length co o.rd.length do_ (callV op) W hsa)
      have RA := Lib.hid (fun W => Bd.rafter_any o.k o.wd o.sl o.cp o.sa o.ow Xo Yo o.ini.length co o.rd.length do_ (callV op) fails HFL.out W hsa)
      go_wp2_with fail
      refine RR.out.mono ?_
      rintro e w6 ⟨rfl, s6⟩
      have HO6 := Lib.hid (HO5.out.same s6)
      have HS6 := Lib.hid (HX5.out.trans s6)
      have o0 := s6.cell o0
      have o1 := s6.cell o1
      have o2 := s6.cell o2
      have o3 := s6.cell o3
      have o4 := s6.cell o4
      have o5 := s6.cell o5
      have o6 := s6.cell o6
      have o7 := s6.cell o7
      have u1 := s6.cell u1
      have v2 := s6.cell v2
      clear s6 RR v0 v1 v3 v4
      go_wp2_with fail
      refine (RB.out w6).mono ?_
      rintro e w7 ⟨rfl, s7⟩
      have HO7 := Lib.hid (HO6.out.same s7)
      have HS7 := Lib.hid (HS6.out.trans s7)
      have o0 := s7.cell o0
      have o1 := s7.cell o1
      have o2 := s7.cell o2
      have o3 := s7.cell o3
      have o4 := s7.cell o4
      have o5 := s7.cell o5
      have o6 := s7.cell o6
      have o7 := s7.cell o7
      have u1 := s7.cell u1
      have v2 := s7.cell v2
      clear s7 RB
      have HBO := Lib.hid (show boundO o (callV op) = Fc.boundF o.k o.wd o.sl o.cp o.sa o.ini.length o.rd.length (callV op) from rfl)
      rw [← HBO.out]
      by_cases h4 : 0 < boundO o (callV op)
      ·have HD := Lib.hid (show wgtI s fails ⟨op, ia, (kb : Int), ic, iN⟩ = aftO o (callV op) fails by
        rw [HWD.out]
        have e : s.os.getD (⟨op, ia, (kb : Int), ic, iN⟩ : Im.Ins).b.toNat default = o := HGO.out
        rw [e]
        exact if_pos ⟨H1.out, HR1.out, by have := HKL.out; show (kb : Int) < _; omega, h4⟩)
       have HAV := Lib.hid (show aftO o (callV op) fails = Bd.afterI o.k o.wd o.sl o.cp o.sa o.ini.length o.rd.length (callV op) fails from rfl)
       generalize boundO o (callV op) = bo at *
       go_wp2_with fail
       refine (RA.out w7).mono ?_
       rintro e w8 ⟨rfl, s8⟩
       rw [← HAV.out]
       have HO7 := Lib.hid (HO7.out.same s8)
       have HS7 := Lib.hid (HS7.out.trans s8)
       clear s8 RA o0 o1 o2 o3 o4 o5 o6 o7 u1 v2
       generalize aftO o (callV op) fails = av at *
       go_wp2_with (at_builtin; go_loud (refine wpList_app rfl (.tmp 60) (.tmp 62) 32 rfl b4 3 i0 _ 8 Tryz.underlying32 hi hz0 hz1 hz2 rfl A' j c' ((p.code.map CN).take j) rfl ?c1 (HO7.out.same ((Same.refl _).alloc _)) _ 1 1 [.int .i64 av] rfl rfl (row_new _ _ _) ?c2 ?c3 (by omega) ?c4 ?_))
       case c1 => (try rw [List.length_take, List.length_map]); have := HJL.out; omega
       case c2 => first | rfl | (intro u hu; simp at hu; subst hu; rfl)
       case c3 => (try rw [List.length_take, List.length_map]); (try simp); omega
       case c4 => have := HB4.out; have := HS7.out.size; simp; omega
       intro A2 c2' w9 ho2 hc2 _
       have HS9 := Lib.hid (Same.more (HS7.out.alloc _) hc2 (fun g hg => by have := own_low HO.out hg; have := HB4.out; omega))
       rw [show (p.code.map CN).take j ++ [.int .i64 av] = (p.code.map CN).take (j + 1) from by rw [take_snoc (p.code.map CN) (v := CN ⟨op, ia, (kb : Int), ic, iN⟩) (by rw [List.getElem?_map, HJ.out]; rfl), ← HCN.out, HD.out]] at ho2
       have HO9 := Lib.hid ho2
       clear ho2 hc2
       go_wp2_with fail
       go_roundg GK
       case rel => exact ⟨j + 1, A2, c2', by have := HJK.out; omega, by go_num, rfl, HO9.out, HS9.out⟩
       case measure => omega
      ·have HD := Lib.hid (show wgtI s fails ⟨op, ia, (kb : Int), ic, iN⟩ = 1 by
        rw [HWD.out]
        have e : s.os.getD (⟨op, ia, (kb : Int), ic, iN⟩ : Im.Ins).b.toNat default = o := HGO.out
        rw [e]
        exact if_neg (fun h => h4 h.2.2.2))
       generalize boundO o (callV op) = bo at *
       clear o0 o1 o2 o3 o4 o5 o6 o7 u1 v2 RA
       go_wp2_with (at_builtin; go_loud (refine wpList_app rfl (.tmp 60) (.tmp 62) 32 rfl b4 3 i0 _ 8 Tryz.underlying32 hi hz0 hz1 hz2 rfl A' j c' ((p.code.map CN).take j) rfl ?c1 (HO7.out.same ((Same.refl _).alloc _)) _ 1 1 [.int .i64 1] rfl rfl (row_new _ _ _) ?c2 ?c3 (by omega) ?c4 ?_))
       case c1 => (try rw [List.length_take, List.length_map]); have := HJL.out; omega
       case c2 => first | rfl | (intro u hu; simp at hu; subst hu; rfl)
       case c3 => (try rw [List.length_take, List.length_map]); (try simp); omega
       case c4 => have := HB4.out; have := HS7.out.size; simp; omega
       intro A2 c2' w9 ho2 hc2 _
       have HS9 := Lib.hid (Same.more (HS7.out.alloc _) hc2 (fun g hg => by have := own_low HO.out hg; have := HB4.out; omega))
       rw [show (p.code.map CN).take j ++ [.int .i64 1] = (p.code.map CN).take (j + 1) from by rw [take_snoc (p.code.map CN) (v := CN ⟨op, ia, (kb : Int), ic, iN⟩) (by rw [List.getElem?_map, HJ.out]; rfl), ← HCN.out, HD.out]] at ho2
       have HO9 := Lib.hid ho2
       clear ho2 hc2
       go_wp2_with fail
       go_roundg GK
       case rel => exact ⟨j + 1, A2, c2', by have := HJK.out; omega, by go_num, rfl, HO9.out, HS9.out⟩
       case measure => omega
     ·have HD := Lib.hid (show wgtI s fails ⟨op, ia, (kb : Int), ic, iN⟩ = 1 by rw [HWD.out]; exact if_neg (fun h => h3 (by have h2 : (kb : Int) < s.os.length := h.2.2.1; rw [HM.out] at h2; exact h2)))
      go_wp2_with fail
      refine RR.out.mono ?_
      rintro e w7 ⟨rfl, s7⟩
      have HO7 := Lib.hid (HO5.out.same s7)
      have HS7 := Lib.hid (HX5.out.trans s7)
      have v2 := s7.cell v2
      have u1 := s7.cell u1
      clear s7 RR v0 v1 v3 v4
      go_wp2_with (at_builtin; go_loud (refine wpList_app rfl (.tmp 60) (.tmp 62) 32 rfl b4 3 i0 _ 8 Tryz.underlying32 hi hz0 hz1 hz2 rfl A' j c' ((p.code.map CN).take j) rfl ?c1 (HO7.out.same ((Same.refl _).alloc _)) _ 1 1 [.int .i64 1] rfl rfl (row_new _ _ _) ?c2 ?c3 (by omega) ?c4 ?_))
      case c1 => (try rw [List.length_take, List.length_map]); have := HJL.out; omega
      case c2 => first | rfl | (intro u hu; simp at hu; subst hu; rfl)
      case c3 => (try rw [List.length_take, List.length_map]); (try simp); omega
      case c4 => have := HB4.out; have := HS7.out.size; simp; omega
      intro A2 c2' w9 ho2 hc2 _
      have HS9 := Lib.hid (Same.more (HS7.out.alloc _) hc2 (fun g hg => by have := own_low HO.out hg; have := HB4.out; omega))
      rw [show (p.code.map CN).take j ++ [.int .i64 1] = (p.code.map CN).take (j + 1) from by rw [take_snoc (p.code.map CN) (v := CN ⟨op, ia, (kb : Int), ic, iN⟩) (by rw [List.getElem?_map, HJ.out]; rfl), ← HCN.out, HD.out]] at ho2
      have HO9 := Lib.hid ho2
      clear ho2 hc2
      go_wp2_with fail
      go_roundg GK
      case rel => exact ⟨j + 1, A2, c2', by have := HJK.out; omega, by go_num, rfl, HO9.out, HS9.out⟩
      case measure => omega
   ·have HD := Lib.hid (show wgtI s fails ⟨op, ia, ib, ic, iN⟩ = 1 by rw [HWD.out]; exact if_neg (fun h => h1 h.1))
    have HO7 := HO5
    have HS7 := HX5
    clear v0 v1 v2 v3 v4 u1
    go_wp2_with (at_builtin; go_loud (refine wpList_app rfl (.tmp 60) (.tmp 62) 32 rfl b4 3 i0 _ 8 Tryz.underlying32 hi hz0 hz1 hz2 rfl A' j c' ((p.code.map CN).take j) rfl ?c1 (HO7.out.same ((Same.refl _).alloc _)) _ 1 1 [.int .i64 1] rfl rfl (row_new _ _ _) ?c2 ?c3 (by omega) ?c4 ?_))
    case c1 => (try rw [List.length_take, List.length_map]); have := HJL.out; omega
    case c2 => first | rfl | (intro u hu; simp at hu; subst hu; rfl)
    case c3 => (try rw [List.length_take, List.length_map]); (try simp); omega
    case c4 => have := HB4.out; have := HS7.out.size; simp; omega
    intro A2 c2' w9 ho2 hc2 _
    have HS9 := Lib.hid (Same.more (HS7.out.alloc _) hc2 (fun g hg => by have := own_low HO.out hg; have := HB4.out; omega))
    rw [show (p.code.map CN).take j ++ [.int .i64 1] = (p.code.map CN).take (j + 1) from by rw [take_snoc (p.code.map CN) (v := CN ⟨op, ia, ib, ic, iN⟩) (by rw [List.getElem?_map, HJ.out]; rfl), ← HCN.out, HD.out]] at ho2
    have HO9 := Lib.hid ho2
    clear ho2 hc2
    go_wp2_with fail
    go_roundg GK
    case rel => exact ⟨j + 1, A2, c2', by have := HJK.out; omega, by go_num, rfl, HO9.out, HS9.out⟩
    case measure => omega
end Go.Proofs.YthhbhbfkbncegaaGreatDoor.Dm
end
end
section
section
section
set_option linter.unusedVariables false
set_option linter.unusedSimpArgs false
namespace Go.Proofs.YthhbhbfkbncegaaGreatDoor.Ah
open Go.ChangeShapes Go.WideShapes Go.ChangeAt Go.RowKit Ws
open Im (PT PO PS TsAt OsAt SysAt tcells ocells)
open Go.Proofs.YthhbhbfkbncegaaGreatDoor.Wd (ret_bool ret_int)
set_option maxRecDepth 100000 in
theorem rahead37 (A B : Option Addr) (n c m d : Nat) (s : PS) (i : Int) (k : Nat) (o : PO) (w : World) (hs : SysAt w A n B m s) (hk : s.os[k]? = some o) :
  Calls Tryz.prog 12 #[.agg #[.slice A n c, .slice B m d], .int .i64 i, .int .i64 k] w fun e w' => e = .returned (.bool (aheadI s.ts o.ow i)) ∧ Same w w' := by
 obtain ⟨w0, hw0⟩ : ∃ w0, w0 = w.alloc (.cells #[.slice A n c, .slice B m d] 25) := ⟨_, rfl⟩
 obtain ⟨g, hg⟩ : ∃ g, g = w.heap.size := ⟨_, rfl⟩
 have s0 : Same w w0 := hw0 ▸ (Same.refl w).alloc _
 have b0 : Blk w0 g 25 #[.slice A n c, .slice B m d] := by rw [hw0, hg]; exact Blk.new w _ _
 have HE0 := Lib.hid hw0
 have HG := Lib.hid hg
 have S0 := Lib.hid s0
 obtain ⟨c0, c1⟩ := (⟨b0.cell 0, b0.cell 1⟩ : _ ∧ _)
 simp only [Ws.q_] at c0 c1
 have AG := Lib.hid (fun W (h : Same w0 W) => rahead_gen A n c s.ts o.ow i W hs.hn ((hs.same (s0.trans h)).ht))
 obtain ⟨bB, oB, rfl, Xo, co, Yo, do_, o0, o1, o2, o3, o4, o5, o6, o7, _⟩ := (hs.same s0).ho.at_ hk
 have k0 : (0 : Int) ≤ k := by omega
 have k1 : (k : Int) < m := by have := (List.getElem?_eq_some_iff.1 hk).1; have := hs.hm; omega
 clear hw0 hg s0 b0 hs hk o0 o1 o2 o3 o4 o5 o7
 go_enter Tryz.func12, Tryz.ntmps12
 go_upto_region 1 with fail
 rw [← HE0.out, ← HG.out]
 clear HE0 HG
 refine wp_region_held_drew (S := fun w' => Same w0 w') (by kernel_rfl) ?_ (fun hHeld => ?_)
 ·exact (Same.refl w0).drew
 refine Ro.tn 0 ?_ ?_ ?_
 rotate_left
 ·intro wS hSw; (try dsimp only at hSw); go_simp; try with_reducible rfl
 try simp only [Ro.p]
 refine Ro.tn 1 ?_ ?_ ?_
 rotate_left
 ·intro wS hSw; (try dsimp only at hSw); have z0 := hSw.cell c0; go_simp; try with_reducible rfl
 try simp only [Ro.p]
 refine Ro.tn 2 ?_ ?_ ?_
 rotate_left
 ·intro wS hSw; (try dsimp only at hSw); go_simp; try with_reducible rfl
 try simp only [Ro.p]
 refine Ro.tn 3 ?_ ?_ ?_
 rotate_left
 ·intro wS hSw; (try dsimp only at hSw); have z1 := hSw.cell c1; go_simp; try with_reducible rfl
 try simp only [Ro.p]
 refine Ro.tn 4 ?_ ?_ ?_
 rotate_left
 ·intro wS hSw; (try dsimp only at hSw); go_simp; try with_reducible rfl
 try simp only [Ro.p]
 refine Ro.tn 5 ?_ ?_ ?_
 rotate_left
 ·intro wS hSw; (try dsimp only at hSw); go_simp; try with_reducible rfl
 try simp only [Ro.p]
 refine Ro.tn 6 ?_ ?_ ?_
 rotate_left
 ·intro wS hSw; (try dsimp only at hSw); go_simp; try with_reducible rfl
 try simp only [Ro.p]
 refine Ro.tn 7 ?_ ?_ ?_
 rotate_left
 ·intro wS hSw; (try dsimp only at hSw); have z6 := hSw.cell o6; go_simp; try with_reducible rfl
 try simp only [Ro.p]
 refine Ro.tn 8 ?_ ?_ ?_
 rotate_left
 ·intro wS hSw; (try dsimp only at hSw); go_simp; try with_reducible rfl
 try simp only [Ro.p]
 refine Ro.one_on (i := 9) rfl (by kernel_rfl) (by rfl) (fun K hK => ?_)
 go_simp
 go_at_call 20
 refine (AG.out _ hHeld).mono ?_
 rintro e w1 ⟨rfl, s1⟩
 refine hK.out _ _ ?_ (fun hNew => ?_)
 ·exact hHeld.trans s1
 clear hK K hHeld; have hHeld := hNew; clear hNew
 try simp only [Ro.p]
 refine Ro.tn 10 ?_ ?_ ?_
 rotate_left
 ·intro wS hSw; (try dsimp only at hSw); go_simp; try with_reducible rfl
 try simp only [Ro.p]
 refine wpAnyH_done (by kernel_rfl) ?_ _
 go_wp2_with fail
 go_ret
 exact ⟨rfl, S0.out.trans hHeld⟩
end Go.Proofs.YthhbhbfkbncegaaGreatDoor.Ah
end
section
section
set_option linter.unusedVariables false
set_option linter.unusedSimpArgs false
namespace Go.Proofs.YthhbhbfkbncegaaGreatDoor.Sl
open Go.ChangeShapes Go.WideShapes Go.ChangeAt Go.RowKit Ws
open Im (PT PO PS TsAt OsAt SysAt tcells ocells)
open Dm (demI dearI dearE)
open Go.Proofs.YthhbhbfkbncegaaGreatDoor.Wd (ret_bool ret_int mulv ceilv addv)
set_option maxRecDepth 100000 in
set_option maxHeartbeats 4000000 in
theorem rreads_any (A B : Option Addr) (n c m d : Nat) (s : PS) (i k : Int) (w : World) (hs : SysAt w A n B m s) (hnm : n ≤ maxLen ∧ m ≤ maxLen) (hf : ∀ p ∈ s.ts, p.code.length ≤ 200) (ho : Sy.OFew s.os 5000) :
  Calls Tryz.prog 11 #[.agg #[.slice A n c, .slice B m d], .int .i64 i, .int .i64 k] w fun e w' => e = .returned (.bool (readsP s i k)) ∧ Same w w' := by
 obtain ⟨w0, hw0⟩ : ∃ w0, w0 = w.alloc (.cells #[.slice A n c, .slice B m d] 25) := ⟨_, rfl⟩
 obtain ⟨g, hg⟩ : ∃ g, g = w.heap.size := ⟨_, rfl⟩
 have s0 : Same w w0 := hw0 ▸ (Same.refl w).alloc _
 have b0 : Blk w0 g 25 #[.slice A n c, .slice B m d] := by rw [hw0, hg]; exact Blk.new w _ _
 have HE0 := Lib.hid hw0
 have HG := Lib.hid hg
 have S0 := Lib.hid s0
 have B0 := Lib.hid b0
 have HS := Lib.hid (hs.same s0)
 obtain ⟨c0, c1⟩ := (⟨b0.cell 0, b0.cell 1⟩ : _ ∧ _)
 simp only [Ws.q_] at c0 c1
 have HRO := Lib.hid (fun W (h : Same w0 W) => Sy.rrole_any A B n c m d s i k W (hs.same (s0.trans h)) ho)
 have HCA := Lib.hid (fun W (h : Same w0 W) => (show Calls Tryz.prog 34 #[.agg #[.slice A n c, .slice B m d], .int .i64 i, .int .i64 k, .bool false] W (fun e w' => e = .returned (.int .i64 (demI s i k 17 20)) ∧ Same W w') from Dm.rcalls_false A B n c m d s i k W (hs.same (s0.trans h)) hnm hf))
 have hdb := (dem_bd hs.ht i k 17 20).1
 clear hw0 hg s0 b0 hs
 go_enter Tryz.func11, Tryz.ntmps11
 go_upto_region 1 with fail
 rw [← HE0.out, ← HG.out]
 clear HE0 HG
 by_cases hr : Sy.roleF s i k = 1
 ·have er : (Sy.roleF s i k == 1) = true := by simpa using hr
  have HR := Lib.hid hr
  have HD := Lib.hid (show readsP s i k = decide (0 < demI s i k 17 20) by
   unfold readsP
   rw [hr]
   by_cases h : demI s i k 17 20 = 0
   ·rw [h]; rfl
   ·rw [decide_eq_true ⟨rfl, h⟩, decide_eq_true (by omega)])
  clear hr
  generalize Sy.roleF s i k = ro at *
  go_wp2_with fail
  refine (HRO.out _ (Same.refl _)).mono ?_
  rintro e w1 ⟨rfl, s1⟩
  have HS1 := Lib.hid s1
  have c0 := s1.cell c0
  have c1 := s1.cell c1
  clear s1 HRO
  go_wp2_with fail
  refine (HCA.out _ HS1.out).mono ?_
  rintro e w2 ⟨rfl, s2⟩
  go_wp2_with fail
  go_ret
  exact ⟨ret_bool HD.out.symm, S0.out.trans (HS1.out.trans s2)⟩
 ·have er : (Sy.roleF s i k == 1) = false := by simpa using hr
  have HD := Lib.hid (show readsP s i k = false from decide_eq_false (fun h => hr h.1))
  clear hr
  generalize Sy.roleF s i k = ro at *
  go_wp2_with fail
  refine (HRO.out _ (Same.refl _)).mono ?_
  rintro e w1 ⟨rfl, s1⟩
  go_wp2_with fail
  go_ret
  exact ⟨ret_bool HD.out.symm, S0.out.trans s1⟩
end Go.Proofs.YthhbhbfkbncegaaGreatDoor.Sl
end
section
set_option linter.unusedVariables false
set_option linter.unusedSimpArgs false
namespace Go.Proofs.YthhbhbfkbncegaaGreatDoor.Sl
open Go.ChangeShapes Go.WideShapes Go.ChangeAt Go.RowKit Ws
open Im (PT PO PS TsAt OsAt SysAt tcells ocells)
open Dm (demI dearI dearE)
open Go.Proofs.YthhbhbfkbncegaaGreatDoor.Wd (ret_bool ret_int mulv ceilv addv)
theorem reads_in {s : PS} {i k : Int} (h : readsP s i k = true) : (0 ≤ i ∧ i < s.ts.length) ∧ 0 ≤ k ∧ k < s.os.length := by
 have hr := (of_decide_eq_true h).1
 by_cases g : (0 ≤ i ∧ i < s.ts.length) ∧ 0 ≤ k ∧ k < s.os.length
 ·exact g
 ·have h0 : Sy.roleF s i k = 0 := if_neg g
  rw [h0] at hr
  cases hr
set_option maxRecDepth 100000 in
set_option maxHeartbeats 4000000 in
theorem rwrites37 (A B : Option Addr) (n c m d : Nat) (s : PS) (i k r : Int) (br : -9223372036854775808 ≤ r ∧ r ≤ 9223372036854775807) (w : World) (hs : SysAt w A n B m s) (hnm : n ≤ maxLen ∧ m ≤ maxLen) (hf : ∀ p ∈ s.ts, p.code.length ≤ 200) (ho : Sy.OFew s.os 5000) :
  Calls Tryz.prog 15 #[.agg #[.slice A n c, .slice B m d], .int .i64 i, .int .i64 k, .int .i64 r] w fun e w' => e = .returned (.int .i64 (wrR (ofR s i k) r)) ∧ Same w w' := by
 obtain ⟨w0, hw0⟩ : ∃ w0, w0 = w.alloc (.cells #[.slice A n c, .slice B m d] 25) := ⟨_, rfl⟩
 obtain ⟨g, hg⟩ : ∃ g, g = w.heap.size := ⟨_, rfl⟩
 have s0 : Same w w0 := hw0 ▸ (Same.refl w).alloc _
 have b0 : Blk w0 g 25 #[.slice A n c, .slice B m d] := by rw [hw0, hg]; exact Blk.new w _ _
 have HE0 := Lib.hid hw0
 have HG := Lib.hid hg
 have S0 := Lib.hid s0
 have HS := Lib.hid (hs.same s0)
 obtain ⟨c0, c1⟩ := (⟨b0.cell 0, b0.cell 1⟩ : _ ∧ _)
 simp only [Ws.q_] at c0 c1
 have RR := Lib.hid (rreads_any A B n c m d s i k w0 (hs.same s0) hnm hf ho)
 have HWD := Lib.hid (wr_doc s i k r)
 have CL := Lib.hid (fun (q : Int) W (h : Same w0 W) => (show Calls Tryz.prog 34 #[.agg #[.slice A n c, .slice B m d], .int .i64 q, .int .i64 k, .bool true] W (fun e w' => e = .returned (.int .i64 (demI s q k 18 19)) ∧ Same W w') from Dm.rcalls_true A B n c m d s q k W (hs.same (s0.trans h)) hnm hf))
 clear hw0 hg s0 b0 hs hf ho
 go_enter Tryz.func15, Tryz.ntmps15
 go_upto_region 1 with fail
 rw [← HE0.out, ← HG.out]
 clear HE0 HG
 go_wp2_with fail
 refine RR.out.mono ?_
 rintro e w1 ⟨rfl, s1⟩
 have HS1 := Lib.hid s1
 have c0 := s1.cell c0
 have c1 := s1.cell c1
 clear s1 RR
 cases hrd : readsP s i k with
 | false =>
  have HD := Lib.hid (show wrR (ofR s i k) r = 0 from HWD.out.trans (if_neg (fun h => by rw [hrd] at h; cases h.1)))
  clear hrd HWD CL
  go_wp2_with fail
  go_ret
  exact ⟨ret_int HD.out.symm, S0.out.trans HS1.out⟩
 | true =>
  have HRD := Lib.hid hrd
  obtain ⟨_, k0, k1⟩ := reads_in hrd
  obtain ⟨kk, rfl⟩ : ∃ kk : Nat, k = kk := ⟨k.toNat, by omega⟩
  obtain ⟨o, hox⟩ : ∃ o, s.os[kk]? = some o := ⟨s.os[kk]'(by omega), List.getElem?_eq_getElem _⟩
  have HOB := Lib.hid (show obj s kk = o by unfold obj; rw [Int.toNat_natCast, List.getD_eq_getElem?_getD, hox]; rfl)
  have k2 : (kk : Int) < m := by have := HS.out.hm; omega
  have AH := Lib.hid (Ah.rahead37 A B n c m d s i kk o w1 (HS.out.same HS1.out) hox)
  have HOX := Lib.hid hox
  clear hrd hox
  go_wp2_with fail
  refine AH.out.mono ?_
  rintro e w2 ⟨rfl, s2⟩
  have HS2 := Lib.hid (HS1.out.trans s2)
  have c0 := s2.cell c0
  have c1 := s2.cell c1
  clear s2 AH HS1
  cases ha : Ah.aheadI s.ts o.ow i with
  | false =>
   have HD := Lib.hid (show wrR (ofR s i (kk : Int)) r = 0 from HWD.out.trans (if_neg (fun h => by have h2 := h.2; unfold aheadP at h2; rw [HOB.out, ha] at h2; cases h2)))
   clear ha HWD CL
   go_wp2_with fail
   go_ret
   exact ⟨ret_int HD.out.symm, S0.out.trans HS2.out⟩
  | true =>
   have HD := Lib.hid (HWD.out.trans (if_pos ⟨HRD.out, by unfold aheadP; rw [HOB.out]; exact ha⟩))
   rw [HOB.out] at HD
   have hin : Ah.inI s.ts.length o.ow := by
    by_cases g : Ah.inI s.ts.length o.ow ∧ Ah.inI s.ts.length i
    ·exact g.1
    ·rw [Ah.aheadI_no g] at ha; cases ha
   obtain ⟨kw, hkw⟩ := Int.eq_ofNat_of_zero_le hin.1
   have hkn : kw < s.ts.length := by have := hin.2; omega
   have w1' : (kw : Int) < n := by have := HS.out.hn; omega
   have w0' : (0 : Int) ≤ kw := by omega
   obtain ⟨p, hp⟩ : ∃ p, s.ts[kw]? = some p := ⟨s.ts[kw], List.getElem?_eq_getElem hkn⟩
   have HPT := Lib.hid (show (Ah.pt s.ts ((kw : Nat) : Int).toNat).per = p.per by unfold Ah.pt; rw [Int.toNat_natCast, List.getD_eq_getElem?_getD, hp]; rfl)
   obtain ⟨bB, oB, rfl, Xo, co, Yo, do_, o0, o1, o2, o3, o4, o5, o6, o7, hsa, _⟩ := (HS.out.ho.same HS2.out).at_ HOX.out
   obtain ⟨bA, oA, rfl, _, _, _, _, t2, _⟩ := (HS.out.ht.same HS2.out).at_ hp
   have T2 := Lib.hid t2
   have C0 := Lib.hid c0
   have C1 := Lib.hid c1
   have CW := Lib.hid (CL.out kw)
   rw [hkw] at HD o6
   clear ha hin hkw hkn hp t2 CL HWD o0 o1 o2 o3 o4 o5 o7
   go_wp2_with fail
   refine wp_region_held_drew (S := fun w' => Same w2 w') (by kernel_rfl) ?_ (fun hHeld => ?_)
   ·exact (Same.refl w2).drew
   refine Ro.tn 0 ?_ ?_ ?_
   rotate_left
   ·intro wS hSw; (try dsimp only at hSw); go_simp; try with_reducible rfl
   try simp only [Ro.p]
   refine Ro.tn 1 ?_ ?_ ?_
   rotate_left
   ·intro wS hSw; (try dsimp only at hSw); go_simp; try with_reducible rfl
   try simp only [Ro.p]
   refine Ro.tn 2 ?_ ?_ ?_
   rotate_left
   ·intro wS hSw; (try dsimp only at hSw); have z0 := hSw.cell C0.out; go_simp; try with_reducible rfl
   try simp only [Ro.p]
   refine Ro.tn 3 ?_ ?_ ?_
   rotate_left
   ·intro wS hSw; (try dsimp only at hSw); go_simp; try with_reducible rfl
   try simp only [Ro.p]
   refine Ro.tn 4 ?_ ?_ ?_
   rotate_left
   ·intro wS hSw; (try dsimp only at hSw); go_simp; try with_reducible rfl
   try simp only [Ro.p]
   refine Ro.tn 5 ?_ ?_ ?_
   rotate_left
   ·intro wS hSw; (try dsimp only at hSw); go_simp; try with_reducible rfl
   try simp only [Ro.p]
   refine Ro.tn 6 ?_ ?_ ?_
   rotate_left
   ·intro wS hSw; (try dsimp only at hSw); have z2 := hSw.cell T2.out; go_simp; try with_reducible rfl
   try simp only [Ro.p]
   refine Ro.tn 8 ?_ ?_ ?_
   rotate_left
   ·intro wS hSw; (try dsimp only at hSw); have z0 := hSw.cell C0.out; have z1 := hSw.cell C1.out; go_simp; try with_reducible rfl
   try simp only [Ro.p]
   refine Ro.tn 9 ?_ ?_ ?_
   rotate_left
   ·intro wS hSw; (try dsimp only at hSw); go_simp; try with_reducible rfl
   try simp only [Ro.p]
   refine Ro.tn 10 ?_ ?_ ?_
   rotate_left
   ·intro wS hSw; (try dsimp only at hSw); go_simp; try with_reducible rfl
   try simp only [Ro.p]
   refine Ro.one_on (i := 7) rfl (by kernel_rfl) (by rfl) (fun K hK => ?_)
   go_simp
   go_at_call 39
   refine (Wd.rceil _ _ br _).mono ?_
   rintro e w3 ⟨rfl, rfl⟩
   refine hK.out _ _ ?_ (fun hNew => ?_)
   ·exact hHeld
   clear hK K hHeld; have hHeld := hNew; clear hNew
   try simp only [Ro.p]
   refine Ro.one_on (i := 11) rfl (by kernel_rfl) (by rfl) (fun K hK => ?_)
   go_simp
   go_at_call 34
   refine (CW.out _ (HS2.out.trans hHeld)).mono ?_
   rintro e w4 ⟨rfl, s4⟩
   refine hK.out _ _ ?_ (fun hNew => ?_)
   ·exact hHeld.trans s4
   clear hK K hHeld; have hHeld := hNew; clear hNew
   try simp only [Ro.p]
   refine Ro.one_on (i := 12) rfl (by kernel_rfl) (by rfl) (fun K hK => ?_)
   go_simp
   go_at_call 38
   refine (Wd.rmul _ _ _).mono ?_
   rintro e w5 ⟨rfl, rfl⟩
   refine hK.out _ _ ?_ (fun hNew => ?_)
   ·exact hHeld
   clear hK K hHeld; have hHeld := hNew; clear hNew
   try simp only [Ro.p]
   refine Ro.tn 13 ?_ ?_ ?_
   rotate_left
   ·intro wS hSw; (try dsimp only at hSw); go_simp; try with_reducible rfl
   try simp only [Ro.p]
   refine wpAnyH_done (by kernel_rfl) ?_ _
   go_wp2_with fail
   go_ret
   exact ⟨ret_int (by rw [HD.out, HPT.out]), S0.out.trans (HS2.out.trans hHeld)⟩
end Go.Proofs.YthhbhbfkbncegaaGreatDoor.Sl
end
end
end
section
section
set_option linter.unusedVariables false
set_option linter.unusedSimpArgs false
namespace Go.Proofs.YthhbhbfkbncegaaGreatDoor.Sl
open Go.ChangeShapes Go.WideShapes Go.ChangeAt Go.RowKit Ws
open Im (PT PO PS TsAt OsAt SysAt tcells ocells)
open Dm (demI dearI dearE pI prgI wgtI)
open Go.Proofs.YthhbhbfkbncegaaGreatDoor.Wd (ret_bool ret_int)
def mostI (s : PS) (k : Nat) (p : PT) (fails : Int) : Int := if Fw.okB (pI p) = true then dearI s k fails else -1
set_option maxRecDepth 100000 in
set_option maxHeartbeats 4000000 in
theorem rmost36 (A B : Option Addr) (n c m d : Nat) (s : PS) (k : Nat) (p : PT) (fails : Int) (w : World) (hs : SysAt w A n B m s) (hp : s.ts[k]? = some p) (hle : p.code.length ≤ 200) (hfl : fails ≤ 100) :
  Calls Tryz.prog 43 #[.agg #[.slice A n c, .slice B m d], .int .i64 k, .int .i64 fails] w fun e w' => e = .returned (.int .i64 (mostI s k p fails)) ∧ Same w w' := by
 obtain ⟨w0, hw0⟩ : ∃ w0, w0 = w.alloc (.cells #[.slice A n c, .slice B m d] 25) := ⟨_, rfl⟩
 obtain ⟨g, hg⟩ : ∃ g, g = w.heap.size := ⟨_, rfl⟩
 have s0 : Same w w0 := hw0 ▸ (Same.refl w).alloc _
 have b0 : Blk w0 g 25 #[.slice A n c, .slice B m d] := by rw [hw0, hg]; exact Blk.new w _ _
 have HE0 := Lib.hid hw0
 have HG := Lib.hid hg
 have S0 := Lib.hid s0
 obtain ⟨c0, c1⟩ := (⟨b0.cell 0, b0.cell 1⟩ : _ ∧ _)
 simp only [Ws.q_] at c0 c1
 have k0 : (0 : Int) ≤ k := by omega
 have k1 : (k : Int) < n := by have := (List.getElem?_eq_some_iff.1 hp).1; have := hs.hn; omega
 have RW := Lib.hid (fun W (h : Same w0 W) => (Dm.rweights_any A B n c m d s k p fails W (hs.same (s0.trans h)) hp hle hfl).mono (fun e w' ⟨OA, oc, he, hr, hs'⟩ => (show ∃ OA oc, e = Ending.returned (.slice OA p.code.length oc) ∧ Row w' OA ((p.code.map (wgtI s fails)).map (Value.int .i64)) ∧ Same W w' from ⟨OA, oc, by rw [he, List.length_map], hr, hs'⟩)))
 obtain ⟨bA, oA, rfl, X, cX, _, _, _, _, _, _, t6, hcode, _⟩ := (hs.same s0).ht.at_ hp
 have FI := Lib.hid (Fw.rfine_any X p.code.length cX (pI p) w0 (by unfold pI; rw [List.length_map]) (by omega) (prgI hcode))
 have HCW := Lib.hid hcode
 have HDE := Lib.hid (show Fw.okB (pI p) = true → dearI s (k : Int) fails = Cs.weighW Cs.btG (pI p) (p.code.map (wgtI s fails)) from fun hok => by
  rw [(Dm.dear_in (fails := fails) hp).1, Dm.wl_in hp]
  unfold Cs.weI
  have e : Cs.weE (pI p) (p.code.map (wgtI s fails)).length = 0 := by
   unfold Cs.weE
   rw [if_pos (of_decide_eq_true hok), List.length_map, show (pI p).length = p.code.length by unfold pI; rw [List.length_map], if_pos rfl]
  rw [if_pos e]
  rfl)
 clear hw0 hg s0 b0 hs hp hcode
 go_enter Tryz.func43, Tryz.ntmps43
 go_upto_region 1 with fail
 rw [← HE0.out, ← HG.out]
 clear HE0 HG
 go_wp2_with fail
 refine FI.out.mono ?_
 rintro e w1 ⟨rfl, s1⟩
 have HS1 := Lib.hid s1
 cases hok : Fw.okB (pI p) with
 | false =>
  have HD := Lib.hid (show mostI s k p fails = -1 from if_neg (by rw [hok]; exact Bool.noConfusion))
  clear hok
  go_wp2_with fail
  go_ret
  exact ⟨ret_int HD.out.symm, S0.out.trans HS1.out⟩
 | true =>
  have HD := Lib.hid (show mostI s k p fails = Cs.weighW Cs.btG (pI p) (p.code.map (wgtI s fails)) from (if_pos hok).trans (HDE.out hok))
  have RM := Lib.hid (fun OA oc W (h : Same w1 W) (hr : Row W OA ((p.code.map (wgtI s fails)).map (Value.int .i64))) => Cs.rmost_any X p.code.length cX (pI p) OA oc (p.code.map (wgtI s fails)) W (by unfold pI; rw [List.length_map]) (prgI (HCW.out.same (HS1.out.trans h))) hr (by rw [List.length_map]) hok)
  have C0 := Lib.hid (s1.cell c0)
  have C1 := Lib.hid (s1.cell c1)
  have T6 := Lib.hid (s1.cell t6)
  clear hok HDE s1 c0 c1 t6 FI
  generalize Cs.weighW Cs.btG (pI p) (p.code.map (wgtI s fails)) = wv at *
  go_wp2_with fail
  refine wp_region_held_drew (S := fun w' => Same w1 w') (by kernel_rfl) ?_ (fun hHeld => ?_)
  ·exact (Same.refl w1).drew
  refine Ro.tn 0 ?_ ?_ ?_
  rotate_left
  ·intro wS hSw; (try dsimp only at hSw); go_simp; try with_reducible rfl
  try simp only [Ro.p]
  refine Ro.tn 1 ?_ ?_ ?_
  rotate_left
  ·intro wS hSw; (try dsimp only at hSw); have z0 := hSw.cell C0.out; go_simp; try with_reducible rfl
  try simp only [Ro.p]
  refine Ro.tn 2 ?_ ?_ ?_
  rotate_left
  ·intro wS hSw; (try dsimp only at hSw); go_simp; try with_reducible rfl
  try simp only [Ro.p]
  refine Ro.tn 3 ?_ ?_ ?_
  rotate_left
  ·intro wS hSw; (try dsimp only at hSw); go_simp; try with_reducible rfl
  try simp only [Ro.p]
  refine Ro.tn 4 ?_ ?_ ?_
  rotate_left
  ·intro wS hSw; (try dsimp only at hSw); go_simp; try with_reducible rfl
  try simp only [Ro.p]
  refine Ro.tn 5 ?_ ?_ ?_
  rotate_left
  ·intro wS hSw; (try dsimp only at hSw); have z6 := hSw.cell T6.out; go_simp; try with_reducible rfl
  try simp only [Ro.p]
  refine Ro.tn 6 ?_ ?_ ?_
  rotate_left
  ·intro wS hSw; (try dsimp only at hSw); have z0 := hSw.cell C0.out; have z1 := hSw.cell C1.out; go_simp; try with_reducible rfl
  try simp only [Ro.p]
  refine Ro.tn 7 ?_ ?_ ?_
  rotate_left
  ·intro wS hSw; (try dsimp only at hSw); go_simp; try with_reducible rfl
  try simp only [Ro.p]
  refine Ro.tn 8 ?_ ?_ ?_
  rotate_left
  ·intro wS hSw; (try dsimp only at hSw); go_simp; try with_reducible rfl
  try simp only [Ro.p]
  refine Ro.one_on (i := 9) rfl (by kernel_rfl) (by rfl) (fun K hK => ?_)
  go_simp
  go_at_call 68
  refine (RW.out _ (HS1.out.trans hHeld)).mono ?_
  rintro e w2 ⟨OA, oc, rfl, hro, s2⟩
  have HRO := Lib.hid hro
  clear hro
  refine hK.out _ _ ?_ (fun hNew => ?_)
  ·exact hHeld.trans s2
  clear hK K hHeld; have hHeld := hNew; clear hNew
  try simp only [Ro.p]
  have H12 := Lib.hid hHeld
  refine Ro.one_on (i := 10) rfl (by kernel_rfl) (by rfl) (fun K hK => ?_)
  go_simp
  go_at_call 58
  refine (RM.out OA oc _ H12.out HRO.out).mono ?_
  rintro e w3 ⟨rfl, s3⟩
  refine hK.out _ _ ?_ (fun hNew => ?_)
  ·exact hHeld.trans s3
  clear hK K hHeld; have hHeld := hNew; clear hNew
  try simp only [Ro.p]
  refine Ro.tn 11 ?_ ?_ ?_
  rotate_left
  ·intro wS hSw; (try dsimp only at hSw); go_simp; try with_reducible rfl
  try simp only [Ro.p]
  refine wpAnyH_done (by kernel_rfl) ?_ _
  go_wp2_with fail
  go_ret
  exact ⟨ret_int HD.out.symm, S0.out.trans (HS1.out.trans hHeld)⟩
end Go.Proofs.YthhbhbfkbncegaaGreatDoor.Sl
end
section
section
set_option linter.unusedVariables false
set_option linter.unusedSimpArgs false
namespace Go.Proofs.YthhbhbfkbncegaaGreatDoor.Sl
open Go.ChangeShapes Go.WideShapes Go.ChangeAt Go.RowKit Ws
open Im (PT PO PS TsAt OsAt SysAt tcells ocells)
open Go.Proofs.YthhbhbfkbncegaaGreatDoor.Wd (ret_bool ret_int)
set_option maxRecDepth 100000 in
set_option maxHeartbeats 4000000 in
theorem rfails37 (A B : Option Addr) (n c m d : Nat) (s : PS) (i k r : Int) (br : -9223372036854775808 ≤ r ∧ r ≤ 9223372036854775807) (hsl : ∀ o ∈ s.os, o.sl ≤ 9223372036854775807) (w : World) (hs : SysAt w A n B m s) (hnm : n ≤ maxLen ∧ m ≤ maxLen) (hf : ∀ p ∈ s.ts, p.code.length ≤ 200) (ho : Sy.OFew s.os 5000) :
  Calls Tryz.prog 17 #[.agg #[.slice A n c, .slice B m d], .int .i64 i, .int .i64 k, .int .i64 r] w fun e w' => e = .returned (.int .i64 (flR (ofR s i k) r)) ∧ Same w w' := by
 obtain ⟨w0, hw0⟩ : ∃ w0, w0 = w.alloc (.cells #[.slice A n c, .slice B m d] 25) := ⟨_, rfl⟩
 obtain ⟨g, hg⟩ : ∃ g, g = w.heap.size := ⟨_, rfl⟩
 have s0 : Same w w0 := hw0 ▸ (Same.refl w).alloc _
 have b0 : Blk w0 g 25 #[.slice A n c, .slice B m d] := by rw [hw0, hg]; exact Blk.new w _ _
 have HE0 := Lib.hid hw0
 have HG := Lib.hid hg
 have S0 := Lib.hid s0
 have HS := Lib.hid (hs.same s0)
 obtain ⟨c0, c1⟩ := (⟨b0.cell 0, b0.cell 1⟩ : _ ∧ _)
 simp only [Ws.q_] at c0 c1
 have RW := Lib.hid (rwrites37 A B n c m d s i k r br w0 (hs.same s0) hnm hf ho)
 have HD := Lib.hid (fl_doc s i k r)
 have HZ := Lib.hid (show readsP s i k = false → wrR (ofR s i k) r = 0 from fun h => by rw [of_no h, wr_zero])
 have hnb := wr_bd (ofR s i k) r
 clear hw0 hg s0 b0 hs hf ho
 go_enter Tryz.func17, Tryz.ntmps17
 go_upto_region 1 with fail
 rw [← HE0.out, ← HG.out]
 clear HE0 HG
 generalize hN : wrR (ofR s i k) r = N at *
 go_wp2_with fail
 refine RW.out.mono ?_
 rintro e w1 ⟨rfl, s1⟩
 have HS1 := Lib.hid s1
 have c0 := s1.cell c0
 have c1 := s1.cell c1
 clear s1 RW hN
 by_cases hn0 : N = 0
 ·have HV := Lib.hid (show flR (ofR s i k) r = 0 from HD.out.trans (if_pos (.inl hn0)))
  have e0 : (N == 0) = true := by simpa using hn0
  clear hn0 HD HZ
  go_wp2_with fail
  go_ret
  exact ⟨ret_int HV.out.symm, S0.out.trans HS1.out⟩
 ·have e0 : (N == 0) = false := by simpa using hn0
  obtain ⟨k0, k1⟩ : 0 ≤ k ∧ k < s.os.length := by
   cases h : readsP s i k with
   | false => exact absurd (HZ.out h) hn0
   | true => exact (reads_in h).2
  obtain ⟨kk, rfl⟩ : ∃ kk : Nat, k = kk := ⟨k.toNat, by omega⟩
  obtain ⟨o, hox⟩ : ∃ o, s.os[kk]? = some o := ⟨s.os[kk]'(by omega), List.getElem?_eq_getElem _⟩
  have HOB := Lib.hid (show obj s kk = o by unfold obj; rw [Int.toNat_natCast, List.getD_eq_getElem?_getD, hox]; rfl)
  have k2 : (kk : Int) < m := by have := HS.out.hm; omega
  have hsl := hsl o (List.mem_of_getElem? hox)
  obtain ⟨bB, oB, rfl, Xo, co, Yo, do_, o0, o1, o2, o3, o4, o5, o6, o7, hsa, _⟩ := (HS.out.ho.same HS1.out).at_ hox
  rw [HOB.out] at HD
  clear hox HZ o1 o3 o4 o5 o6 o7
  by_cases h3 : o.k = 3
  ·have HV := Lib.hid (show flR (ofR s i (kk : Int)) r = N by rw [HD.out, if_neg (by omega), if_neg (by omega)])
   have f3 : (o.k != 3) = false := by simpa using h3
   have f4 : (o.k == 4) = false := by simp; omega
   clear h3 HD
   go_wp2_with fail
   go_ret
   exact ⟨ret_int HV.out.symm, S0.out.trans HS1.out⟩
  ·have f3 : (o.k != 3) = true := by simpa using h3
   by_cases h5 : o.k = 5
   ·have HV := Lib.hid (show flR (ofR s i (kk : Int)) r = N by rw [HD.out, if_neg (by omega), if_neg (by omega)])
    have f5 : (o.k != 5) = false := by simpa using h5
    have f4 : (o.k == 4) = false := by simp; omega
    clear h3 h5 HD
    go_wp2_with fail
    go_ret
    exact ⟨ret_int HV.out.symm, S0.out.trans HS1.out⟩
   ·have f5 : (o.k != 5) = true := by simpa using h5
    by_cases h4 : o.k = 4
    ·have f4 : (o.k == 4) = true := by simpa using h4
     have g4 : (o.k != 4) = false := by simpa using h4
     by_cases h2 : 2 < o.sl
     ·obtain ⟨p, hp⟩ : ∃ p, p = o.sl - 1 := ⟨_, rfl⟩
      have hp0 : ¬ p = 0 := by omega
      have hpw : IntKind.i64.wrap (o.sl - 1) = p := by rw [hp]; exact Go.IntWalk.i64_in _ (by omega)
      have HV := Lib.hid (show flR (ofR s i (kk : Int)) r = N / p by rw [HD.out, if_neg (by omega), if_pos ⟨h4, h2⟩, hp])
      have hdb : 0 ≤ N / p ∧ N / p ≤ N := ⟨Int.ediv_nonneg hnb.1 (by omega), Int.ediv_le_self _ hnb.1⟩
      have hdw : IntKind.i64.wrap (N.tdiv p) = N / p := by rw [Int.tdiv_eq_ediv_of_nonneg hnb.1]; exact Go.IntWalk.i64_in _ (by omega)
      clear h3 h5 h4 HD hp hdb hn0
      go_wp2_with fail
      go_ret
      exact ⟨ret_int HV.out.symm, S0.out.trans HS1.out⟩
     ·have HV := Lib.hid (show flR (ofR s i (kk : Int)) r = N by rw [HD.out, if_neg (by omega), if_neg (by omega)])
      clear h3 h5 h4 HD
      go_wp2_with fail
      go_ret
      exact ⟨ret_int HV.out.symm, S0.out.trans HS1.out⟩
    ·have f4 : (o.k == 4) = false := by simpa using h4
     have g4 : (o.k != 4) = true := by simpa using h4
     have HV := Lib.hid (show flR (ofR s i (kk : Int)) r = 0 by rw [HD.out, if_pos (.inr ⟨h3, h5, h4⟩)])
     clear h3 h5 h4 HD
     go_wp2_with fail
     go_ret
     exact ⟨ret_int HV.out.symm, S0.out.trans HS1.out⟩
end Go.Proofs.YthhbhbfkbncegaaGreatDoor.Sl
end
section
set_option linter.unusedVariables false
set_option linter.unusedSimpArgs false
namespace Go.Proofs.YthhbhbfkbncegaaGreatDoor.Sl
open Go.ChangeShapes Go.WideShapes Go.ChangeAt Go.RowKit Ws
open Im (PT PO PS TsAt OsAt SysAt tcells ocells)
open Dm (demI dearI dearE pI prgI wgtI)
open Go.Proofs.YthhbhbfkbncegaaGreatDoor.Wd (ret_bool ret_int)
theorem job_out {s : PS} {i r : Int} (h : i < 0 ∨ (s.ts.length : Int) ≤ i) : jobI s i r = 0 := if_neg (by rw [(Dm.dear_out (fails := 0) h).2]; decide)
theorem most_no {s : PS} {k : Nat} {p : PT} (hp : s.ts[k]? = some p) (h : Fw.okB (pI p) = false) (r : Int) : mostI s k p 0 = -1 ∧ jobI s k r = 0 := by
 refine ⟨if_neg (by rw [h]; exact Bool.noConfusion), if_neg ?_⟩
 rw [(Dm.dear_in (fails := 0) hp).2]
 have hc : ¬ Fw.ckE (pI p) = 0 := fun g => by unfold Fw.okB at h; rw [g] at h; cases h
 unfold Cs.weE
 rw [if_neg hc]
 exact hc
theorem most_yes {s : PS} {k : Nat} {p : PT} (hp : s.ts[k]? = some p) (h : Fw.okB (pI p) = true) (r : Int) : mostI s k p 0 = dearI s k 0 ∧ jobI s k r = stepsR (dearI s k 0) (jobL s k s.os.length) r := by
 refine ⟨if_pos h, if_pos ?_⟩
 rw [(Dm.dear_in (fails := 0) hp).2, Dm.wl_in hp]
 unfold Cs.weE
 rw [if_pos (of_decide_eq_true h), List.length_map, show (pI p).length = p.code.length by unfold pI; rw [List.length_map], if_pos rfl]
set_option maxRecDepth 100000 in
set_option maxHeartbeats 4000000 in
theorem rjob37 (A B : Option Addr) (n c m d : Nat) (s : PS) (i r : Int) (br : -9223372036854775808 ≤ r ∧ r ≤ 9223372036854775807) (hsl : ∀ o ∈ s.os, o.sl ≤ 9223372036854775807) (w : World) (hs : SysAt w A n B m s) (hnm : n ≤ maxLen ∧ m ≤ maxLen) (hf : ∀ p ∈ s.ts, p.code.length ≤ 200) (ho : Sy.OFew s.os 5000) :
  Calls Tryz.prog 19 #[.agg #[.slice A n c, .slice B m d], .int .i64 i, .int .i64 r] w fun e w' => e = .returned (.int .i64 (jobI s i r)) ∧ Same w w' := by
 have hmb : (m : Int) ≤ 9223372036854775807 := by unfold maxLen at hnm; omega
 obtain ⟨w0, hw0⟩ : ∃ w0, w0 = w.alloc (.cells #[.slice A n c, .slice B m d] 25) := ⟨_, rfl⟩
 obtain ⟨g, hg⟩ : ∃ g, g = w.heap.size := ⟨_, rfl⟩
 have s0 : Same w w0 := hw0 ▸ (Same.refl w).alloc _
 have b0 : Blk w0 g 25 #[.slice A n c, .slice B m d] := by rw [hw0, hg]; exact Blk.new w _ _
 have HE0 := Lib.hid hw0
 have HG := Lib.hid hg
 have S0 := Lib.hid s0
 have HS := Lib.hid (hs.same s0)
 have HF := Lib.hid hf
 obtain ⟨c0, c1⟩ := (⟨b0.cell 0, b0.cell 1⟩ : _ ∧ _)
 simp only [Ws.q_] at c0 c1
 have RF := Lib.hid (fun (j : Int) W (h : Same w0 W) => rfails37 A B n c m d s i j r br hsl W (hs.same (s0.trans h)) hnm hf ho)
 have RR := Lib.hid (fun (j : Int) W (h : Same w0 W) => rreads_any A B n c m d s i j W (hs.same (s0.trans h)) hnm hf ho)
 clear hw0 hg s0 b0 hs hf ho hsl
 go_enter Tryz.func19, Tryz.ntmps19
 go_upto_region 1 with fail
 rw [← HE0.out, ← HG.out]
 clear HE0 HG
 by_cases h1 : i < 0
 ·have HV := Lib.hid (show jobI s i r = 0 from job_out (.inl h1))
  go_wp2_with fail
  go_ret
  exact ⟨ret_int HV.out.symm, S0.out⟩
 by_cases h2 : i ≥ n
 ·have HV := Lib.hid (show jobI s i r = 0 from job_out (.inr (by rw [HS.out.hn]; exact h2)))
  go_wp2_with fail
  go_ret
  exact ⟨ret_int HV.out.symm, S0.out⟩
 obtain ⟨ki, rfl⟩ : ∃ ki : Nat, i = ki := ⟨i.toNat, by omega⟩
 obtain ⟨p, hp⟩ : ∃ p, s.ts[ki]? = some p := ⟨s.ts[ki]'(by have := HS.out.hn; omega), List.getElem?_eq_getElem _⟩
 have MO := Lib.hid (rmost36 A B n c m d s ki p 0 w0 HS.out hp (HF.out p (List.mem_of_getElem? hp)) (by omega))
 have HP := Lib.hid hp
 have hdb := dear_bd HS.out.ht (ki : Int) 0
 clear hp
 cases hok : Fw.okB (pI p) with
 | false =>
  obtain ⟨e1, e2⟩ := most_no HP.out hok r
  have HV := Lib.hid e2
  rw [e1] at MO
  clear e1 e2 hok
  go_wp2_with fail
  refine MO.out.mono ?_
  rintro e w1 ⟨rfl, s1⟩
  go_wp2_with fail
  go_ret
  exact ⟨ret_int HV.out.symm, S0.out.trans s1⟩
 | true =>
  obtain ⟨e1, e2⟩ := most_yes HP.out hok r
  have HV := Lib.hid e2
  rw [e1] at MO
  have HDB := Lib.hid hdb
  clear e1 e2 hok
  generalize dearI s (ki : Int) 0 = dv at *
  go_wp2_with fail
  refine MO.out.mono ?_
  rintro e w1 ⟨rfl, s1⟩
  have HS1 := Lib.hid s1
  have c0 := s1.cell c0
  have c1 := s1.cell c1
  clear s1 MO
  go_wp2_with fail
  go_loopg [7, 27] m (fun gk nv iv wx => ∃ j : Nat, j + gk = m ∧ iv = .int .i64 j ∧ nv = .int .i64 (stepsR dv (jobL s ki j) r) ∧ Same w1 wx)
  case atStart => exact ⟨0, by omega, rfl, rfl, Same.refl _⟩
  case round =>
   obtain ⟨j, hk, rfl, rfl, sx⟩ := hrel
   have HSX := Lib.hid sx
   have d0 := sx.cell c0
   have d1 := sx.cell c1
   clear sx c0 c1
   cases gk with
   | zero =>
    obtain rfl : j = m := by omega
    have hge : ¬ (j : Int) < (j : Int) := by omega
    go_wp2_with fail
    go_ret
    exact ⟨ret_int (by rw [HV.out, HS.out.hm]), S0.out.trans (HS1.out.trans HSX.out)⟩
   | succ GK =>
    have hlt : (j : Int) < m := by omega
    have hj0 : (0 : Int) ≤ j := by omega
    have HKK := Lib.hid hk
    obtain ⟨o, hox⟩ : ∃ o, s.os[j]? = some o := ⟨s.os[j]'(by have := HS.out.hm; omega), List.getElem?_eq_getElem _⟩
    have HOB := Lib.hid (show obj s j = o by unfold obj; rw [Int.toNat_natCast, List.getD_eq_getElem?_getD, hox]; rfl)
    obtain ⟨bB, oB, rfl, Xo, co, Yo, do_, o0, o1, o2, o3, o4, o5, o6, o7, hsa, _⟩ := (HS.out.ho.same (HS1.out.trans HSX.out)).at_ hox
    have FL := Lib.hid (fun W => Bd.rfail_any o.k o.wd o.sl o.cp o.sa o.ow Xo Yo o.ini.length co o.rd.length do_ 1 W hsa)
    have HOC := Lib.hid (Blk.new wr 34 #[.int .i64 o.k, .int .i64 o.wd, .int .i64 o.sl, .int .i64 o.cp, .int .u32 o.sa, .slice Xo o.ini.length co, .int .i64 o.ow, .slice Yo o.rd.length do_])
    have HX4 := Lib.hid (HSX.out.alloc (.cells #[.int .i64 o.k, .int .i64 o.wd, .int .i64 o.sl, .int .i64 o.cp, .int .u32 o.sa, .slice Xo o.ini.length co, .int .i64 o.ow, .slice Yo o.rd.length do_] 34))
    have HXR := Lib.hid ((Same.refl wr).alloc (.cells #[.int .i64 o.k, .int .i64 o.wd, .int .i64 o.sl, .int .i64 o.cp, .int .u32 o.sa, .slice Xo o.ini.length co, .int .i64 o.ow, .slice Yo o.rd.length do_] 34))
    have JN := Lib.hid (fun h => job_no (s := s) (i := (ki : Int)) (k := j) (r := r) HDB.out h)
    have JY := Lib.hid (fun h => job_yes (s := s) (i := (ki : Int)) (k := j) (r := r) (n := dv) h)
    rw [HOB.out] at JY
    clear hk hox
    generalize stepsR dv (jobL s (ki : Int) j) r = v at *
    go_upto_region 9 with fail
    generalize wr.alloc (.cells #[.int .i64 o.k, .int .i64 o.wd, .int .i64 o.sl, .int .i64 o.cp, .int .u32 o.sa, .slice Xo o.ini.length co, .int .i64 o.ow, .slice Yo o.rd.length do_] 34) = w4 at *
    generalize wr.heap.size = q4 at *
    have d0 := HXR.out.cell d0
    have d1 := HXR.out.cell d1
    clear o0 o1 o2 o3 o4 o5 o6 o7
    go_wp2_with fail
    refine (RR.out _ _ (HS1.out.trans HX4.out)).mono ?_
    rintro e w5 ⟨rfl, s5⟩
    have HS5 := Lib.hid (HS1.out.trans (HX4.out.trans s5))
    have HX5 := Lib.hid (HX4.out.trans s5)
    have HOC := Lib.hid (HOC.out.same s5)
    have C0 := Lib.hid (s5.cell d0)
    have C1 := Lib.hid (s5.cell d1)
    clear s5 d0 d1
    cases hrd : readsP s (ki : Int) (j : Int) with
    | false =>
     have HJ := Lib.hid (JN.out hrd)
     clear hrd
     go_wp2_with fail
     go_roundg GK
     case rel => exact ⟨j + 1, by have := HKK.out; omega, by go_num, by rw [HJ.out], HX5.out⟩
     case measure => omega
    | true =>
     have HJ := Lib.hid (JY.out hrd)
     clear hrd
     go_wp2_with fail
     refine wp_region_held_drew (S := fun w' => Same w5 w') (by kernel_rfl) ?_ (fun hHeld => ?_)
     ·exact (Same.refl w5).drew
     refine Ro.tn 0 ?_ ?_ ?_
     rotate_left
     ·intro wS hSw; (try dsimp only at hSw); go_simp; try with_reducible rfl
     try simp only [Ro.p]
     refine Ro.tn 1 ?_ ?_ ?_
     rotate_left
     ·intro wS hSw; (try dsimp only at hSw); have z0 := hSw.cell C0.out; have z1 := hSw.cell C1.out; go_simp; try with_reducible rfl
     try simp only [Ro.p]
     refine Ro.tn 2 ?_ ?_ ?_
     rotate_left
     ·intro wS hSw; (try dsimp only at hSw); go_simp; try with_reducible rfl
     try simp only [Ro.p]
     refine Ro.tn 3 ?_ ?_ ?_
     rotate_left
     ·intro wS hSw; (try dsimp only at hSw); go_simp; try with_reducible rfl
     try simp only [Ro.p]
     refine Ro.tn 4 ?_ ?_ ?_
     rotate_left
     ·intro wS hSw; (try dsimp only at hSw); go_simp; try with_reducible rfl
     try simp only [Ro.p]
     refine Ro.tn 6 ?_ ?_ ?_
     rotate_left
     ·intro wS hSw; (try dsimp only at hSw); obtain ⟨v0, v1, v2, v3, v4, v5, v6, v7⟩ := (⟨(HOC.out.same hSw).cell 0, (HOC.out.same hSw).cell 1, (HOC.out.same hSw).cell 2, (HOC.out.same hSw).cell 3, (HOC.out.same hSw).cell 4, (HOC.out.same hSw).cell 5, (HOC.out.same hSw).cell 6, (HOC.out.same hSw).cell 7⟩ : _ ∧ _ ∧ _ ∧ _ ∧ _ ∧ _ ∧ _ ∧ _); simp only [Ws.q_] at v0 v1 v2 v3 v4 v5 v6 v7; go_simp; try with_reducible rfl
     try simp only [Ro.p]
     refine Ro.one_on (i := 5) rfl (by kernel_rfl) (by rfl) (fun K hK => ?_)
     go_simp
     go_at_call 17
     refine (RF.out _ _ (HS5.out.trans hHeld)).mono ?_
     rintro e w6 ⟨rfl, s6⟩
     refine hK.out _ _ ?_ (fun hNew => ?_)
     ·exact hHeld.trans s6
     clear hK K hHeld; have hHeld := hNew; clear hNew
     try simp only [Ro.p]
     refine Ro.one_on (i := 7) rfl (by kernel_rfl) (by rfl) (fun K hK => ?_)
     go_simp
     go_at_call 45
     refine (FL.out _).mono ?_
     rintro e w7 ⟨rfl, s7⟩
     refine hK.out _ _ ?_ (fun hNew => ?_)
     ·exact hHeld.trans s7
     clear hK K hHeld; have hHeld := hNew; clear hNew
     try simp only [Ro.p]
     refine Ro.one_on (i := 8) rfl (by kernel_rfl) (by rfl) (fun K hK => ?_)
     go_simp
     go_at_call 38
     refine (Wd.rmul _ _ _).mono ?_
     rintro e w8 ⟨rfl, rfl⟩
     refine hK.out _ _ ?_ (fun hNew => ?_)
     ·exact hHeld
     clear hK K hHeld; have hHeld := hNew; clear hNew
     try simp only [Ro.p]
     refine Ro.one_on (i := 9) rfl (by kernel_rfl) (by rfl) (fun K hK => ?_)
     go_simp
     go_at_call 44
     refine (Wd.radd _ _ _).mono ?_
     rintro e w9 ⟨rfl, rfl⟩
     refine hK.out _ _ ?_ (fun hNew => ?_)
     ·exact hHeld
     clear hK K hHeld; have hHeld := hNew; clear hNew
     try simp only [Ro.p]
     refine Ro.tn 10 ?_ ?_ ?_
     rotate_left
     ·intro wS hSw; (try dsimp only at hSw); go_simp; try with_reducible rfl
     try simp only [Ro.p]
     refine wpAnyH_done (by kernel_rfl) ?_ _
     go_wp2_with fail
     go_roundg GK
     case rel => exact ⟨j + 1, by have := HKK.out; omega, by go_num, by rw [HJ.out]; rfl, HX5.out.trans hHeld⟩
     case measure => omega
end Go.Proofs.YthhbhbfkbncegaaGreatDoor.Sl
end
end
end
end
end
