/-

 Package demand (layer 36): how often a job of a task calls an object (calls, Writes, Reads).
-/
import Derived.Test.YthhbhbfkbncegaaGreatDoorDmdRow
import Derived.Test.YthhbhbfkbncegaaGreatDoorCstMost
import Derived.Deep.LoopGhost
set_option linter.unusedVariables false
set_option linter.unusedSimpArgs false
namespace Go.Proofs.YthhbhbfkbncegaaGreatDoor.Dm
open Go.ChangeShapes Go.WideShapes Go.ChangeAt Go.RowKit Ws
open Im (PT PO PS TsAt OsAt SysAt tcells ocells)
open Go.Proofs.YthhbhbfkbncegaaGreatDoor.Is (callB callV rightB)

def fpI (x : Im.Ins) : Fp.Ins := ⟨x.op, x.a, x.b, x.c, x.n⟩
def pI (p : PT) : List Fp.Ins := p.code.map fpI
theorem prgI {w : World} {A : Option Addr} {l : List Im.Ins} (h : Im.Code w A l) : Fw.Prg w A (l.map fpI) := by
 intro i x hx
 rw [List.getElem?_map] at hx
 cases hl : l[i]? with
 | none => rw [hl] at hx; cases hx
 | some y =>
  rw [hl] at hx
  simp only [Option.map_some, Option.some.injEq] at hx
  subst hx
  obtain ⟨h1, b, o, h2, h3⟩ := h i y hl
  exact ⟨h1, b, o, h2, h3⟩
/-- is it a call of the object k, of one of two kinds? -/
def cntI (k x y : Int) (i : Fp.Ins) : Int := if (rightB i.op i.a i.b i.c i.n && callB i.op) = true ∧ i.b = k ∧ (i.op = x ∨ i.op = y) then 1 else 0
def demI (s : PS) (i k x y : Int) : Int := if (0 ≤ i ∧ i < s.ts.length) ∧ (0 ≤ k ∧ k < s.os.length) then Cs.weI true (pI (s.ts.getD i.toNat default)) ((pI (s.ts.getD i.toNat default)).map (cntI k x y)) else 0
theorem dem_out {s : PS} {i k x y : Int} (h : (i < 0 ∨ (s.ts.length : Int) ≤ i) ∨ (k < 0 ∨ (s.os.length : Int) ≤ k)) : demI s i k x y = 0 := if_neg (by omega)
theorem dem_in {s : PS} {i k : Nat} {x y : Int} {p : PT} (h : s.ts[i]? = some p) (hk : k < s.os.length) : demI s i k x y = Cs.weI true (pI p) ((pI p).map (cntI k x y)) := by
 have hi : i < s.ts.length := (List.getElem?_eq_some_iff.1 h).1
 unfold demI
 rw [if_pos (by omega), Int.toNat_natCast, List.getD_eq_getElem?_getD, h]
 rfl
theorem own_nil (w : World) (B : Nat) (e : TypeId) : Ws.Own w B e none 0 [] := ⟨by simp, .inl ⟨rfl, rfl⟩⟩
theorem int_inf : (Tryz.prog.info? 3).map (fun i => (i.zero, i.size, i.bytes)) = some (some (.int .i64 0), 1, 8) := by kernel_rfl
theorem own_low {w : World} {B : Nat} {e : TypeId} {A : Option Addr} {c : Nat} {l : List Value} (h : Ws.Own w B e A c l) {g : Nat} (hA : A = some ⟨g, 0, none⟩) : B ≤ g := by
 subst hA
 rcases h.2 with ⟨h2, _⟩ | ⟨g2, cap, cur, hv, hb2, _⟩
 ·cases h2
 ·injection hv with hv
  injection hv with hv
  injection hv with hv
  omega
theorem take_snoc {α : Type} (l : List α) {j : Nat} {v : α} (h : l[j]? = some v) : l.take (j + 1) = l.take j ++ [v] := by
 rw [List.take_add_one, h]
 rfl
set_option maxRecDepth 100000 in
set_option maxHeartbeats 8000000 in
theorem calls_dem (A B : Option Addr) (n c m d : Nat) (s : PS) (i k x y : Int) (g : Nat) (w : World) (hs : SysAt w A n B m s) (hnm : n ≤ maxLen ∧ m ≤ maxLen) (hf : ∀ p ∈ s.ts, p.code.length ≤ 200) (hg0 : w.cell? ⟨g, 0, none⟩ = some (.int .i64 x)) (hg1 : w.cell? ⟨g, 1, none⟩ = some (.int .i64 y)) (hT : Is.Tabs w) :
 Calls Tryz.prog 84 #[.agg #[.slice A n c, .slice B m d], .int .i64 i, .int .i64 k, .slice (some ⟨g, 0, none⟩) 2 2] w fun e w' => e = .returned (.int .i64 (demI s i k x y)) ∧ Same w w' := by
 obtain ⟨i0, hi, hz0, hz1, hz2⟩ := info_parts int_inf
 obtain ⟨w0, hw0⟩ : ∃ w0, w0 = w.alloc (.cells #[.slice A n c, .slice B m d] 25) := ⟨_, rfl⟩
 have s0 : Same w w0 := hw0 ▸ (Same.refl w).alloc _
 have b0 : Blk w0 w.heap.size 25 #[.slice A n c, .slice B m d] := hw0 ▸ Blk.new w _ _
 have HE0 := Lib.hid hw0
 have HS := Lib.hid hs
 have HF := Lib.hid hf
 have HT := Lib.hid hT
 have HG0 := Lib.hid hg0
 have HG1 := Lib.hid hg1
 have c0 := b0.cell 0
 have c1 := b0.cell 1
 simp only [Ws.q_] at c0 c1
 have S0 := Lib.hid s0
 have B0 := Lib.hid b0
 have RT := Lib.hid (rowt_any A n c s.ts i w0 (hs.ht.same s0) hs.hn)
 have RO := Lib.hid (fun W (h : Same w W) => rowo_any B m d s.os k W (hs.ho.same h) hs.hm)
 clear hw0 s0 b0 hs hf hT hg0 hg1
 go_enter Tryz.func84, Tryz.ntmps84
 go_wp2_with fail
 rw [← HE0.out]
 clear HE0
 refine RT.out.mono ?_
 rintro e w1 ⟨s1, ht⟩
 have S1 := Lib.hid s1
 have B1 := Lib.hid (B0.out.same s1)
 clear s1 RT B0 c0 c1
 rcases ht with ⟨ki, p, X, cX, rfl, hp, hcode, hlen, rfl⟩ | ⟨hout, rfl⟩
 ·have HCW := Lib.hid hcode
  have HP := Lib.hid hp
  have HLE := Lib.hid (HF.out p (List.mem_of_getElem? hp))
  clear hcode hp hlen
  have HS2 := Lib.hid (S1.out.alloc (.cells #[.int .i64 p.kind, .int .i64 p.prio, .int .i64 p.per, .int .i64 p.off, .int .i64 p.dl, .int .i64 p.own, .slice X p.code.length cX] 47))
  have HQ2 := Lib.hid (Blk.new w1 47 #[.int .i64 p.kind, .int .i64 p.prio, .int .i64 p.per, .int .i64 p.off, .int .i64 p.dl, .int .i64 p.own, .slice X p.code.length cX])
  have HB2 := Lib.hid (B1.out.same ((Same.refl w1).alloc (.cells #[.int .i64 p.kind, .int .i64 p.prio, .int .i64 p.per, .int .i64 p.off, .int .i64 p.dl, .int .i64 p.own, .slice X p.code.length cX] 47)))
  go_upto_region 2 with fail
  generalize w1.alloc (.cells #[.int .i64 p.kind, .int .i64 p.prio, .int .i64 p.per, .int .i64 p.off, .int .i64 p.dl, .int .i64 p.own, .slice X p.code.length cX] 47) = w2 at *
  generalize w1.heap.size = q1 at *
  have c1 := HB2.out.cell 1
  simp only [Ws.q_] at c1
  have RO2 := Lib.hid (RO.out w2 (S0.out.trans HS2.out))
  clear RO
  go_wp2_with fail
  refine RO2.out.mono ?_
  rintro e w3 ⟨s3, ho⟩
  have HS3 := Lib.hid (HS2.out.trans s3)
  have HQ3 := Lib.hid (HQ2.out.same s3)
  clear s3 RO2 HB2 c1 HS2 HQ2 S1 B1
  rcases ho with ⟨kk, o, Xo, co, Yo, do_, rfl, hok, _, rfl⟩ | ⟨hout, rfl⟩
  ·have HD := Lib.hid (dem_in (x := x) (y := y) HP.out (List.getElem?_eq_some_iff.1 hok).1)
   clear hok
   have HS4 := Lib.hid (HS3.out.alloc (.cells #[.int .i64 o.k, .int .i64 o.wd, .int .i64 o.sl, .int .i64 o.cp, .int .u32 o.sa, .slice Xo o.ini.length co, .int .i64 o.ow, .slice Yo o.rd.length do_] 34))
   have HQ4 := Lib.hid (HQ3.out.same ((Same.refl w3).alloc (.cells #[.int .i64 o.k, .int .i64 o.wd, .int .i64 o.sl, .int .i64 o.cp, .int .u32 o.sa, .slice Xo o.ini.length co, .int .i64 o.ow, .slice Yo o.rd.length do_] 34)))
   go_upto_region 3 with fail
   generalize w3.alloc (.cells #[.int .i64 o.k, .int .i64 o.wd, .int .i64 o.sl, .int .i64 o.cp, .int .u32 o.sa, .slice Xo o.ini.length co, .int .i64 o.ow, .slice Yo o.rd.length do_] 34) = w4 at *
   clear HQ3 HS3
   have HLE2 := HLE.out
   have z6 := HQ4.out.cell 6
   simp only [Ws.q_] at z6
   obtain ⟨CN, hCN⟩ : ∃ CN : Im.Ins → Value, CN = fun i => Value.int .i64 (cntI kk x y (fpI i)) := ⟨_, rfl⟩
   have HCN := Lib.hid (fun i => (show Value.int .i64 (cntI kk x y (fpI i)) = CN i by rw [hCN]))
   obtain ⟨b4, hb4⟩ : ∃ b4, b4 = w4.heap.size := ⟨_, rfl⟩
   have HB4 := Lib.hid hb4
   clear hb4
   have HLN := Lib.hid (show (p.code.map CN) = ((pI p).map (cntI kk x y)).map (Value.int .i64) by rw [hCN]; unfold pI; rw [List.map_map, List.map_map]; rfl)
   clear hCN
   go_wp2_with fail
   go_loopg [13, 45] p.code.length (fun gk lv iv wx => ∃ (j : Nat) (A' : Option Addr) (c' : Nat), j + gk = p.code.length ∧ iv = .int .i64 j ∧ lv = .slice A' j c' ∧ Ws.Own wx b4 3 A' c' ((p.code.map CN).take j) ∧ Same w4 wx)
   case atStart => exact ⟨0, none, 0, by omega, rfl, rfl, own_nil _ _ _, Same.refl _⟩
   case round =>
    obtain ⟨j, A', c', hk, rfl, rfl, ho, sx⟩ := hrel
    have HO := Lib.hid ho
    have HSX := Lib.hid sx
    have HSW := Lib.hid (HS4.out.trans sx)
    clear ho sx
    cases gk with
    | zero =>
     obtain rfl : j = p.code.length := by omega
     have hge : ¬ (p.code.length : Int) < (p.code.length : Int) := by omega
     have z6' := HSX.out.cell z6
     have HR := Lib.hid (show Row wr A' (((pI p).map (cntI kk x y)).map (Value.int .i64)) from by rw [← HLN.out]; have := HO.out.row; rwa [show p.code.length = (p.code.map CN).length from (List.length_map ..).symm, List.take_length] at this)
     have MO := Lib.hid (Cs.most_any X p.code.length cX (pI p) A' p.code.length c' ((pI p).map (cntI kk x y)) wr (by unfold pI; rw [List.length_map]) (by omega) (prgI (HCW.out.same HSW.out)) HR.out (by unfold pI; rw [List.length_map, List.length_map]) (HT.out.same (S0.out.trans HSW.out)))
     clear z6
     have HDD := Lib.hid HD.out.symm
     clear HD
     generalize Cs.weI true (pI p) ((pI p).map (cntI kk x y)) = wv at *
     generalize Cs.weE (pI p) ((pI p).map (cntI kk x y)).length = we at *
     go_wp2_with fail
     refine MO.out.mono ?_
     rintro e w5 ⟨rfl, s5⟩
     go_wp2_with fail
     go_ret
     exact ⟨by rw [← HDD.out]; rfl, S0.out.trans (HSW.out.trans s5)⟩
    | succ GK =>
     have hlt : (j : Int) < p.code.length := by omega
     have hj0 : (0 : Int) ≤ j := by omega
     have HJL := Lib.hid (show j < p.code.length by omega)
     have HJK := Lib.hid hk
     clear hk
     obtain ⟨xj, hxj⟩ : ∃ xj, p.code[j]? = some xj := ⟨p.code[j], List.getElem?_eq_getElem HJL.out⟩
     have HJ := Lib.hid hxj
     clear hxj
     obtain ⟨hxn, bX, oX, rfl, y0, y1, y2, y3, y4⟩ := (HCW.out.same HSW.out).at_ HJ.out
     have CAL := Lib.hid (fun W (h : Same w0 W) => (show Calls Tryz.prog 105 #[.agg #[.int .i64 xj.op, .int .i64 xj.a, .int .i64 xj.b, .int .i64 xj.c, .int .u32 xj.n]] W fun e w' => e = (if rightB xj.op xj.a xj.b xj.c xj.n && callB xj.op then Is.ret3b xj.b (callV xj.op) true else Is.ret3b 0 0 false) ∧ Same W w' from Is.calls_any xj.op xj.a xj.b xj.c xj.n hxn W (HT.out.same (S0.out.trans h))))
     have HW5 := Lib.hid (HSW.out.alloc (.cells #[.int .i64 xj.op, .int .i64 xj.a, .int .i64 xj.b, .int .i64 xj.c, .int .u32 xj.n] 70))
     have HQ5 := Lib.hid (Blk.new wr 70 #[.int .i64 xj.op, .int .i64 xj.a, .int .i64 xj.b, .int .i64 xj.c, .int .u32 xj.n])
     have HO5 := Lib.hid (HO.out.same ((Same.refl wr).alloc (.cells #[.int .i64 xj.op, .int .i64 xj.a, .int .i64 xj.b, .int .i64 xj.c, .int .u32 xj.n] 70)))
     have HX5 := Lib.hid (HSX.out.alloc (.cells #[.int .i64 xj.op, .int .i64 xj.a, .int .i64 xj.b, .int .i64 xj.c, .int .u32 xj.n] 70))
     go_upto_region 10 with fail
     generalize wr.alloc (.cells #[.int .i64 xj.op, .int .i64 xj.a, .int .i64 xj.b, .int .i64 xj.c, .int .u32 xj.n] 70) = w5 at *
     generalize wr.heap.size = q5 at *
     obtain ⟨v0, v1, v2, v3, v4⟩ := (⟨HQ5.out.cell 0, HQ5.out.cell 1, HQ5.out.cell 2, HQ5.out.cell 3, HQ5.out.cell 4⟩ : _ ∧ _ ∧ _ ∧ _ ∧ _)
     simp only [Ws.q_] at v0 v1 v2 v3 v4
     have CAL5 := Lib.hid (CAL.out w5 HW5.out)
     clear CAL y0 y1 y2 y3 y4 z6 HSX HSW
     generalize hR : (rightB xj.op xj.a xj.b xj.c xj.n && callB xj.op) = R at *
     have HRR := Lib.hid hR
     clear hR
     go_wp2_with fail
     refine CAL5.out.mono ?_
     rintro e w7 ⟨he, s7⟩
     have HO7 := Lib.hid (HO5.out.same s7)
     have HS7 := Lib.hid (HX5.out.trans s7)
     have HSG := Lib.hid (HW5.out.trans s7)
     have u0 := s7.cell v0
     clear s7 v0 v1 v2 v3 v4 CAL5 HX5 HW5 HO5
     cases R with
     | false =>
      rw [if_neg Bool.false_ne_true] at he
      unfold Is.ret3b at he
      subst he
      have HV := Lib.hid (show cntI kk x y (fpI xj) = 0 from by unfold cntI fpI; simp only; rw [HRR.out]; simp)
      go_wp2_with (at_builtin; go_loud (refine wpList_app rfl (.tmp 67) (.tmp 69) 32 rfl b4 3 i0 _ 8 Tryz.underlying32 hi hz0 hz1 hz2 rfl A' j c' ((p.code.map CN).take j) rfl ?c1 (HO7.out.same ((Same.refl _).alloc _)) _ 1 1 [.int .i64 0] rfl rfl (row_new _ _ _) ?c2 ?c3 (by omega) ?c4 ?_))
      case c1 => rw [List.length_take, List.length_map]; have := HJL.out; omega
      case c2 => intro u hu; simp at hu; subst hu; rfl
      case c3 => rw [List.length_take, List.length_map]; simp; omega
      case c4 => have := HB4.out; have := HS7.out.size; simp; omega
      intro A2 c2' w8 ho2 hc2 _
      have HS8 := Lib.hid (Same.more (HS7.out.alloc _) hc2 (fun g hg => by have := own_low HO.out hg; have := HB4.out; omega))
      rw [show (p.code.map CN).take j ++ [.int .i64 0] = (p.code.map CN).take (j + 1) from by rw [take_snoc (p.code.map CN) (v := CN xj) (by rw [List.getElem?_map, HJ.out]; rfl), ← HCN.out, HV.out]] at ho2
      have HO8 := Lib.hid ho2
      clear ho2 hc2
      go_wp2_with fail
      go_roundg GK
      case rel => exact ⟨j + 1, A2, c2', by have := HJK.out; omega, by go_num, rfl, HO8.out, HS8.out⟩
      case measure => omega
     | true =>
      rw [if_pos rfl] at he
      unfold Is.ret3b at he
      subst he
      by_cases hbk : xj.b = (kk : Int)
      ·have ebk : (xj.b == (kk : Int)) = true := by simpa using hbk
       have HBK := Lib.hid hbk
       clear hbk
       have HAS := Lib.hid (has_two g x y xj.op w7 ((S0.out.trans HSG.out).cell HG0.out) ((S0.out.trans HSG.out).cell HG1.out))
       go_wp2_with fail
       refine HAS.out.mono ?_
       rintro e w7 ⟨rfl, rfl⟩
       by_cases hxy : xj.op = x ∨ xj.op = y
       ·rw [decide_eq_true hxy]
        have HXY := Lib.hid hxy
        clear hxy
        have HV := Lib.hid (show cntI kk x y (fpI xj) = 1 from by unfold cntI fpI; simp only; rw [HRR.out, if_pos ⟨rfl, HBK.out, HXY.out⟩])
        go_wp2_with (at_builtin; go_loud (refine wpList_app rfl (.tmp 67) (.tmp 69) 32 rfl b4 3 i0 _ 8 Tryz.underlying32 hi hz0 hz1 hz2 rfl A' j c' ((p.code.map CN).take j) rfl ?c1 (HO7.out.same ((Same.refl _).alloc _)) _ 1 1 [.int .i64 1] rfl rfl (row_new _ _ _) ?c2 ?c3 (by omega) ?c4 ?_))
        case c1 => rw [List.length_take, List.length_map]; have := HJL.out; omega
        case c2 => intro u hu; simp at hu; subst hu; rfl
        case c3 => rw [List.length_take, List.length_map]; simp; omega
        case c4 => have := HB4.out; have := HS7.out.size; simp; omega
        intro A2 c2' w8 ho2 hc2 _
        have HS8 := Lib.hid (Same.more (HS7.out.alloc _) hc2 (fun g hg => by have := own_low HO.out hg; have := HB4.out; omega))
        rw [show (p.code.map CN).take j ++ [.int .i64 1] = (p.code.map CN).take (j + 1) from by rw [take_snoc (p.code.map CN) (v := CN xj) (by rw [List.getElem?_map, HJ.out]; rfl), ← HCN.out, HV.out]] at ho2
        have HO8 := Lib.hid ho2
        clear ho2 hc2
        go_wp2_with fail
        go_roundg GK
        case rel => exact ⟨j + 1, A2, c2', by have := HJK.out; omega, by go_num, rfl, HO8.out, HS8.out⟩
        case measure => omega
       ·rw [decide_eq_false hxy]
        have HXY := Lib.hid hxy
        clear hxy
        have HV := Lib.hid (show cntI kk x y (fpI xj) = 0 from by unfold cntI fpI; simp only; rw [if_neg (fun h => HXY.out h.2.2)])
        go_wp2_with (at_builtin; go_loud (refine wpList_app rfl (.tmp 67) (.tmp 69) 32 rfl b4 3 i0 _ 8 Tryz.underlying32 hi hz0 hz1 hz2 rfl A' j c' ((p.code.map CN).take j) rfl ?c1 (HO7.out.same ((Same.refl _).alloc _)) _ 1 1 [.int .i64 0] rfl rfl (row_new _ _ _) ?c2 ?c3 (by omega) ?c4 ?_))
        case c1 => rw [List.length_take, List.length_map]; have := HJL.out; omega
        case c2 => intro u hu; simp at hu; subst hu; rfl
        case c3 => rw [List.length_take, List.length_map]; simp; omega
        case c4 => have := HB4.out; have := HS7.out.size; simp; omega
        intro A2 c2' w8 ho2 hc2 _
        have HS8 := Lib.hid (Same.more (HS7.out.alloc _) hc2 (fun g hg => by have := own_low HO.out hg; have := HB4.out; omega))
        rw [show (p.code.map CN).take j ++ [.int .i64 0] = (p.code.map CN).take (j + 1) from by rw [take_snoc (p.code.map CN) (v := CN xj) (by rw [List.getElem?_map, HJ.out]; rfl), ← HCN.out, HV.out]] at ho2
        have HO8 := Lib.hid ho2
        clear ho2 hc2
        go_wp2_with fail
        go_roundg GK
        case rel => exact ⟨j + 1, A2, c2', by have := HJK.out; omega, by go_num, rfl, HO8.out, HS8.out⟩
        case measure => omega
      ·have ebk : (xj.b == (kk : Int)) = false := by simpa using hbk
       have HBK := Lib.hid hbk
       clear hbk
       have HV := Lib.hid (show cntI kk x y (fpI xj) = 0 from by unfold cntI fpI; simp only; rw [if_neg (fun h => HBK.out h.2.1)])
       go_wp2_with (at_builtin; go_loud (refine wpList_app rfl (.tmp 67) (.tmp 69) 32 rfl b4 3 i0 _ 8 Tryz.underlying32 hi hz0 hz1 hz2 rfl A' j c' ((p.code.map CN).take j) rfl ?c1 (HO7.out.same ((Same.refl _).alloc _)) _ 1 1 [.int .i64 0] rfl rfl (row_new _ _ _) ?c2 ?c3 (by omega) ?c4 ?_))
       case c1 => rw [List.length_take, List.length_map]; have := HJL.out; omega
       case c2 => intro u hu; simp at hu; subst hu; rfl
       case c3 => rw [List.length_take, List.length_map]; simp; omega
       case c4 => have := HB4.out; have := HS7.out.size; simp; omega
       intro A2 c2' w8 ho2 hc2 _
       have HS8 := Lib.hid (Same.more (HS7.out.alloc _) hc2 (fun g hg => by have := own_low HO.out hg; have := HB4.out; omega))
       rw [show (p.code.map CN).take j ++ [.int .i64 0] = (p.code.map CN).take (j + 1) from by rw [take_snoc (p.code.map CN) (v := CN xj) (by rw [List.getElem?_map, HJ.out]; rfl), ← HCN.out, HV.out]] at ho2
       have HO8 := Lib.hid ho2
       clear ho2 hc2
       go_wp2_with fail
       go_roundg GK
       case rel => exact ⟨j + 1, A2, c2', by have := HJK.out; omega, by go_num, rfl, HO8.out, HS8.out⟩
       case measure => omega
  ·have HD := Lib.hid (show demI s (ki : Int) k x y = 0 from dem_out (.inr hout))
   clear hout
   have HS4 := Lib.hid (HS3.out.alloc (.cells #[.int .i64 0, .int .i64 0, .int .i64 0, .int .i64 0, .int .u32 0, .slice none 0 0, .int .i64 0, .slice none 0 0] 34))
   have HQ4 := Lib.hid (HQ3.out.same ((Same.refl w3).alloc (.cells #[.int .i64 0, .int .i64 0, .int .i64 0, .int .i64 0, .int .u32 0, .slice none 0 0, .int .i64 0, .slice none 0 0] 34)))
   go_upto_region 3 with fail
   generalize w3.alloc (.cells #[.int .i64 0, .int .i64 0, .int .i64 0, .int .i64 0, .int .u32 0, .slice none 0 0, .int .i64 0, .slice none 0 0] 34) = w4 at *
   clear HQ3 HS3
   go_wp2_with fail
   go_ret
   exact ⟨by rw [HD.out]; rfl, S0.out.trans HS4.out⟩
 ·have HD := Lib.hid (show demI s i k x y = 0 from dem_out (.inl hout))
  clear hout
  have HS2 := Lib.hid (S1.out.alloc (.cells #[.int .i64 0, .int .i64 0, .int .i64 0, .int .i64 0, .int .i64 0, .int .i64 0, .slice none 0 0] 47))
  have HQ2 := Lib.hid (Blk.new w1 47 #[.int .i64 0, .int .i64 0, .int .i64 0, .int .i64 0, .int .i64 0, .int .i64 0, .slice none 0 0])
  have HB2 := Lib.hid (B1.out.same ((Same.refl w1).alloc (.cells #[.int .i64 0, .int .i64 0, .int .i64 0, .int .i64 0, .int .i64 0, .int .i64 0, .slice none 0 0] 47)))
  go_upto_region 2 with fail
  generalize w1.alloc (.cells #[.int .i64 0, .int .i64 0, .int .i64 0, .int .i64 0, .int .i64 0, .int .i64 0, .slice none 0 0] 47) = w2 at *
  generalize w1.heap.size = q1 at *
  have c1 := HB2.out.cell 1
  simp only [Ws.q_] at c1
  have RO2 := Lib.hid (RO.out w2 (S0.out.trans HS2.out))
  clear RO
  go_wp2_with fail
  refine RO2.out.mono ?_
  rintro e w3 ⟨s3, ho⟩
  have HS3 := Lib.hid (HS2.out.trans s3)
  have HQ3 := Lib.hid (HQ2.out.same s3)
  clear s3 RO2 HB2 c1 HS2 HQ2 S1 B1
  rcases ho with ⟨kk, o, Xo, co, Yo, do_, rfl, hok, _, rfl⟩ | ⟨hout, rfl⟩
  ·clear hok
   have HS4 := Lib.hid (HS3.out.alloc (.cells #[.int .i64 o.k, .int .i64 o.wd, .int .i64 o.sl, .int .i64 o.cp, .int .u32 o.sa, .slice Xo o.ini.length co, .int .i64 o.ow, .slice Yo o.rd.length do_] 34))
   have HQ4 := Lib.hid (HQ3.out.same ((Same.refl w3).alloc (.cells #[.int .i64 o.k, .int .i64 o.wd, .int .i64 o.sl, .int .i64 o.cp, .int .u32 o.sa, .slice Xo o.ini.length co, .int .i64 o.ow, .slice Yo o.rd.length do_] 34)))
   go_upto_region 3 with fail
   generalize w3.alloc (.cells #[.int .i64 o.k, .int .i64 o.wd, .int .i64 o.sl, .int .i64 o.cp, .int .u32 o.sa, .slice Xo o.ini.length co, .int .i64 o.ow, .slice Yo o.rd.length do_] 34) = w4 at *
   clear HQ3 HS3
   go_wp2_with fail
   go_ret
   exact ⟨by rw [HD.out]; rfl, S0.out.trans HS4.out⟩
  ·clear hout
   have HS4 := Lib.hid (HS3.out.alloc (.cells #[.int .i64 0, .int .i64 0, .int .i64 0, .int .i64 0, .int .u32 0, .slice none 0 0, .int .i64 0, .slice none 0 0] 34))
   have HQ4 := Lib.hid (HQ3.out.same ((Same.refl w3).alloc (.cells #[.int .i64 0, .int .i64 0, .int .i64 0, .int .i64 0, .int .u32 0, .slice none 0 0, .int .i64 0, .slice none 0 0] 34)))
   go_upto_region 3 with fail
   generalize w3.alloc (.cells #[.int .i64 0, .int .i64 0, .int .i64 0, .int .i64 0, .int .u32 0, .slice none 0 0, .int .i64 0, .slice none 0 0] 34) = w4 at *
   clear HQ3 HS3
   go_wp2_with fail
   go_ret
   exact ⟨by rw [HD.out]; rfl, S0.out.trans HS4.out⟩
end Go.Proofs.YthhbhbfkbncegaaGreatDoor.Dm
