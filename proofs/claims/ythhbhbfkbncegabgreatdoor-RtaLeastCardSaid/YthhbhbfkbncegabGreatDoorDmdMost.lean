/-

 Package demand (layer 36): Clean and Whole of any system's task; the chapter's example.
-/
import Derived.Test.YthhbhbfkbncegabGreatDoorCstWeigh
import Derived.Test.YthhbhbfkbncegabGreatDoorFlowAwake
import Derived.Test.YthhbhbfkbncegabGreatDoorDmdRow
import Derived.Deep.LoopGhost
import Derived.Test.YthhbhbfkbncegabGreatDoorBoundOf
import Derived.Test.YthhbhbfkbncegabGreatDoorRegionOff
section
section
set_option linter.unusedVariables false
set_option linter.unusedSimpArgs false
namespace Go.Proofs.YthhbhbfkbncegabGreatDoor.Cs
open Go.ChangeShapes Go.WideShapes Go.ChangeAt Go.RowKit Ws
open Go.Proofs.YthhbhbfkbncegabGreatDoor.Fp (Ins at_ Fine at_some lp loopsL nextL hasB)
open Go.Proofs.YthhbhbfkbncegabGreatDoor.Fw (Prg Spn spanCells spn_of)

theorem wei_bad {mx : Bool} {p : List Ins} {ws : List Int} (h : ¬ weE p ws.length = 0) : weI mx p ws = 0 := if_neg h
theorem weigh_any (mx : Bool) (A : Option Addr) (m c : Nat) (p : List Ins) (Wt : Option Addr) (wn cW : Nat) (ws : List Int) (w : World) (hl : p.length = m) (hm : m ≤ 5000) (hp : Prg w A p) (hW : Row w Wt (ws.map (Value.int .i64))) (hwl : ws.length = wn) (hT : Is.Tabs w) :
 Calls Tryz.prog 89 #[.agg #[.slice A m c, .slice Wt wn cW, fvB mx, .slice none 0 0, .slice none 0 0]] w fun e w' => e = .returned (.tuple #[.int .i64 (weI mx p ws), .int .i64 (weE p ws.length)]) ∧ Same w w' := by
 have hfc : (fvB mx).cells = #[fvB mx] := by cases mx <;> rfl
 have CK := fun W (s : Same w W) => Fw.check_any A m c p W hl hm (hp.same s) (hT.same s)
 cases hok : Fw.okB p with
 | true =>
  have hck : Fw.ckE p = 0 := of_decide_eq_true hok
  by_cases hwm : wn = m
  ·subst hwm
   have h := weigh_ok' mx A wn c p Wt cW ws w hl hm hp hW hwl hT hok
   have he : weE p ws.length = 0 := by unfold weE; rw [if_pos hck, hwl, hl, if_pos rfl]
   have hi : weI mx p ws = weighW (btB mx) p ws := by unfold weI; rw [if_pos he]
   rw [hi, he]
   exact h
  ·have he : weE p ws.length = 1 := by unfold weE; rw [if_pos hck, hwl, hl, if_neg hwm]
   rw [wei_bad (by rw [he]; omega), he]
   rw [hck] at CK
   have HCK := Lib.hid CK
   have hne : ((wn : Int) != (m : Int)) = true := by simp; omega
   have hne2 : ¬ wn = m := hwm
   have S0 := Lib.hid ((Same.refl w).alloc (.cells #[.slice A m c, .slice Wt wn cW, fvB mx, .slice none 0 0, .slice none 0 0] 109))
   have B0 := Lib.hid (Blk.new w 109 #[.slice A m c, .slice Wt wn cW, fvB mx, .slice none 0 0, .slice none 0 0])
   clear CK hok hck he hp hW hT hl hwl hwm
   go_enter Tryz.func89, Tryz.ntmps89
   go_wp2_with fail
   generalize w.alloc (.cells #[.slice A m c, .slice Wt wn cW, fvB mx, .slice none 0 0, .slice none 0 0] 109) = w0 at *
   generalize w.heap.size = q at *
   refine (HCK.out _ S0.out).mono ?_
   rintro e w1 ⟨rfl, s1⟩
   have c0 : w1.cell? ⟨q, 0, none⟩ = some (.slice A m c) := (B0.out.same s1).cell 0
   have c1 : w1.cell? ⟨q, 1, none⟩ = some (.slice Wt wn cW) := (B0.out.same s1).cell 1
   have S1 := Lib.hid (S0.out.trans s1)
   clear s1
   go_wp2_with fail
   go_ret2
   exact ⟨rfl, S1.out⟩
 | false =>
  have hck : ¬ Fw.ckE p = 0 := fun h => by unfold Fw.okB at hok; rw [h] at hok; cases hok
  have he : weE p ws.length = Fw.ckE p := by unfold weE; rw [if_neg hck]
  rw [wei_bad (by rw [he]; exact hck), he]
  have HCK := Lib.hid CK
  have hne : (Fw.ckE p != 0) = true := by simpa using hck
  have S0 := Lib.hid ((Same.refl w).alloc (.cells #[.slice A m c, .slice Wt wn cW, fvB mx, .slice none 0 0, .slice none 0 0] 109))
  have B0 := Lib.hid (Blk.new w 109 #[.slice A m c, .slice Wt wn cW, fvB mx, .slice none 0 0, .slice none 0 0])
  clear CK hok hck he hp hW hT hl hwl
  generalize Fw.ckE p = ce at *
  generalize Fw.ckI p = ci at *
  go_enter Tryz.func89, Tryz.ntmps89
  go_wp2_with fail
  generalize w.alloc (.cells #[.slice A m c, .slice Wt wn cW, fvB mx, .slice none 0 0, .slice none 0 0] 109) = w0 at *
  generalize w.heap.size = q at *
  refine (HCK.out _ S0.out).mono ?_
  rintro e w1 ⟨rfl, s1⟩
  have S1 := Lib.hid (S0.out.trans s1)
  clear s1
  go_wp2_with fail
  go_ret2
  exact ⟨rfl, S1.out⟩
theorem most_any (A : Option Addr) (m c : Nat) (p : List Ins) (Wt : Option Addr) (wn cW : Nat) (ws : List Int) (w : World) (hl : p.length = m) (hm : m ≤ 5000) (hp : Prg w A p) (hW : Row w Wt (ws.map (Value.int .i64))) (hwl : ws.length = wn) (hT : Is.Tabs w) :
 Calls Tryz.prog 75 #[.slice A m c, .slice Wt wn cW] w fun e w' => e = .returned (.tuple #[.int .i64 (weI true p ws), .int .i64 (weE p ws.length)]) ∧ Same w w' := by
 have WG := Lib.hid (show Calls Tryz.prog 89 #[.agg #[.slice A m c, .slice Wt wn cW, .func (.func 90) #[] #[], .slice none 0 0, .slice none 0 0]] w fun e w' => e = .returned (.tuple #[.int .i64 (weI true p ws), .int .i64 (weE p ws.length)]) ∧ Same w w' from weigh_any true A m c p Wt wn cW ws w hl hm hp hW hwl hT)
 clear hl hm hp hW hwl hT
 generalize weI true p ws = iv at *
 generalize weE p ws.length = ev at *
 go_enter Tryz.func75, Tryz.ntmps75
 go_wp2_with fail
 refine WG.out.mono ?_
 rintro e w1 ⟨rfl, s1⟩
 have HS := Lib.hid s1
 clear s1
 go_wp2_with fail
 go_ret2
 exact ⟨rfl, HS.out⟩
end Go.Proofs.YthhbhbfkbncegabGreatDoor.Cs
end
section
set_option linter.unusedVariables false
set_option linter.unusedSimpArgs false
namespace Go.Proofs.YthhbhbfkbncegabGreatDoor.Dm
open Go.ChangeShapes Go.WideShapes Go.ChangeAt Go.RowKit Ws
open Im (PT PO PS TsAt OsAt SysAt tcells ocells)
open Go.Proofs.YthhbhbfkbncegabGreatDoor.Is (callB callV rightB)

def fpI (x : Im.Ins) : Fp.Ins := ⟨x.op, x.a, x.b, x.c, x.n⟩
def pI (p : PT) : List Fp.Ins := p.code.map fpI
theorem prgI {w : World} {A : Option Addr} {l : List Im.Ins} (h : Im.Code w A l) : Fw.Prg w A (l.map fpI) := by
 intro i x hx
 rw [List.getElem?_map] at hx
 cases hl : l[i]? with
 | none => rw [hl] at hx; cases hx
 | some y =>
  rw [hl] at hx
  simp only [Option.map_some, Option.some.injEq] at hx
  subst hx
  obtain ⟨h1, b, o, h2, h3⟩ := h i y hl
  exact ⟨h1, b, o, h2, h3⟩
/-- is it a call of the object k, of one of two kinds? -/
def cntI (k x y : Int) (i : Fp.Ins) : Int := if (rightB i.op i.a i.b i.c i.n && callB i.op) = true ∧ i.b = k ∧ (i.op = x ∨ i.op = y) then 1 else 0
def demI (s : PS) (i k x y : Int) : Int := if (0 ≤ i ∧ i < s.ts.length) ∧ (0 ≤ k ∧ k < s.os.length) then Cs.weI true (pI (s.ts.getD i.toNat default)) ((pI (s.ts.getD i.toNat default)).map (cntI k x y)) else 0
theorem dem_out {s : PS} {i k x y : Int} (h : (i < 0 ∨ (s.ts.length : Int) ≤ i) ∨ (k < 0 ∨ (s.os.length : Int) ≤ k)) : demI s i k x y = 0 := if_neg (by omega)
theorem dem_in {s : PS} {i k : Nat} {x y : Int} {p : PT} (h : s.ts[i]? = some p) (hk : k < s.os.length) : demI s i k x y = Cs.weI true (pI p) ((pI p).map (cntI k x y)) := by
 have hi : i < s.ts.length := (List.getElem?_eq_some_iff.1 h).1
 unfold demI
 rw [if_pos (by omega), Int.toNat_natCast, List.getD_eq_getElem?_getD, h]
 rfl
theorem own_nil (w : World) (B : Nat) (e : TypeId) : Ws.Own w B e none 0 [] := ⟨by simp, .inl ⟨rfl, rfl⟩⟩
theorem int_inf : (Tryz.prog.info? 3).map (fun i => (i.zero, i.size, i.bytes)) = some (some (.int .i64 0), 1, 8) := by kernel_rfl
theorem own_low {w : World} {B : Nat} {e : TypeId} {A : Option Addr} {c : Nat} {l : List Value} (h : Ws.Own w B e A c l) {g : Nat} (hA : A = some ⟨g, 0, none⟩) : B ≤ g := by
 subst hA
 rcases h.2 with ⟨h2, _⟩ | ⟨g2, cap, cur, hv, hb2, _⟩
 ·cases h2
 ·injection hv with hv
  injection hv with hv
  injection hv with hv
  omega
theorem take_snoc {α : Type} (l : List α) {j : Nat} {v : α} (h : l[j]? = some v) : l.take (j + 1) = l.take j ++ [v] := by
 rw [List.take_add_one, h]
 rfl
set_option maxRecDepth 100000 in
set_option maxHeartbeats 8000000 in
theorem calls_dem (A B : Option Addr) (n c m d : Nat) (s : PS) (i k x y : Int) (g : Nat) (w : World) (hs : SysAt w A n B m s) (hnm : n ≤ maxLen ∧ m ≤ maxLen) (hf : ∀ p ∈ s.ts, p.code.length ≤ 200) (hg0 : w.cell? ⟨g, 0, none⟩ = some (.int .i64 x)) (hg1 : w.cell? ⟨g, 1, none⟩ = some (.int .i64 y)) (hT : Is.Tabs w) :
 Calls Tryz.prog 70 #[.agg #[.slice A n c, .slice B m d], .int .i64 i, .int .i64 k, .slice (some ⟨g, 0, none⟩) 2 2] w fun e w' => e = .returned (.int .i64 (demI s i k x y)) ∧ Same w w' := by
 obtain ⟨i0, hi, hz0, hz1, hz2⟩ := info_parts int_inf
 obtain ⟨w0, hw0⟩ : ∃ w0, w0 = w.alloc (.cells #[.slice A n c, .slice B m d] 25) := ⟨_, rfl⟩
 have s0 : Same w w0 := hw0 ▸ (Same.refl w).alloc _
 have b0 : Blk w0 w.heap.size 25 #[.slice A n c, .slice B m d] := hw0 ▸ Blk.new w _ _
 have HE0 := Lib.hid hw0
 have HS := Lib.hid hs
 have HF := Lib.hid hf
 have HT := Lib.hid hT
 have HG0 := Lib.hid hg0
 have HG1 := Lib.hid hg1
 have c0 := b0.cell 0
 have c1 := b0.cell 1
 simp only [Ws.q_] at c0 c1
 have S0 := Lib.hid s0
 have B0 := Lib.hid b0
 have RT := Lib.hid (rowt_any A n c s.ts i w0 (hs.ht.same s0) hs.hn)
 have RO := Lib.hid (fun W (h : Same w W) => rowo_any B m d s.os k W (hs.ho.same h) hs.hm)
 clear hw0 s0 b0 hs hf hT hg0 hg1
 go_enter Tryz.func70, Tryz.ntmps70
 go_wp2_with fail
 rw [← HE0.out]
 clear HE0
 refine RT.out.mono ?_
 rintro e w1 ⟨s1, ht⟩
 have S1 := Lib.hid s1
 have B1 := Lib.hid (B0.out.same s1)
 clear s1 RT B0 c0 c1
 rcases ht with ⟨ki, p, X, cX, rfl, hp, hcode, hlen, rfl⟩ | ⟨hout, rfl⟩
 ·have HCW := Lib.hid hcode
  have HP := Lib.hid hp
  have HLE := Lib.hid (HF.out p (List.mem_of_getElem? hp))
  clear hcode hp hlen
  have HS2 := Lib.hid (S1.out.alloc (.cells #[.int .i64 p.kind, .int .i64 p.prio, .int .i64 p.per, .int .i64 p.off, .int .i64 p.dl, .int .i64 p.own, .slice X p.code.length cX] 30))
  have HQ2 := Lib.hid (Blk.new w1 30 #[.int .i64 p.kind, .int .i64 p.prio, .int .i64 p.per, .int .i64 p.off, .int .i64 p.dl, .int .i64 p.own, .slice X p.code.length cX])
  have HB2 := Lib.hid (B1.out.same ((Same.refl w1).alloc (.cells #[.int .i64 p.kind, .int .i64 p.prio, .int .i64 p.per, .int .i64 p.off, .int .i64 p.dl, .int .i64 p.own, .slice X p.code.length cX] 30)))
  go_upto_region 2 with fail
  generalize w1.alloc (.cells #[.int .i64 p.kind, .int .i64 p.prio, .int .i64 p.per, .int .i64 p.off, .int .i64 p.dl, .int .i64 p.own, .slice X p.code.length cX] 30) = w2 at *
  generalize w1.heap.size = q1 at *
  have c1 := HB2.out.cell 1
  simp only [Ws.q_] at c1
  have RO2 := Lib.hid (RO.out w2 (S0.out.trans HS2.out))
  clear RO
  go_wp2_with fail
  refine RO2.out.mono ?_
  rintro e w3 ⟨s3, ho⟩
  have HS3 := Lib.hid (HS2.out.trans s3)
  have HQ3 := Lib.hid (HQ2.out.same s3)
  clear s3 RO2 HB2 c1 HS2 HQ2 S1 B1
  rcases ho with ⟨kk, o, Xo, co, Yo, do_, rfl, hok, _, rfl⟩ | ⟨hout, rfl⟩
  ·have HD := Lib.hid (dem_in (x := x) (y := y) HP.out (List.getElem?_eq_some_iff.1 hok).1)
   clear hok
   have HS4 := Lib.hid (HS3.out.alloc (.cells #[.int .i64 o.k, .int .i64 o.wd, .int .i64 o.sl, .int .i64 o.cp, .int .u32 o.sa, .slice Xo o.ini.length co, .int .i64 o.ow, .slice Yo o.rd.length do_] 43))
   have HQ4 := Lib.hid (HQ3.out.same ((Same.refl w3).alloc (.cells #[.int .i64 o.k, .int .i64 o.wd, .int .i64 o.sl, .int .i64 o.cp, .int .u32 o.sa, .slice Xo o.ini.length co, .int .i64 o.ow, .slice Yo o.rd.length do_] 43)))
   go_upto_region 3 with fail
   generalize w3.alloc (.cells #[.int .i64 o.k, .int .i64 o.wd, .int .i64 o.sl, .int .i64 o.cp, .int .u32 o.sa, .slice Xo o.ini.length co, .int .i64 o.ow, .slice Yo o.rd.length do_] 43) = w4 at *
   clear HQ3 HS3
   have HLE2 := HLE.out
   have z6 := HQ4.out.cell 6
   simp only [Ws.q_] at z6
   obtain ⟨CN, hCN⟩ : ∃ CN : Im.Ins → Value, CN = fun i => Value.int .i64 (cntI kk x y (fpI i)) := ⟨_, rfl⟩
   have HCN := Lib.hid (fun i => (show Value.int .i64 (cntI kk x y (fpI i)) = CN i by rw [hCN]))
   obtain ⟨b4, hb4⟩ : ∃ b4, b4 = w4.heap.size := ⟨_, rfl⟩
   have HB4 := Lib.hid hb4
   clear hb4
   have HLN := Lib.hid (show (p.code.map CN) = ((pI p).map (cntI kk x y)).map (Value.int .i64) by rw [hCN]; unfold pI; rw [List.map_map, List.map_map]; rfl)
   clear hCN
   go_wp2_with fail
   go_loopg [13, 45] p.code.length (fun gk lv iv wx => ∃ (j : Nat) (A' : Option Addr) (c' : Nat), j + gk = p.code.length ∧ iv = .int .i64 j ∧ lv = .slice A' j c' ∧ Ws.Own wx b4 3 A' c' ((p.code.map CN).take j) ∧ Same w4 wx)
   case atStart => exact ⟨0, none, 0, by omega, rfl, rfl, own_nil _ _ _, Same.refl _⟩
   case round =>
    obtain ⟨j, A', c', hk, rfl, rfl, ho, sx⟩ := hrel
    have HO := Lib.hid ho
    have HSX := Lib.hid sx
    have HSW := Lib.hid (HS4.out.trans sx)
    clear ho sx
    cases gk with
    | zero =>
     obtain rfl : j = p.code.length := by omega
     have hge : ¬ (p.code.length : Int) < (p.code.length : Int) := by omega
     have z6' := HSX.out.cell z6
     have HR := Lib.hid (show Row wr A' (((pI p).map (cntI kk x y)).map (Value.int .i64)) from by rw [← HLN.out]; have := HO.out.row; rwa [show p.code.length = (p.code.map CN).length from (List.length_map ..).symm, List.take_length] at this)
     have MO := Lib.hid (Cs.most_any X p.code.length cX (pI p) A' p.code.length c' ((pI p).map (cntI kk x y)) wr (by unfold pI; rw [List.length_map]) (by omega) (prgI (HCW.out.same HSW.out)) HR.out (by unfold pI; rw [List.length_map, List.length_map]) (HT.out.same (S0.out.trans HSW.out)))
     clear z6
     have HDD := Lib.hid HD.out.symm
     clear HD
     generalize Cs.weI true (pI p) ((pI p).map (cntI kk x y)) = wv at *
     generalize Cs.weE (pI p) ((pI p).map (cntI kk x y)).length = we at *
     go_wp2_with fail
     refine MO.out.mono ?_
     rintro e w5 ⟨rfl, s5⟩
     go_wp2_with fail
     go_ret
     exact ⟨by rw [← HDD.out]; rfl, S0.out.trans (HSW.out.trans s5)⟩
    | succ GK =>
     have hlt : (j : Int) < p.code.length := by omega
     have hj0 : (0 : Int) ≤ j := by omega
     have HJL := Lib.hid (show j < p.code.length by omega)
     have HJK := Lib.hid hk
     clear hk
     obtain ⟨xj, hxj⟩ : ∃ xj, p.code[j]? = some xj := ⟨p.code[j], List.getElem?_eq_getElem HJL.out⟩
     have HJ := Lib.hid hxj
     clear hxj
     obtain ⟨hxn, bX, oX, rfl, y0, y1, y2, y3, y4⟩ := (HCW.out.same HSW.out).at_ HJ.out
     have CAL := Lib.hid (fun W (h : Same w0 W) => (show Calls Tryz.prog 85 #[.agg #[.int .i64 xj.op, .int .i64 xj.a, .int .i64 xj.b, .int .i64 xj.c, .int .u32 xj.n]] W fun e w' => e = (if rightB xj.op xj.a xj.b xj.c xj.n && callB xj.op then Is.ret3b xj.b (callV xj.op) true else Is.ret3b 0 0 false) ∧ Same W w' from Is.calls_any xj.op xj.a xj.b xj.c xj.n hxn W (HT.out.same (S0.out.trans h))))
     have HW5 := Lib.hid (HSW.out.alloc (.cells #[.int .i64 xj.op, .int .i64 xj.a, .int .i64 xj.b, .int .i64 xj.c, .int .u32 xj.n] 49))
     have HQ5 := Lib.hid (Blk.new wr 49 #[.int .i64 xj.op, .int .i64 xj.a, .int .i64 xj.b, .int .i64 xj.c, .int .u32 xj.n])
     have HO5 := Lib.hid (HO.out.same ((Same.refl wr).alloc (.cells #[.int .i64 xj.op, .int .i64 xj.a, .int .i64 xj.b, .int .i64 xj.c, .int .u32 xj.n] 49)))
     have HX5 := Lib.hid (HSX.out.alloc (.cells #[.int .i64 xj.op, .int .i64 xj.a, .int .i64 xj.b, .int .i64 xj.c, .int .u32 xj.n] 49))
     go_upto_region 10 with fail
     generalize wr.alloc (.cells #[.int .i64 xj.op, .int .i64 xj.a, .int .i64 xj.b, .int .i64 xj.c, .int .u32 xj.n] 49) = w5 at *
     generalize wr.heap.size = q5 at *
     obtain ⟨v0, v1, v2, v3, v4⟩ := (⟨HQ5.out.cell 0, HQ5.out.cell 1, HQ5.out.cell 2, HQ5.out.cell 3, HQ5.out.cell 4⟩ : _ ∧ _ ∧ _ ∧ _ ∧ _)
     simp only [Ws.q_] at v0 v1 v2 v3 v4
     have CAL5 := Lib.hid (CAL.out w5 HW5.out)
     clear CAL y0 y1 y2 y3 y4 z6 HSX HSW
     generalize hR : (rightB xj.op xj.a xj.b xj.c xj.n && callB xj.op) = R at *
     have HRR := Lib.hid hR
     clear hR
     go_wp2_with fail
     refine CAL5.out.mono ?_
     rintro e w7 ⟨he, s7⟩
     have HO7 := Lib.hid (HO5.out.same s7)
     have HS7 := Lib.hid (HX5.out.trans s7)
     have HSG := Lib.hid (HW5.out.trans s7)
     have u0 := s7.cell v0
     clear s7 v0 v1 v2 v3 v4 CAL5 HX5 HW5 HO5
     cases R with
     | false =>
      rw [if_neg Bool.false_ne_true] at he
      unfold Is.ret3b at he
      subst he
      have HV := Lib.hid (show cntI kk x y (fpI xj) = 0 from by unfold cntI fpI; simp only; rw [HRR.out]; simp)
      go_wp2_with (at_builtin; go_loud (refine wpList_app rfl (.tmp 67) (.tmp 69) 26 rfl b4 3 i0 _ 8 Tryz.underlying26 hi hz0 hz1 hz2 rfl A' j c' ((p.code.map CN).take j) rfl ?c1 (HO7.out.same ((Same.refl _).alloc _)) _ 1 1 [.int .i64 0] rfl rfl (row_new _ _ _) ?c2 ?c3 (by omega) ?c4 ?_))
      case c1 => rw [List.length_take, List.length_map]; have := HJL.out; omega
      case c2 => intro u hu; simp at hu; subst hu; rfl
      case c3 => rw [List.length_take, List.length_map]; simp; omega
      case c4 => have := HB4.out; have := HS7.out.size; simp; omega
      intro A2 c2' w8 ho2 hc2 _
      have HS8 := Lib.hid (Same.more (HS7.out.alloc _) hc2 (fun g hg => by have := own_low HO.out hg; have := HB4.out; omega))
      rw [show (p.code.map CN).take j ++ [.int .i64 0] = (p.code.map CN).take (j + 1) from by rw [take_snoc (p.code.map CN) (v := CN xj) (by rw [List.getElem?_map, HJ.out]; rfl), ← HCN.out, HV.out]] at ho2
      have HO8 := Lib.hid ho2
      clear ho2 hc2
      go_wp2_with fail
      go_roundg GK
      case rel => exact ⟨j + 1, A2, c2', by have := HJK.out; omega, by go_num, rfl, HO8.out, HS8.out⟩
      case measure => omega
     | true =>
      rw [if_pos rfl] at he
      unfold Is.ret3b at he
      subst he
      by_cases hbk : xj.b = (kk : Int)
      ·have ebk : (xj.b == (kk : Int)) = true := by simpa using hbk
       have HBK := Lib.hid hbk
       clear hbk
       have HAS := Lib.hid (has_two g x y xj.op w7 ((S0.out.trans HSG.out).cell HG0.out) ((S0.out.trans HSG.out).cell HG1.out))
       go_wp2_with fail
       refine HAS.out.mono ?_
       rintro e w7 ⟨rfl, rfl⟩
       by_cases hxy : xj.op = x ∨ xj.op = y
       ·rw [decide_eq_true hxy]
        have HXY := Lib.hid hxy
        clear hxy
        have HV := Lib.hid (show cntI kk x y (fpI xj) = 1 from by unfold cntI fpI; simp only; rw [HRR.out, if_pos ⟨rfl, HBK.out, HXY.out⟩])
        go_wp2_with (at_builtin; go_loud (refine wpList_app rfl (.tmp 67) (.tmp 69) 26 rfl b4 3 i0 _ 8 Tryz.underlying26 hi hz0 hz1 hz2 rfl A' j c' ((p.code.map CN).take j) rfl ?c1 (HO7.out.same ((Same.refl _).alloc _)) _ 1 1 [.int .i64 1] rfl rfl (row_new _ _ _) ?c2 ?c3 (by omega) ?c4 ?_))
        case c1 => rw [List.length_take, List.length_map]; have := HJL.out; omega
        case c2 => intro u hu; simp at hu; subst hu; rfl
        case c3 => rw [List.length_take, List.length_map]; simp; omega
        case c4 => have := HB4.out; have := HS7.out.size; simp; omega
        intro A2 c2' w8 ho2 hc2 _
        have HS8 := Lib.hid (Same.more (HS7.out.alloc _) hc2 (fun g hg => by have := own_low HO.out hg; have := HB4.out; omega))
        rw [show (p.code.map CN).take j ++ [.int .i64 1] = (p.code.map CN).take (j + 1) from by rw [take_snoc (p.code.map CN) (v := CN xj) (by rw [List.getElem?_map, HJ.out]; rfl), ← HCN.out, HV.out]] at ho2
        have HO8 := Lib.hid ho2
        clear ho2 hc2
        go_wp2_with fail
        go_roundg GK
        case rel => exact ⟨j + 1, A2, c2', by have := HJK.out; omega, by go_num, rfl, HO8.out, HS8.out⟩
        case measure => omega
       ·rw [decide_eq_false hxy]
        have HXY := Lib.hid hxy
        clear hxy
        have HV := Lib.hid (show cntI kk x y (fpI xj) = 0 from by unfold cntI fpI; simp only; rw [if_neg (fun h => HXY.out h.2.2)])
        go_wp2_with (at_builtin; go_loud (refine wpList_app rfl (.tmp 67) (.tmp 69) 26 rfl b4 3 i0 _ 8 Tryz.underlying26 hi hz0 hz1 hz2 rfl A' j c' ((p.code.map CN).take j) rfl ?c1 (HO7.out.same ((Same.refl _).alloc _)) _ 1 1 [.int .i64 0] rfl rfl (row_new _ _ _) ?c2 ?c3 (by omega) ?c4 ?_))
        case c1 => rw [List.length_take, List.length_map]; have := HJL.out; omega
        case c2 => intro u hu; simp at hu; subst hu; rfl
        case c3 => rw [List.length_take, List.length_map]; simp; omega
        case c4 => have := HB4.out; have := HS7.out.size; simp; omega
        intro A2 c2' w8 ho2 hc2 _
        have HS8 := Lib.hid (Same.more (HS7.out.alloc _) hc2 (fun g hg => by have := own_low HO.out hg; have := HB4.out; omega))
        rw [show (p.code.map CN).take j ++ [.int .i64 0] = (p.code.map CN).take (j + 1) from by rw [take_snoc (p.code.map CN) (v := CN xj) (by rw [List.getElem?_map, HJ.out]; rfl), ← HCN.out, HV.out]] at ho2
        have HO8 := Lib.hid ho2
        clear ho2 hc2
        go_wp2_with fail
        go_roundg GK
        case rel => exact ⟨j + 1, A2, c2', by have := HJK.out; omega, by go_num, rfl, HO8.out, HS8.out⟩
        case measure => omega
      ·have ebk : (xj.b == (kk : Int)) = false := by simpa using hbk
       have HBK := Lib.hid hbk
       clear hbk
       have HV := Lib.hid (show cntI kk x y (fpI xj) = 0 from by unfold cntI fpI; simp only; rw [if_neg (fun h => HBK.out h.2.1)])
       go_wp2_with (at_builtin; go_loud (refine wpList_app rfl (.tmp 67) (.tmp 69) 26 rfl b4 3 i0 _ 8 Tryz.underlying26 hi hz0 hz1 hz2 rfl A' j c' ((p.code.map CN).take j) rfl ?c1 (HO7.out.same ((Same.refl _).alloc _)) _ 1 1 [.int .i64 0] rfl rfl (row_new _ _ _) ?c2 ?c3 (by omega) ?c4 ?_))
       case c1 => rw [List.length_take, List.length_map]; have := HJL.out; omega
       case c2 => intro u hu; simp at hu; subst hu; rfl
       case c3 => rw [List.length_take, List.length_map]; simp; omega
       case c4 => have := HB4.out; have := HS7.out.size; simp; omega
       intro A2 c2' w8 ho2 hc2 _
       have HS8 := Lib.hid (Same.more (HS7.out.alloc _) hc2 (fun g hg => by have := own_low HO.out hg; have := HB4.out; omega))
       rw [show (p.code.map CN).take j ++ [.int .i64 0] = (p.code.map CN).take (j + 1) from by rw [take_snoc (p.code.map CN) (v := CN xj) (by rw [List.getElem?_map, HJ.out]; rfl), ← HCN.out, HV.out]] at ho2
       have HO8 := Lib.hid ho2
       clear ho2 hc2
       go_wp2_with fail
       go_roundg GK
       case rel => exact ⟨j + 1, A2, c2', by have := HJK.out; omega, by go_num, rfl, HO8.out, HS8.out⟩
       case measure => omega
  ·have HD := Lib.hid (show demI s (ki : Int) k x y = 0 from dem_out (.inr hout))
   clear hout
   have HS4 := Lib.hid (HS3.out.alloc (.cells #[.int .i64 0, .int .i64 0, .int .i64 0, .int .i64 0, .int .u32 0, .slice none 0 0, .int .i64 0, .slice none 0 0] 43))
   have HQ4 := Lib.hid (HQ3.out.same ((Same.refl w3).alloc (.cells #[.int .i64 0, .int .i64 0, .int .i64 0, .int .i64 0, .int .u32 0, .slice none 0 0, .int .i64 0, .slice none 0 0] 43)))
   go_upto_region 3 with fail
   generalize w3.alloc (.cells #[.int .i64 0, .int .i64 0, .int .i64 0, .int .i64 0, .int .u32 0, .slice none 0 0, .int .i64 0, .slice none 0 0] 43) = w4 at *
   clear HQ3 HS3
   go_wp2_with fail
   go_ret
   exact ⟨by rw [HD.out]; rfl, S0.out.trans HS4.out⟩
 ·have HD := Lib.hid (show demI s i k x y = 0 from dem_out (.inl hout))
  clear hout
  have HS2 := Lib.hid (S1.out.alloc (.cells #[.int .i64 0, .int .i64 0, .int .i64 0, .int .i64 0, .int .i64 0, .int .i64 0, .slice none 0 0] 30))
  have HQ2 := Lib.hid (Blk.new w1 30 #[.int .i64 0, .int .i64 0, .int .i64 0, .int .i64 0, .int .i64 0, .int .i64 0, .slice none 0 0])
  have HB2 := Lib.hid (B1.out.same ((Same.refl w1).alloc (.cells #[.int .i64 0, .int .i64 0, .int .i64 0, .int .i64 0, .int .i64 0, .int .i64 0, .slice none 0 0] 30)))
  go_upto_region 2 with fail
  generalize w1.alloc (.cells #[.int .i64 0, .int .i64 0, .int .i64 0, .int .i64 0, .int .i64 0, .int .i64 0, .slice none 0 0] 30) = w2 at *
  generalize w1.heap.size = q1 at *
  have c1 := HB2.out.cell 1
  simp only [Ws.q_] at c1
  have RO2 := Lib.hid (RO.out w2 (S0.out.trans HS2.out))
  clear RO
  go_wp2_with fail
  refine RO2.out.mono ?_
  rintro e w3 ⟨s3, ho⟩
  have HS3 := Lib.hid (HS2.out.trans s3)
  have HQ3 := Lib.hid (HQ2.out.same s3)
  clear s3 RO2 HB2 c1 HS2 HQ2 S1 B1
  rcases ho with ⟨kk, o, Xo, co, Yo, do_, rfl, hok, _, rfl⟩ | ⟨hout, rfl⟩
  ·clear hok
   have HS4 := Lib.hid (HS3.out.alloc (.cells #[.int .i64 o.k, .int .i64 o.wd, .int .i64 o.sl, .int .i64 o.cp, .int .u32 o.sa, .slice Xo o.ini.length co, .int .i64 o.ow, .slice Yo o.rd.length do_] 43))
   have HQ4 := Lib.hid (HQ3.out.same ((Same.refl w3).alloc (.cells #[.int .i64 o.k, .int .i64 o.wd, .int .i64 o.sl, .int .i64 o.cp, .int .u32 o.sa, .slice Xo o.ini.length co, .int .i64 o.ow, .slice Yo o.rd.length do_] 43)))
   go_upto_region 3 with fail
   generalize w3.alloc (.cells #[.int .i64 o.k, .int .i64 o.wd, .int .i64 o.sl, .int .i64 o.cp, .int .u32 o.sa, .slice Xo o.ini.length co, .int .i64 o.ow, .slice Yo o.rd.length do_] 43) = w4 at *
   clear HQ3 HS3
   go_wp2_with fail
   go_ret
   exact ⟨by rw [HD.out]; rfl, S0.out.trans HS4.out⟩
  ·clear hout
   have HS4 := Lib.hid (HS3.out.alloc (.cells #[.int .i64 0, .int .i64 0, .int .i64 0, .int .i64 0, .int .u32 0, .slice none 0 0, .int .i64 0, .slice none 0 0] 43))
   have HQ4 := Lib.hid (HQ3.out.same ((Same.refl w3).alloc (.cells #[.int .i64 0, .int .i64 0, .int .i64 0, .int .i64 0, .int .u32 0, .slice none 0 0, .int .i64 0, .slice none 0 0] 43)))
   go_upto_region 3 with fail
   generalize w3.alloc (.cells #[.int .i64 0, .int .i64 0, .int .i64 0, .int .i64 0, .int .u32 0, .slice none 0 0, .int .i64 0, .slice none 0 0] 43) = w4 at *
   clear HQ3 HS3
   go_wp2_with fail
   go_ret
   exact ⟨by rw [HD.out]; rfl, S0.out.trans HS4.out⟩
end Go.Proofs.YthhbhbfkbncegabGreatDoor.Dm
end
end
section
section
set_option linter.unusedVariables false
set_option linter.unusedSimpArgs false
namespace Go.Proofs.YthhbhbfkbncegabGreatDoor.Dm
open Go.ChangeShapes Go.WideShapes Go.ChangeAt Go.RowKit Ws
open Im (PT PO PS TsAt OsAt SysAt tcells ocells)
open Go.Proofs.YthhbhbfkbncegabGreatDoor.Is (callB callV rightB)

def aftO (o : PO) (op fails : Int) : Int := Bd.afterI o.k o.wd o.sl o.cp o.sa o.ini.length o.rd.length op fails
def wgtI (s : PS) (fails : Int) (x : Im.Ins) : Int := if (rightB x.op x.a x.b x.c x.n && callB x.op) = true ∧ (0 ≤ x.b ∧ x.b < s.os.length) then max 1 (aftO (s.os.getD x.b.toNat default) (callV x.op) fails) else 1
theorem wgt_no {s : PS} {fails : Int} {x : Im.Ins} (h : (rightB x.op x.a x.b x.c x.n && callB x.op) = false ∨ (x.b < 0 ∨ (s.os.length : Int) ≤ x.b)) : wgtI s fails x = 1 := by
 unfold wgtI
 rw [if_neg]
 rintro ⟨h1, h2⟩
 rcases h with h | h
 ·rw [h] at h1; cases h1
 ·omega
theorem wgt_in {s : PS} {fails : Int} {x : Im.Ins} {k : Nat} {o : PO} (h : (rightB x.op x.a x.b x.c x.n && callB x.op) = true) (hk : x.b = k) (ho : s.os[k]? = some o) : wgtI s fails x = max 1 (aftO o (callV x.op) fails) := by
 have hl : k < s.os.length := (List.getElem?_eq_some_iff.1 ho).1
 unfold wgtI
 rw [if_pos ⟨h, by omega⟩, hk, Int.toNat_natCast, List.getD_eq_getElem?_getD, ho]
 rfl
set_option maxRecDepth 100000 in
set_option maxHeartbeats 4000000 in
theorem weight_any (A B : Option Addr) (n c m d : Nat) (s : PS) (x : Im.Ins) (fails : Int) (w : World) (ho : OsAt w B s.os) (hm : s.os.length = m) (hx : 0 ≤ x.n ∧ x.n < 4294967296) (hT : Is.Tabs w) :
 Calls Tryz.prog 91 #[.agg #[.slice A n c, .slice B m d], .agg #[.int .i64 x.op, .int .i64 x.a, .int .i64 x.b, .int .i64 x.c, .int .u32 x.n], .int .i64 fails] w fun e w' => e = .returned (.int .i64 (wgtI s fails x)) ∧ Same w w' := by
 obtain ⟨w0, hw0⟩ : ∃ w0, w0 = (w.alloc (.cells #[.slice A n c, .slice B m d] 25)).alloc (.cells #[.int .i64 x.op, .int .i64 x.a, .int .i64 x.b, .int .i64 x.c, .int .u32 x.n] 49) := ⟨_, rfl⟩
 have s0 : Same w w0 := hw0 ▸ ((Same.refl w).alloc _).alloc _
 have b0 : Blk w0 w.heap.size 25 #[.slice A n c, .slice B m d] := hw0 ▸ (Blk.new w _ _).same ((Same.refl _).alloc _)
 have b1 : Blk w0 (w.heap.size + 1) 49 #[.int .i64 x.op, .int .i64 x.a, .int .i64 x.b, .int .i64 x.c, .int .u32 x.n] := by
  have h := Blk.new (w.alloc (.cells #[.slice A n c, .slice B m d] 25)) 49 #[.int .i64 x.op, .int .i64 x.a, .int .i64 x.b, .int .i64 x.c, .int .u32 x.n]
  rw [hw0]
  simpa using h
 have CAL := Lib.hid (show Calls Tryz.prog 85 #[.agg #[.int .i64 x.op, .int .i64 x.a, .int .i64 x.b, .int .i64 x.c, .int .u32 x.n]] w0 fun e w' => e = (if rightB x.op x.a x.b x.c x.n && callB x.op then Is.ret3b x.b (callV x.op) true else Is.ret3b 0 0 false) ∧ Same w0 w' from Is.calls_any x.op x.a x.b x.c x.n hx w0 (hT.same s0))
 have RO := Lib.hid (fun (k : Int) W (h : Same w W) => rowo_any B m d s.os k W (ho.same h) hm)
 have S0 := Lib.hid s0
 have B0 := Lib.hid b0
 have HE := Lib.hid hw0
 obtain ⟨v0, v1, v2, v3, v4⟩ := (⟨b1.cell 0, b1.cell 1, b1.cell 2, b1.cell 3, b1.cell 4⟩ : _ ∧ _ ∧ _ ∧ _ ∧ _)
 simp only [Ws.q_] at v0 v1 v2 v3 v4
 clear hw0 s0 b0 b1 ho hT
 generalize hR : (rightB x.op x.a x.b x.c x.n && callB x.op) = R at *
 have HRR := Lib.hid hR
 clear hR
 go_enter Tryz.func91, Tryz.ntmps91
 go_upto_region 1 with fail
 rw [← HE.out]
 clear HE
 go_wp2_with fail
 refine CAL.out.mono ?_
 rintro e w1 ⟨he, s1⟩
 have HS1 := Lib.hid (S0.out.trans s1)
 have c1 := (B0.out.same s1).cell 1
 simp only [Ws.q_] at c1
 clear s1 v0 v1 v2 v3 v4 CAL S0 B0
 cases R with
 | false =>
  rw [if_neg Bool.false_ne_true] at he
  unfold Is.ret3b at he
  subst he
  have HD := Lib.hid (wgt_no (s := s) (fails := fails) (.inl HRR.out))
  have RO0 := Lib.hid (RO.out 0 w1 HS1.out)
  clear RO
  go_wp2_with fail
  refine RO0.out.mono ?_
  rintro e w3 ⟨s3, hr⟩
  have HS3 := Lib.hid (HS1.out.trans s3)
  clear s3 RO0
  rcases hr with ⟨kk, o, Xo, co, Yo, do_, _, hok, _, rfl⟩ | ⟨hout, rfl⟩
  ·clear hok
   have HS4 := Lib.hid (HS3.out.alloc (.cells #[.int .i64 o.k, .int .i64 o.wd, .int .i64 o.sl, .int .i64 o.cp, .int .u32 o.sa, .slice Xo o.ini.length co, .int .i64 o.ow, .slice Yo o.rd.length do_] 43))
   go_upto_region 3 with fail
   generalize w3.alloc (.cells #[.int .i64 o.k, .int .i64 o.wd, .int .i64 o.sl, .int .i64 o.cp, .int .u32 o.sa, .slice Xo o.ini.length co, .int .i64 o.ow, .slice Yo o.rd.length do_] 43) = w4 at *
   go_wp2_with fail
   go_ret
   exact ⟨by rw [HD.out]; rfl, HS4.out⟩
  ·clear hout
   have HS4 := Lib.hid (HS3.out.alloc (.cells #[.int .i64 0, .int .i64 0, .int .i64 0, .int .i64 0, .int .u32 0, .slice none 0 0, .int .i64 0, .slice none 0 0] 43))
   go_upto_region 3 with fail
   generalize w3.alloc (.cells #[.int .i64 0, .int .i64 0, .int .i64 0, .int .i64 0, .int .u32 0, .slice none 0 0, .int .i64 0, .slice none 0 0] 43) = w4 at *
   go_wp2_with fail
   go_ret
   exact ⟨by rw [HD.out]; rfl, HS4.out⟩
 | true =>
  rw [if_pos rfl] at he
  unfold Is.ret3b at he
  subst he
  have RO0 := Lib.hid (RO.out x.b w1 HS1.out)
  clear RO
  go_wp2_with fail
  refine RO0.out.mono ?_
  rintro e w3 ⟨s3, hr⟩
  have HS3 := Lib.hid (HS1.out.trans s3)
  clear s3 RO0
  rcases hr with ⟨kk, o, Xo, co, Yo, do_, hkb, hok, hsa, rfl⟩ | ⟨hout, rfl⟩
  ·have HD := Lib.hid (wgt_in (s := s) (fails := fails) HRR.out hkb hok)
   clear hkb hok
   have HS4 := Lib.hid (HS3.out.alloc (.cells #[.int .i64 o.k, .int .i64 o.wd, .int .i64 o.sl, .int .i64 o.cp, .int .u32 o.sa, .slice Xo o.ini.length co, .int .i64 o.ow, .slice Yo o.rd.length do_] 43))
   have HQ4 := Lib.hid (Blk.new w3 43 #[.int .i64 o.k, .int .i64 o.wd, .int .i64 o.sl, .int .i64 o.cp, .int .u32 o.sa, .slice Xo o.ini.length co, .int .i64 o.ow, .slice Yo o.rd.length do_])
   have AF := Lib.hid (fun W => Bd.after_any o.k o.wd o.sl o.cp o.sa o.ow Xo Yo o.ini.length co o.rd.length do_ (callV x.op) fails W hsa)
   go_upto_region 3 with fail
   generalize w3.alloc (.cells #[.int .i64 o.k, .int .i64 o.wd, .int .i64 o.sl, .int .i64 o.cp, .int .u32 o.sa, .slice Xo o.ini.length co, .int .i64 o.ow, .slice Yo o.rd.length do_] 43) = w4 at *
   generalize w3.heap.size = q3 at *
   obtain ⟨z0, z1, z2, z3, z4, z5, z6, z7⟩ := (⟨HQ4.out.cell 0, HQ4.out.cell 1, HQ4.out.cell 2, HQ4.out.cell 3, HQ4.out.cell 4, HQ4.out.cell 5, HQ4.out.cell 6, HQ4.out.cell 7⟩ : _ ∧ _ ∧ _ ∧ _ ∧ _ ∧ _ ∧ _ ∧ _)
   simp only [Ws.q_] at z0 z1 z2 z3 z4 z5 z6 z7
   have HAV := Lib.hid (show aftO o (callV x.op) fails = Bd.afterI o.k o.wd o.sl o.cp o.sa o.ini.length o.rd.length (callV x.op) fails from rfl)
   go_wp2_with fail
   refine (AF.out w4).mono ?_
   rintro e w5 ⟨rfl, s5⟩
   rw [← HAV.out]
   have HS5 := Lib.hid (HS4.out.trans s5)
   clear s5
   generalize aftO o (callV x.op) fails = av at *
   obtain ⟨mv, hmv⟩ : ∃ mv, mv = wgtI s fails x := ⟨_, rfl⟩
   have HMV := Lib.hid hmv
   have hm1 : (if (1 : Int) < av then av else 1) = mv := by rw [hmv, HD.out]; split <;> omega
   clear hmv
   go_wp2_with fail
   go_ret
   exact ⟨by rw [← HMV.out]; rfl, HS5.out⟩
  ·have HD := Lib.hid (wgt_no (s := s) (fails := fails) (.inr hout))
   clear hout
   have HS4 := Lib.hid (HS3.out.alloc (.cells #[.int .i64 0, .int .i64 0, .int .i64 0, .int .i64 0, .int .u32 0, .slice none 0 0, .int .i64 0, .slice none 0 0] 43))
   go_upto_region 3 with fail
   generalize w3.alloc (.cells #[.int .i64 0, .int .i64 0, .int .i64 0, .int .i64 0, .int .u32 0, .slice none 0 0, .int .i64 0, .slice none 0 0] 43) = w4 at *
   go_wp2_with fail
   go_ret
   exact ⟨by rw [HD.out]; rfl, HS4.out⟩

/-- what Weights gives -/
def WgtP (w : World) (l : List Int) (e : Ending) (w' : World) : Prop := ∃ A c, e = .returned (.slice A l.length c) ∧ Row w' A (l.map (Value.int .i64)) ∧ Same w w'
theorem wgt_mk {w w' : World} {l : List Int} {A : Option Addr} {n c : Nat} (hn : n = l.length) (hr : Row w' A (l.map (Value.int .i64))) (hs : Same w w') : WgtP w l (.returned (.slice A n c)) w' := by
 subst hn
 exact ⟨A, c, rfl, hr, hs⟩
def wgtL (s : PS) (i fails : Int) : List Int := if 0 ≤ i ∧ i < s.ts.length then (s.ts.getD i.toNat default).code.map (wgtI s fails) else []
theorem wl_out {s : PS} {i fails : Int} (h : i < 0 ∨ (s.ts.length : Int) ≤ i) : wgtL s i fails = [] := if_neg (by omega)
theorem wl_in {s : PS} {i : Nat} {fails : Int} {p : PT} (h : s.ts[i]? = some p) : wgtL s i fails = p.code.map (wgtI s fails) := by
 have hi : i < s.ts.length := (List.getElem?_eq_some_iff.1 h).1
 unfold wgtL
 rw [if_pos (by omega), Int.toNat_natCast, List.getD_eq_getElem?_getD, h]
 rfl
set_option maxRecDepth 100000 in
set_option maxHeartbeats 4000000 in
theorem weights_any (A B : Option Addr) (n c m d : Nat) (s : PS) (i fails : Int) (w : World) (hs : SysAt w A n B m s) (hf : ∀ p ∈ s.ts, p.code.length ≤ 200) (hT : Is.Tabs w) :
 Calls Tryz.prog 76 #[.agg #[.slice A n c, .slice B m d], .int .i64 i, .int .i64 fails] w (WgtP w (wgtL s i fails)) := by
 obtain ⟨i0, hi, hz0, hz1, hz2⟩ := info_parts int_inf
 obtain ⟨w0, hw0⟩ : ∃ w0, w0 = w.alloc (.cells #[.slice A n c, .slice B m d] 25) := ⟨_, rfl⟩
 have s0 : Same w w0 := hw0 ▸ (Same.refl w).alloc _
 have b0 : Blk w0 w.heap.size 25 #[.slice A n c, .slice B m d] := hw0 ▸ Blk.new w _ _
 have HE0 := Lib.hid hw0
 have HF := Lib.hid hf
 have c0 := b0.cell 0
 simp only [Ws.q_] at c0
 have S0 := Lib.hid s0
 have B0 := Lib.hid b0
 have RT := Lib.hid (rowt_any A n c s.ts i w0 (hs.ht.same s0) hs.hn)
 have WA := Lib.hid (fun (x : Im.Ins) (hx : 0 ≤ x.n ∧ x.n < 4294967296) W (h : Same w W) => weight_any A B n c m d s x fails W (hs.ho.same h) hs.hm hx (hT.same h))
 clear hw0 s0 b0 hs hf hT
 go_enter Tryz.func76, Tryz.ntmps76
 go_wp2_with fail
 rw [← HE0.out]
 clear HE0
 refine RT.out.mono ?_
 rintro e w1 ⟨s1, ht⟩
 have S1 := Lib.hid s1
 have B1 := Lib.hid (B0.out.same s1)
 clear s1 RT B0 c0
 rcases ht with ⟨ki, p, X, cX, rfl, hp, hcode, hlen, rfl⟩ | ⟨hout, rfl⟩
 ·have HCW := Lib.hid hcode
  have HLE := Lib.hid (HF.out p (List.mem_of_getElem? hp))
  have HD := Lib.hid (wl_in (fails := fails) hp)
  clear hcode hp hlen
  have HS4 := Lib.hid (S1.out.alloc (.cells #[.int .i64 p.kind, .int .i64 p.prio, .int .i64 p.per, .int .i64 p.off, .int .i64 p.dl, .int .i64 p.own, .slice X p.code.length cX] 30))
  have HQ4 := Lib.hid (Blk.new w1 30 #[.int .i64 p.kind, .int .i64 p.prio, .int .i64 p.per, .int .i64 p.off, .int .i64 p.dl, .int .i64 p.own, .slice X p.code.length cX])
  have HB4b := Lib.hid (B1.out.same ((Same.refl w1).alloc (.cells #[.int .i64 p.kind, .int .i64 p.prio, .int .i64 p.per, .int .i64 p.off, .int .i64 p.dl, .int .i64 p.own, .slice X p.code.length cX] 30)))
  go_upto_region 2 with fail
  generalize w1.alloc (.cells #[.int .i64 p.kind, .int .i64 p.prio, .int .i64 p.per, .int .i64 p.off, .int .i64 p.dl, .int .i64 p.own, .slice X p.code.length cX] 30) = w4 at *
  generalize w1.heap.size = q1 at *
  generalize hq0 : w.heap.size = q0 at *
  clear hq0
  have HLE2 := HLE.out
  have z6 := HQ4.out.cell 6
  simp only [Ws.q_] at z6
  obtain ⟨CN, hCN⟩ : ∃ CN : Im.Ins → Value, CN = fun x => Value.int .i64 (wgtI s fails x) := ⟨_, rfl⟩
  have HCN := Lib.hid (fun x => (show Value.int .i64 (wgtI s fails x) = CN x by rw [hCN]))
  obtain ⟨b4, hb4⟩ : ∃ b4, b4 = w4.heap.size := ⟨_, rfl⟩
  have HB4 := Lib.hid hb4
  clear hb4
  have HLN := Lib.hid (show (p.code.map CN) = (p.code.map (wgtI s fails)).map (Value.int .i64) by rw [hCN, List.map_map]; rfl)
  clear hCN
  go_wp2_with fail
  go_loopg [9, 22] p.code.length (fun gk lv iv wx => ∃ (j : Nat) (A' : Option Addr) (c' : Nat), j + gk = p.code.length ∧ iv = .int .i64 j ∧ lv = .slice A' j c' ∧ Ws.Own wx b4 3 A' c' ((p.code.map CN).take j) ∧ Same w4 wx)
  case atStart => exact ⟨0, none, 0, by omega, rfl, rfl, own_nil _ _ _, Same.refl _⟩
  case round =>
   obtain ⟨j, A', c', hk, rfl, rfl, ho, sx⟩ := hrel
   have HO := Lib.hid ho
   have HSX := Lib.hid sx
   have HSW := Lib.hid (HS4.out.trans sx)
   clear ho sx z6
   cases gk with
   | zero =>
    obtain rfl : j = p.code.length := by omega
    have hge : ¬ (p.code.length : Int) < (p.code.length : Int) := by omega
    have HR := Lib.hid (show Row wr A' ((p.code.map (wgtI s fails)).map (Value.int .i64)) from by rw [← HLN.out]; have := HO.out.row; rwa [show p.code.length = (p.code.map CN).length from (List.length_map ..).symm, List.take_length] at this)
    go_wp2_with fail
    go_ret
    rw [HD.out]
    exact wgt_mk (by rw [List.length_map]) HR.out (S0.out.trans HSW.out)
   | succ GK =>
    have hlt : (j : Int) < p.code.length := by omega
    have hj0 : (0 : Int) ≤ j := by omega
    have HJL := Lib.hid (show j < p.code.length by omega)
    have HJK := Lib.hid hk
    clear hk
    obtain ⟨xj, hxj⟩ : ∃ xj, p.code[j]? = some xj := ⟨p.code[j], List.getElem?_eq_getElem HJL.out⟩
    have HJ := Lib.hid hxj
    clear hxj
    obtain ⟨hxn, bX, oX, rfl, y0, y1, y2, y3, y4⟩ := (HCW.out.same HSW.out).at_ HJ.out
    have HW5 := Lib.hid (HSW.out.alloc (.cells #[.int .i64 xj.op, .int .i64 xj.a, .int .i64 xj.b, .int .i64 xj.c, .int .u32 xj.n] 49))
    have HQ5 := Lib.hid (Blk.new wr 49 #[.int .i64 xj.op, .int .i64 xj.a, .int .i64 xj.b, .int .i64 xj.c, .int .u32 xj.n])
    have HO5 := Lib.hid (HO.out.same ((Same.refl wr).alloc (.cells #[.int .i64 xj.op, .int .i64 xj.a, .int .i64 xj.b, .int .i64 xj.c, .int .u32 xj.n] 49)))
    have HX5 := Lib.hid (HSX.out.alloc (.cells #[.int .i64 xj.op, .int .i64 xj.a, .int .i64 xj.b, .int .i64 xj.c, .int .u32 xj.n] 49))
    have HB5 := Lib.hid (HB4b.out.same HX5.out)
    go_upto_region 6 with fail
    generalize wr.alloc (.cells #[.int .i64 xj.op, .int .i64 xj.a, .int .i64 xj.b, .int .i64 xj.c, .int .u32 xj.n] 49) = w5 at *
    generalize wr.heap.size = q5 at *
    obtain ⟨v0, v1, v2, v3, v4⟩ := (⟨HQ5.out.cell 0, HQ5.out.cell 1, HQ5.out.cell 2, HQ5.out.cell 3, HQ5.out.cell 4⟩ : _ ∧ _ ∧ _ ∧ _ ∧ _)
    obtain ⟨u0, u1⟩ := (⟨HB5.out.cell 0, HB5.out.cell 1⟩ : _ ∧ _)
    simp only [Ws.q_] at v0 v1 v2 v3 v4 u0 u1
    have WA5 := Lib.hid (WA.out xj hxn w5 (S0.out.trans HW5.out))
    clear y0 y1 y2 y3 y4 HSX HSW
    obtain ⟨vv, hvv⟩ : ∃ vv, vv = wgtI s fails xj := ⟨_, rfl⟩
    rw [← hvv] at WA5
    have HV := Lib.hid hvv.symm
    clear hvv
    go_wp2_with fail
    refine WA5.out.mono ?_
    rintro e w7 ⟨rfl, s7⟩
    have HO7 := Lib.hid (HO5.out.same s7)
    have HS7 := Lib.hid (HX5.out.trans s7)
    clear s7 v0 v1 v2 v3 v4 u0 u1 WA5
    go_wp2_with (at_builtin; go_loud (refine wpList_app rfl (.tmp 26) (.tmp 31) 26 rfl b4 3 i0 _ 8 Tryz.underlying26 hi hz0 hz1 hz2 rfl A' j c' ((p.code.map CN).take j) rfl ?c1 (HO7.out.same ((Same.refl _).alloc _)) _ 1 1 [.int .i64 vv] rfl rfl (row_new _ _ _) ?c2 ?c3 (by omega) ?c4 ?_))
    case c1 => rw [List.length_take, List.length_map]; have := HJL.out; omega
    case c2 => intro u hu; simp at hu; subst hu; rfl
    case c3 => rw [List.length_take, List.length_map]; simp; omega
    case c4 => have := HB4.out; have := HS7.out.size; simp; omega
    intro A2 c2' w8 ho2 hc2 _
    have HS8 := Lib.hid (Same.more (HS7.out.alloc _) hc2 (fun g hg => by have := own_low HO.out hg; have := HB4.out; omega))
    rw [show (p.code.map CN).take j ++ [.int .i64 vv] = (p.code.map CN).take (j + 1) from by rw [take_snoc (p.code.map CN) (v := CN xj) (by rw [List.getElem?_map, HJ.out]; rfl), ← HCN.out, HV.out]] at ho2
    have HO8 := Lib.hid ho2
    clear ho2 hc2
    go_wp2_with fail
    go_roundg GK
    case rel => exact ⟨j + 1, A2, c2', by have := HJK.out; omega, by go_num, rfl, HO8.out, HS8.out⟩
    case measure => omega
 ·have HD := Lib.hid (wl_out (fails := fails) hout)
  clear hout
  have HS4 := Lib.hid (S1.out.alloc (.cells #[.int .i64 0, .int .i64 0, .int .i64 0, .int .i64 0, .int .i64 0, .int .i64 0, .slice none 0 0] 30))
  have HQ4 := Lib.hid (Blk.new w1 30 #[.int .i64 0, .int .i64 0, .int .i64 0, .int .i64 0, .int .i64 0, .int .i64 0, .slice none 0 0])
  go_upto_region 2 with fail
  generalize w1.alloc (.cells #[.int .i64 0, .int .i64 0, .int .i64 0, .int .i64 0, .int .i64 0, .int .i64 0, .slice none 0 0] 30) = w4 at *
  generalize w1.heap.size = q1 at *
  have z6 := HQ4.out.cell 6
  simp only [Ws.q_] at z6
  go_wp2_with fail
  go_loopg [9, 22] 0 (fun gk lv iv wx => gk = 0 ∧ iv = .int .i64 0 ∧ lv = .slice none 0 0 ∧ Same w4 wx)
  case atStart => exact ⟨rfl, rfl, rfl, Same.refl _⟩
  case round =>
   obtain ⟨rfl, rfl, rfl, sx⟩ := hrel
   go_wp2_with fail
   go_ret
   rw [HD.out]
   exact wgt_mk rfl (Row.nil _ _) (S0.out.trans (HS4.out.trans sx))
end Go.Proofs.YthhbhbfkbncegabGreatDoor.Dm
end
section
section
set_option linter.unusedVariables false
set_option linter.unusedSimpArgs false
namespace Go.Proofs.YthhbhbfkbncegabGreatDoor.Dm
open Go.ChangeShapes Go.WideShapes Go.ChangeAt Go.RowKit Ws
open Im (PT PO PS TsAt OsAt SysAt tcells ocells)
open Go.Proofs.YthhbhbfkbncegabGreatDoor.Is (callB callV rightB)

set_option maxRecDepth 100000 in
theorem writes_any (A B : Option Addr) (n c m d : Nat) (s : PS) (i k : Int) (w : World) (hs : SysAt w A n B m s) (hnm : n ≤ maxLen ∧ m ≤ maxLen) (hf : ∀ p ∈ s.ts, p.code.length ≤ 200) (hT : Is.Tabs w) :
 Calls Tryz.prog 58 #[.agg #[.slice A n c, .slice B m d], .int .i64 i, .int .i64 k] w fun e w' => e = .returned (.int .i64 (demI s i k 18 19)) ∧ Same w w' := by
 have s0 := (Same.refl w).alloc (.cells #[.slice A n c, .slice B m d] 25)
 have b0 := Blk.new w 25 #[.slice A n c, .slice B m d]
 obtain ⟨w0, hw0⟩ : ∃ w0, w0 = w.alloc (.cells #[.slice A n c, .slice B m d] 25) := ⟨_, rfl⟩
 rw [← hw0] at s0 b0
 have HE := Lib.hid hw0
 have c0 := b0.cell 0
 have c1 := b0.cell 1
 simp only [Ws.q_] at c0 c1
 obtain ⟨w1, hw1⟩ : ∃ w1, w1 = w0.alloc (.cells #[.int .i64 18, .int .i64 19] 3) := ⟨_, rfl⟩
 have s1 : Same w0 w1 := hw1 ▸ (Same.refl w0).alloc _
 have b1 : Blk w1 w0.heap.size 3 #[.int .i64 18, .int .i64 19] := hw1 ▸ Blk.new w0 _ _
 have HE1 := Lib.hid hw1
 have CD := Lib.hid (calls_dem A B n c m d s i k 18 19 w0.heap.size w1 (hs.same (s0.trans s1)) hnm hf ((b1.cell 0).trans rfl) ((b1.cell 1).trans rfl) (hT.same (s0.trans s1)))
 have S01 := Lib.hid (s0.trans s1)
 clear hs hf hT hw0 hw1 s0 s1 b0 b1
 go_enter Tryz.func58, Tryz.ntmps58
 go_upto_region 1 with fail
 rw [← HE.out]
 go_wp2_with fail
 rw [← HE1.out]
 refine CD.out.mono ?_
 rintro e w2 ⟨rfl, s2⟩
 go_wp2_with fail
 go_ret
 exact ⟨rfl, S01.out.trans s2⟩

set_option maxRecDepth 100000 in
theorem reads_any (A B : Option Addr) (n c m d : Nat) (s : PS) (i k : Int) (w : World) (hs : SysAt w A n B m s) (hnm : n ≤ maxLen ∧ m ≤ maxLen) (hf : ∀ p ∈ s.ts, p.code.length ≤ 200) (hT : Is.Tabs w) :
 Calls Tryz.prog 55 #[.agg #[.slice A n c, .slice B m d], .int .i64 i, .int .i64 k] w fun e w' => e = .returned (.int .i64 (demI s i k 17 20)) ∧ Same w w' := by
 have s0 := (Same.refl w).alloc (.cells #[.slice A n c, .slice B m d] 25)
 have b0 := Blk.new w 25 #[.slice A n c, .slice B m d]
 obtain ⟨w0, hw0⟩ : ∃ w0, w0 = w.alloc (.cells #[.slice A n c, .slice B m d] 25) := ⟨_, rfl⟩
 rw [← hw0] at s0 b0
 have HE := Lib.hid hw0
 have c0 := b0.cell 0
 have c1 := b0.cell 1
 simp only [Ws.q_] at c0 c1
 obtain ⟨w1, hw1⟩ : ∃ w1, w1 = w0.alloc (.cells #[.int .i64 17, .int .i64 20] 3) := ⟨_, rfl⟩
 have s1 : Same w0 w1 := hw1 ▸ (Same.refl w0).alloc _
 have b1 : Blk w1 w0.heap.size 3 #[.int .i64 17, .int .i64 20] := hw1 ▸ Blk.new w0 _ _
 have HE1 := Lib.hid hw1
 have CD := Lib.hid (calls_dem A B n c m d s i k 17 20 w0.heap.size w1 (hs.same (s0.trans s1)) hnm hf ((b1.cell 0).trans rfl) ((b1.cell 1).trans rfl) (hT.same (s0.trans s1)))
 have S01 := Lib.hid (s0.trans s1)
 clear hs hf hT hw0 hw1 s0 s1 b0 b1
 go_enter Tryz.func55, Tryz.ntmps55
 go_upto_region 1 with fail
 rw [← HE.out]
 go_wp2_with fail
 rw [← HE1.out]
 refine CD.out.mono ?_
 rintro e w2 ⟨rfl, s2⟩
 go_wp2_with fail
 go_ret
 exact ⟨rfl, S01.out.trans s2⟩
end Go.Proofs.YthhbhbfkbncegabGreatDoor.Dm
end
section
set_option linter.unusedVariables false
set_option linter.unusedSimpArgs false
namespace Go.Proofs.YthhbhbfkbncegabGreatDoor.Dm
open Go.ChangeShapes Go.WideShapes Go.ChangeAt Go.RowKit Ws
open Im (PT PO PS TsAt OsAt SysAt tcells ocells)
open Go.Proofs.YthhbhbfkbncegabGreatDoor.Is (callB callV rightB)

def dearI (s : PS) (i fails : Int) : Int := if 0 ≤ i ∧ i < s.ts.length then Cs.weI true (pI (s.ts.getD i.toNat default)) (wgtL s i fails) else 0
def dearE (s : PS) (i fails : Int) : Int := if 0 ≤ i ∧ i < s.ts.length then Cs.weE (pI (s.ts.getD i.toNat default)) (wgtL s i fails).length else 1
theorem dear_out {s : PS} {i fails : Int} (h : i < 0 ∨ (s.ts.length : Int) ≤ i) : dearI s i fails = 0 ∧ dearE s i fails = 1 := ⟨if_neg (by omega), if_neg (by omega)⟩
theorem dear_in {s : PS} {i : Nat} {fails : Int} {p : PT} (h : s.ts[i]? = some p) : dearI s i fails = Cs.weI true (pI p) (wgtL s i fails) ∧ dearE s i fails = Cs.weE (pI p) (wgtL s i fails).length := by
 have hi : i < s.ts.length := (List.getElem?_eq_some_iff.1 h).1
 have e : s.ts.getD ((i : Int)).toNat default = p := by rw [Int.toNat_natCast, List.getD_eq_getElem?_getD, h]; rfl
 unfold dearI dearE
 rw [if_pos (by omega), if_pos (by omega), e]
 exact ⟨rfl, rfl⟩
set_option maxRecDepth 100000 in
set_option maxHeartbeats 4000000 in
theorem dearest_any (A B : Option Addr) (n c m d : Nat) (s : PS) (i fails : Int) (w : World) (hs : SysAt w A n B m s) (hf : ∀ p ∈ s.ts, p.code.length ≤ 200) (hT : Is.Tabs w) :
 Calls Tryz.prog 61 #[.agg #[.slice A n c, .slice B m d], .int .i64 i, .int .i64 fails] w fun e w' => e = .returned (.tuple #[.int .i64 (dearI s i fails), .int .i64 (dearE s i fails)]) ∧ Same w w' := by
 obtain ⟨w0, hw0⟩ : ∃ w0, w0 = w.alloc (.cells #[.slice A n c, .slice B m d] 25) := ⟨_, rfl⟩
 have s0 : Same w w0 := hw0 ▸ (Same.refl w).alloc _
 have b0 : Blk w0 w.heap.size 25 #[.slice A n c, .slice B m d] := hw0 ▸ Blk.new w _ _
 have HE0 := Lib.hid hw0
 have HF := Lib.hid hf
 have c0 := b0.cell 0
 simp only [Ws.q_] at c0
 have S0 := Lib.hid s0
 have B0 := Lib.hid b0
 have HT := Lib.hid hT
 have RT := Lib.hid (rowt_any A n c s.ts i w0 (hs.ht.same s0) hs.hn)
 have WG := Lib.hid (fun W (h : Same w W) => weights_any A B n c m d s i fails W (hs.same h) hf (hT.same h))
 clear hw0 s0 b0 hs hf hT
 go_enter Tryz.func61, Tryz.ntmps61
 go_wp2_with fail
 rw [← HE0.out]
 clear HE0
 refine RT.out.mono ?_
 rintro e w1 ⟨s1, ht⟩
 have S1 := Lib.hid s1
 have B1 := Lib.hid (B0.out.same s1)
 clear s1 RT B0 c0
 rcases ht with ⟨ki, p, X, cX, rfl, hp, hcode, hlen, rfl⟩ | ⟨hout, rfl⟩
 ·have HCW := Lib.hid hcode
  have HLE := Lib.hid (HF.out p (List.mem_of_getElem? hp))
  have HD := Lib.hid (dear_in (fails := fails) hp)
  have HWL := Lib.hid (show (wgtL s (ki : Int) fails).length = p.code.length by rw [wl_in hp, List.length_map])
  clear hcode hp hlen
  have HS4 := Lib.hid (S1.out.alloc (.cells #[.int .i64 p.kind, .int .i64 p.prio, .int .i64 p.per, .int .i64 p.off, .int .i64 p.dl, .int .i64 p.own, .slice X p.code.length cX] 30))
  have HQ4 := Lib.hid (Blk.new w1 30 #[.int .i64 p.kind, .int .i64 p.prio, .int .i64 p.per, .int .i64 p.off, .int .i64 p.dl, .int .i64 p.own, .slice X p.code.length cX])
  have HB4 := Lib.hid (B1.out.same ((Same.refl w1).alloc (.cells #[.int .i64 p.kind, .int .i64 p.prio, .int .i64 p.per, .int .i64 p.off, .int .i64 p.dl, .int .i64 p.own, .slice X p.code.length cX] 30)))
  go_upto_region 2 with fail
  generalize w1.alloc (.cells #[.int .i64 p.kind, .int .i64 p.prio, .int .i64 p.per, .int .i64 p.off, .int .i64 p.dl, .int .i64 p.own, .slice X p.code.length cX] 30) = w4 at *
  generalize w1.heap.size = q1 at *
  generalize hq0 : w.heap.size = q0 at *
  clear hq0
  have HLE2 := HLE.out
  have WG4 := Lib.hid (fun W (h : Same w4 W) => WG.out W (S0.out.trans (HS4.out.trans h)))
  generalize wgtL s (ki : Int) fails = wl at *
  go_wp2_with fail
  refine wp_region_held_drew (S := fun w' => Same w4 w') (by kernel_rfl) ?_ (fun hHeld => ?_)
  ·exact (Same.refl w4).drew
  refine Ro.tn 0 ?_ ?_ ?_
  rotate_left
  ·intro wS hSw; (try dsimp only at hSw); go_simp; try with_reducible rfl
  try simp only [Ro.p]
  refine Ro.tn 1 ?_ ?_ ?_
  rotate_left
  ·intro wS hSw; (try dsimp only at hSw); obtain ⟨v0, v1, v2, v3, v4, v5, v6⟩ := (⟨(HQ4.out.same hSw).cell 0, (HQ4.out.same hSw).cell 1, (HQ4.out.same hSw).cell 2, (HQ4.out.same hSw).cell 3, (HQ4.out.same hSw).cell 4, (HQ4.out.same hSw).cell 5, (HQ4.out.same hSw).cell 6⟩ : _ ∧ _ ∧ _ ∧ _ ∧ _ ∧ _ ∧ _); simp only [Ws.q_] at v0 v1 v2 v3 v4 v5 v6; go_simp; try with_reducible rfl
  try simp only [Ro.p]
  refine Ro.tn 2 ?_ ?_ ?_
  rotate_left
  ·intro wS hSw; (try dsimp only at hSw); obtain ⟨v0, v1⟩ := (⟨(HB4.out.same hSw).cell 0, (HB4.out.same hSw).cell 1⟩ : _ ∧ _); simp only [Ws.q_] at v0 v1; go_simp; try with_reducible rfl
  try simp only [Ro.p]
  refine Ro.tn 3 ?_ ?_ ?_
  rotate_left
  ·intro wS hSw; (try dsimp only at hSw); go_simp; try with_reducible rfl
  try simp only [Ro.p]
  refine Ro.tn 4 ?_ ?_ ?_
  rotate_left
  ·intro wS hSw; (try dsimp only at hSw); go_simp; try with_reducible rfl
  try simp only [Ro.p]
  refine Ro.one_on (i := 5) rfl (by kernel_rfl) (by rfl) (fun K hK => ?_)
  go_simp
  go_at_call 76
  refine (WG4.out _ hHeld).mono ?_
  rintro e wO ⟨OB, oc, rfl, hro, sO⟩
  have HRO := Lib.hid hro
  clear hro
  refine hK.out _ _ ?_ (fun hNew => ?_)
  ·exact hHeld.trans sO
  clear hK K hHeld; have hHeld := hNew; clear hNew
  try simp only [Ro.p]
  refine Ro.one_on (i := 6) rfl (by kernel_rfl) (by rfl) (fun K hK => ?_)
  go_simp
  go_at_call 75
  refine (Cs.most_any X p.code.length cX (pI p) OB wl.length oc wl wO (by unfold pI; rw [List.length_map]) (by omega) (prgI (HCW.out.same (HS4.out.trans hHeld))) HRO.out rfl (HT.out.same (S0.out.trans (HS4.out.trans hHeld)))).mono ?_
  rintro e wM ⟨rfl, sM⟩
  refine hK.out _ _ ?_ (fun hNew => ?_)
  ·exact hHeld.trans sM
  clear hK K hHeld; have hHeld := hNew; clear hNew
  try simp only [Ro.p]
  refine Ro.tn 7 ?_ ?_ ?_
  rotate_left
  ·intro wS hSw; (try dsimp only at hSw); go_simp; try with_reducible rfl
  try simp only [Ro.p]
  refine Ro.tn 8 ?_ ?_ ?_
  rotate_left
  ·intro wS hSw; (try dsimp only at hSw); go_simp; try with_reducible rfl
  try simp only [Ro.p]
  refine Ro.tn 9 ?_ ?_ ?_
  rotate_left
  ·intro wS hSw; (try dsimp only at hSw); go_simp; try with_reducible rfl
  try simp only [Ro.p]
  refine Ro.tn 10 ?_ ?_ ?_
  rotate_left
  ·intro wS hSw; (try dsimp only at hSw); go_simp; try with_reducible rfl
  try simp only [Ro.p]
  refine wpAnyH_done (by kernel_rfl) ?_ _
  go_wp2_with fail
  go_ret2
  exact ⟨by rw [HD.out.1, HD.out.2]; rfl, S0.out.trans (HS4.out.trans hHeld)⟩
 ·have HD := Lib.hid (dear_out (fails := fails) hout)
  clear hout
  have HS4 := Lib.hid (S1.out.alloc (.cells #[.int .i64 0, .int .i64 0, .int .i64 0, .int .i64 0, .int .i64 0, .int .i64 0, .slice none 0 0] 30))
  go_upto_region 2 with fail
  generalize w1.alloc (.cells #[.int .i64 0, .int .i64 0, .int .i64 0, .int .i64 0, .int .i64 0, .int .i64 0, .slice none 0 0] 30) = w4 at *
  go_wp2_with fail
  go_ret2
  exact ⟨by rw [HD.out.1, HD.out.2]; rfl, S0.out.trans HS4.out⟩

set_option maxRecDepth 100000 in
theorem clean36_any (A B : Option Addr) (n c m d : Nat) (s : PS) (i : Int) (w : World) (hs : SysAt w A n B m s) (hf : ∀ p ∈ s.ts, p.code.length ≤ 200) (hT : Is.Tabs w) :
 Calls Tryz.prog 46 #[.agg #[.slice A n c, .slice B m d], .int .i64 i] w fun e w' => e = .returned (.tuple #[.int .i64 (dearI s i 0), .int .i64 (dearE s i 0)]) ∧ Same w w' := by
 obtain ⟨w0, hw0⟩ : ∃ w0, w0 = w.alloc (.cells #[.slice A n c, .slice B m d] 25) := ⟨_, rfl⟩
 have s0 : Same w w0 := hw0 ▸ (Same.refl w).alloc _
 have b0 : Blk w0 w.heap.size 25 #[.slice A n c, .slice B m d] := hw0 ▸ Blk.new w _ _
 have HE0 := Lib.hid hw0
 have c0 := b0.cell 0
 have c1 := b0.cell 1
 simp only [Ws.q_] at c0 c1
 have S0 := Lib.hid s0
 have DE := Lib.hid (dearest_any A B n c m d s i 0 w0 (hs.same s0) hf (hT.same s0))
 clear hw0 s0 b0 hs hf hT
 generalize dearI s i 0 = di at *
 generalize dearE s i 0 = de at *
 go_enter Tryz.func46, Tryz.ntmps46
 go_wp2_with fail
 rw [← HE0.out]
 refine DE.out.mono ?_
 rintro e w1 ⟨rfl, s1⟩
 go_wp2_with fail
 go_ret2
 exact ⟨rfl, S0.out.trans s1⟩

end Go.Proofs.YthhbhbfkbncegabGreatDoor.Dm
end
end
end
