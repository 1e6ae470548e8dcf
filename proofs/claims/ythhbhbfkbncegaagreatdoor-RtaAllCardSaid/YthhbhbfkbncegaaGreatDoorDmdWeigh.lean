/-

 Package bound (layer 35): how many steps each instruction of a system's task has (weight, Weights).
-/
import Derived.Test.YthhbhbfkbncegaaGreatDoorDmdCalls
import Derived.Test.YthhbhbfkbncegaaGreatDoorBoundOf
set_option linter.unusedVariables false
set_option linter.unusedSimpArgs false
namespace Go.Proofs.YthhbhbfkbncegaaGreatDoor.Dm
open Go.ChangeShapes Go.WideShapes Go.ChangeAt Go.RowKit Ws
open Im (PT PO PS TsAt OsAt SysAt tcells ocells)
open Go.Proofs.YthhbhbfkbncegaaGreatDoor.Is (callB callV rightB)

def aftO (o : PO) (op fails : Int) : Int := Bd.afterI o.k o.wd o.sl o.cp o.sa o.ini.length o.rd.length op fails
def wgtI (s : PS) (fails : Int) (x : Im.Ins) : Int := if (rightB x.op x.a x.b x.c x.n && callB x.op) = true ∧ (0 ≤ x.b ∧ x.b < s.os.length) then max 1 (aftO (s.os.getD x.b.toNat default) (callV x.op) fails) else 1
theorem wgt_no {s : PS} {fails : Int} {x : Im.Ins} (h : (rightB x.op x.a x.b x.c x.n && callB x.op) = false ∨ (x.b < 0 ∨ (s.os.length : Int) ≤ x.b)) : wgtI s fails x = 1 := by
 unfold wgtI
 rw [if_neg]
 rintro ⟨h1, h2⟩
 rcases h with h | h
 ·rw [h] at h1; cases h1
 ·omega
theorem wgt_in {s : PS} {fails : Int} {x : Im.Ins} {k : Nat} {o : PO} (h : (rightB x.op x.a x.b x.c x.n && callB x.op) = true) (hk : x.b = k) (ho : s.os[k]? = some o) : wgtI s fails x = max 1 (aftO o (callV x.op) fails) := by
 have hl : k < s.os.length := (List.getElem?_eq_some_iff.1 ho).1
 unfold wgtI
 rw [if_pos ⟨h, by omega⟩, hk, Int.toNat_natCast, List.getD_eq_getElem?_getD, ho]
 rfl
set_option maxRecDepth 100000 in
set_option maxHeartbeats 4000000 in
theorem weight_any (A B : Option Addr) (n c m d : Nat) (s : PS) (x : Im.Ins) (fails : Int) (w : World) (ho : OsAt w B s.os) (hm : s.os.length = m) (hx : 0 ≤ x.n ∧ x.n < 4294967296) (hT : Is.Tabs w) :
 Calls Tryz.prog 95 #[.agg #[.slice A n c, .slice B m d], .agg #[.int .i64 x.op, .int .i64 x.a, .int .i64 x.b, .int .i64 x.c, .int .u32 x.n], .int .i64 fails] w fun e w' => e = .returned (.int .i64 (wgtI s fails x)) ∧ Same w w' := by
 obtain ⟨w0, hw0⟩ : ∃ w0, w0 = (w.alloc (.cells #[.slice A n c, .slice B m d] 25)).alloc (.cells #[.int .i64 x.op, .int .i64 x.a, .int .i64 x.b, .int .i64 x.c, .int .u32 x.n] 70) := ⟨_, rfl⟩
 have s0 : Same w w0 := hw0 ▸ ((Same.refl w).alloc _).alloc _
 have b0 : Blk w0 w.heap.size 25 #[.slice A n c, .slice B m d] := hw0 ▸ (Blk.new w _ _).same ((Same.refl _).alloc _)
 have b1 : Blk w0 (w.heap.size + 1) 70 #[.int .i64 x.op, .int .i64 x.a, .int .i64 x.b, .int .i64 x.c, .int .u32 x.n] := by
  have h := Blk.new (w.alloc (.cells #[.slice A n c, .slice B m d] 25)) 70 #[.int .i64 x.op, .int .i64 x.a, .int .i64 x.b, .int .i64 x.c, .int .u32 x.n]
  rw [hw0]
  simpa using h
 have CAL := Lib.hid (show Calls Tryz.prog 105 #[.agg #[.int .i64 x.op, .int .i64 x.a, .int .i64 x.b, .int .i64 x.c, .int .u32 x.n]] w0 fun e w' => e = (if rightB x.op x.a x.b x.c x.n && callB x.op then Is.ret3b x.b (callV x.op) true else Is.ret3b 0 0 false) ∧ Same w0 w' from Is.calls_any x.op x.a x.b x.c x.n hx w0 (hT.same s0))
 have RO := Lib.hid (fun (k : Int) W (h : Same w W) => rowo_any B m d s.os k W (ho.same h) hm)
 have S0 := Lib.hid s0
 have B0 := Lib.hid b0
 have HE := Lib.hid hw0
 obtain ⟨v0, v1, v2, v3, v4⟩ := (⟨b1.cell 0, b1.cell 1, b1.cell 2, b1.cell 3, b1.cell 4⟩ : _ ∧ _ ∧ _ ∧ _ ∧ _)
 simp only [Ws.q_] at v0 v1 v2 v3 v4
 clear hw0 s0 b0 b1 ho hT
 generalize hR : (rightB x.op x.a x.b x.c x.n && callB x.op) = R at *
 have HRR := Lib.hid hR
 clear hR
 go_enter Tryz.func95, Tryz.ntmps95
 go_upto_region 1 with fail
 rw [← HE.out]
 clear HE
 go_wp2_with fail
 refine CAL.out.mono ?_
 rintro e w1 ⟨he, s1⟩
 have HS1 := Lib.hid (S0.out.trans s1)
 have c1 := (B0.out.same s1).cell 1
 simp only [Ws.q_] at c1
 clear s1 v0 v1 v2 v3 v4 CAL S0 B0
 cases R with
 | false =>
  rw [if_neg Bool.false_ne_true] at he
  unfold Is.ret3b at he
  subst he
  have HD := Lib.hid (wgt_no (s := s) (fails := fails) (.inl HRR.out))
  have RO0 := Lib.hid (RO.out 0 w1 HS1.out)
  clear RO
  go_wp2_with fail
  refine RO0.out.mono ?_
  rintro e w3 ⟨s3, hr⟩
  have HS3 := Lib.hid (HS1.out.trans s3)
  clear s3 RO0
  rcases hr with ⟨kk, o, Xo, co, Yo, do_, _, hok, _, rfl⟩ | ⟨hout, rfl⟩
  ·clear hok
   have HS4 := Lib.hid (HS3.out.alloc (.cells #[.int .i64 o.k, .int .i64 o.wd, .int .i64 o.sl, .int .i64 o.cp, .int .u32 o.sa, .slice Xo o.ini.length co, .int .i64 o.ow, .slice Yo o.rd.length do_] 34))
   go_upto_region 3 with fail
   generalize w3.alloc (.cells #[.int .i64 o.k, .int .i64 o.wd, .int .i64 o.sl, .int .i64 o.cp, .int .u32 o.sa, .slice Xo o.ini.length co, .int .i64 o.ow, .slice Yo o.rd.length do_] 34) = w4 at *
   go_wp2_with fail
   go_ret
   exact ⟨by rw [HD.out]; rfl, HS4.out⟩
  ·clear hout
   have HS4 := Lib.hid (HS3.out.alloc (.cells #[.int .i64 0, .int .i64 0, .int .i64 0, .int .i64 0, .int .u32 0, .slice none 0 0, .int .i64 0, .slice none 0 0] 34))
   go_upto_region 3 with fail
   generalize w3.alloc (.cells #[.int .i64 0, .int .i64 0, .int .i64 0, .int .i64 0, .int .u32 0, .slice none 0 0, .int .i64 0, .slice none 0 0] 34) = w4 at *
   go_wp2_with fail
   go_ret
   exact ⟨by rw [HD.out]; rfl, HS4.out⟩
 | true =>
  rw [if_pos rfl] at he
  unfold Is.ret3b at he
  subst he
  have RO0 := Lib.hid (RO.out x.b w1 HS1.out)
  clear RO
  go_wp2_with fail
  refine RO0.out.mono ?_
  rintro e w3 ⟨s3, hr⟩
  have HS3 := Lib.hid (HS1.out.trans s3)
  clear s3 RO0
  rcases hr with ⟨kk, o, Xo, co, Yo, do_, hkb, hok, hsa, rfl⟩ | ⟨hout, rfl⟩
  ·have HD := Lib.hid (wgt_in (s := s) (fails := fails) HRR.out hkb hok)
   clear hkb hok
   have HS4 := Lib.hid (HS3.out.alloc (.cells #[.int .i64 o.k, .int .i64 o.wd, .int .i64 o.sl, .int .i64 o.cp, .int .u32 o.sa, .slice Xo o.ini.length co, .int .i64 o.ow, .slice Yo o.rd.length do_] 34))
   have HQ4 := Lib.hid (Blk.new w3 34 #[.int .i64 o.k, .int .i64 o.wd, .int .i64 o.sl, .int .i64 o.cp, .int .u32 o.sa, .slice Xo o.ini.length co, .int .i64 o.ow, .slice Yo o.rd.length do_])
   have AF := Lib.hid (fun W => Bd.after_any o.k o.wd o.sl o.cp o.sa o.ow Xo Yo o.ini.length co o.rd.length do_ (callV x.op) fails W hsa)
   go_upto_region 3 with fail
   generalize w3.alloc (.cells #[.int .i64 o.k, .int .i64 o.wd, .int .i64 o.sl, .int .i64 o.cp, .int .u32 o.sa, .slice Xo o.ini.length co, .int .i64 o.ow, .slice Yo o.rd.length do_] 34) = w4 at *
   generalize w3.heap.size = q3 at *
   obtain ⟨z0, z1, z2, z3, z4, z5, z6, z7⟩ := (⟨HQ4.out.cell 0, HQ4.out.cell 1, HQ4.out.cell 2, HQ4.out.cell 3, HQ4.out.cell 4, HQ4.out.cell 5, HQ4.out.cell 6, HQ4.out.cell 7⟩ : _ ∧ _ ∧ _ ∧ _ ∧ _ ∧ _ ∧ _ ∧ _)
   simp only [Ws.q_] at z0 z1 z2 z3 z4 z5 z6 z7
   have HAV := Lib.hid (show aftO o (callV x.op) fails = Bd.afterI o.k o.wd o.sl o.cp o.sa o.ini.length o.rd.length (callV x.op) fails from rfl)
   go_wp2_with fail
   refine (AF.out w4).mono ?_
   rintro e w5 ⟨rfl, s5⟩
   rw [← HAV.out]
   have HS5 := Lib.hid (HS4.out.trans s5)
   clear s5
   generalize aftO o (callV x.op) fails = av at *
   obtain ⟨mv, hmv⟩ : ∃ mv, mv = wgtI s fails x := ⟨_, rfl⟩
   have HMV := Lib.hid hmv
   have hm1 : (if (1 : Int) < av then av else 1) = mv := by rw [hmv, HD.out]; split <;> omega
   clear hmv
   go_wp2_with fail
   go_ret
   exact ⟨by rw [← HMV.out]; rfl, HS5.out⟩
  ·have HD := Lib.hid (wgt_no (s := s) (fails := fails) (.inr hout))
   clear hout
   have HS4 := Lib.hid (HS3.out.alloc (.cells #[.int .i64 0, .int .i64 0, .int .i64 0, .int .i64 0, .int .u32 0, .slice none 0 0, .int .i64 0, .slice none 0 0] 34))
   go_upto_region 3 with fail
   generalize w3.alloc (.cells #[.int .i64 0, .int .i64 0, .int .i64 0, .int .i64 0, .int .u32 0, .slice none 0 0, .int .i64 0, .slice none 0 0] 34) = w4 at *
   go_wp2_with fail
   go_ret
   exact ⟨by rw [HD.out]; rfl, HS4.out⟩

/-- what Weights gives -/
def WgtP (w : World) (l : List Int) (e : Ending) (w' : World) : Prop := ∃ A c, e = .returned (.slice A l.length c) ∧ Row w' A (l.map (Value.int .i64)) ∧ Same w w'
theorem wgt_mk {w w' : World} {l : List Int} {A : Option Addr} {n c : Nat} (hn : n = l.length) (hr : Row w' A (l.map (Value.int .i64))) (hs : Same w w') : WgtP w l (.returned (.slice A n c)) w' := by
 subst hn
 exact ⟨A, c, rfl, hr, hs⟩
def wgtL (s : PS) (i fails : Int) : List Int := if 0 ≤ i ∧ i < s.ts.length then (s.ts.getD i.toNat default).code.map (wgtI s fails) else []
theorem wl_out {s : PS} {i fails : Int} (h : i < 0 ∨ (s.ts.length : Int) ≤ i) : wgtL s i fails = [] := if_neg (by omega)
theorem wl_in {s : PS} {i : Nat} {fails : Int} {p : PT} (h : s.ts[i]? = some p) : wgtL s i fails = p.code.map (wgtI s fails) := by
 have hi : i < s.ts.length := (List.getElem?_eq_some_iff.1 h).1
 unfold wgtL
 rw [if_pos (by omega), Int.toNat_natCast, List.getD_eq_getElem?_getD, h]
 rfl
set_option maxRecDepth 100000 in
set_option maxHeartbeats 4000000 in
theorem weights_any (A B : Option Addr) (n c m d : Nat) (s : PS) (i fails : Int) (w : World) (hs : SysAt w A n B m s) (hf : ∀ p ∈ s.ts, p.code.length ≤ 200) (hT : Is.Tabs w) :
 Calls Tryz.prog 71 #[.agg #[.slice A n c, .slice B m d], .int .i64 i, .int .i64 fails] w (WgtP w (wgtL s i fails)) := by
 obtain ⟨i0, hi, hz0, hz1, hz2⟩ := info_parts int_inf
 obtain ⟨w0, hw0⟩ : ∃ w0, w0 = w.alloc (.cells #[.slice A n c, .slice B m d] 25) := ⟨_, rfl⟩
 have s0 : Same w w0 := hw0 ▸ (Same.refl w).alloc _
 have b0 : Blk w0 w.heap.size 25 #[.slice A n c, .slice B m d] := hw0 ▸ Blk.new w _ _
 have HE0 := Lib.hid hw0
 have HF := Lib.hid hf
 have c0 := b0.cell 0
 simp only [Ws.q_] at c0
 have S0 := Lib.hid s0
 have B0 := Lib.hid b0
 have RT := Lib.hid (rowt_any A n c s.ts i w0 (hs.ht.same s0) hs.hn)
 have WA := Lib.hid (fun (x : Im.Ins) (hx : 0 ≤ x.n ∧ x.n < 4294967296) W (h : Same w W) => weight_any A B n c m d s x fails W (hs.ho.same h) hs.hm hx (hT.same h))
 clear hw0 s0 b0 hs hf hT
 go_enter Tryz.func71, Tryz.ntmps71
 go_wp2_with fail
 rw [← HE0.out]
 clear HE0
 refine RT.out.mono ?_
 rintro e w1 ⟨s1, ht⟩
 have S1 := Lib.hid s1
 have B1 := Lib.hid (B0.out.same s1)
 clear s1 RT B0 c0
 rcases ht with ⟨ki, p, X, cX, rfl, hp, hcode, hlen, rfl⟩ | ⟨hout, rfl⟩
 ·have HCW := Lib.hid hcode
  have HLE := Lib.hid (HF.out p (List.mem_of_getElem? hp))
  have HD := Lib.hid (wl_in (fails := fails) hp)
  clear hcode hp hlen
  have HS4 := Lib.hid (S1.out.alloc (.cells #[.int .i64 p.kind, .int .i64 p.prio, .int .i64 p.per, .int .i64 p.off, .int .i64 p.dl, .int .i64 p.own, .slice X p.code.length cX] 47))
  have HQ4 := Lib.hid (Blk.new w1 47 #[.int .i64 p.kind, .int .i64 p.prio, .int .i64 p.per, .int .i64 p.off, .int .i64 p.dl, .int .i64 p.own, .slice X p.code.length cX])
  have HB4b := Lib.hid (B1.out.same ((Same.refl w1).alloc (.cells #[.int .i64 p.kind, .int .i64 p.prio, .int .i64 p.per, .int .i64 p.off, .int .i64 p.dl, .int .i64 p.own, .slice X p.code.length cX] 47)))
  go_upto_region 2 with fail
  generalize w1.alloc (.cells #[.int .i64 p.kind, .int .i64 p.prio, .int .i64 p.per, .int .i64 p.off, .int .i64 p.dl, .int .i64 p.own, .slice X p.code.length cX] 47) = w4 at *
  generalize w1.heap.size = q1 at *
  generalize hq0 : w.heap.size = q0 at *
  clear hq0
  have HLE2 := HLE.out
  have z6 := HQ4.out.cell 6
  simp only [Ws.q_] at z6
  obtain ⟨CN, hCN⟩ : ∃ CN : Im.Ins → Value, CN = fun x => Value.int .i64 (wgtI s fails x) := ⟨_, rfl⟩
  have HCN := Lib.hid (fun x => (show Value.int .i64 (wgtI s fails x) = CN x by rw [hCN]))
  obtain ⟨b4, hb4⟩ : ∃ b4, b4 = w4.heap.size := ⟨_, rfl⟩
  have HB4 := Lib.hid hb4
  clear hb4
  have HLN := Lib.hid (show (p.code.map CN) = (p.code.map (wgtI s fails)).map (Value.int .i64) by rw [hCN, List.map_map]; rfl)
  clear hCN
  go_wp2_with fail
  go_loopg [9, 22] p.code.length (fun gk lv iv wx => ∃ (j : Nat) (A' : Option Addr) (c' : Nat), j + gk = p.code.length ∧ iv = .int .i64 j ∧ lv = .slice A' j c' ∧ Ws.Own wx b4 3 A' c' ((p.code.map CN).take j) ∧ Same w4 wx)
  case atStart => exact ⟨0, none, 0, by omega, rfl, rfl, own_nil _ _ _, Same.refl _⟩
  case round =>
   obtain ⟨j, A', c', hk, rfl, rfl, ho, sx⟩ := hrel
   have HO := Lib.hid ho
   have HSX := Lib.hid sx
   have HSW := Lib.hid (HS4.out.trans sx)
   clear ho sx z6
   cases gk with
   | zero =>
    obtain rfl : j = p.code.length := by omega
    have hge : ¬ (p.code.length : Int) < (p.code.length : Int) := by omega
    have HR := Lib.hid (show Row wr A' ((p.code.map (wgtI s fails)).map (Value.int .i64)) from by rw [← HLN.out]; have := HO.out.row; rwa [show p.code.length = (p.code.map CN).length from (List.length_map ..).symm, List.take_length] at this)
    go_wp2_with fail
    go_ret
    rw [HD.out]
    exact wgt_mk (by rw [List.length_map]) HR.out (S0.out.trans HSW.out)
   | succ GK =>
    have hlt : (j : Int) < p.code.length := by omega
    have hj0 : (0 : Int) ≤ j := by omega
    have HJL := Lib.hid (show j < p.code.length by omega)
    have HJK := Lib.hid hk
    clear hk
    obtain ⟨xj, hxj⟩ : ∃ xj, p.code[j]? = some xj := ⟨p.code[j], List.getElem?_eq_getElem HJL.out⟩
    have HJ := Lib.hid hxj
    clear hxj
    obtain ⟨hxn, bX, oX, rfl, y0, y1, y2, y3, y4⟩ := (HCW.out.same HSW.out).at_ HJ.out
    have HW5 := Lib.hid (HSW.out.alloc (.cells #[.int .i64 xj.op, .int .i64 xj.a, .int .i64 xj.b, .int .i64 xj.c, .int .u32 xj.n] 70))
    have HQ5 := Lib.hid (Blk.new wr 70 #[.int .i64 xj.op, .int .i64 xj.a, .int .i64 xj.b, .int .i64 xj.c, .int .u32 xj.n])
    have HO5 := Lib.hid (HO.out.same ((Same.refl wr).alloc (.cells #[.int .i64 xj.op, .int .i64 xj.a, .int .i64 xj.b, .int .i64 xj.c, .int .u32 xj.n] 70)))
    have HX5 := Lib.hid (HSX.out.alloc (.cells #[.int .i64 xj.op, .int .i64 xj.a, .int .i64 xj.b, .int .i64 xj.c, .int .u32 xj.n] 70))
    have HB5 := Lib.hid (HB4b.out.same HX5.out)
    go_upto_region 6 with fail
    generalize wr.alloc (.cells #[.int .i64 xj.op, .int .i64 xj.a, .int .i64 xj.b, .int .i64 xj.c, .int .u32 xj.n] 70) = w5 at *
    generalize wr.heap.size = q5 at *
    obtain ⟨v0, v1, v2, v3, v4⟩ := (⟨HQ5.out.cell 0, HQ5.out.cell 1, HQ5.out.cell 2, HQ5.out.cell 3, HQ5.out.cell 4⟩ : _ ∧ _ ∧ _ ∧ _ ∧ _)
    obtain ⟨u0, u1⟩ := (⟨HB5.out.cell 0, HB5.out.cell 1⟩ : _ ∧ _)
    simp only [Ws.q_] at v0 v1 v2 v3 v4 u0 u1
    have WA5 := Lib.hid (WA.out xj hxn w5 (S0.out.trans HW5.out))
    clear y0 y1 y2 y3 y4 HSX HSW
    obtain ⟨vv, hvv⟩ : ∃ vv, vv = wgtI s fails xj := ⟨_, rfl⟩
    rw [← hvv] at WA5
    have HV := Lib.hid hvv.symm
    clear hvv
    go_wp2_with fail
    refine WA5.out.mono ?_
    rintro e w7 ⟨rfl, s7⟩
    have HO7 := Lib.hid (HO5.out.same s7)
    have HS7 := Lib.hid (HX5.out.trans s7)
    clear s7 v0 v1 v2 v3 v4 u0 u1 WA5
    go_wp2_with (at_builtin; go_loud (refine wpList_app rfl (.tmp 26) (.tmp 31) 32 rfl b4 3 i0 _ 8 Tryz.underlying32 hi hz0 hz1 hz2 rfl A' j c' ((p.code.map CN).take j) rfl ?c1 (HO7.out.same ((Same.refl _).alloc _)) _ 1 1 [.int .i64 vv] rfl rfl (row_new _ _ _) ?c2 ?c3 (by omega) ?c4 ?_))
    case c1 => rw [List.length_take, List.length_map]; have := HJL.out; omega
    case c2 => intro u hu; simp at hu; subst hu; rfl
    case c3 => rw [List.length_take, List.length_map]; simp; omega
    case c4 => have := HB4.out; have := HS7.out.size; simp; omega
    intro A2 c2' w8 ho2 hc2 _
    have HS8 := Lib.hid (Same.more (HS7.out.alloc _) hc2 (fun g hg => by have := own_low HO.out hg; have := HB4.out; omega))
    rw [show (p.code.map CN).take j ++ [.int .i64 vv] = (p.code.map CN).take (j + 1) from by rw [take_snoc (p.code.map CN) (v := CN xj) (by rw [List.getElem?_map, HJ.out]; rfl), ← HCN.out, HV.out]] at ho2
    have HO8 := Lib.hid ho2
    clear ho2 hc2
    go_wp2_with fail
    go_roundg GK
    case rel => exact ⟨j + 1, A2, c2', by have := HJK.out; omega, by go_num, rfl, HO8.out, HS8.out⟩
    case measure => omega
 ·have HD := Lib.hid (wl_out (fails := fails) hout)
  clear hout
  have HS4 := Lib.hid (S1.out.alloc (.cells #[.int .i64 0, .int .i64 0, .int .i64 0, .int .i64 0, .int .i64 0, .int .i64 0, .slice none 0 0] 47))
  have HQ4 := Lib.hid (Blk.new w1 47 #[.int .i64 0, .int .i64 0, .int .i64 0, .int .i64 0, .int .i64 0, .int .i64 0, .slice none 0 0])
  go_upto_region 2 with fail
  generalize w1.alloc (.cells #[.int .i64 0, .int .i64 0, .int .i64 0, .int .i64 0, .int .i64 0, .int .i64 0, .slice none 0 0] 47) = w4 at *
  generalize w1.heap.size = q1 at *
  have z6 := HQ4.out.cell 6
  simp only [Ws.q_] at z6
  go_wp2_with fail
  go_loopg [9, 22] 0 (fun gk lv iv wx => gk = 0 ∧ iv = .int .i64 0 ∧ lv = .slice none 0 0 ∧ Same w4 wx)
  case atStart => exact ⟨rfl, rfl, rfl, Same.refl _⟩
  case round =>
   obtain ⟨rfl, rfl, rfl, sx⟩ := hrel
   go_wp2_with fail
   go_ret
   rw [HD.out]
   exact wgt_mk rfl (Row.nil _ _) (S0.out.trans (HS4.out.trans sx))
end Go.Proofs.YthhbhbfkbncegaaGreatDoor.Dm
