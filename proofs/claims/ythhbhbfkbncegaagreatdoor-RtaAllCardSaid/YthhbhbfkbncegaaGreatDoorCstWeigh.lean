/-

 Package cost (layer 12): what the best walk through a program weighs (weigh, Most, Least).
-/
import Derived.Test.YthhbhbfkbncegaaGreatDoorCstOnce
import Derived.Test.YthhbhbfkbncegaaGreatDoorCstPart
import Derived.Test.YthhbhbfkbncegaaGreatDoorOperApp
import Derived.Test.YthhbhbfkbncegaaGreatDoorHeldB
import Derived.Deep.CutRange
set_option linter.unusedVariables false
set_option linter.unusedSimpArgs false
namespace Go.Proofs.YthhbhbfkbncegaaGreatDoor.Cs
open Go.ChangeShapes Go.WideShapes Go.ChangeAt Go.RowKit Ws
open Go.Proofs.YthhbhbfkbncegaaGreatDoor.Fp (Ins at_ Fine at_some lp loopsL nextL hasB)
open Go.Proofs.YthhbhbfkbncegaaGreatDoor.Fw (Prg Spn spanCells spn_of)

theorem fitB_back : Is.hasC 16 2 < 7 ∧ Is.loL.getD (Is.hasC 16 2) 0 = 1 ∧ Is.hiL.getD (Is.hasC 16 2) 0 = 255 := by decide +kernel
theorem back_c {x : Ins} (h : Fw.rightI x = true) (ho : x.op = 16) : 1 ≤ x.c ∧ x.c ≤ 255 := by
 unfold Fw.rightI Is.rightB at h
 rw [ho] at h
 simp only [Bool.and_eq_true] at h
 have h2 := h.2.2.2.1
 unfold Is.fitB at h2
 have e : (16 : Int).toNat = 16 := rfl
 rw [e, fitB_back.2.1, fitB_back.2.2] at h2
 simp at h2
 omega
theorem ways_info : (Tryz.prog.info? 123).map (fun i => (i.zero, i.size, i.bytes)) = some (some (.agg #[.int .i64 0, .int .i64 0]), 2, 16) := by kernel_rfl
theorem span_info' : (Tryz.prog.info? 97).map (fun i => (i.zero, i.size, i.bytes)) = some (some (.agg #[.int .i64 0, .int .i64 0]), 2, 16) := by kernel_rfl
theorem two_one (a b : Int) : ∀ u ∈ [Value.int .i64 a, Value.int .i64 b], u.oneCell' = true := by
 intro u hu
 simp only [List.mem_cons, List.not_mem_nil, or_false] at hu
 rcases hu with rfl | rfl <;> rfl
/-- two rows of unlike elements lie apart -/
theorem ownK_apart {w : World} {B B' : Nat} {e e' : TypeId} {s s' : Nat} {A A' : Option Addr} {n n' c c' : Nat} {l l' : List Value} (h : OwnK w B e s A n c l) (h' : OwnK w B' e' s' A' n' c' l') (hne : e ≠ e') : ∀ g, A' = some ⟨g, 0, none⟩ → ¬ A = some ⟨g, 0, none⟩ := by
 intro g hA' hA
 rcases h.2 with ⟨h2, _⟩ | ⟨g2, cap, cur, hv, _, hg, _⟩
 ·injection h2 with h2
  rw [hA] at h2
  cases h2
 ·have h3 : A = some ⟨g2, 0, none⟩ := by injection hv
  rw [hA] at h3
  injection h3 with h3
  injection h3 with h3
  subst h3
  exact h'.ne (show Blk w g e cur from hg) (fun h => hne h.symm) g hA' rfl
theorem blk_row {w : World} {g : Nat} {t : TypeId} {l : List Value} (h : Blk w g t l.toArray) : Row w (some ⟨g, 0, none⟩) l := by
 intro j u hj
 exact ⟨g, 0, rfl, by rw [Nat.zero_add, h.cell j]; simpa using hj⟩
theorem _root_.Go.Proofs.YthhbhbfkbncegaaGreatDoor.Ws.OwnK.base_ge {w : World} {B : Nat} {e : TypeId} {s : Nat} {A : Option Addr} {n c : Nat} {l : List Value} (h : OwnK w B e s A n c l) (g : Nat) (hA : A = some ⟨g, 0, none⟩) : B ≤ g := by
 subst hA
 exact h.lt.1
abbrev sndL (ls : Known) : List (Int × Int) := ls.map fun l => (l.2.thru, l.2.fin)
/-- flow's Loops tells in memory of its own -/
theorem toldk_any (A : Option Addr) (m c : Nat) (p : List Ins) (w : World) (hl : p.length = m) (hm : m ≤ 5000) (hp : Prg w A p) (ht : Is.Tabs w) (hok : Fw.okB p = true) :
 Calls Tryz.prog 112 #[.slice A m c] w (Fw.LoopsPost w p) := by
 have MA := Fw.may_any A m c p w hl hm hp ht
 rw [hok] at MA
 have HMA := Lib.hid MA
 have LO := Lib.hid (fun w' (s : Same w w') => Fw.loops_any A m c p w' hl hm (hp.same s))
 clear hl hp ht MA hok
 unfold Fw.LoopsPost
 go_enter Tryz.func112, Tryz.ntmps112
 go_wp2_with fail
 refine HMA.out.mono ?_
 rintro e w1 ⟨rfl, s1⟩
 go_wp2_with fail
 refine (LO.out _ s1).mono ?_
 rintro e w2 ⟨A2, c2, rfl, ho, s2⟩
 have HO := Lib.hid (ho.base s1.size)
 have HS2 := Lib.hid (s1.trans s2)
 clear ho s1 s2 LO HMA
 generalize hnn : (loopsL p).length = n at *
 have HNN := Lib.hid hnn
 clear hnn
 go_wp2_with fail
 go_ret
 exact ⟨A2, c2, by rw [HNN.out]; rfl, by rw [HNN.out]; exact HO.out, HS2.out⟩
/-- what stands between two loops -/
structure WI (w : World) (B q : Nat) (sc : List Value) (TA : Option Addr) (tn tc : Nat) (tl : List (Int × Int)) (LA : Option Addr) (cL : Nat) (KA : Option Addr) (cK nl : Nat) (ls : Known) (W : World) : Prop where
 b : Blk W q 109 (sc ++ [Value.slice LA nl cL, Value.slice KA nl cK]).toArray
 ol : OwnK W B 97 2 LA nl cL (spanCells (fstL ls))
 ok_ : OwnK W B 123 2 KA nl cK (spanCells (sndL ls))
 tl : OwnK W 0 97 2 TA tn tc (spanCells tl)
 tb : ∀ g, TA = some ⟨g, 0, none⟩ → q < g ∧ g < B
 same : Same w W
 sz : B ≤ W.heap.size
 qb : w.heap.size ≤ q ∧ q < B
theorem WI.same_ {w : World} {B q : Nat} {sc : List Value} {TA : Option Addr} {tn tc : Nat} {tl : List (Int × Int)} {LA : Option Addr} {cL : Nat} {KA : Option Addr} {cK nl : Nat} {ls : Known} {W W' : World} (h : WI w B q sc TA tn tc tl LA cL KA cK nl ls W) (hs : Same W W') : WI w B q sc TA tn tc tl LA cL KA cK nl ls W' :=
 ⟨h.b.same hs, h.ol.same hs, h.ok_.same hs, h.tl.same hs, h.tb, h.same.trans hs, Nat.le_trans h.sz hs.size, h.qb⟩
theorem knownT_mem {bt : Int → Int → Bool} {p : List Ins} {ws : List Int} : ∀ {n : Nat}, n ≤ (loopsL p).length → ∀ l ∈ knownT bt p ws n, l.1 ∈ loopsL p
 | 0, _, l, h => by cases h
 | n + 1, hn, l, h => by
  rw [knownT, List.mem_append] at h
  rcases h with h | h
  ·exact knownT_mem (by omega) l h
  ·rw [List.mem_singleton] at h
   subst h
   exact Fp.lp_mem (by omega)
theorem knownT_len {bt : Int → Int → Bool} {p : List Ins} {ws : List Int} : ∀ n, (knownT bt p ws n).length = n
 | 0 => rfl
 | n + 1 => by rw [knownT, List.length_append, knownT_len n]; rfl
theorem ways_field (x y : Int) (w : World) : (Instr.field 123 (.agg #[.int .i64 x, .int .i64 y]) 1).run Tryz.prog w = .ok (.int .i64 y) w := by kernel_rfl
/-- what weigh tells: the error, and the weight -/
def weE (p : List Ins) (n : Nat) : Int := if Fw.ckE p = 0 then (if n = p.length then 0 else 1) else Fw.ckE p
def weI (mx : Bool) (p : List Ins) (ws : List Int) : Int := if weE p ws.length = 0 then weighW (btB mx) p ws else 0
set_option maxRecDepth 100000 in
set_option maxHeartbeats 1000000 in
theorem weigh_ok' (mx : Bool) (A : Option Addr) (m c : Nat) (p : List Ins) (Wt : Option Addr) (cW : Nat) (ws : List Int) (w : World) (hl : p.length = m) (hm : m ≤ 5000) (hp : Prg w A p) (hW : Row w Wt (ws.map (Value.int .i64))) (hwl : ws.length = m) (hT : Is.Tabs w) (hok : Fw.okB p = true) :
 Calls Tryz.prog 93 #[.agg #[.slice A m c, .slice Wt m cW, fvB mx, .slice none 0 0, .slice none 0 0]] w fun e w' => e = .returned (.tuple #[.int .i64 (weighW (btB mx) p ws), .int .i64 0]) ∧ Same w w' := by
 have hF := Fw.okB_fine hok
 have HFI := Lib.hid hF
 have hck : Fw.ckE p = 0 := of_decide_eq_true hok
 have HOK := Lib.hid hok
 have HP := Lib.hid hp
 have HL := Lib.hid hl
 have HWT := Lib.hid hW
 have HWL := Lib.hid hwl
 have HTB := Lib.hid hT
 have CK := fun W (s : Same w W) => Fw.check_any A m c p W hl hm (hp.same s) (hT.same s)
 rw [hck] at CK
 have HCK := Lib.hid CK
 have hn := hp.nn
 have HNN := Lib.hid hn
 have hsz := hF.size
 have hm1 : 1 ≤ m ∧ m ≤ 64 := by omega
 have TL := Lib.hid (fun W (s : Same w W) => toldk_any A m c p W hl hm (hp.same s) (hT.same s) hok)
 have B0 := Lib.hid (Blk.new w 109 #[.slice A m c, .slice Wt m cW, fvB mx, .slice none 0 0, .slice none 0 0])
 have S0 := Lib.hid ((Same.refl w).alloc (.cells #[.slice A m c, .slice Wt m cW, fvB mx, .slice none 0 0, .slice none 0 0] 109))
 clear hp hl hW hwl hT hok hF hck CK hn hsz
 have hfc : (fvB mx).cells = #[fvB mx] := by cases mx <;> rfl
 go_enter Tryz.func93, Tryz.ntmps93
 go_wp2_with fail
 obtain ⟨q, hq⟩ : ∃ q, q = w.heap.size := ⟨_, rfl⟩
 have hzq := (show (w.alloc (.cells #[.slice A m c, .slice Wt m cW, fvB mx, .slice none 0 0, .slice none 0 0] 109)).heap.size = w.heap.size + 1 from by simp)
 generalize w.alloc (.cells #[.slice A m c, .slice Wt m cW, fvB mx, .slice none 0 0, .slice none 0 0] 109) = w0 at *
 rw [← hq] at B0 hzq
 rw [← hq]
 have HQ := Lib.hid hq
 have HZQ := Lib.hid hzq
 clear hq hzq
 refine (HCK.out _ S0.out).mono ?_
 rintro e w1 ⟨rfl, s1⟩
 have S1 := Lib.hid (S0.out.trans s1)
 have B1 := Lib.hid (B0.out.same s1)
 have HZ1 := Lib.hid (show q < w1.heap.size from B1.out.lt)
 clear s1 HCK
 have c0 : w1.cell? ⟨q, 0, none⟩ = some (.slice A m c) := B1.out.cell 0
 have c1 : w1.cell? ⟨q, 1, none⟩ = some (.slice Wt m cW) := B1.out.cell 1
 go_wp2_with fail
 refine (TL.out _ S1.out).mono ?_
 rintro e wT ⟨TA, tc, rfl, ho, hs⟩
 obtain ⟨tn, htn⟩ : ∃ tn, tn = (loopsL p).length := ⟨_, rfl⟩
 rw [← htn] at ho
 rw [← htn]
 have HTN := Lib.hid htn
 have htb : tn ≤ 64 := by rw [htn]; exact Nat.le_trans (Fp.loopsTo_len p.length) (by have := HL.out; omega)
 have W0 := Lib.hid (show WI w wT.heap.size q [.slice A m c, .slice Wt m cW, fvB mx] TA tn tc (loopsL p) none 0 none 0 0 (knownT (btB mx) p ws 0) wT from
  ⟨B1.out.same hs, OwnK.none _ _ _ _, OwnK.none _ _ _ _, ho.base (Nat.zero_le _), fun g e => (by subst e; exact ⟨Nat.lt_of_lt_of_le HZ1.out ho.lt.1, ho.lt.2.1⟩), S1.out.trans hs, Nat.le_refl _, ⟨by rw [HQ.out]; exact Nat.le_refl _, Nat.lt_of_lt_of_le HZ1.out hs.size⟩⟩)
 clear htn ho hs c0 c1 S1 B1 HZ1 TL S0 B0 HZQ
 go_wp2_with fail
 go_loopg [29] tn (fun gk iv wx => ∃ (k : Nat) (LA : Option Addr) (cL : Nat) (KA : Option Addr) (cK : Nat), k + gk = tn ∧ iv = .int .i64 (k : Int) ∧ Hid (WI w wT.heap.size q [.slice A m c, .slice Wt m cW, fvB mx] TA tn tc (loopsL p) LA cL KA cK k (knownT (btB mx) p ws k) wx))
 case atStart => exact ⟨0, none, 0, none, 0, by omega, rfl, W0⟩
 case round =>
  obtain ⟨k, LA, cL, KA, cK, hk, rfl, HW⟩ := hrel
  clear W0
  have HKN := Lib.hid (knownT_len (bt := btB mx) (p := p) (ws := ws) k)
  have HIN := Lib.hid (show k ≤ tn → ∀ l ∈ knownT (btB mx) p ws k, 0 ≤ l.1.1 ∧ l.1.1 ≤ l.1.2 ∧ l.1.2 < m from fun hk l h => by
   have := HFI.out.loop HNN.out (knownT_mem (by rw [← HTN.out]; exact hk) l h)
   rw [HL.out] at this
   omega)
  have ONE := Lib.hid (fun (part : Int × Int) (hpa : 0 ≤ part.1 ∧ part.1 ≤ part.2 ∧ part.2 < m) (hk : k ≤ tn) W' (s : Same wr W') => once_any mx q A m c p Wt cW ws LA cL KA cK k (knownT (btB mx) p ws k) part W' ((HW.out.same_ s).b) HL.out hm (HP.out.same (HW.out.same_ s).same) HOK.out (HWT.out.same (HW.out.same_ s).same) HWL.out HKN.out (by omega) (spn_of (HW.out.same_ s).ol.row) (spn_of (HW.out.same_ s).ok_.row) hpa (fun b o e => by
   subst e
   rcases (HW.out.same_ s).ol.2 with ⟨h2, _⟩ | ⟨g2, cap, cur, hv, _, hg, _⟩
   ·cases h2
   ·injection hv with hv
    injection hv with hv
    injection hv with hv _
    subst hv
    exact Blk.lt (show Blk W' b 97 cur from hg)) (HIN.out hk) (HTB.out.same (HW.out.same_ s).same))
  cases gk with
  | zero =>
   obtain rfl : k = tn := by omega
   have hge : ¬ (k : Int) < k := by omega
   have ON := ONE.out (0, (m : Int) - 1) ⟨by simp, by simp; omega, by simp; omega⟩ (Nat.le_refl _) wr (Same.refl _)
   have hwv : (onceW (btB mx) p ws (knownT (btB mx) p ws k) (0, (m : Int) - 1)).fin = weighW (btB mx) p ws := by
    unfold weighW
    rw [← HTN.out, HL.out]
   rw [hwv] at ON
   have HON := Lib.hid ON
   clear ON hwv ONE
   have c0 : wr.cell? ⟨q, 0, none⟩ = some (.slice A m c) := HW.out.b.cell 0
   go_wp2_with fail
   refine HON.out.mono ?_
   rintro e w5 ⟨rfl, s5⟩
   have hfd := ways_field (onceW (btB mx) p ws (knownT (btB mx) p ws k) (0, (m : Int) - 1)).thru (weighW (btB mx) p ws) w5
   go_wp2_with fail
   go_ret2
   exact ⟨rfl, HW.out.same.trans s5⟩
  | succ GK =>
   have hlt : (k : Int) < tn := by omega
   have hk0 : (0 : Int) ≤ (k : Int) := by omega
   have hkn : k < tn := by omega
   have HK := Lib.hid hk
   obtain ⟨tb, tO, hTA, t0, t1⟩ := (spn_of HW.out.tl.row).at_ (k := k) (by rw [← HTN.out]; exact hkn)
   subst hTA
   have hlp := HFI.out.loop HNN.out (s := lp (loopsL p) k) (Fp.lp_mem (by rw [← HTN.out]; exact hkn))
   rw [HL.out] at hlp
   have hbk := lp_back HFI.out HNN.out (j := k) (by rw [← HTN.out]; exact hkn)
   have hrt := HFI.out.right (lp (loopsL p) k).2.toNat (by rw [HL.out]; omega)
   have hcc := back_c hrt hbk
   have HKT := Lib.hid (show knownT (btB mx) p ws (k + 1) = knownT (btB mx) p ws k ++ [(lp (loopsL p) k, repW (btB mx) (onceW (btB mx) p ws (knownT (btB mx) p ws k) (lp (loopsL p) k)) ((at_ p (lp (loopsL p) k).2.toNat).c + 1).toNat)] from rfl)
   have ON0 := Lib.hid (fun W' (s : Same wr W') => ONE.out (lp (loopsL p) k) (by omega) (by omega) W' s)
   obtain ⟨zk, zb, zo, hA, _, _, _, zc, _⟩ := (HP.out.same HW.out.same).at_ (k := (lp (loopsL p) k).2.toNat) (by rw [HL.out]; omega)
   subst hA
   clear zk hrt hbk ONE hk HIN
   generalize (at_ p (lp (loopsL p) k).2.toNat).c = lc at *
   generalize onceW (btB mx) p ws (knownT (btB mx) p ws k) (lp (loopsL p) k) = ow at *
   generalize knownT (btB mx) p ws k = ls0 at *
   generalize lp (loopsL p) k = sp at *
   obtain ⟨fa, fb0⟩ := sp
   obtain ⟨fb, rfl⟩ : ∃ fb : Nat, fb0 = (fb : Int) := ⟨fb0.toNat, by omega⟩
   simp only [Int.toNat_natCast] at hlp hcc zc t0 t1 HKT ON0
   go_wp2_with fail
   obtain ⟨b7, hb7⟩ : ∃ b7, b7 = wr.heap.size := ⟨_, rfl⟩
   obtain ⟨wX, hwX⟩ : ∃ wX, wX = wr.alloc (Obj.cells #[Value.int IntKind.i64 fa, Value.int IntKind.i64 ↑fb] 97) := ⟨_, rfl⟩
   rw [← hb7, ← hwX]
   have sX : Same wr wX := by rw [hwX]; exact (Same.refl _).alloc _
   have HWX := Lib.hid (HW.out.same_ sX)
   have B7 := Lib.hid (show Blk wX b7 97 #[.int .i64 fa, .int .i64 (fb : Int)] from by rw [hwX, hb7]; exact Blk.new wr _ _)
   have ON := Lib.hid (fun W' (s : Same wX W') => ON0.out W' (sX.trans s))
   have hl1 : 1 ≤ lc := hcc.1
   have hl2 : lc ≤ 255 := hcc.2
   have hadd : IntKind.i64.wrap (lc + 1) = lc + 1 := Go.IntWalk.i64_in _ (by omega)
   have RP := Lib.hid (fun W' (s : Same wX W') => rep_any mx q ow (lc + 1) W' ((HWX.out.same_ s).b.cell 2) (by omega))
   obtain ⟨rv, hrv⟩ : ∃ rv, rv = repW (btB mx) ow (lc + 1).toNat := ⟨_, rfl⟩
   rw [← hrv] at RP HKT
   have SS := Lib.hid (fun W' (s : Same wX W') => (show W'.cell? ⟨q, 0, none⟩ = some (.slice (some ⟨zb, zo, none⟩) m c) ∧ W'.cell? ⟨b7, 0, none⟩ = some (.int .i64 fa) ∧ W'.cell? ⟨b7, 1, none⟩ = some (.int .i64 (fb : Int)) ∧ W'.cell? ⟨zb, zo + fb * 5 + 3, none⟩ = some (.int .i64 lc) ∧ Same wX W' from
    ⟨(HWX.out.same_ s).b.cell 0, (B7.out.same s).cell 0, (B7.out.same s).cell 1, s.cell (sX.cell zc), s⟩))
   have hfb : (fb : Int) < m := hlp.2.2
   have hfb0 : (0 : Int) ≤ (fb : Int) := by omega
   have HLG0 := Lib.hid (fun g (e : LA = some ⟨g, 0, none⟩) => (show wT.heap.size ≤ g ∧ g < b7 from by subst e; rw [hb7]; exact ⟨HW.out.ol.lt.1, HW.out.ol.lt.2.1⟩))
   have HKG0 := Lib.hid (fun g (e : KA = some ⟨g, 0, none⟩) => (show wT.heap.size ≤ g ∧ g < b7 from by subst e; rw [hb7]; exact ⟨HW.out.ok_.lt.1, HW.out.ok_.lt.2.1⟩))
   have HB70 := Lib.hid (show wT.heap.size ≤ b7 from by rw [hb7]; exact HW.out.sz)
   clear hb7 hwX sX ON0 zc t0 t1 hcc hlp hrv
   go_cut [8] from 33 to 43 (fun v8 wx => ∃ b8, v8 = .pointer (some ⟨b8, 0, none⟩) ∧ Hid (WI w wT.heap.size q [.slice (some ⟨zb, zo, none⟩) m c, .slice Wt m cW, fvB mx] (some ⟨tb, tO, none⟩) tn tc (loopsL p) LA cL KA cK k ls0 wx) ∧ Hid (Blk wx b8 123 #[.int .i64 rv.thru, .int .i64 rv.fin]) ∧ Hid (Blk wx b7 97 #[.int .i64 fa, .int .i64 (fb : Int)]) ∧ Hid (b7 < b8))
   case first =>
    refine wp_region_held_drew (S := fun w' => w'.cell? ⟨q, 0, none⟩ = some (.slice (some ⟨zb, zo, none⟩) m c) ∧ w'.cell? ⟨b7, 0, none⟩ = some (.int .i64 fa) ∧ w'.cell? ⟨b7, 1, none⟩ = some (.int .i64 (fb : Int)) ∧ w'.cell? ⟨zb, zo + fb * 5 + 3, none⟩ = some (.int .i64 lc) ∧ Same wX w') (by kernel_rfl) ?_ (fun hHeld => ?_)
    ·exact SS.out _ (Same.refl _).drew
    have hHeld' := SS.out _ (Same.refl wX).drew
    clear hHeld
    obtain ⟨wD, hwD⟩ : ∃ wD, wD = wX.drew := ⟨_, rfl⟩
    rw [← hwD] at hHeld'
    rw [← hwD]
    clear hwD
    have hHeld := hHeld'
    clear hHeld'
    refine Ro.tn 0 ?_ ?_ ?_
    rotate_left
    ·intro wS hSw; (try dsimp only at hSw); go_simp; try with_reducible rfl
    try simp only [Ro.p]
    refine Ro.tn 2 ?_ ?_ ?_
    rotate_left
    ·intro wS hSw; (try dsimp only at hSw); go_simp; try with_reducible rfl
    try simp only [Ro.p]
    refine Ro.tn 3 ?_ ?_ ?_
    rotate_left
    ·intro wS hSw; (try dsimp only at hSw); go_simp; try with_reducible rfl
    try simp only [Ro.p]
    refine Ro.tn 4 ?_ ?_ ?_
    rotate_left
    ·intro wS hSw; (try dsimp only at hSw); go_simp; try with_reducible rfl
    try simp only [Ro.p]
    refine Ro.tn 5 ?_ ?_ ?_
    rotate_left
    ·intro wS hSw; (try dsimp only at hSw); go_simp; try with_reducible rfl
    try simp only [Ro.p]
    refine Ro.tn 6 ?_ ?_ ?_
    rotate_left
    ·intro wS hSw; (try dsimp only at hSw); go_simp; try with_reducible rfl
    try simp only [Ro.p]
    refine Ro.tn 7 ?_ ?_ ?_
    rotate_left
    ·intro wS hSw; (try dsimp only at hSw); go_simp; try with_reducible rfl
    try simp only [Ro.p]
    refine Ro.tn 8 ?_ ?_ ?_
    rotate_left
    ·intro wS hSw; (try dsimp only at hSw); go_simp; try with_reducible rfl
    try simp only [Ro.p]
    refine Ro.tn 9 ?_ ?_ ?_
    rotate_left
    ·intro wS hSw; (try dsimp only at hSw); go_simp; try with_reducible rfl
    try simp only [Ro.p]
    refine Ra.two_on (i := 1) (j := 11) rfl rfl (by kernel_rfl) (by rfl) (by rfl) (fun K hK => ?_) (fun K hK => ?_)
    ·go_simp
     go_at_call 114
     refine (ON.out _ hHeld.2.2.2.2).mono ?_
     rintro e v1 ⟨rfl, hs⟩
     (first | refine hK.out _ _ ?_ (fun hNew => ?_) | (go_wp2_with fail; refine hK.out _ _ ?_ (fun hNew => ?_)))
     ·exact SS.out _ (hHeld.2.2.2.2.trans hs)
     clear hs
     clear hK K hHeld
     have hHeld := hNew
     clear hNew
     try simp only [Ro.p]
     refine Ra.two_on (i := 10) (j := 11) rfl rfl (by kernel_rfl) (by rfl) (by rfl) (fun K hK => ?_) (fun K hK => ?_)
     ·go_simp
      go_at_call 113
      refine (RP.out _ hHeld.2.2.2.2).mono ?_
      rintro e v2 ⟨rfl, hs⟩
      (first | refine hK.out _ _ ?_ (fun hNew => ?_) | (go_wp2_with fail; refine hK.out _ _ ?_ (fun hNew => ?_)))
      ·exact SS.out _ (hHeld.2.2.2.2.trans hs)
      clear hs
      clear hK K hHeld
      have hHeld := hNew
      clear hNew
      try simp only [Ro.p]
      refine Ro.one_on (i := 11) rfl (by kernel_rfl) (by rfl) (fun K hK => ?_)
      go_simp
      refine hK.out _ _ ?_ (fun hNew => ?_)
      ·exact SS.out _ (hHeld.2.2.2.2.alloc _)
      have B8 := Lib.hid (Blk.new v2 123 #[.int .i64 0, .int .i64 0])
      obtain ⟨b8, hb8⟩ : ∃ b8, b8 = v2.heap.size := ⟨_, rfl⟩
      obtain ⟨v3, hwn⟩ : ∃ x, x = v2.alloc (.cells #[.int .i64 0, .int .i64 0] 123) := ⟨_, rfl⟩
      have HGE := Lib.hid (show wX.heap.size ≤ b8 from by rw [hb8]; exact hHeld.2.2.2.2.size)
      rw [← hwn] at hNew
      rw [← hb8, ← hwn] at B8
      rw [← hb8, ← hwn]
      clear hb8 hwn
      clear hK K hHeld
      have hHeld := hNew
      clear hNew
      try simp only [Ro.p]
      refine Ro.one_on (i := 12) rfl (by kernel_rfl) (by rfl) (fun K hK => ?_)
      have z0 := B8.out.cell 0
      have z1 := B8.out.cell 1
      simp only [Ws.q_] at z0 z1
      have f0 := B8.out.thaw 0
      have f1 := B8.out.thaw 1
      go_simp
      have hc12 : Chg (fun i => i = b8) v3 ((v3.setCell ⟨b8, 0, none⟩ (.int .i64 rv.thru)).setCell ⟨b8, 1, none⟩ (.int .i64 rv.fin)) := ((Chg.refl (fun i => i = b8) v3).set (p := ⟨b8, 0, none⟩) (.inl rfl) _).set (p := ⟨b8, 1, none⟩) (.inl rfl) _
      have hs12 : Same wX ((v3.setCell ⟨b8, 0, none⟩ (.int .i64 rv.thru)).setCell ⟨b8, 1, none⟩ (.int .i64 rv.fin)) := Same.more hHeld.2.2.2.2 hc12 (fun i hi => by have := HGE.out; omega)
      refine hK.out _ _ ?_ (fun hNew => ?_)
      ·exact SS.out _ hs12
      try simp only [Ro.p]
      refine wpAnyH_done (by kernel_rfl) ?_ _
      go_wp2_with fail
      go_meet
      case rel => exact ⟨b8, rfl, Lib.hid (HWX.out.same_ hs12), Lib.hid ((B8.out.put 0 (.int .i64 rv.thru)).put 1 (.int .i64 rv.fin)), Lib.hid (B7.out.same hs12), Lib.hid (by have := HGE.out; have := B7.out.lt; omega)⟩
     ·go_simp
      refine hK.out _ _ ?_ (fun hNew => ?_)
      ·exact SS.out _ (hHeld.2.2.2.2.alloc _)
      have B8 := Lib.hid (Blk.new v1 123 #[.int .i64 0, .int .i64 0])
      obtain ⟨b8, hb8⟩ : ∃ b8, b8 = v1.heap.size := ⟨_, rfl⟩
      obtain ⟨v5, hwn⟩ : ∃ x, x = v1.alloc (.cells #[.int .i64 0, .int .i64 0] 123) := ⟨_, rfl⟩
      have HGE := Lib.hid (show wX.heap.size ≤ b8 from by rw [hb8]; exact hHeld.2.2.2.2.size)
      rw [← hwn] at hNew
      rw [← hb8, ← hwn] at B8
      rw [← hb8, ← hwn]
      clear hb8 hwn
      clear hK K hHeld
      have hHeld := hNew
      clear hNew
      try simp only [Ro.p]
      refine Ro.one_on (i := 10) rfl (by kernel_rfl) (by rfl) (fun K hK => ?_)
      go_simp
      go_at_call 113
      refine (RP.out _ hHeld.2.2.2.2).mono ?_
      rintro e v6 ⟨rfl, hs⟩
      (first | refine hK.out _ _ ?_ (fun hNew => ?_) | (go_wp2_with fail; refine hK.out _ _ ?_ (fun hNew => ?_)))
      ·exact SS.out _ (hHeld.2.2.2.2.trans hs)
      have B8 := Lib.hid (B8.out.same hs)
      clear hs
      clear hK K hHeld
      have hHeld := hNew
      clear hNew
      try simp only [Ro.p]
      refine Ro.one_on (i := 12) rfl (by kernel_rfl) (by rfl) (fun K hK => ?_)
      have z0 := B8.out.cell 0
      have z1 := B8.out.cell 1
      simp only [Ws.q_] at z0 z1
      have f0 := B8.out.thaw 0
      have f1 := B8.out.thaw 1
      go_simp
      have hc12 : Chg (fun i => i = b8) v6 ((v6.setCell ⟨b8, 0, none⟩ (.int .i64 rv.thru)).setCell ⟨b8, 1, none⟩ (.int .i64 rv.fin)) := ((Chg.refl (fun i => i = b8) v6).set (p := ⟨b8, 0, none⟩) (.inl rfl) _).set (p := ⟨b8, 1, none⟩) (.inl rfl) _
      have hs12 : Same wX ((v6.setCell ⟨b8, 0, none⟩ (.int .i64 rv.thru)).setCell ⟨b8, 1, none⟩ (.int .i64 rv.fin)) := Same.more hHeld.2.2.2.2 hc12 (fun i hi => by have := HGE.out; omega)
      refine hK.out _ _ ?_ (fun hNew => ?_)
      ·exact SS.out _ hs12
      try simp only [Ro.p]
      refine wpAnyH_done (by kernel_rfl) ?_ _
      go_wp2_with fail
      go_meet
      case rel => exact ⟨b8, rfl, Lib.hid (HWX.out.same_ hs12), Lib.hid ((B8.out.put 0 (.int .i64 rv.thru)).put 1 (.int .i64 rv.fin)), Lib.hid (B7.out.same hs12), Lib.hid (by have := HGE.out; have := B7.out.lt; omega)⟩
    ·go_simp
     refine hK.out _ _ ?_ (fun hNew => ?_)
     ·exact SS.out _ (hHeld.2.2.2.2.alloc _)
     have B8 := Lib.hid (Blk.new wD 123 #[.int .i64 0, .int .i64 0])
     obtain ⟨b8, hb8⟩ : ∃ b8, b8 = wD.heap.size := ⟨_, rfl⟩
     obtain ⟨v8, hwn⟩ : ∃ x, x = wD.alloc (.cells #[.int .i64 0, .int .i64 0] 123) := ⟨_, rfl⟩
     have HGE := Lib.hid (show wX.heap.size ≤ b8 from by rw [hb8]; exact hHeld.2.2.2.2.size)
     rw [← hwn] at hNew
     rw [← hb8, ← hwn] at B8
     rw [← hb8, ← hwn]
     clear hb8 hwn
     clear hK K hHeld
     have hHeld := hNew
     clear hNew
     try simp only [Ro.p]
     refine Ro.one_on (i := 1) rfl (by kernel_rfl) (by rfl) (fun K hK => ?_)
     go_simp
     go_at_call 114
     refine (ON.out _ hHeld.2.2.2.2).mono ?_
     rintro e v9 ⟨rfl, hs⟩
     (first | refine hK.out _ _ ?_ (fun hNew => ?_) | (go_wp2_with fail; refine hK.out _ _ ?_ (fun hNew => ?_)))
     ·exact SS.out _ (hHeld.2.2.2.2.trans hs)
     have B8 := Lib.hid (B8.out.same hs)
     clear hs
     clear hK K hHeld
     have hHeld := hNew
     clear hNew
     try simp only [Ro.p]
     refine Ro.one_on (i := 10) rfl (by kernel_rfl) (by rfl) (fun K hK => ?_)
     go_simp
     go_at_call 113
     refine (RP.out _ hHeld.2.2.2.2).mono ?_
     rintro e v10 ⟨rfl, hs⟩
     (first | refine hK.out _ _ ?_ (fun hNew => ?_) | (go_wp2_with fail; refine hK.out _ _ ?_ (fun hNew => ?_)))
     ·exact SS.out _ (hHeld.2.2.2.2.trans hs)
     have B8 := Lib.hid (B8.out.same hs)
     clear hs
     clear hK K hHeld
     have hHeld := hNew
     clear hNew
     try simp only [Ro.p]
     refine Ro.one_on (i := 12) rfl (by kernel_rfl) (by rfl) (fun K hK => ?_)
     have z0 := B8.out.cell 0
     have z1 := B8.out.cell 1
     simp only [Ws.q_] at z0 z1
     have f0 := B8.out.thaw 0
     have f1 := B8.out.thaw 1
     go_simp
     have hc12 : Chg (fun i => i = b8) v10 ((v10.setCell ⟨b8, 0, none⟩ (.int .i64 rv.thru)).setCell ⟨b8, 1, none⟩ (.int .i64 rv.fin)) := ((Chg.refl (fun i => i = b8) v10).set (p := ⟨b8, 0, none⟩) (.inl rfl) _).set (p := ⟨b8, 1, none⟩) (.inl rfl) _
     have hs12 : Same wX ((v10.setCell ⟨b8, 0, none⟩ (.int .i64 rv.thru)).setCell ⟨b8, 1, none⟩ (.int .i64 rv.fin)) := Same.more hHeld.2.2.2.2 hc12 (fun i hi => by have := HGE.out; omega)
     refine hK.out _ _ ?_ (fun hNew => ?_)
     ·exact SS.out _ hs12
     try simp only [Ro.p]
     refine wpAnyH_done (by kernel_rfl) ?_ _
     go_wp2_with fail
     go_meet
     case rel => exact ⟨b8, rfl, Lib.hid (HWX.out.same_ hs12), Lib.hid ((B8.out.put 0 (.int .i64 rv.thru)).put 1 (.int .i64 rv.fin)), Lib.hid (B7.out.same hs12), Lib.hid (by have := HGE.out; have := B7.out.lt; omega)⟩
   case rest =>
    obtain ⟨b8, rfl, HWC, B8, B7, HB8⟩ := hcut
    have HB78 := Lib.hid (show q < b7 ∧ q < b8 from by have := HB70.out; have := HWC.out.qb; have := HB8.out; omega)
    have HLG := HLG0
    have HKG := Lib.hid (fun g (e : KA = some ⟨g, 0, none⟩) => (show wT.heap.size ≤ g ∧ g < b8 from by have := HKG0.out g e; have := HB8.out; omega))
    clear HWX SS ON RP HW
    go_wp2_with fail
    obtain ⟨i0, hi, hz0, hz1, hz2⟩ := info_parts span_info'
    obtain ⟨j0, hj, hy0, hy1, hy2⟩ := info_parts ways_info
    have HTBB := Lib.hid HWC.out.tb
    have HQB := Lib.hid HWC.out.qb
    clear hadd hl1 hl2 hfb hfb0
    refine Hb.region_b (S := fun w' => w'.cell? ⟨b7, 0, none⟩ = some (.int .i64 fa) ∧ w'.cell? ⟨b7, 1, none⟩ = some (.int .i64 (fb : Int)) ∧ w'.cell? ⟨b8, 0, none⟩ = some (.int .i64 rv.thru) ∧ w'.cell? ⟨b8, 1, none⟩ = some (.int .i64 rv.fin)) (T := fun w' => w'.cell? ⟨q, 3, none⟩ = some (.slice LA k cL) ∧ w'.cell? ⟨q, 4, none⟩ = some (.slice KA k cK)) (Hd := fun i => decide (i < 10)) (by kernel_rfl) ?_
    have hs : Same wc wc.drew := (Same.refl _).drew
    have BQ := Lib.hid (HWC.out.b.same hs)
    have OL := Lib.hid (HWC.out.ol.same hs)
    have OKK := Lib.hid (HWC.out.ok_.same hs)
    have TLK := Lib.hid (HWC.out.tl.same hs)
    have SM := Lib.hid (HWC.out.same.trans hs)
    have SZ := Lib.hid (Nat.le_trans HWC.out.sz hs.size)
    have B7 := Lib.hid (B7.out.same hs)
    have B8 := Lib.hid (B8.out.same hs)
    clear hs HWC
    obtain ⟨wd, hwd⟩ : ∃ wd, wd = wc.drew := ⟨_, rfl⟩
    rw [← hwd] at BQ OL OKK TLK SM SZ B7 B8
    rw [← hwd]
    clear hwd
    have hHeld' := (show wd.cell? ⟨b7, 0, none⟩ = some (.int .i64 fa) ∧ wd.cell? ⟨b7, 1, none⟩ = some (.int .i64 (fb : Int)) ∧ wd.cell? ⟨b8, 0, none⟩ = some (.int .i64 rv.thru) ∧ wd.cell? ⟨b8, 1, none⟩ = some (.int .i64 rv.fin) from ⟨B7.out.cell 0, B7.out.cell 1, B8.out.cell 0, B8.out.cell 1⟩)
    have hTop' := (show wd.cell? ⟨q, 3, none⟩ = some (.slice LA k cL) ∧ wd.cell? ⟨q, 4, none⟩ = some (.slice KA k cK) from ⟨BQ.out.cell 3, BQ.out.cell 4⟩)
    have hHeld := hHeld'
    have hTop := hTop'
    clear hHeld' hTop'
    refine Hb.b_take (i := 0) (v := ?_) rfl (by kernel_rfl) (by kernel_rfl) (by kernel_rfl) (fun _ _ _ h => h) (by rfl) hHeld ?_ ?_
    rotate_left
    ·intro wS hSw; (try dsimp only at hSw); go_simp; try with_reducible rfl
    try simp only [Ro.p]
    refine Hb.b_take (i := 2) (v := ?_) rfl (by kernel_rfl) (by kernel_rfl) (by kernel_rfl) (fun _ _ _ h => h) (by rfl) hHeld ?_ ?_
    rotate_left
    ·intro wS hSw; (try dsimp only at hSw); go_simp; try with_reducible rfl
    try simp only [Ro.p]
    refine Hb.b_take (i := 5) (v := ?_) rfl (by kernel_rfl) (by kernel_rfl) (by kernel_rfl) (fun _ _ _ h => h) (by rfl) hHeld ?_ ?_
    rotate_left
    ·intro wS hSw; (try dsimp only at hSw); go_simp; try with_reducible rfl
    try simp only [Ro.p]
    refine Hb.b_take (i := 7) (v := ?_) rfl (by kernel_rfl) (by kernel_rfl) (by kernel_rfl) (fun _ _ _ h => h) (by rfl) hHeld ?_ ?_
    rotate_left
    ·intro wS hSw; (try dsimp only at hSw); go_simp; try with_reducible rfl
    try simp only [Ro.p]
    refine Hb.b_take_t (i := 1) (v := ?_) (by kernel_rfl) rfl (by kernel_rfl) (by kernel_rfl) (by kernel_rfl) (fun _ _ _ h => h) (by rfl) hHeld hTop ?_ ?_
    rotate_left
    ·intro wS hSw hTw; (try dsimp only at hSw hTw); go_simp; try with_reducible rfl
    try simp only [Ro.p]
    refine Hb.b_take_t (i := 6) (v := ?_) (by kernel_rfl) rfl (by kernel_rfl) (by kernel_rfl) (by kernel_rfl) (fun _ _ _ h => h) (by rfl) hHeld hTop ?_ ?_
    rotate_left
    ·intro wS hSw hTw; (try dsimp only at hSw hTw); go_simp; try with_reducible rfl
    try simp only [Ro.p]
    refine Hb.b_two (i := 3) (j := 8) rfl rfl (by kernel_rfl) (by rfl) (by rfl) (fun K hK => ?_) (fun K hK => ?_)
    ·go_simp
     obtain ⟨y12, hn⟩ : ∃ x, x = wd.alloc (.cells #[.int .i64 fa, .int .i64 (fb : Int)] 97) := ⟨_, rfl⟩
     obtain ⟨gR3, hg⟩ : ∃ g, g = wd.heap.size := ⟨_, rfl⟩
     have hs : Same wd y12 := by rw [hn]; exact (Same.refl _).alloc _
     have R3 := Lib.hid (show Blk y12 gR3 97 #[.int .i64 fa, .int .i64 (fb : Int)] from by rw [hn, hg]; exact Blk.new wd _ _)
     have GER3 := Lib.hid (show b7 < gR3 ∧ b8 < gR3 from by rw [hg]; exact ⟨B7.out.lt, B8.out.lt⟩)
     rw [← hn, ← hg]
     clear hn hg
     have BQ := Lib.hid (BQ.out.same hs)
     have OL := Lib.hid (OL.out.same hs)
     have OKK := Lib.hid (OKK.out.same hs)
     have TLK := Lib.hid (TLK.out.same hs)
     have B7 := Lib.hid (B7.out.same hs)
     have B8 := Lib.hid (B8.out.same hs)
     have SM := Lib.hid (SM.out.trans hs)
     have SZ := Lib.hid (Nat.le_trans SZ.out hs.size)
     clear hs
     have hHeld' := (show y12.cell? ⟨b7, 0, none⟩ = some (.int .i64 fa) ∧ y12.cell? ⟨b7, 1, none⟩ = some (.int .i64 (fb : Int)) ∧ y12.cell? ⟨b8, 0, none⟩ = some (.int .i64 rv.thru) ∧ y12.cell? ⟨b8, 1, none⟩ = some (.int .i64 rv.fin) from ⟨B7.out.cell 0, B7.out.cell 1, B8.out.cell 0, B8.out.cell 1⟩)
     have hTop' := (show y12.cell? ⟨q, 3, none⟩ = some (.slice LA k cL) ∧ y12.cell? ⟨q, 4, none⟩ = some (.slice KA k cK) from ⟨BQ.out.cell 3, BQ.out.cell 4⟩)
     refine hK.out _ _ hHeld' (fun _ _ => hTop') ?_
     clear hK K hHeld hTop
     have hHeld := hHeld'
     have hTop := hTop'
     clear hHeld' hTop'
     try simp only [Ro.p]
     refine Hb.b_two (i := 4) (j := 8) rfl rfl (by kernel_rfl) (by rfl) (by rfl) (fun K hK => ?_) (fun K hK => ?_)
     ·refine Ra.oper_app (.tmp 45) (.tmp 47) 94 rfl wT.heap.size 97 i0 _ 2 16 Tryz.underlying94 hi hz0 hz1 hz2 rfl (by omega) LA k cL (spanCells (fstL ls0)) rfl OL.out (some ⟨gR3, 0, none⟩) 1 1 [.int .i64 fa, .int .i64 (fb : Int)] rfl rfl (blk_row R3.out) (two_one _ _) (by omega) (by omega) SZ.out (k + 1) rfl ?_
      intro L1 d1 y13 ho hc
      try simp only [Ro.p]
      have BQ := Lib.hid (BQ.out.chg hc (fun h => OL.out.ne BQ.out (by decide) _ h rfl))
      have OKK := Lib.hid (OKK.out.chg hc (fun g e => ownK_apart OL.out OKK.out (by decide) g e))
      have TLK := Lib.hid (TLK.out.chg hc (fun g e h => by have h1 := HTBB.out g e; have h2 := HLG.out g h; omega))
      have B7 := Lib.hid (B7.out.chg hc (fun h => by have := HLG.out b7 h; omega))
      have B8 := Lib.hid (B8.out.chg hc (fun h => OL.out.ne B8.out (by decide) _ h rfl))
      have SM := Lib.hid (Same.more SM.out hc (fun i h => by have h2 := HLG.out i h; have := HQB.out; omega))
      have SZ := Lib.hid (Nat.le_trans SZ.out hc.size)
      have OL := Lib.hid ho
      clear ho hc
      have hHeld' := (show y13.cell? ⟨b7, 0, none⟩ = some (.int .i64 fa) ∧ y13.cell? ⟨b7, 1, none⟩ = some (.int .i64 (fb : Int)) ∧ y13.cell? ⟨b8, 0, none⟩ = some (.int .i64 rv.thru) ∧ y13.cell? ⟨b8, 1, none⟩ = some (.int .i64 rv.fin) from ⟨B7.out.cell 0, B7.out.cell 1, B8.out.cell 0, B8.out.cell 1⟩)
      have hTop' := (show y13.cell? ⟨q, 3, none⟩ = some (.slice LA k cL) ∧ y13.cell? ⟨q, 4, none⟩ = some (.slice KA k cK) from ⟨BQ.out.cell 3, BQ.out.cell 4⟩)
      refine hK.out _ _ hHeld' (fun _ _ => hTop') ?_
      clear hK K hHeld hTop
      have hHeld := hHeld'
      have hTop := hTop'
      clear hHeld' hTop'
      try simp only [Ro.p]
      refine Hb.b_one (i := 8) rfl (by kernel_rfl) (by rfl) (fun K hK => ?_)
      go_simp
      obtain ⟨y14, hn⟩ : ∃ x, x = y13.alloc (.cells #[.int .i64 rv.thru, .int .i64 rv.fin] 123) := ⟨_, rfl⟩
      obtain ⟨gR8, hg⟩ : ∃ g, g = y13.heap.size := ⟨_, rfl⟩
      have hs : Same y13 y14 := by rw [hn]; exact (Same.refl _).alloc _
      have R8 := Lib.hid (show Blk y14 gR8 123 #[.int .i64 rv.thru, .int .i64 rv.fin] from by rw [hn, hg]; exact Blk.new y13 _ _)
      have GER8 := Lib.hid (show b7 < gR8 ∧ b8 < gR8 from by rw [hg]; exact ⟨B7.out.lt, B8.out.lt⟩)
      rw [← hn, ← hg]
      clear hn hg
      have BQ := Lib.hid (BQ.out.same hs)
      have OL := Lib.hid (OL.out.same hs)
      have OKK := Lib.hid (OKK.out.same hs)
      have TLK := Lib.hid (TLK.out.same hs)
      have B7 := Lib.hid (B7.out.same hs)
      have B8 := Lib.hid (B8.out.same hs)
      have SM := Lib.hid (SM.out.trans hs)
      have SZ := Lib.hid (Nat.le_trans SZ.out hs.size)
      clear hs
      have hHeld' := (show y14.cell? ⟨b7, 0, none⟩ = some (.int .i64 fa) ∧ y14.cell? ⟨b7, 1, none⟩ = some (.int .i64 (fb : Int)) ∧ y14.cell? ⟨b8, 0, none⟩ = some (.int .i64 rv.thru) ∧ y14.cell? ⟨b8, 1, none⟩ = some (.int .i64 rv.fin) from ⟨B7.out.cell 0, B7.out.cell 1, B8.out.cell 0, B8.out.cell 1⟩)
      have hTop' := (show y14.cell? ⟨q, 3, none⟩ = some (.slice LA k cL) ∧ y14.cell? ⟨q, 4, none⟩ = some (.slice KA k cK) from ⟨BQ.out.cell 3, BQ.out.cell 4⟩)
      refine hK.out _ _ hHeld' (fun _ _ => hTop') ?_
      clear hK K hHeld hTop
      have hHeld := hHeld'
      have hTop := hTop'
      clear hHeld' hTop'
      try simp only [Ro.p]
      refine Hb.b_one (i := 9) rfl (by kernel_rfl) (by rfl) (fun K hK => ?_)
      refine Ra.oper_app (.tmp 50) (.tmp 52) 107 rfl wT.heap.size 123 j0 _ 2 16 Tryz.underlying107 hj hy0 hy1 hy2 rfl (by omega) KA k cK (spanCells (sndL ls0)) rfl OKK.out (some ⟨gR8, 0, none⟩) 1 1 [.int .i64 rv.thru, .int .i64 rv.fin] rfl rfl (blk_row R8.out) (two_one _ _) (by omega) (by omega) SZ.out (k + 1) rfl ?_
      intro K1 e1 y15 ho hc
      try simp only [Ro.p]
      have BQ := Lib.hid (BQ.out.chg hc (fun h => OKK.out.ne BQ.out (by decide) _ h rfl))
      have OL := Lib.hid (OL.out.chg hc (fun g e => ownK_apart OKK.out OL.out (by decide) g e))
      have TLK := Lib.hid (TLK.out.chg hc (fun g e h => by have h1 := HTBB.out g e; have h2 := HKG.out g h; omega))
      have B8 := Lib.hid (B8.out.chg hc (fun h => by have := HKG.out b8 h; omega))
      have B7 := Lib.hid (B7.out.chg hc (fun h => OKK.out.ne B7.out (by decide) _ h rfl))
      have SM := Lib.hid (Same.more SM.out hc (fun i h => by have h2 := HKG.out i h; have := HQB.out; omega))
      have SZ := Lib.hid (Nat.le_trans SZ.out hc.size)
      have OKK := Lib.hid ho
      clear ho hc
      have hHeld' := (show y15.cell? ⟨b7, 0, none⟩ = some (.int .i64 fa) ∧ y15.cell? ⟨b7, 1, none⟩ = some (.int .i64 (fb : Int)) ∧ y15.cell? ⟨b8, 0, none⟩ = some (.int .i64 rv.thru) ∧ y15.cell? ⟨b8, 1, none⟩ = some (.int .i64 rv.fin) from ⟨B7.out.cell 0, B7.out.cell 1, B8.out.cell 0, B8.out.cell 1⟩)
      have hTop' := (show y15.cell? ⟨q, 3, none⟩ = some (.slice LA k cL) ∧ y15.cell? ⟨q, 4, none⟩ = some (.slice KA k cK) from ⟨BQ.out.cell 3, BQ.out.cell 4⟩)
      refine hK.out _ _ hHeld' (fun _ _ => hTop') ?_
      clear hK K hHeld hTop
      have hHeld := hHeld'
      have hTop := hTop'
      clear hHeld' hTop'
      try simp only [Ro.p]
      refine Hb.b_one (i := 10) rfl (by kernel_rfl) (by rfl) (fun K hK => ?_)
      go_simp
      refine hK.out _ _ hHeld (fun h => by simp at h) ?_
      clear hK K
      try simp only [Ro.p]
      refine Hb.b_one (i := 11) rfl (by kernel_rfl) (by rfl) (fun K hK => ?_)
      have z3 := BQ.out.cell 3
      simp only [List.cons_append, List.nil_append, List.getElem?_toArray, List.getElem?_cons_zero, List.getElem?_cons_succ] at z3
      have f3 := BQ.out.thaw 3
      go_simp
      obtain ⟨y17, hn⟩ : ∃ x, x = y15.setCell ⟨q, 3, none⟩ (.slice L1 (k + 1) d1) := ⟨_, rfl⟩
      have hc : Chg (fun i => i = q) y15 y17 := by rw [hn]; exact (Chg.refl (fun i => i = q) y15).set (p := ⟨q, 3, none⟩) (.inl rfl) _
      have BQ := Lib.hid (show Blk y17 q 109 _ from by rw [hn]; exact BQ.out.put 3 _)
      rw [← hn]
      clear hn z3 f3
      have OL := Lib.hid (OL.out.chg hc (fun g e h => by have := OL.out.base_ge g e; have := HQB.out; omega))
      have OKK := Lib.hid (OKK.out.chg hc (fun g e h => by have := OKK.out.base_ge g e; have := HQB.out; omega))
      have TLK := Lib.hid (TLK.out.chg hc (fun g e h => by have h1 := HTBB.out g e; omega))
      have B7 := Lib.hid (B7.out.chg hc (by have := HB78.out; omega))
      have B8 := Lib.hid (B8.out.chg hc (by have := HB78.out; omega))
      have SM := Lib.hid (Same.more SM.out hc (fun i h => by have := HQB.out; omega))
      have SZ := Lib.hid (Nat.le_trans SZ.out hc.size)
      clear hc
      have hHeld' := (show y17.cell? ⟨b7, 0, none⟩ = some (.int .i64 fa) ∧ y17.cell? ⟨b7, 1, none⟩ = some (.int .i64 (fb : Int)) ∧ y17.cell? ⟨b8, 0, none⟩ = some (.int .i64 rv.thru) ∧ y17.cell? ⟨b8, 1, none⟩ = some (.int .i64 rv.fin) from ⟨B7.out.cell 0, B7.out.cell 1, B8.out.cell 0, B8.out.cell 1⟩)
      refine hK.out _ _ hHeld' (fun h => by simp at h) ?_
      clear hK K hHeld
      have hHeld := hHeld'
      clear hHeld'
      try simp only [Ro.p]
      refine Hb.b_one (i := 12) rfl (by kernel_rfl) (by rfl) (fun K hK => ?_)
      go_simp
      refine hK.out _ _ hHeld (fun h => by simp at h) ?_
      clear hK K
      try simp only [Ro.p]
      refine Hb.b_one (i := 13) rfl (by kernel_rfl) (by rfl) (fun K hK => ?_)
      have z4 := BQ.out.cell 4
      simp only [List.cons_append, List.nil_append, List.getElem?_toArray, List.getElem?_cons_zero, List.getElem?_cons_succ] at z4
      have f4 := BQ.out.thaw 4
      go_simp
      obtain ⟨y19, hn⟩ : ∃ x, x = y17.setCell ⟨q, 4, none⟩ (.slice K1 (k + 1) e1) := ⟨_, rfl⟩
      have hc : Chg (fun i => i = q) y17 y19 := by rw [hn]; exact (Chg.refl (fun i => i = q) y17).set (p := ⟨q, 4, none⟩) (.inl rfl) _
      have BQ := Lib.hid (show Blk y19 q 109 _ from by rw [hn]; exact BQ.out.put 4 _)
      rw [← hn]
      clear hn z4 f4
      have OL := Lib.hid (OL.out.chg hc (fun g e h => by have := OL.out.base_ge g e; have := HQB.out; omega))
      have OKK := Lib.hid (OKK.out.chg hc (fun g e h => by have := OKK.out.base_ge g e; have := HQB.out; omega))
      have TLK := Lib.hid (TLK.out.chg hc (fun g e h => by have h1 := HTBB.out g e; omega))
      have B7 := Lib.hid (B7.out.chg hc (by have := HB78.out; omega))
      have B8 := Lib.hid (B8.out.chg hc (by have := HB78.out; omega))
      have SM := Lib.hid (Same.more SM.out hc (fun i h => by have := HQB.out; omega))
      have SZ := Lib.hid (Nat.le_trans SZ.out hc.size)
      clear hc
      have hHeld' := (show y19.cell? ⟨b7, 0, none⟩ = some (.int .i64 fa) ∧ y19.cell? ⟨b7, 1, none⟩ = some (.int .i64 (fb : Int)) ∧ y19.cell? ⟨b8, 0, none⟩ = some (.int .i64 rv.thru) ∧ y19.cell? ⟨b8, 1, none⟩ = some (.int .i64 rv.fin) from ⟨B7.out.cell 0, B7.out.cell 1, B8.out.cell 0, B8.out.cell 1⟩)
      refine hK.out _ _ hHeld' (fun h => by simp at h) ?_
      clear hK K hHeld
      have hHeld := hHeld'
      clear hHeld'
      try simp only [Ro.p]
      refine Hb.anyB_done (by kernel_rfl) ?_ _
      go_wp2_with fail
      go_roundg GK
      case measure => omega
      case rel =>
       refine ⟨k + 1, L1, d1, K1, e1, by have := HK.out; omega, by go_num, Lib.hid ⟨BQ.out, ?_, ?_, TLK.out, HTBB.out, SM.out, SZ.out, HQB.out⟩⟩
       ·have h := OL.out
        rw [HKT.out]
        unfold fstL at h ⊢
        rw [List.map_append, Fw.spanCells_app]
        exact h
       ·have h := OKK.out
        rw [HKT.out]
        unfold sndL at h ⊢
        rw [List.map_append, Fw.spanCells_app]
        exact h
     ·go_simp
      obtain ⟨y20, hn⟩ : ∃ x, x = y12.alloc (.cells #[.int .i64 rv.thru, .int .i64 rv.fin] 123) := ⟨_, rfl⟩
      obtain ⟨gR8, hg⟩ : ∃ g, g = y12.heap.size := ⟨_, rfl⟩
      have hs : Same y12 y20 := by rw [hn]; exact (Same.refl _).alloc _
      have R8 := Lib.hid (show Blk y20 gR8 123 #[.int .i64 rv.thru, .int .i64 rv.fin] from by rw [hn, hg]; exact Blk.new y12 _ _)
      have GER8 := Lib.hid (show b7 < gR8 ∧ b8 < gR8 from by rw [hg]; exact ⟨B7.out.lt, B8.out.lt⟩)
      rw [← hn, ← hg]
      clear hn hg
      have BQ := Lib.hid (BQ.out.same hs)
      have OL := Lib.hid (OL.out.same hs)
      have OKK := Lib.hid (OKK.out.same hs)
      have TLK := Lib.hid (TLK.out.same hs)
      have B7 := Lib.hid (B7.out.same hs)
      have B8 := Lib.hid (B8.out.same hs)
      have SM := Lib.hid (SM.out.trans hs)
      have SZ := Lib.hid (Nat.le_trans SZ.out hs.size)
      have R3 := Lib.hid (R3.out.same hs)
      clear hs
      have hHeld' := (show y20.cell? ⟨b7, 0, none⟩ = some (.int .i64 fa) ∧ y20.cell? ⟨b7, 1, none⟩ = some (.int .i64 (fb : Int)) ∧ y20.cell? ⟨b8, 0, none⟩ = some (.int .i64 rv.thru) ∧ y20.cell? ⟨b8, 1, none⟩ = some (.int .i64 rv.fin) from ⟨B7.out.cell 0, B7.out.cell 1, B8.out.cell 0, B8.out.cell 1⟩)
      have hTop' := (show y20.cell? ⟨q, 3, none⟩ = some (.slice LA k cL) ∧ y20.cell? ⟨q, 4, none⟩ = some (.slice KA k cK) from ⟨BQ.out.cell 3, BQ.out.cell 4⟩)
      refine hK.out _ _ hHeld' (fun _ _ => hTop') ?_
      clear hK K hHeld hTop
      have hHeld := hHeld'
      have hTop := hTop'
      clear hHeld' hTop'
      try simp only [Ro.p]
      refine Hb.b_one (i := 4) rfl (by kernel_rfl) (by rfl) (fun K hK => ?_)
      refine Ra.oper_app (.tmp 45) (.tmp 47) 94 rfl wT.heap.size 97 i0 _ 2 16 Tryz.underlying94 hi hz0 hz1 hz2 rfl (by omega) LA k cL (spanCells (fstL ls0)) rfl OL.out (some ⟨gR3, 0, none⟩) 1 1 [.int .i64 fa, .int .i64 (fb : Int)] rfl rfl (blk_row R3.out) (two_one _ _) (by omega) (by omega) SZ.out (k + 1) rfl ?_
      intro L1 d1 y21 ho hc
      try simp only [Ro.p]
      have BQ := Lib.hid (BQ.out.chg hc (fun h => OL.out.ne BQ.out (by decide) _ h rfl))
      have OKK := Lib.hid (OKK.out.chg hc (fun g e => ownK_apart OL.out OKK.out (by decide) g e))
      have TLK := Lib.hid (TLK.out.chg hc (fun g e h => by have h1 := HTBB.out g e; have h2 := HLG.out g h; omega))
      have B7 := Lib.hid (B7.out.chg hc (fun h => by have := HLG.out b7 h; omega))
      have B8 := Lib.hid (B8.out.chg hc (fun h => OL.out.ne B8.out (by decide) _ h rfl))
      have R8 := Lib.hid (R8.out.chg hc (fun h => OL.out.ne R8.out (by decide) _ h rfl))
      have SM := Lib.hid (Same.more SM.out hc (fun i h => by have h2 := HLG.out i h; have := HQB.out; omega))
      have SZ := Lib.hid (Nat.le_trans SZ.out hc.size)
      have OL := Lib.hid ho
      clear ho hc
      have hHeld' := (show y21.cell? ⟨b7, 0, none⟩ = some (.int .i64 fa) ∧ y21.cell? ⟨b7, 1, none⟩ = some (.int .i64 (fb : Int)) ∧ y21.cell? ⟨b8, 0, none⟩ = some (.int .i64 rv.thru) ∧ y21.cell? ⟨b8, 1, none⟩ = some (.int .i64 rv.fin) from ⟨B7.out.cell 0, B7.out.cell 1, B8.out.cell 0, B8.out.cell 1⟩)
      have hTop' := (show y21.cell? ⟨q, 3, none⟩ = some (.slice LA k cL) ∧ y21.cell? ⟨q, 4, none⟩ = some (.slice KA k cK) from ⟨BQ.out.cell 3, BQ.out.cell 4⟩)
      refine hK.out _ _ hHeld' (fun _ _ => hTop') ?_
      clear hK K hHeld hTop
      have hHeld := hHeld'
      have hTop := hTop'
      clear hHeld' hTop'
      try simp only [Ro.p]
      refine Hb.b_one (i := 9) rfl (by kernel_rfl) (by rfl) (fun K hK => ?_)
      refine Ra.oper_app (.tmp 50) (.tmp 52) 107 rfl wT.heap.size 123 j0 _ 2 16 Tryz.underlying107 hj hy0 hy1 hy2 rfl (by omega) KA k cK (spanCells (sndL ls0)) rfl OKK.out (some ⟨gR8, 0, none⟩) 1 1 [.int .i64 rv.thru, .int .i64 rv.fin] rfl rfl (blk_row R8.out) (two_one _ _) (by omega) (by omega) SZ.out (k + 1) rfl ?_
      intro K1 e1 y22 ho hc
      try simp only [Ro.p]
      have BQ := Lib.hid (BQ.out.chg hc (fun h => OKK.out.ne BQ.out (by decide) _ h rfl))
      have OL := Lib.hid (OL.out.chg hc (fun g e => ownK_apart OKK.out OL.out (by decide) g e))
      have TLK := Lib.hid (TLK.out.chg hc (fun g e h => by have h1 := HTBB.out g e; have h2 := HKG.out g h; omega))
      have B8 := Lib.hid (B8.out.chg hc (fun h => by have := HKG.out b8 h; omega))
      have B7 := Lib.hid (B7.out.chg hc (fun h => OKK.out.ne B7.out (by decide) _ h rfl))
      have SM := Lib.hid (Same.more SM.out hc (fun i h => by have h2 := HKG.out i h; have := HQB.out; omega))
      have SZ := Lib.hid (Nat.le_trans SZ.out hc.size)
      have OKK := Lib.hid ho
      clear ho hc
      have hHeld' := (show y22.cell? ⟨b7, 0, none⟩ = some (.int .i64 fa) ∧ y22.cell? ⟨b7, 1, none⟩ = some (.int .i64 (fb : Int)) ∧ y22.cell? ⟨b8, 0, none⟩ = some (.int .i64 rv.thru) ∧ y22.cell? ⟨b8, 1, none⟩ = some (.int .i64 rv.fin) from ⟨B7.out.cell 0, B7.out.cell 1, B8.out.cell 0, B8.out.cell 1⟩)
      have hTop' := (show y22.cell? ⟨q, 3, none⟩ = some (.slice LA k cL) ∧ y22.cell? ⟨q, 4, none⟩ = some (.slice KA k cK) from ⟨BQ.out.cell 3, BQ.out.cell 4⟩)
      refine hK.out _ _ hHeld' (fun _ _ => hTop') ?_
      clear hK K hHeld hTop
      have hHeld := hHeld'
      have hTop := hTop'
      clear hHeld' hTop'
      try simp only [Ro.p]
      refine Hb.b_one (i := 10) rfl (by kernel_rfl) (by rfl) (fun K hK => ?_)
      go_simp
      refine hK.out _ _ hHeld (fun h => by simp at h) ?_
      clear hK K
      try simp only [Ro.p]
      refine Hb.b_one (i := 11) rfl (by kernel_rfl) (by rfl) (fun K hK => ?_)
      have z3 := BQ.out.cell 3
      simp only [List.cons_append, List.nil_append, List.getElem?_toArray, List.getElem?_cons_zero, List.getElem?_cons_succ] at z3
      have f3 := BQ.out.thaw 3
      go_simp
      obtain ⟨y24, hn⟩ : ∃ x, x = y22.setCell ⟨q, 3, none⟩ (.slice L1 (k + 1) d1) := ⟨_, rfl⟩
      have hc : Chg (fun i => i = q) y22 y24 := by rw [hn]; exact (Chg.refl (fun i => i = q) y22).set (p := ⟨q, 3, none⟩) (.inl rfl) _
      have BQ := Lib.hid (show Blk y24 q 109 _ from by rw [hn]; exact BQ.out.put 3 _)
      rw [← hn]
      clear hn z3 f3
      have OL := Lib.hid (OL.out.chg hc (fun g e h => by have := OL.out.base_ge g e; have := HQB.out; omega))
      have OKK := Lib.hid (OKK.out.chg hc (fun g e h => by have := OKK.out.base_ge g e; have := HQB.out; omega))
      have TLK := Lib.hid (TLK.out.chg hc (fun g e h => by have h1 := HTBB.out g e; omega))
      have B7 := Lib.hid (B7.out.chg hc (by have := HB78.out; omega))
      have B8 := Lib.hid (B8.out.chg hc (by have := HB78.out; omega))
      have SM := Lib.hid (Same.more SM.out hc (fun i h => by have := HQB.out; omega))
      have SZ := Lib.hid (Nat.le_trans SZ.out hc.size)
      clear hc
      have hHeld' := (show y24.cell? ⟨b7, 0, none⟩ = some (.int .i64 fa) ∧ y24.cell? ⟨b7, 1, none⟩ = some (.int .i64 (fb : Int)) ∧ y24.cell? ⟨b8, 0, none⟩ = some (.int .i64 rv.thru) ∧ y24.cell? ⟨b8, 1, none⟩ = some (.int .i64 rv.fin) from ⟨B7.out.cell 0, B7.out.cell 1, B8.out.cell 0, B8.out.cell 1⟩)
      refine hK.out _ _ hHeld' (fun h => by simp at h) ?_
      clear hK K hHeld
      have hHeld := hHeld'
      clear hHeld'
      try simp only [Ro.p]
      refine Hb.b_one (i := 12) rfl (by kernel_rfl) (by rfl) (fun K hK => ?_)
      go_simp
      refine hK.out _ _ hHeld (fun h => by simp at h) ?_
      clear hK K
      try simp only [Ro.p]
      refine Hb.b_one (i := 13) rfl (by kernel_rfl) (by rfl) (fun K hK => ?_)
      have z4 := BQ.out.cell 4
      simp only [List.cons_append, List.nil_append, List.getElem?_toArray, List.getElem?_cons_zero, List.getElem?_cons_succ] at z4
      have f4 := BQ.out.thaw 4
      go_simp
      obtain ⟨y26, hn⟩ : ∃ x, x = y24.setCell ⟨q, 4, none⟩ (.slice K1 (k + 1) e1) := ⟨_, rfl⟩
      have hc : Chg (fun i => i = q) y24 y26 := by rw [hn]; exact (Chg.refl (fun i => i = q) y24).set (p := ⟨q, 4, none⟩) (.inl rfl) _
      have BQ := Lib.hid (show Blk y26 q 109 _ from by rw [hn]; exact BQ.out.put 4 _)
      rw [← hn]
      clear hn z4 f4
      have OL := Lib.hid (OL.out.chg hc (fun g e h => by have := OL.out.base_ge g e; have := HQB.out; omega))
      have OKK := Lib.hid (OKK.out.chg hc (fun g e h => by have := OKK.out.base_ge g e; have := HQB.out; omega))
      have TLK := Lib.hid (TLK.out.chg hc (fun g e h => by have h1 := HTBB.out g e; omega))
      have B7 := Lib.hid (B7.out.chg hc (by have := HB78.out; omega))
      have B8 := Lib.hid (B8.out.chg hc (by have := HB78.out; omega))
      have SM := Lib.hid (Same.more SM.out hc (fun i h => by have := HQB.out; omega))
      have SZ := Lib.hid (Nat.le_trans SZ.out hc.size)
      clear hc
      have hHeld' := (show y26.cell? ⟨b7, 0, none⟩ = some (.int .i64 fa) ∧ y26.cell? ⟨b7, 1, none⟩ = some (.int .i64 (fb : Int)) ∧ y26.cell? ⟨b8, 0, none⟩ = some (.int .i64 rv.thru) ∧ y26.cell? ⟨b8, 1, none⟩ = some (.int .i64 rv.fin) from ⟨B7.out.cell 0, B7.out.cell 1, B8.out.cell 0, B8.out.cell 1⟩)
      refine hK.out _ _ hHeld' (fun h => by simp at h) ?_
      clear hK K hHeld
      have hHeld := hHeld'
      clear hHeld'
      try simp only [Ro.p]
      refine Hb.anyB_done (by kernel_rfl) ?_ _
      go_wp2_with fail
      go_roundg GK
      case measure => omega
      case rel =>
       refine ⟨k + 1, L1, d1, K1, e1, by have := HK.out; omega, by go_num, Lib.hid ⟨BQ.out, ?_, ?_, TLK.out, HTBB.out, SM.out, SZ.out, HQB.out⟩⟩
       ·have h := OL.out
        rw [HKT.out]
        unfold fstL at h ⊢
        rw [List.map_append, Fw.spanCells_app]
        exact h
       ·have h := OKK.out
        rw [HKT.out]
        unfold sndL at h ⊢
        rw [List.map_append, Fw.spanCells_app]
        exact h
    ·go_simp
     obtain ⟨y27, hn⟩ : ∃ x, x = wd.alloc (.cells #[.int .i64 rv.thru, .int .i64 rv.fin] 123) := ⟨_, rfl⟩
     obtain ⟨gR8, hg⟩ : ∃ g, g = wd.heap.size := ⟨_, rfl⟩
     have hs : Same wd y27 := by rw [hn]; exact (Same.refl _).alloc _
     have R8 := Lib.hid (show Blk y27 gR8 123 #[.int .i64 rv.thru, .int .i64 rv.fin] from by rw [hn, hg]; exact Blk.new wd _ _)
     have GER8 := Lib.hid (show b7 < gR8 ∧ b8 < gR8 from by rw [hg]; exact ⟨B7.out.lt, B8.out.lt⟩)
     rw [← hn, ← hg]
     clear hn hg
     have BQ := Lib.hid (BQ.out.same hs)
     have OL := Lib.hid (OL.out.same hs)
     have OKK := Lib.hid (OKK.out.same hs)
     have TLK := Lib.hid (TLK.out.same hs)
     have B7 := Lib.hid (B7.out.same hs)
     have B8 := Lib.hid (B8.out.same hs)
     have SM := Lib.hid (SM.out.trans hs)
     have SZ := Lib.hid (Nat.le_trans SZ.out hs.size)
     clear hs
     have hHeld' := (show y27.cell? ⟨b7, 0, none⟩ = some (.int .i64 fa) ∧ y27.cell? ⟨b7, 1, none⟩ = some (.int .i64 (fb : Int)) ∧ y27.cell? ⟨b8, 0, none⟩ = some (.int .i64 rv.thru) ∧ y27.cell? ⟨b8, 1, none⟩ = some (.int .i64 rv.fin) from ⟨B7.out.cell 0, B7.out.cell 1, B8.out.cell 0, B8.out.cell 1⟩)
     have hTop' := (show y27.cell? ⟨q, 3, none⟩ = some (.slice LA k cL) ∧ y27.cell? ⟨q, 4, none⟩ = some (.slice KA k cK) from ⟨BQ.out.cell 3, BQ.out.cell 4⟩)
     refine hK.out _ _ hHeld' (fun _ _ => hTop') ?_
     clear hK K hHeld hTop
     have hHeld := hHeld'
     have hTop := hTop'
     clear hHeld' hTop'
     try simp only [Ro.p]
     refine Hb.b_one (i := 3) rfl (by kernel_rfl) (by rfl) (fun K hK => ?_)
     go_simp
     obtain ⟨y28, hn⟩ : ∃ x, x = y27.alloc (.cells #[.int .i64 fa, .int .i64 (fb : Int)] 97) := ⟨_, rfl⟩
     obtain ⟨gR3, hg⟩ : ∃ g, g = y27.heap.size := ⟨_, rfl⟩
     have hs : Same y27 y28 := by rw [hn]; exact (Same.refl _).alloc _
     have R3 := Lib.hid (show Blk y28 gR3 97 #[.int .i64 fa, .int .i64 (fb : Int)] from by rw [hn, hg]; exact Blk.new y27 _ _)
     have GER3 := Lib.hid (show b7 < gR3 ∧ b8 < gR3 from by rw [hg]; exact ⟨B7.out.lt, B8.out.lt⟩)
     rw [← hn, ← hg]
     clear hn hg
     have BQ := Lib.hid (BQ.out.same hs)
     have OL := Lib.hid (OL.out.same hs)
     have OKK := Lib.hid (OKK.out.same hs)
     have TLK := Lib.hid (TLK.out.same hs)
     have B7 := Lib.hid (B7.out.same hs)
     have B8 := Lib.hid (B8.out.same hs)
     have SM := Lib.hid (SM.out.trans hs)
     have SZ := Lib.hid (Nat.le_trans SZ.out hs.size)
     have R8 := Lib.hid (R8.out.same hs)
     clear hs
     have hHeld' := (show y28.cell? ⟨b7, 0, none⟩ = some (.int .i64 fa) ∧ y28.cell? ⟨b7, 1, none⟩ = some (.int .i64 (fb : Int)) ∧ y28.cell? ⟨b8, 0, none⟩ = some (.int .i64 rv.thru) ∧ y28.cell? ⟨b8, 1, none⟩ = some (.int .i64 rv.fin) from ⟨B7.out.cell 0, B7.out.cell 1, B8.out.cell 0, B8.out.cell 1⟩)
     have hTop' := (show y28.cell? ⟨q, 3, none⟩ = some (.slice LA k cL) ∧ y28.cell? ⟨q, 4, none⟩ = some (.slice KA k cK) from ⟨BQ.out.cell 3, BQ.out.cell 4⟩)
     refine hK.out _ _ hHeld' (fun _ _ => hTop') ?_
     clear hK K hHeld hTop
     have hHeld := hHeld'
     have hTop := hTop'
     clear hHeld' hTop'
     try simp only [Ro.p]
     refine Hb.b_one (i := 4) rfl (by kernel_rfl) (by rfl) (fun K hK => ?_)
     refine Ra.oper_app (.tmp 45) (.tmp 47) 94 rfl wT.heap.size 97 i0 _ 2 16 Tryz.underlying94 hi hz0 hz1 hz2 rfl (by omega) LA k cL (spanCells (fstL ls0)) rfl OL.out (some ⟨gR3, 0, none⟩) 1 1 [.int .i64 fa, .int .i64 (fb : Int)] rfl rfl (blk_row R3.out) (two_one _ _) (by omega) (by omega) SZ.out (k + 1) rfl ?_
     intro L1 d1 y29 ho hc
     try simp only [Ro.p]
     have BQ := Lib.hid (BQ.out.chg hc (fun h => OL.out.ne BQ.out (by decide) _ h rfl))
     have OKK := Lib.hid (OKK.out.chg hc (fun g e => ownK_apart OL.out OKK.out (by decide) g e))
     have TLK := Lib.hid (TLK.out.chg hc (fun g e h => by have h1 := HTBB.out g e; have h2 := HLG.out g h; omega))
     have B7 := Lib.hid (B7.out.chg hc (fun h => by have := HLG.out b7 h; omega))
     have B8 := Lib.hid (B8.out.chg hc (fun h => OL.out.ne B8.out (by decide) _ h rfl))
     have R8 := Lib.hid (R8.out.chg hc (fun h => OL.out.ne R8.out (by decide) _ h rfl))
     have SM := Lib.hid (Same.more SM.out hc (fun i h => by have h2 := HLG.out i h; have := HQB.out; omega))
     have SZ := Lib.hid (Nat.le_trans SZ.out hc.size)
     have OL := Lib.hid ho
     clear ho hc
     have hHeld' := (show y29.cell? ⟨b7, 0, none⟩ = some (.int .i64 fa) ∧ y29.cell? ⟨b7, 1, none⟩ = some (.int .i64 (fb : Int)) ∧ y29.cell? ⟨b8, 0, none⟩ = some (.int .i64 rv.thru) ∧ y29.cell? ⟨b8, 1, none⟩ = some (.int .i64 rv.fin) from ⟨B7.out.cell 0, B7.out.cell 1, B8.out.cell 0, B8.out.cell 1⟩)
     have hTop' := (show y29.cell? ⟨q, 3, none⟩ = some (.slice LA k cL) ∧ y29.cell? ⟨q, 4, none⟩ = some (.slice KA k cK) from ⟨BQ.out.cell 3, BQ.out.cell 4⟩)
     refine hK.out _ _ hHeld' (fun _ _ => hTop') ?_
     clear hK K hHeld hTop
     have hHeld := hHeld'
     have hTop := hTop'
     clear hHeld' hTop'
     try simp only [Ro.p]
     refine Hb.b_one (i := 9) rfl (by kernel_rfl) (by rfl) (fun K hK => ?_)
     refine Ra.oper_app (.tmp 50) (.tmp 52) 107 rfl wT.heap.size 123 j0 _ 2 16 Tryz.underlying107 hj hy0 hy1 hy2 rfl (by omega) KA k cK (spanCells (sndL ls0)) rfl OKK.out (some ⟨gR8, 0, none⟩) 1 1 [.int .i64 rv.thru, .int .i64 rv.fin] rfl rfl (blk_row R8.out) (two_one _ _) (by omega) (by omega) SZ.out (k + 1) rfl ?_
     intro K1 e1 y30 ho hc
     try simp only [Ro.p]
     have BQ := Lib.hid (BQ.out.chg hc (fun h => OKK.out.ne BQ.out (by decide) _ h rfl))
     have OL := Lib.hid (OL.out.chg hc (fun g e => ownK_apart OKK.out OL.out (by decide) g e))
     have TLK := Lib.hid (TLK.out.chg hc (fun g e h => by have h1 := HTBB.out g e; have h2 := HKG.out g h; omega))
     have B8 := Lib.hid (B8.out.chg hc (fun h => by have := HKG.out b8 h; omega))
     have B7 := Lib.hid (B7.out.chg hc (fun h => OKK.out.ne B7.out (by decide) _ h rfl))
     have SM := Lib.hid (Same.more SM.out hc (fun i h => by have h2 := HKG.out i h; have := HQB.out; omega))
     have SZ := Lib.hid (Nat.le_trans SZ.out hc.size)
     have OKK := Lib.hid ho
     clear ho hc
     have hHeld' := (show y30.cell? ⟨b7, 0, none⟩ = some (.int .i64 fa) ∧ y30.cell? ⟨b7, 1, none⟩ = some (.int .i64 (fb : Int)) ∧ y30.cell? ⟨b8, 0, none⟩ = some (.int .i64 rv.thru) ∧ y30.cell? ⟨b8, 1, none⟩ = some (.int .i64 rv.fin) from ⟨B7.out.cell 0, B7.out.cell 1, B8.out.cell 0, B8.out.cell 1⟩)
     have hTop' := (show y30.cell? ⟨q, 3, none⟩ = some (.slice LA k cL) ∧ y30.cell? ⟨q, 4, none⟩ = some (.slice KA k cK) from ⟨BQ.out.cell 3, BQ.out.cell 4⟩)
     refine hK.out _ _ hHeld' (fun _ _ => hTop') ?_
     clear hK K hHeld hTop
     have hHeld := hHeld'
     have hTop := hTop'
     clear hHeld' hTop'
     try simp only [Ro.p]
     refine Hb.b_one (i := 10) rfl (by kernel_rfl) (by rfl) (fun K hK => ?_)
     go_simp
     refine hK.out _ _ hHeld (fun h => by simp at h) ?_
     clear hK K
     try simp only [Ro.p]
     refine Hb.b_one (i := 11) rfl (by kernel_rfl) (by rfl) (fun K hK => ?_)
     have z3 := BQ.out.cell 3
     simp only [List.cons_append, List.nil_append, List.getElem?_toArray, List.getElem?_cons_zero, List.getElem?_cons_succ] at z3
     have f3 := BQ.out.thaw 3
     go_simp
     obtain ⟨y32, hn⟩ : ∃ x, x = y30.setCell ⟨q, 3, none⟩ (.slice L1 (k + 1) d1) := ⟨_, rfl⟩
     have hc : Chg (fun i => i = q) y30 y32 := by rw [hn]; exact (Chg.refl (fun i => i = q) y30).set (p := ⟨q, 3, none⟩) (.inl rfl) _
     have BQ := Lib.hid (show Blk y32 q 109 _ from by rw [hn]; exact BQ.out.put 3 _)
     rw [← hn]
     clear hn z3 f3
     have OL := Lib.hid (OL.out.chg hc (fun g e h => by have := OL.out.base_ge g e; have := HQB.out; omega))
     have OKK := Lib.hid (OKK.out.chg hc (fun g e h => by have := OKK.out.base_ge g e; have := HQB.out; omega))
     have TLK := Lib.hid (TLK.out.chg hc (fun g e h => by have h1 := HTBB.out g e; omega))
     have B7 := Lib.hid (B7.out.chg hc (by have := HB78.out; omega))
     have B8 := Lib.hid (B8.out.chg hc (by have := HB78.out; omega))
     have SM := Lib.hid (Same.more SM.out hc (fun i h => by have := HQB.out; omega))
     have SZ := Lib.hid (Nat.le_trans SZ.out hc.size)
     clear hc
     have hHeld' := (show y32.cell? ⟨b7, 0, none⟩ = some (.int .i64 fa) ∧ y32.cell? ⟨b7, 1, none⟩ = some (.int .i64 (fb : Int)) ∧ y32.cell? ⟨b8, 0, none⟩ = some (.int .i64 rv.thru) ∧ y32.cell? ⟨b8, 1, none⟩ = some (.int .i64 rv.fin) from ⟨B7.out.cell 0, B7.out.cell 1, B8.out.cell 0, B8.out.cell 1⟩)
     refine hK.out _ _ hHeld' (fun h => by simp at h) ?_
     clear hK K hHeld
     have hHeld := hHeld'
     clear hHeld'
     try simp only [Ro.p]
     refine Hb.b_one (i := 12) rfl (by kernel_rfl) (by rfl) (fun K hK => ?_)
     go_simp
     refine hK.out _ _ hHeld (fun h => by simp at h) ?_
     clear hK K
     try simp only [Ro.p]
     refine Hb.b_one (i := 13) rfl (by kernel_rfl) (by rfl) (fun K hK => ?_)
     have z4 := BQ.out.cell 4
     simp only [List.cons_append, List.nil_append, List.getElem?_toArray, List.getElem?_cons_zero, List.getElem?_cons_succ] at z4
     have f4 := BQ.out.thaw 4
     go_simp
     obtain ⟨y34, hn⟩ : ∃ x, x = y32.setCell ⟨q, 4, none⟩ (.slice K1 (k + 1) e1) := ⟨_, rfl⟩
     have hc : Chg (fun i => i = q) y32 y34 := by rw [hn]; exact (Chg.refl (fun i => i = q) y32).set (p := ⟨q, 4, none⟩) (.inl rfl) _
     have BQ := Lib.hid (show Blk y34 q 109 _ from by rw [hn]; exact BQ.out.put 4 _)
     rw [← hn]
     clear hn z4 f4
     have OL := Lib.hid (OL.out.chg hc (fun g e h => by have := OL.out.base_ge g e; have := HQB.out; omega))
     have OKK := Lib.hid (OKK.out.chg hc (fun g e h => by have := OKK.out.base_ge g e; have := HQB.out; omega))
     have TLK := Lib.hid (TLK.out.chg hc (fun g e h => by have h1 := HTBB.out g e; omega))
     have B7 := Lib.hid (B7.out.chg hc (by have := HB78.out; omega))
     have B8 := Lib.hid (B8.out.chg hc (by have := HB78.out; omega))
     have SM := Lib.hid (Same.more SM.out hc (fun i h => by have := HQB.out; omega))
     have SZ := Lib.hid (Nat.le_trans SZ.out hc.size)
     clear hc
     have hHeld' := (show y34.cell? ⟨b7, 0, none⟩ = some (.int .i64 fa) ∧ y34.cell? ⟨b7, 1, none⟩ = some (.int .i64 (fb : Int)) ∧ y34.cell? ⟨b8, 0, none⟩ = some (.int .i64 rv.thru) ∧ y34.cell? ⟨b8, 1, none⟩ = some (.int .i64 rv.fin) from ⟨B7.out.cell 0, B7.out.cell 1, B8.out.cell 0, B8.out.cell 1⟩)
     refine hK.out _ _ hHeld' (fun h => by simp at h) ?_
     clear hK K hHeld
     have hHeld := hHeld'
     clear hHeld'
     try simp only [Ro.p]
     refine Hb.anyB_done (by kernel_rfl) ?_ _
     go_wp2_with fail
     go_roundg GK
     case measure => omega
     case rel =>
      refine ⟨k + 1, L1, d1, K1, e1, by have := HK.out; omega, by go_num, Lib.hid ⟨BQ.out, ?_, ?_, TLK.out, HTBB.out, SM.out, SZ.out, HQB.out⟩⟩
      ·have h := OL.out
       rw [HKT.out]
       unfold fstL at h ⊢
       rw [List.map_append, Fw.spanCells_app]
       exact h
      ·have h := OKK.out
       rw [HKT.out]
       unfold sndL at h ⊢
       rw [List.map_append, Fw.spanCells_app]
       exact h
end Go.Proofs.YthhbhbfkbncegaaGreatDoor.Cs
