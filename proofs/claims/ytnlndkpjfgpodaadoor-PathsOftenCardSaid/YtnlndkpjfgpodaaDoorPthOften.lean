/-

  Package paths (layer 11): how often one may come to a place (Often), and the document's.
-/
import Derived.Test.YtnlndkpjfgpodaaDoorFlowUse
import Derived.Test.YtnlndkpjfgpodaaDoorRefFlow
import Derived.Test.YtnlndkpjfgpodaaDoorCstPart
import Derived.Test.YtnlndkpjfgpodaaDoorWordBase
import Derived.Deep.Cut
set_option linter.unusedVariables false
set_option linter.unusedSimpArgs false
namespace Go.Proofs.YtnlndkpjfgpodaaDoor.Pt
open Go.ChangeShapes Go.WideShapes Go.ChangeAt Go.RowKit Ws
open Go.Proofs.YtnlndkpjfgpodaaDoor.Fp (Ins at_ Fine at_some lp loopsL hasB lp_mem)
open Go.Proofs.YtnlndkpjfgpodaaDoor.Fw (Prg Spn spanCells spn_of okB okB_fine may_any told_any toldL LoopsPost rloops_any rin_any)
open Go.Proofs.YtnlndkpjfgpodaaDoor.Wd (mulv wmul rmul ret_bool ret_int)
theorem phas_any (a b x : Int) (w : World) :
    Calls Tryd.prog 63 #[.agg #[.int .i64 a, .int .i64 b], .int .i64 x] w fun e w' => e = .returned (.bool (hasB (a, b) x)) ∧ Same w w' := by
  unfold hasB
  by_cases h1 : a ≤ x
  · have e1 : decide ((a, b).1 ≤ x ∧ x ≤ (a, b).2) = decide (x ≤ b) := by rw [decide_eq_decide]; exact ⟨fun h => h.2, fun h => ⟨h1, h⟩⟩
    rw [e1]
    have b1 : decide (a ≤ x) = true := decide_eq_true h1
    clear e1
    go_enter Tryd.func63, Tryd.ntmps63
    go_wp2
    go_ret
    exact ⟨rfl, (Same.refl _).alloc _⟩
  · have e1 : decide ((a, b).1 ≤ x ∧ x ≤ (a, b).2) = false := decide_eq_false fun h => h1 h.1
    rw [e1]
    have b1 : decide (a ≤ x) = false := decide_eq_false h1
    clear e1
    go_enter Tryd.func63, Tryd.ntmps63
    go_wp2
    go_ret
    exact ⟨rfl, (Same.refl _).alloc _⟩
/-- how often one may come to a place, by the loops -/
def oftF (p : List Ins) (x : Int) (l : List (Int × Int)) : Int := l.foldl (fun n s => if hasB s x = true then mulv n ((at_ p s.2.toNat).c + 1) else n) 1
theorem oftF_take (p : List Ins) (x : Int) {l : List (Int × Int)} {k : Nat} (h : k < l.length) : oftF p x (l.take (k + 1)) = if hasB (lp l k) x = true then mulv (oftF p x (l.take k)) ((at_ p (lp l k).2.toNat).c + 1) else oftF p x (l.take k) := by
  have e : l[k]'h = lp l k := by unfold lp; rw [List.getD_eq_getElem?_getD, List.getElem?_eq_getElem h]; rfl
  unfold oftF
  rw [List.take_succ_eq_append_getElem h, List.foldl_append, e]
  rfl
def oftenI (p : List Ins) (x : Int) : Int := if okB p = true ∧ 0 ≤ x ∧ x < p.length then oftF p x (loopsL p) else 0
theorem fit_back : Is.hasC 16 2 < 7 ∧ Is.loL.getD (Is.hasC 16 2) 0 = 1 ∧ Is.hiL.getD (Is.hasC 16 2) 0 = 255 := by decide +kernel
theorem back_c {x : Ins} (h : Fw.rightI x = true) (ho : x.op = 16) : 1 ≤ x.c ∧ x.c ≤ 255 := by
  unfold Fw.rightI Is.rightB at h
  rw [ho] at h
  simp only [Bool.and_eq_true] at h
  have h2 := h.2.2.2.1
  unfold Is.fitB at h2
  have e : (16 : Int).toNat = 16 := rfl
  rw [e, fit_back.2.1, fit_back.2.2] at h2
  simp at h2
  omega
/-- what is known of a loop -/
theorem loop_at {p : List Ins} (h : okB p = true) (hn : ∀ j, j < p.length → 0 ≤ (at_ p j).n) {k : Nat} (hk : k < (loopsL p).length) :
    0 ≤ (lp (loopsL p) k).1 ∧ 0 ≤ (lp (loopsL p) k).2 ∧ (lp (loopsL p) k).2 < p.length ∧ 0 ≤ (at_ p (lp (loopsL p) k).2.toNat).c ∧ (at_ p (lp (loopsL p) k).2.toNat).c ≤ 255 := by
  have hF := okB_fine h
  have h1 := hF.loop hn (lp_mem hk)
  have h2 := hF.right (lp (loopsL p) k).2.toNat (by omega)
  have h3 := back_c h2 (Cs.lp_back hF hn hk)
  omega
theorem pmay_any (A : Option Addr) (m c : Nat) (p : List Ins) (w : World) (hl : p.length = m) (hm : m ≤ 5000) (hp : Prg w A p) (ht : Is.Tabs w) :
    Calls Tryd.prog 58 #[.slice A m c] w fun e w' => e = .returned (.bool (okB p)) ∧ Same w w' := by
  have CK := Lib.hid (Fw.check_any A m c p w hl hm hp ht)
  have hE : (Fw.ckE p == 0) = okB p := by unfold okB; rw [Bool.eq_iff_iff]; simp
  have HE := Lib.hid hE
  clear hl hp ht hE
  go_enter Tryd.func58, Tryd.ntmps58
  go_wp2_with fail
  refine CK.out.mono ?_
  rintro e w1 ⟨rfl, s1⟩
  go_wp2_with fail
  go_ret
  exact ⟨ret_bool HE.out, s1⟩
set_option maxRecDepth 100000 in
set_option maxHeartbeats 2000000 in
theorem often_any (A : Option Addr) (m c : Nat) (p : List Ins) (pc : Int) (w : World) (hl : p.length = m) (hm : m ≤ 5000) (hp : Prg w A p) (ht : Is.Tabs w) :
    Calls Tryd.prog 32 #[.slice A m c, .int .i64 pc] w fun e w' => e = .returned (.int .i64 (oftenI p pc)) ∧ Same w w' := by
  have MA := Lib.hid (pmay_any A m c p w hl hm hp ht)
  have TL := Lib.hid (fun W (s : Same w W) => told_any A m c p W hl hm (hp.same s) (ht.same s))
  have HP := Lib.hid hp
  have HL := Lib.hid hl
  by_cases hok : okB p = true
  · by_cases hneg : pc < 0
    · have HV := Lib.hid (show oftenI p pc = 0 from if_neg (by omega))
      have g2 : decide (pc < 0) = true := decide_eq_true hneg
      rw [hok] at MA
      clear hl hp ht TL hneg
      go_enter Tryd.func32, Tryd.ntmps32
      go_wp2_with fail
      refine MA.out.mono ?_
      rintro e w1 ⟨rfl, s1⟩
      go_wp2_with fail
      go_ret
      exact ⟨ret_int HV.out.symm, s1⟩
    · have g2 : decide (pc < 0) = false := decide_eq_false hneg
      by_cases hbig : (m : Int) ≤ pc
      · have HV := Lib.hid (show oftenI p pc = 0 from if_neg (by omega))
        have g3 : decide ((m : Int) ≤ pc) = true := decide_eq_true hbig
        rw [hok] at MA
        clear hl hp ht TL hneg hbig
        go_enter Tryd.func32, Tryd.ntmps32
        go_wp2_with fail
        refine MA.out.mono ?_
        rintro e w1 ⟨rfl, s1⟩
        go_wp2_with fail
        go_ret
        exact ⟨ret_int HV.out.symm, s1⟩
      · have g3 : decide ((m : Int) ≤ pc) = false := decide_eq_false hbig
        have hv : oftF p pc (loopsL p) = oftenI p pc := (if_pos ⟨hok, by omega, by omega⟩).symm
        have hlp := fun k hk => loop_at hok hp.nn (k := k) hk
        rw [hl] at hlp
        have htl : toldL p = loopsL p := if_pos hok
        rw [hok] at MA
        rw [htl] at TL
        have HLB := Lib.hid (show (loopsL p).length ≤ m by rw [← hl]; exact Fp.loopsTo_len p.length)
        have HLP := Lib.hid hlp
        have HV := Lib.hid hv
        clear hl hp ht hneg hbig hv hlp htl hok
        generalize loopsL p = ls at *
        generalize oftenI p pc = vv at *
        obtain ⟨tn, htn⟩ : ∃ tn, tn = ls.length := ⟨_, rfl⟩
        have HTN := Lib.hid htn
        unfold Fw.Told at TL
        rw [← htn] at TL
        clear htn
        go_enter Tryd.func32, Tryd.ntmps32
        go_wp2_with fail
        refine MA.out.mono ?_
        rintro e w1 ⟨rfl, s1⟩
        have S1 := Lib.hid s1
        clear s1 MA
        go_wp2_with fail
        refine (TL.out _ S1.out).mono ?_
        rintro e w2 ⟨TA, tc, rfl, hsp, s2⟩
        have S2 := Lib.hid (S1.out.trans s2)
        have HSP := Lib.hid hsp
        clear s2 S1 hsp TL
        go_wp2_with fail
        go_loopg [24, 5] tn (fun gk iv nv wx => ∃ k : Nat, k + gk = tn ∧ iv = .int .i64 (k : Int) ∧ nv = .int .i64 (oftF p pc (ls.take k)) ∧ Same w2 wx)
        case atStart => exact ⟨0, by omega, rfl, rfl, Same.refl _⟩
        case round =>
          obtain ⟨k, hk, rfl, rfl, sx⟩ := hrel
          have HSX := Lib.hid (S2.out.trans sx)
          have HRX := Lib.hid sx
          cases gk with
          | zero =>
            obtain rfl : k = tn := by omega
            have hge : ¬ (k : Int) < (k : Int) := by omega
            have hfull : ls.take k = ls := List.take_of_length_le (by have := HTN.out; omega)
            rw [hfull]
            clear sx hfull
            go_wp2_with fail
            go_ret
            exact ⟨ret_int HV.out, HSX.out⟩
          | succ GK =>
            have hlt : (k : Int) < tn := by omega
            have hk0 : (0 : Int) ≤ k := by omega
            have hkl : k < ls.length := by have := HTN.out; omega
            have htm : tn ≤ m := by have := HTN.out; have := HLB.out; omega
            have HK := Lib.hid hk
            obtain ⟨tb, tO, rfl, t0, t1⟩ := (HSP.out.same sx).at_ (k := k) hkl
            obtain ⟨h0, h1, h2, hc1, hc2⟩ := HLP.out k hkl
            have hTK := oftF_take p pc hkl
            obtain ⟨zk, zb, zo, rfl, _, _, _, zc, _⟩ := (HP.out.same HSX.out).at_ (k := (lp ls k).2.toNat) (by rw [HL.out]; omega)
            have HTK := Lib.hid hTK
            clear sx hTK hk zk
            generalize oftF p pc (ls.take k) = acc at *
            generalize (at_ p (lp ls k).2.toNat).c = lc at *
            generalize lp ls k = sp at *
            obtain ⟨fa, fb0⟩ := sp
            obtain ⟨fb, rfl⟩ : ∃ fb : Nat, fb0 = (fb : Int) := ⟨fb0.toNat, by omega⟩
            simp only [Int.toNat_natCast] at h0 h1 h2 hc1 hc2 zc t0 t1 HTK
            have hfb : (fb : Int) < m := h2
            have hfb0 : (0 : Int) ≤ (fb : Int) := by omega
            have hadd : IntKind.i64.wrap (lc + 1) = lc + 1 := Go.IntWalk.i64_in _ (by omega)
            have HA := Lib.hid (fun W => phas_any fa fb pc W)
            have HM := Lib.hid (fun W => wmul acc (lc + 1) W)
            have B4 := Lib.hid (Blk.new wr 78 #[.int .i64 fa, .int .i64 (fb : Int)])
            have X4 := Lib.hid ((Same.refl wr).alloc (.cells #[.int .i64 fa, .int .i64 (fb : Int)] 78))
            go_upto_region 7 with fail
            generalize wr.alloc (.cells #[.int .i64 fa, .int .i64 (fb : Int)] 78) = w4 at *
            generalize wr.heap.size = q4 at *
            have z0 := B4.out.cell 0
            have z1 := B4.out.cell 1
            simp only [List.getElem?_toArray, List.getElem?_cons_zero, List.getElem?_cons_succ] at z0 z1
            have zc := X4.out.cell zc
            clear t0 t1
            go_wp2_with fail
            refine (HA.out _).mono ?_
            rintro e w5 ⟨rfl, s5⟩
            have S5 := Lib.hid (HRX.out.trans (X4.out.trans s5))
            have z0 := s5.cell z0
            have z1 := s5.cell z1
            have zc := s5.cell zc
            clear s5 HA
            cases hh : hasB (fa, (fb : Int)) pc
            · have HE := HTK.out
              rw [hh, if_neg Bool.false_ne_true] at HE
              have HE := Lib.hid HE
              clear hh
              go_wp2_with fail
              go_roundg GK
              case rel => exact ⟨k + 1, by have := HK.out; omega, by go_num, by rw [HE.out], S5.out⟩
              case measure => omega
            · have HE := HTK.out
              rw [hh, if_pos rfl] at HE
              have HE := Lib.hid HE
              clear hh
              go_wp2_with fail
              refine (HM.out _).mono ?_
              rintro e w6 ⟨rfl, hw6⟩
              subst hw6
              go_wp2_with fail
              go_roundg GK
              case rel => exact ⟨k + 1, by have := HK.out; omega, by go_num, by rw [HE.out], S5.out⟩
              case measure => omega
  · have HV := Lib.hid (show oftenI p pc = 0 from if_neg (fun h => hok h.1))
    have hok : okB p = false := by simpa using hok
    rw [hok] at MA
    clear hl hp ht TL
    go_enter Tryd.func32, Tryd.ntmps32
    go_wp2_with fail
    refine MA.out.mono ?_
    rintro e w1 ⟨rfl, s1⟩
    go_wp2_with fail
    go_ret
    exact ⟨ret_int HV.out.symm, s1⟩
set_option maxRecDepth 100000 in
set_option maxHeartbeats 2000000 in
theorem roften_any (A : Option Addr) (m c : Nat) (p : List Ins) (pc : Int) (w : World) (hl : p.length = m) (hm : m ≤ 5000) (hp : Prg w A p) (hok : okB p = true) (hpc : 0 ≤ pc ∧ pc < m) :
    Calls Tryd.prog 34 #[.slice A m c, .int .i64 pc] w fun e w' => e = .returned (.int .i64 (oftenI p pc)) ∧ Same w w' := by
  have TL := Lib.hid (rloops_any A m c p w hl hm hp)
  have HP := Lib.hid hp
  have HL := Lib.hid hl
  have hv : oftF p pc (loopsL p) = oftenI p pc := (if_pos ⟨hok, by omega, by omega⟩).symm
  have hlp := fun k hk => loop_at hok hp.nn (k := k) hk
  rw [hl] at hlp
  have HLB := Lib.hid (show (loopsL p).length ≤ m by rw [← hl]; exact Fp.loopsTo_len p.length)
  have HLP := Lib.hid hlp
  have HV := Lib.hid hv
  clear hl hp hv hlp hok
  unfold LoopsPost at TL
  generalize loopsL p = ls at *
  generalize oftenI p pc = vv at *
  obtain ⟨tn, htn⟩ : ∃ tn, tn = ls.length := ⟨_, rfl⟩
  have HTN := Lib.hid htn
  rw [← htn] at TL
  clear htn
  go_enter Tryd.func34, Tryd.ntmps34
  go_wp2_with fail
  refine TL.out.mono ?_
  rintro e w2 ⟨TA, tc, rfl, ho, s2⟩
  have S2 := Lib.hid s2
  have HSP := Lib.hid (spn_of ho.row)
  clear s2 ho TL
  go_wp2_with fail
  go_loopg [11, 5] tn (fun gk iv nv wx => ∃ k : Nat, k + gk = tn ∧ iv = .int .i64 (k : Int) ∧ nv = .int .i64 (oftF p pc (ls.take k)) ∧ Same w2 wx)
  case atStart => exact ⟨0, by omega, rfl, rfl, Same.refl _⟩
  case round =>
    obtain ⟨k, hk, rfl, rfl, sx⟩ := hrel
    have HSX := Lib.hid (S2.out.trans sx)
    have HRX := Lib.hid sx
    cases gk with
    | zero =>
      obtain rfl : k = tn := by omega
      have hge : ¬ (k : Int) < (k : Int) := by omega
      have hfull : ls.take k = ls := List.take_of_length_le (by have := HTN.out; omega)
      rw [hfull]
      clear sx hfull
      go_wp2_with fail
      go_ret
      exact ⟨ret_int HV.out, HSX.out⟩
    | succ GK =>
      have hlt : (k : Int) < tn := by omega
      have hk0 : (0 : Int) ≤ k := by omega
      have hkl : k < ls.length := by have := HTN.out; omega
      have htm : tn ≤ m := by have := HTN.out; have := HLB.out; omega
      have HK := Lib.hid hk
      obtain ⟨tb, tO, rfl, t0, t1⟩ := (HSP.out.same sx).at_ (k := k) hkl
      obtain ⟨h0, h1, h2, hc1, hc2⟩ := HLP.out k hkl
      have hTK := oftF_take p pc hkl
      obtain ⟨zk, zb, zo, rfl, _, _, _, zc, _⟩ := (HP.out.same HSX.out).at_ (k := (lp ls k).2.toNat) (by rw [HL.out]; omega)
      have HTK := Lib.hid hTK
      clear sx hTK hk zk
      generalize oftF p pc (ls.take k) = acc at *
      generalize (at_ p (lp ls k).2.toNat).c = lc at *
      generalize lp ls k = sp at *
      obtain ⟨fa, fb0⟩ := sp
      obtain ⟨fb, rfl⟩ : ∃ fb : Nat, fb0 = (fb : Int) := ⟨fb0.toNat, by omega⟩
      simp only [Int.toNat_natCast] at h0 h1 h2 hc1 hc2 zc t0 t1 HTK
      have hfb : (fb : Int) < m := h2
      have hfb0 : (0 : Int) ≤ (fb : Int) := by omega
      have hadd : IntKind.i64.wrap (lc + 1) = lc + 1 := Go.IntWalk.i64_in _ (by omega)
      have HA := Lib.hid (fun W => rin_any fa fb pc W)
      have HM := Lib.hid (fun W => rmul acc (lc + 1) W)
      have B4 := Lib.hid (Blk.new wr 78 #[.int .i64 fa, .int .i64 (fb : Int)])
      have X4 := Lib.hid ((Same.refl wr).alloc (.cells #[.int .i64 fa, .int .i64 (fb : Int)] 78))
      go_upto_region 5 with fail
      generalize wr.alloc (.cells #[.int .i64 fa, .int .i64 (fb : Int)] 78) = w4 at *
      generalize wr.heap.size = q4 at *
      have z0 := B4.out.cell 0
      have z1 := B4.out.cell 1
      simp only [List.getElem?_toArray, List.getElem?_cons_zero, List.getElem?_cons_succ] at z0 z1
      have zc := X4.out.cell zc
      clear t0 t1
      go_wp2_with fail
      refine (HA.out _).mono ?_
      rintro e w5 ⟨rfl, s5⟩
      have S5 := Lib.hid (HRX.out.trans (X4.out.trans s5))
      have z0 := s5.cell z0
      have z1 := s5.cell z1
      have zc := s5.cell zc
      clear s5 HA
      cases hh : hasB (fa, (fb : Int)) pc
      · have HE := HTK.out
        rw [hh, if_neg Bool.false_ne_true] at HE
        have HE := Lib.hid HE
        clear hh
        go_wp2_with fail
        go_roundg GK
        case rel => exact ⟨k + 1, by have := HK.out; omega, by go_num, by rw [HE.out], S5.out⟩
        case measure => omega
      · have HE := HTK.out
        rw [hh, if_pos rfl] at HE
        have HE := Lib.hid HE
        clear hh
        go_wp2_with fail
        refine (HM.out _).mono ?_
        rintro e w6 ⟨rfl, hw6⟩
        subst hw6
        go_wp2_with fail
        go_roundg GK
        case rel => exact ⟨k + 1, by have := HK.out; omega, by go_num, by rw [HE.out], S5.out⟩
        case measure => omega
end Go.Proofs.YtnlndkpjfgpodaaDoor.Pt
