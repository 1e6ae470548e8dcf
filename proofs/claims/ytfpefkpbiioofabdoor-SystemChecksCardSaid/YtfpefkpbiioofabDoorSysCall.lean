/-

  Layer 32: what is wrong of calls.
-/
import Derived.Test.YtfpefkpbiioofabDoorSysObj
import Derived.BigQuiet
set_option linter.unusedVariables false
set_option linter.unusedSimpArgs false
namespace Go.Proofs.YtfpefkpbiioofabDoor.Sy
open Go.ChangeShapes Go.WideShapes Go.ChangeAt Go.RowKit Ws
open Go.Proofs.YtfpefkpbiioofabDoor.Im (PT PO PS TsAt OsAt SysAt tcells ocells TWf OWf SysWf)
open Go.Proofs.YtfpefkpbiioofabDoor.Is (Tabs)
open Go.Proofs.YtfpefkpbiioofabDoor.Ly (three_same)

/-- the object that an instruction calls, and what is wrong of that -/
noncomputable def callR (s : PS) (i : Nat) (own : Int) (x : Im.Ins) : Int × Int :=
  if Is.callV x.op = 0 then (-1, 0) else
  match s.os[x.b.toNat]? with
  | none => (x.b, 9)
  | some o => if Is.callV x.op ≠ wrF o.k ∧ Is.callV x.op ≠ rdF o.k then (x.b, 9) else if roleF s i x.b ≠ Is.callV x.op then (x.b, 10) else if own < x.n + o.wd then (x.b, 5) else (x.b, 0)
theorem callv_b {op : Int} : Is.callB op = true ↔ Is.callV op ≠ 0 := by
  unfold Is.callB Is.callV
  rw [decide_eq_true_iff]
  split <;> omega
theorem call_none {s : PS} {i : Nat} {own : Int} {x : Im.Ins} (h : Is.callB x.op = false) : callR s i own x = (-1, 0) := by
  unfold callR
  rw [if_pos]
  by_cases hz : Is.callV x.op = 0
  · exact hz
  · rw [callv_b.2 hz] at h; cases h
theorem call_noobj {s : PS} {i : Nat} {own : Int} {x : Im.Ins} (h : Is.callB x.op = true) (ho : s.os.length ≤ x.b.toNat) : callR s i own x = (x.b, 9) := by
  unfold callR
  rw [if_neg (callv_b.1 h), List.getElem?_eq_none ho]
theorem call_at {s : PS} {i : Nat} {own : Int} {x : Im.Ins} {k : Nat} {o : PO} (h : Is.callB x.op = true) (hk : x.b = k) (ho : s.os[k]? = some o) : callR s i own x = if Is.callV x.op ≠ wrF o.k ∧ Is.callV x.op ≠ rdF o.k then (x.b, 9) else if roleF s i x.b ≠ Is.callV x.op then (x.b, 10) else if own < x.n + o.wd then (x.b, 5) else (x.b, 0) := by
  unfold callR
  rw [if_neg (callv_b.1 h), show x.b.toNat = k by omega, ho]
theorem calls_b {op a b c n : Int} (hr : Is.rightB op a b c n = true) (hc : Is.callB op = true) : 0 ≤ b ∧ b ≤ 7 := by
  have hc' := of_decide_eq_true hc
  rcases (show op = 17 ∨ op = 18 ∨ op = 19 ∨ op = 20 by omega) with rfl | rfl | rfl | rfl
  · rw [show (17 : Int) = ((17 : Nat) : Int) from rfl, Is.right_of (by omega)] at hr
    simp only [Bool.and_eq_true] at hr
    have h := of_decide_eq_true hr.2.1
    rw [show Is.loL.getD (Is.hasC 17 1) 0 = 0 by decide, show Is.hiL.getD (Is.hasC 17 1) 0 = 7 by decide] at h
    omega
  · rw [show (18 : Int) = ((18 : Nat) : Int) from rfl, Is.right_of (by omega)] at hr
    simp only [Bool.and_eq_true] at hr
    have h := of_decide_eq_true hr.2.1
    rw [show Is.loL.getD (Is.hasC 18 1) 0 = 0 by decide, show Is.hiL.getD (Is.hasC 18 1) 0 = 7 by decide] at h
    omega
  · rw [show (19 : Int) = ((19 : Nat) : Int) from rfl, Is.right_of (by omega)] at hr
    simp only [Bool.and_eq_true] at hr
    have h := of_decide_eq_true hr.2.1
    rw [show Is.loL.getD (Is.hasC 19 1) 0 = 0 by decide, show Is.hiL.getD (Is.hasC 19 1) 0 = 7 by decide] at h
    omega
  · rw [show (20 : Int) = ((20 : Nat) : Int) from rfl, Is.right_of (by omega)] at hr
    simp only [Bool.and_eq_true] at hr
    have h := of_decide_eq_true hr.2.1
    rw [show Is.loL.getD (Is.hasC 20 1) 0 = 0 by decide, show Is.hiL.getD (Is.hasC 20 1) 0 = 7 by decide] at h
    omega
def CallP (w : World) (r : Int × Int) (e : Ending) (w' : World) : Prop := e = .returned (.tuple #[.int .i64 r.1, .int .i64 r.2]) ∧ Same w w'
theorem callp_mk {w w' : World} {r : Int × Int} {k e : Int} (h : r = (k, e)) (hs : Same w w') : CallP w r (.returned (.tuple #[.int .i64 k, .int .i64 e])) w' := by subst h; exact ⟨rfl, hs⟩
set_option maxRecDepth 100000 in
set_option maxHeartbeats 2000000 in
theorem call_any (A B : Option Addr) (n c m d : Nat) (s : PS) (i : Nat) (t : PT) (op xa xb xc xn : Int) (w : World) (hs : SysAt w A n B m s) (hti : s.ts[i]? = some t) (hn : 0 ≤ xn ∧ xn < 4294967296) (hr : Is.rightB op xa xb xc xn = true) (hg : ∀ o ∈ s.os, OGood o) (hf : OFew s.os 5000) (hnb : n ≤ 5000) (hT : Tabs w) :
    Calls Tryd.prog 33 #[.agg #[.slice A n c, .slice B m d], .int .i64 i, .agg #[.int .i64 op, .int .i64 xa, .int .i64 xb, .int .i64 xc, .int .u32 xn]] w (CallP w (callR s i t.own ⟨op, xa, xb, xc, xn⟩)) := by
  cases hc : Is.callB op with
  | false =>
    rw [call_none (x := ⟨op, xa, xb, xc, xn⟩) hc]
    exact call0_any (.agg #[.slice A n c, .slice B m d]) i op xa xb xc xn n A B c m d rfl hn hc w hT
  | true =>
    have HC := Lib.hid hc
    have hxb := calls_b hr hc
    have HSY := Lib.hid hs
    obtain ⟨hln, hlm, hta, hoa⟩ := hs
    have HM := Lib.hid hlm
    have HT := Lib.hid hta
    have HO := Lib.hid hoa
    have HTI := Lib.hid hti
    have HG := Lib.hid hg
    have HF := Lib.hid hf
    have hmb : m ≤ 5000 := by have := hf.1; omega
    have hin0 : i < n := by
      rcases Nat.lt_or_ge i n with h | h
      · exact h
      · rw [List.getElem?_eq_none (by omega)] at hti; cases hti
    have hs1 := ((Same.refl w).alloc (.cells #[.slice A n c, .slice B m d] 25)).alloc (.cells #[.int .i64 op, .int .i64 xa, .int .i64 xb, .int .i64 xc, .int .u32 xn] 46)
    have hb := Blk.new (w.alloc (.cells #[.slice A n c, .slice B m d] 25)) 46 #[.int .i64 op, .int .i64 xa, .int .i64 xb, .int .i64 xc, .int .u32 xn]
    rw [World.size_alloc] at hb
    have hbs := (Blk.new w 25 #[.slice A n c, .slice B m d]).same ((Same.refl _).alloc (.cells #[.int .i64 op, .int .i64 xa, .int .i64 xb, .int .i64 xc, .int .u32 xn] 46))
    obtain ⟨y0, y1, y2, y3, y4⟩ := ics hb
    have CA := Lib.hid (Is.calls_any op xa xb xc xn hn _ (hT.same hs1))
    rw [hr, hc, Bool.and_true] at CA
    have HS := Lib.hid hs1
    have HB := Lib.hid hbs
    have HI := Lib.hid hb
    have IO := Lib.hid (fun w' => isobj_any A B n c m d xb w')
    clear hs1 hb hbs hr hc hT hln hlm hta hoa hti hg hf
    go_enter Tryd.func33, Tryd.ntmps33
    go_wp2_with fail
    refine CA.out.mono ?_
    rintro e w1 ⟨he, s1⟩
    rw [if_pos trivial] at he
    subst he
    have HS1 := Lib.hid (HS.out.trans s1)
    have HB1 := Lib.hid (HB.out.same s1)
    have HI1 := Lib.hid (HI.out.same s1)
    clear s1 y0 y1 y2 y3 y4 CA HS HB HI
    obtain ⟨a0, a1⟩ := (⟨HB1.out.cell 0, HB1.out.cell 1⟩ : _ ∧ _)
    simp only [List.getElem?_toArray, List.getElem?_cons_zero, List.getElem?_cons_succ] at a0 a1
    unfold Is.ret3b
    go_wp2_with fail
    refine (IO.out _).mono ?_
    rintro e w2 ⟨rfl, s2⟩
    have HS2 := Lib.hid (HS1.out.trans s2)
    have HB2 := Lib.hid (HB1.out.same s2)
    have HI2 := Lib.hid (HI1.out.same s2)
    clear s2 a0 a1 HS1 HB1 HI1
    obtain ⟨a0, a1⟩ := (⟨HB2.out.cell 0, HB2.out.cell 1⟩ : _ ∧ _)
    simp only [List.getElem?_toArray, List.getElem?_cons_zero, List.getElem?_cons_succ] at a0 a1
    obtain ⟨y0, y1, y2, y3, y4⟩ := ics HI2.out
    by_cases hb : xb < (m : Int)
    · rw [decide_eq_true (show 0 ≤ xb ∧ xb < (m : Int) from ⟨hxb.1, hb⟩)]
      obtain ⟨k', hk'⟩ : ∃ k' : Nat, xb = k' := ⟨xb.toNat, by omega⟩
      subst hk'
      obtain ⟨x, hx⟩ : ∃ x, s.os[k']? = some x := ⟨_, List.getElem?_eq_getElem (by have := HM.out; omega)⟩
      have HCR := Lib.hid (call_at (s := s) (i := i) (own := t.own) (x := ⟨op, xa, k', xc, xn⟩) (k := k') HC.out rfl hx)
      have hog := HG.out x (List.mem_of_getElem? hx)
      obtain ⟨b, o, rfl, X, cX, Y, cY, d0, d1, d2, d3, d4, d5, d6, d7, _⟩ := (HO.out.same HS2.out).at_ hx
      clear hx
      obtain ⟨k_, wd, sl, cp, sa, ow, rd, ini⟩ := x
      obtain ⟨hk1, ⟨hw1, hw2⟩, _⟩ := hog
      simp only at d0 d1 d2 d3 d4 d5 d6 d7 hk1 hw1 hw2 HCR
      have OPS := Lib.hid (fun w' => ops_any k_ w')
      rw [if_pos hk1, if_pos hk1, hk1] at OPS
      have RO := Lib.hid (fun w' (h : Same w w') => role_any A (some ⟨b, o, none⟩) n c m d s i k' w' (HSY.out.same h) HF.out)
      generalize roleF s i k' = ro at *
      generalize wrF k_ = z1 at *
      generalize rdF k_ = z2 at *
      generalize Is.callV op = cv at *
      have k0 : (0 : Int) ≤ k' := by omega
      have hkm : (k' : Int) < m := by omega
      have hs3 := (Same.refl w2).alloc (.cells #[.int .i64 k_, .int .i64 wd, .int .i64 sl, .int .i64 cp, .int .u32 sa, .slice X ini.length cX, .int .i64 ow, .slice Y rd.length cY] 43)
      have hb3 := Blk.new w2 43 #[.int .i64 k_, .int .i64 wd, .int .i64 sl, .int .i64 cp, .int .u32 sa, .slice X ini.length cX, .int .i64 ow, .slice Y rd.length cY]
      have HB3 := Lib.hid hb3
      have HS3 := Lib.hid (HS2.out.trans hs3)
      have HSB3 := Lib.hid (HB2.out.same hs3)
      have HIB3 := Lib.hid (HI2.out.same hs3)
      obtain ⟨x0, x1, x2, x3, x4, x5, x6, x7⟩ := ocs hb3
      obtain ⟨p0, p1⟩ := (⟨HSB3.out.cell 0, HSB3.out.cell 1⟩ : _ ∧ _)
      simp only [List.getElem?_toArray, List.getElem?_cons_zero, List.getElem?_cons_succ] at p0 p1
      clear hb3 hs3 hk1
      go_wp2_with fail
      refine (OPS.out _).mono ?_
      rintro e w4 ⟨rfl, rfl⟩
      by_cases hop : cv ≠ z1 ∧ cv ≠ z2
      · have HR := Lib.hid (HCR.out.trans (if_pos hop))
        have e1 : (cv != z1) = true := by simpa using hop.1
        have e2 : (cv != z2) = true := by simpa using hop.2
        clear hop
        go_wp2_with fail
        go_ret2
        exact callp_mk (HR.out) HS3.out
      · have HR1 := Lib.hid (HCR.out.trans (if_neg hop))
        have hee : (cv != z1) = false ∨ ((cv != z1) = true ∧ (cv != z2) = false) := by
          by_cases h1 : cv = z1
          · left; simpa using h1
          · right
            have h2 : cv = z2 := Classical.byContradiction fun h2 => hop ⟨h1, h2⟩
            exact ⟨by simpa using h1, by simpa using h2⟩
        clear hop
        have RO3 := Lib.hid (RO.out _ HS3.out)
        rcases hee with e1 | ⟨e1, e2⟩
        · go_wp2_with fail
          refine RO3.out.mono ?_
          rintro e w5 ⟨rfl, s5⟩
          have HS5 := Lib.hid (HS3.out.trans s5)
          have hi5 := HIB3.out.same s5
          have hb5 := HB3.out.same s5
          have hsb5 := HSB3.out.same s5
          have HTT := Lib.hid ((HT.out.same HS5.out).at_ HTI.out)
          clear s5 x0 x1 x2 x3 x4 x5 x6 x7 a0 a1 p0 p1 y0 y1 y2 y3 y4
          by_cases hro : ro = cv
          · have HR2 := Lib.hid (HR1.out.trans (if_neg (fun h => h hro)))
            have er : (ro != cv) = false := by simpa using hro
            clear hro
            obtain ⟨y0, y1, y2, y3, y4⟩ := ics hi5
            obtain ⟨x0, x1, x2, x3, x4, x5, x6, x7⟩ := ocs hb5
            obtain ⟨a0, a1⟩ := (⟨hsb5.cell 0, hsb5.cell 1⟩ : _ ∧ _)
            simp only [List.getElem?_toArray, List.getElem?_cons_zero, List.getElem?_cons_succ] at a0 a1
            obtain ⟨bt, ot, hA, XT, cT, _, _, _, _, _, t5, _, _, _⟩ := HTT.out
            subst hA
            have hcv : IntKind.i64.wrap xn = xn := Go.IntWalk.i64_in _ (by omega)
            have hadd : IntKind.i64.wrap (xn + wd) = xn + wd := Go.IntWalk.i64_in _ (by omega)
            have hin : i < n := by omega
            have hi0 : (0 : Int) ≤ (i : Int) := by omega
            have hi1 : (i : Int) < n := by omega
            by_cases hrg : t.own < xn + wd
            · have HR := Lib.hid (HR2.out.trans (if_pos hrg))
              have hrg' : decide (t.own < xn + wd) = true := decide_eq_true hrg
              have hrg2 : decide (xn + wd > t.own) = true := decide_eq_true hrg
              generalize t.own = tow at *
              go_wp2_with fail
              go_quiet (fail)
              go_wp2_with fail
              go_ret2
              exact callp_mk (HR.out) (HS5.out.trans ((Same.refl _).drewN _))
            · have HR := Lib.hid (HR2.out.trans (if_neg hrg))
              have hrg' : decide (t.own < xn + wd) = false := decide_eq_false hrg
              have hrg2 : decide (xn + wd > t.own) = false := decide_eq_false hrg
              generalize t.own = tow at *
              go_wp2_with fail
              go_quiet (fail)
              go_wp2_with fail
              go_ret2
              exact callp_mk (HR.out) (HS5.out.trans ((Same.refl _).drewN _))
          · have HR := Lib.hid (HR1.out.trans (if_pos hro))
            have er : (ro != cv) = true := by simpa using hro
            clear hro
            go_wp2_with fail
            go_ret2
            exact callp_mk (HR.out) HS5.out
        · go_wp2_with fail
          refine RO3.out.mono ?_
          rintro e w5 ⟨rfl, s5⟩
          have HS5 := Lib.hid (HS3.out.trans s5)
          have hi5 := HIB3.out.same s5
          have hb5 := HB3.out.same s5
          have hsb5 := HSB3.out.same s5
          have HTT := Lib.hid ((HT.out.same HS5.out).at_ HTI.out)
          clear s5 x0 x1 x2 x3 x4 x5 x6 x7 a0 a1 p0 p1 y0 y1 y2 y3 y4
          by_cases hro : ro = cv
          · have HR2 := Lib.hid (HR1.out.trans (if_neg (fun h => h hro)))
            have er : (ro != cv) = false := by simpa using hro
            clear hro
            obtain ⟨y0, y1, y2, y3, y4⟩ := ics hi5
            obtain ⟨x0, x1, x2, x3, x4, x5, x6, x7⟩ := ocs hb5
            obtain ⟨a0, a1⟩ := (⟨hsb5.cell 0, hsb5.cell 1⟩ : _ ∧ _)
            simp only [List.getElem?_toArray, List.getElem?_cons_zero, List.getElem?_cons_succ] at a0 a1
            obtain ⟨bt, ot, hA, XT, cT, _, _, _, _, _, t5, _, _, _⟩ := HTT.out
            subst hA
            have hcv : IntKind.i64.wrap xn = xn := Go.IntWalk.i64_in _ (by omega)
            have hadd : IntKind.i64.wrap (xn + wd) = xn + wd := Go.IntWalk.i64_in _ (by omega)
            have hin : i < n := by omega
            have hi0 : (0 : Int) ≤ (i : Int) := by omega
            have hi1 : (i : Int) < n := by omega
            by_cases hrg : t.own < xn + wd
            · have HR := Lib.hid (HR2.out.trans (if_pos hrg))
              have hrg' : decide (t.own < xn + wd) = true := decide_eq_true hrg
              have hrg2 : decide (xn + wd > t.own) = true := decide_eq_true hrg
              generalize t.own = tow at *
              go_wp2_with fail
              go_quiet (fail)
              go_wp2_with fail
              go_ret2
              exact callp_mk (HR.out) (HS5.out.trans ((Same.refl _).drewN _))
            · have HR := Lib.hid (HR2.out.trans (if_neg hrg))
              have hrg' : decide (t.own < xn + wd) = false := decide_eq_false hrg
              have hrg2 : decide (xn + wd > t.own) = false := decide_eq_false hrg
              generalize t.own = tow at *
              go_wp2_with fail
              go_quiet (fail)
              go_wp2_with fail
              go_ret2
              exact callp_mk (HR.out) (HS5.out.trans ((Same.refl _).drewN _))
          · have HR := Lib.hid (HR1.out.trans (if_pos hro))
            have er : (ro != cv) = true := by simpa using hro
            clear hro
            go_wp2_with fail
            go_ret2
            exact callp_mk (HR.out) HS5.out
    · rw [decide_eq_false (show ¬ (0 ≤ xb ∧ xb < (m : Int)) from fun h => hb h.2)]
      have HR := Lib.hid (call_noobj (s := s) (i := i) (own := t.own) (x := ⟨op, xa, xb, xc, xn⟩) HC.out (by have := HM.out; show s.os.length ≤ xb.toNat; omega))
      clear hb
      go_wp2_with fail
      go_ret2
      exact callp_mk HR.out HS2.out
noncomputable def clf (s : PS) (i : Nat) (t : PT) (at_ : Nat) : Option (Spt × Int) := match t.code[at_]? with
  | none => none
  | some x => if (callR s i t.own x).2 = 0 then none else some (((i : Int), (callR s i t.own x).1, (at_ : Int)), (callR s i t.own x).2)
noncomputable def ctf (s : PS) (i : Nat) : Option (Spt × Int) := match s.ts[i]? with
  | none => none
  | some t => firstN (clf s i t) t.code.length
noncomputable def fCalls (s : PS) : Spt × Int := (firstN (ctf s) s.ts.length).getD (nw, 0)
set_option maxRecDepth 100000 in
set_option maxHeartbeats 2000000 in
theorem calls_any (A B : Option Addr) (n c m d : Nat) (s : PS) (w : World) (hs : SysAt w A n B m s) (hnb : n ≤ 5000) (hf : ∀ p ∈ s.ts, p.code.length ≤ 200 ∧ ∀ x ∈ p.code, Is.rightB x.op x.a x.b x.c x.n = true) (hg : ∀ o ∈ s.os, OGood o) (hof : OFew s.os 5000) (hT : Tabs w) :
    Calls Tryd.prog 17 #[.agg #[.slice A n c, .slice B m d]] w (FltP w (fCalls s)) := by
  have HF := Lib.hid (fb_new w A n c B m d)
  have HN := Lib.hid hs.hn
  have HT := Lib.hid hs.ht
  have HSY := Lib.hid hs
  have HFW := Lib.hid hf
  have HG := Lib.hid hg
  have HOF := Lib.hid hof
  have HTB := Lib.hid hT
  clear hs hf hg hof hT
  obtain ⟨a0, a1⟩ := HF.out.sc
  go_enter Tryd.func17, Tryd.ntmps17
  go_wp2_with fail
  clear a0 a1
  go_loopg [13] n (fun gk iv wx => ∃ k : Nat, k + gk = n ∧ iv = .int .i64 k ∧ Hid (∀ j, j < k → ctf s j = none) ∧ FB w wx A n c B m d)
  case atStart => exact ⟨0, by omega, rfl, Lib.hid (fun j hj => by omega), HF.out⟩
  case round =>
    rename World => wo
    obtain ⟨k, hk, rfl, HQ, hfb⟩ := hrel
    have HFB := Lib.hid hfb
    clear hfb
    cases gk with
    | zero =>
      obtain rfl : n = k := by omega
      have hge : ¬ (n : Int) < (n : Int) := by omega
      have HE := Lib.hid (show fCalls s = (nw, 0) by unfold fCalls; rw [firstN_none (by rw [HN.out]; exact HQ.out)]; rfl)
      go_wp2_with fail
      refine (nowhere_any _).mono ?_
      rintro e wn ⟨rfl, sn⟩
      have HFN := Lib.hid (HFB.out.to sn)
      clear sn
      obtain ⟨⟨r0, r1, r2⟩, k0, k1, k2⟩ := HFN.out.rc
      go_wp2_with fail
      refine bodyPost_ret (v := .tuple #[.agg #[.int .i64 (-1), .int .i64 (-1), .int .i64 (-1)], .int .i64 (0)]) (res2 Tryd.results17 _ _ (w.heap.size + 1) 29 #[.int .i64 (-1), .int .i64 (-1), .int .i64 (-1)] (0, 0) _ rfl (b3put HFN.out.res _ _ _) Tryd.underlying29 rfl spot_size) rfl ?_
      exact flt_mk (HE.out) (three_same HFN.out.same (by omega) _ _ _)
    | succ GK =>
      have hlt : (k : Int) < n := by omega
      have k0 : (0 : Int) ≤ k := by omega
      obtain ⟨x, hx⟩ : ∃ x, s.ts[k]? = some x := ⟨_, List.getElem?_eq_getElem (by have := HN.out; omega)⟩
      obtain ⟨b, o, hA, X, cX, c0, c1, c2, c3, c4, c5, c6, hcode, _⟩ := (HT.out.same HFB.out.same).at_ hx
      have hcl := HFW.out x (List.mem_of_getElem? hx)
      have HTI := Lib.hid hx
      have HCT := Lib.hid (show ctf s k = firstN (clf s k x) x.code.length by unfold ctf; rw [hx])
      have HXE := Lib.hid (show ∀ (own : Int) (code : List Im.Ins), x.own = own → x.code = code → ∀ j y, code[j]? = some y → clf s k x j = if (callR s k own y).2 = 0 then none else some (((k : Int), (callR s k own y).1, (j : Int)), (callR s k own y).2) from fun own code h1 h2 j y hy => by
        subst h1 h2
        unfold clf
        rw [hy])
      have HXC := Lib.hid (fun w' (h : Same w w') (y : Im.Ins) (hy1 : 0 ≤ y.n ∧ y.n < 4294967296) (hy2 : Is.rightB y.op y.a y.b y.c y.n = true) => call_any A B n c m d s k x y.op y.a y.b y.c y.n w' (HSY.out.same h) hx hy1 hy2 HG.out HOF.out hnb (HTB.out.same h))
      obtain ⟨code, hcode2⟩ : ∃ code, code = x.code := ⟨_, rfl⟩
      rw [← hcode2] at hcl hcode c6 HCT
      have HCE := Lib.hid hcode2
      clear hx hcode2
      obtain ⟨w1_, hw1_⟩ : ∃ z, z = x.kind := ⟨_, rfl⟩
      generalize x.kind = kind at *
      generalize x.prio = prio at *
      generalize x.per = per at *
      generalize x.off = off at *
      generalize x.dl = dl at *
      clear hw1_ w1_
      obtain ⟨own, hown⟩ : ∃ z, z = x.own := ⟨_, rfl⟩
      have HOW := Lib.hid hown
      rw [← hown] at c5
      have HXC2 := Lib.hid (show ∀ w', Same w w' → ∀ y : Im.Ins, (0 ≤ y.n ∧ y.n < 4294967296) → Is.rightB y.op y.a y.b y.c y.n = true → Calls Tryd.prog 33 #[.agg #[.slice A n c, .slice B m d], .int .i64 k, .agg #[.int .i64 y.op, .int .i64 y.a, .int .i64 y.b, .int .i64 y.c, .int .u32 y.n]] w' (CallP w' (callR s k own y)) from fun w' h y h1 h2 => by rw [hown]; exact HXC.out w' h y h1 h2)
      clear hown HXC
      subst hA
      have hs2 := (Same.refl wo).alloc (.cells #[.int .i64 kind, .int .i64 prio, .int .i64 per, .int .i64 off, .int .i64 dl, .int .i64 own, .slice X code.length cX] 49)
      have HF2 := Lib.hid (HFB.out.to hs2)
      have HCD := Lib.hid (hcode.same hs2)
      have HCL := Lib.hid hcl.2
      obtain ⟨q0, q1, q2, q3, q4, q5, q6⟩ := tcs (Blk.new wo 49 #[.int .i64 kind, .int .i64 prio, .int .i64 per, .int .i64 off, .int .i64 dl, .int .i64 own, .slice X code.length cX])
      have hml := hcl.1
      obtain ⟨ml, hmle⟩ : ∃ ml, ml = code.length := ⟨_, rfl⟩
      have HML := Lib.hid hmle
      rw [← hmle] at c6 q0 q1 q2 q3 q4 q5 q6 hs2 hml HF2 HCD HCT
      clear hs2 hcode hcl hmle
      obtain ⟨w2, hw2⟩ : ∃ w2, w2 = wo.alloc (.cells #[.int .i64 kind, .int .i64 prio, .int .i64 per, .int .i64 off, .int .i64 dl, .int .i64 own, .slice X ml cX] 49) := ⟨_, rfl⟩
      rw [← hw2] at HF2 HCD
      have E2 := Lib.hid hw2
      clear hw2
      go_wp2_with fail
      rw [← E2.out]
      clear E2 q0 q1 q2 q3 q4 q5 q6 c0 c1 c2 c3 c4 c5 c6
      go_loopg [21] ml (fun gj jv wy => ∃ j : Nat, j + gj = ml ∧ jv = .int .i64 j ∧ Hid (∀ i, i < j → clf s k x i = none) ∧ Same w2 wy)
      case atStart => exact ⟨0, by omega, rfl, Lib.hid (fun j hj => by omega), Same.refl _⟩
      case round =>
        obtain ⟨j, hj, rfl, HQJ, sj⟩ := hrel
        have HSJ := Lib.hid sj
        clear sj
        cases gk with
        | zero =>
          obtain rfl : ml = j := by omega
          have hge2 : ¬ (ml : Int) < (ml : Int) := by omega
          have HF3 := Lib.hid (HF2.out.to HSJ.out)
          have HTN := Lib.hid (show ctf s k = none by rw [HCT.out, firstN_none HQJ.out])
          go_wp2_with fail
          go_roundg GK
          case rel => exact ⟨k + 1, by omega, by go_num, Lib.hid (none_next HQ.out HTN.out), HF3.out⟩
          case measure => omega
        | succ GJ =>
          have hlt2 : (j : Int) < ml := by omega
          have j0 : (0 : Int) ≤ j := by omega
          obtain ⟨y, hy⟩ : ∃ y, code[j]? = some y := ⟨_, List.getElem?_eq_getElem (by have := HML.out; omega)⟩
          obtain ⟨hyn, b2, o2, hX, hcells⟩ := (HCD.out.same HSJ.out) j y hy
          have hcb := HCL.out y (List.mem_of_getElem? hy)
          have HCF := Lib.hid (HXE.out own code HOW.out.symm HCE.out.symm j y hy)
          clear hy
          obtain ⟨op, xa, xb, xc, xn⟩ := y
          subst hX
          have e0 := hcells 0 _ rfl
          have e1 := hcells 1 _ rfl
          have e2 := hcells 2 _ rfl
          have e3 := hcells 3 _ rfl
          have e4 := hcells 4 _ rfl
          rw [Nat.add_zero] at e0
          simp only at hyn hcb e0 e1 e2 e3 e4
          clear hcells
          have hs5 := (Same.refl wr).alloc (.cells #[.int .i64 op, .int .i64 xa, .int .i64 xb, .int .i64 xc, .int .u32 xn] 46)
          obtain ⟨y0, y1, y2, y3, y4⟩ := ics (Blk.new wr 46 #[.int .i64 op, .int .i64 xa, .int .i64 xb, .int .i64 xc, .int .u32 xn])
          have HF5 := Lib.hid ((HF2.out.to HSJ.out).to hs5)
          have HS5 := Lib.hid (HSJ.out.trans hs5)
          have CA := Lib.hid (HXC2.out _ HF5.out.same ⟨op, xa, xb, xc, xn⟩ hyn hcb)
          generalize callR s k own ⟨op, xa, xb, xc, xn⟩ = cr at *
          obtain ⟨ck, ce⟩ := cr
          dsimp only at CA HCF
          obtain ⟨a0, a1⟩ := HF5.out.sc
          clear hs5 hyn hcb
          go_wp2_with fail
          refine CA.out.mono ?_
          rintro e w6 ⟨rfl, s6⟩
          have HS6 := Lib.hid (HS5.out.trans s6)
          have HF6 := Lib.hid (HF5.out.to s6)
          clear s6 a0 a1
          dsimp only
          by_cases hz : ce = 0
          · have HTN := Lib.hid (show clf s k x j = none by rw [HCF.out, if_pos hz])
            have hz' : (ce != 0) = false := by simpa using hz
            clear hz
            go_wp2_with fail
            go_roundg GJ
            case rel => exact ⟨j + 1, by omega, by go_num, Lib.hid (none_next HQJ.out HTN.out), HS6.out⟩
            case measure => omega
          · have HE := Lib.hid (show fCalls s = (((k : Int), ck, (j : Int)), ce) by
              unfold fCalls
              rw [firstN_hit (by have := HN.out; omega) HQ.out (by rw [HCT.out, firstN_hit (by omega) HQJ.out (by rw [HCF.out, if_neg hz])])]
              rfl)
            have hz' : (ce != 0) = true := by simpa using hz
            clear hz
            obtain ⟨⟨r0, r1, r2⟩, k0, k1, k2⟩ := HF6.out.rc
            go_wp2_with fail
            refine bodyPost_ret (v := .tuple #[.agg #[.int .i64 (k), .int .i64 (ck), .int .i64 (j)], .int .i64 (ce)]) (res2 Tryd.results17 _ _ (w.heap.size + 1) 29 #[.int .i64 (k), .int .i64 (ck), .int .i64 (j)] (0, 0) _ rfl (b3put HF6.out.res _ _ _) Tryd.underlying29 rfl spot_size) rfl ?_
            exact flt_mk (HE.out) (three_same HF6.out.same (by omega) _ _ _)
end Go.Proofs.YtfpefkpbiioofabDoor.Sy
