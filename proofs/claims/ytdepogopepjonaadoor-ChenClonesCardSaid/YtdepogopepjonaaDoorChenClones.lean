/-

  The walk of the law ChenClones.
-/
import Derived.Test.YtdepogopepjonaaDoorChenCase
import Derived.Test.YtdepogopepjonaaDoorChenClone
import Derived.Deep.CutBlock
set_option linter.unusedSimpArgs false
set_option linter.unusedVariables false
namespace Go.Proofs.YtdepogopepjonaaDoor.Ch
open Go.ChangeShapes Go.WideShapes Go.ChangeAt Go.RowKit Ws Mm Pa

theorem words_same' (A C : Option Addr) (n m c d : Nat) (xs : List Int) (w : World) (hn : xs.length = n) (hm : xs.length = m) (hx : Row w A (xs.map (Value.int .u32))) (hy : Row w C (xs.map (Value.int .u32))) (b1 : n ≤ 4294967296) (b2 : m ≤ 4294967296) :
    Calls Tryd.prog 16 #[.slice A n c, .slice C m d] w fun e w' => e = .returned (.bool true) ∧ Same w w' :=
  (words_eq A C n m c d xs xs w hn hm hx hy b1 b2).mono fun e w' ⟨he, k, hk⟩ => ⟨by rw [he, decide_eq_true rfl], by rw [hk]; exact (Same.refl w).drewN k⟩
theorem answer_len {o : Op.Im} {s : Op.St} (hw : o.width ≤ 8) (hd : s.over = true → (o.wr = true ∨ s.code ≠ 0 → s.rc = []) ∧ (o.wr = false → s.code = 0 → s.rc.length = o.width)) : (answer s).length ≤ 8 := by
  unfold answer
  cases hov : s.over
  · simp
  · obtain ⟨h1, h2⟩ := hd hov
    rw [if_pos rfl]
    by_cases hq : o.wr = true ∨ s.code ≠ 0
    · rw [h1 hq]; simp
    · have hwr : o.wr = false := by cases h : o.wr; rfl; exact absurd (.inl h) hq
      have hc : s.code = 0 := by
        by_cases h : s.code = 0
        · exact h
        · exact absurd (.inr h) hq
      rw [h2 hwr hc]; exact hw

theorem clones_big (k wd sl cp sa ow : Int) (ia ra : Option Addr) (il ic rl rc : Nat) (at_ op rd : Int) (A : Option Addr) (m c : Nat) (LA : Option Addr) (n lc : Nat) (pa : Option Addr) (pn pc : Nat) (at2 : Int) (w : World) (hli : lightB il rl m n pn = false) (hsa : 0 ≤ sa ∧ sa < 4294967296 := by assumption) (hT : TZ w := by assumption) :
    Calls Tryd.prog 6 #[.agg #[.int .i64 k, .int .i64 wd, .int .i64 sl, .int .i64 cp, .int .u32 sa, .slice ia il ic, .int .i64 ow, .slice ra rl rc, .int .i64 at_, .int .i64 op, .int .i64 rd, .slice A m c, .slice LA n lc, .slice pa pn pc], .int .i64 at2] w fun e w' => e = .returned (.bool true) ∧ Same w w' := by
  have HTZ := Lib.hid hT
  have HTL : Hid (0 < w.heap.size) := Lib.hid hT.lt
  clear hT
  have hb := Blk.new w 36 #[.int .i64 k, .int .i64 wd, .int .i64 sl, .int .i64 cp, .int .u32 sa, .slice ia il ic, .int .i64 ow, .slice ra rl rc, .int .i64 at_, .int .i64 op, .int .i64 rd, .slice A m c, .slice LA n lc, .slice pa pn pc]
  have s0 := (Same.refl w).alloc (.cells #[.int .i64 k, .int .i64 wd, .int .i64 sl, .int .i64 cp, .int .u32 sa, .slice ia il ic, .int .i64 ow, .slice ra rl rc, .int .i64 at_, .int .i64 op, .int .i64 rd, .slice A m c, .slice LA n lc, .slice pa pn pc] 36)
  have HB0 := Lib.hid hb
  have HS0 := Lib.hid s0
  have LI := fun w' => light_any k wd sl cp sa ow ia ra il ic rl rc at_ op rd A m c LA n lc pa pn pc w'
  rw [hli] at LI
  clear hb s0
  go_enter Tryd.func6, Tryd.ntmps6
  obtain ⟨⟨d0, d1, d2, d3, d4, d5, d6, d7⟩, d8, d9, d10, d11, d12, d13⟩ := case_cells HB0.out (Same.refl _)
  go_wp2_with fail
  refine (LI _).mono ?_
  rintro e v1 ⟨rfl, s1⟩
  have HS1 := Lib.hid (HS0.out.trans s1)
  clear s1 d0 d1 d2 d3 d4 d5 d6 d7 d8 d9 d10 d11 d12 d13 HB0 HS0
  go_wp2_with fail
  refine (awake_any _ (HTZ.out.same (HS1.out))).mono ?_
  rintro e v2 ⟨rfl, s2⟩
  go_wp2
  go_ret
  exact ⟨rfl, HS1.out.trans s2⟩

theorem clones_no (k wd sl cp sa ow : Int) (ia ra : Option Addr) (il ic rl rc : Nat) (at_ op rd : Int) (A : Option Addr) (m c : Nat) (LA : Option Addr) (n lc : Nat) (pa : Option Addr) (pn pc : Nat) (at2 : Int) (w : World) (hli : lightB il rl m n pn = true) (code : Int) (hcode : bcode (decide (k = 2) && rightB wd sl cp sa il rl) at_ op rd wd rl m = code) (hne : code ≠ 0) (hsa : 0 ≤ sa ∧ sa < 4294967296 := by assumption) (hT : TZ w := by assumption) :
    Calls Tryd.prog 6 #[.agg #[.int .i64 k, .int .i64 wd, .int .i64 sl, .int .i64 cp, .int .u32 sa, .slice ia il ic, .int .i64 ow, .slice ra rl rc, .int .i64 at_, .int .i64 op, .int .i64 rd, .slice A m c, .slice LA n lc, .slice pa pn pc], .int .i64 at2] w fun e w' => e = .returned (.bool true) ∧ Same w w' := by
  have HTZ := Lib.hid hT
  have HTL : Hid (0 < w.heap.size) := Lib.hid hT.lt
  clear hT
  have hb := Blk.new w 36 #[.int .i64 k, .int .i64 wd, .int .i64 sl, .int .i64 cp, .int .u32 sa, .slice ia il ic, .int .i64 ow, .slice ra rl rc, .int .i64 at_, .int .i64 op, .int .i64 rd, .slice A m c, .slice LA n lc, .slice pa pn pc]
  have s0 := (Same.refl w).alloc (.cells #[.int .i64 k, .int .i64 wd, .int .i64 sl, .int .i64 cp, .int .u32 sa, .slice ia il ic, .int .i64 ow, .slice ra rl rc, .int .i64 at_, .int .i64 op, .int .i64 rd, .slice A m c, .slice LA n lc, .slice pa pn pc] 36)
  have HB0 := Lib.hid hb
  have HS0 := Lib.hid s0
  have LI := fun w' => light_any k wd sl cp sa ow ia ra il ic rl rc at_ op rd A m c LA n lc pa pn pc w'
  rw [hli] at LI
  clear hb s0
  have hm5 : m ≤ 5000 := by
    unfold lightB at hli
    have := of_decide_eq_true hli
    omega
  have BN := fun w' => begin_no k wd sl cp sa ow ia ra il ic rl rc at_ op rd A m c w' hm5 code hcode hne
  have HCN : (code != 0) = true := by simpa using hne
  clear hcode hne hli hm5
  go_enter Tryd.func6, Tryd.ntmps6
  obtain ⟨⟨d0, d1, d2, d3, d4, d5, d6, d7⟩, d8, d9, d10, d11, d12, d13⟩ := case_cells HB0.out (Same.refl _)
  go_wp2_with fail
  refine (LI _).mono ?_
  rintro e v1 ⟨rfl, s1⟩
  have HB1 := Lib.hid (HB0.out.same s1)
  have HS1 := Lib.hid (HS0.out.trans s1)
  clear s1 d0 d1 d2 d3 d4 d5 d6 d7 d8 d9 d10 d11 d12 d13 HB0 HS0
  obtain ⟨⟨d0, d1, d2, d3, d4, d5, d6, d7⟩, d8, d9, d10, d11, d12, d13⟩ := case_cells HB1.out (Same.refl _)
  go_wp2_with fail
  refine (BN _).mono ?_
  rintro e v2 ⟨rfl, s2⟩
  have HS2 := Lib.hid (HS1.out.trans s2)
  clear s2 d0 d1 d2 d3 d4 d5 d6 d7 d8 d9 d10 d11 d12 d13 HB1 HS1
  go_wp2_with fail
  refine (awake_any _ (HTZ.out.same (HS2.out))).mono ?_
  rintro e v3 ⟨rfl, s3⟩
  go_wp2
  go_ret
  exact ⟨rfl, HS2.out.trans s3⟩

set_option maxHeartbeats 4000000 in
set_option maxRecDepth 100000 in
theorem clones_yes (k wd sl cp sa ow : Int) (ia ra : Option Addr) (il ic rl rc : Nat) (at_ op rd : Int) (A : Option Addr) (m c : Nat) (LA : Option Addr) (n lc : Nat) (pa : Option Addr) (pn pc : Nat) (rec ls : List Int) (at2 : Int) (w : World) (hli : lightB il rl m n pn = true) (o : Op.Im) (hb : Begins k wd sl cp sa il rl at_ op rd m o) (ho : o = ⟨o.at_, o.width, rl, o.slots, o.cap, o.reader, o.wr⟩)
    (hrec : rec.length = m) (hrow : Row w A (rec.map (Value.int .u32))) (hwd : Op.Wd rec) (hls : ls.length = n) (hlrow : Row w LA (ls.map (Value.int .u32))) (hlwd : Op.Wd ls) (hsa : 0 ≤ sa ∧ sa < 4294967296 := by assumption) (hT : TZ w := by assumption) :
    Calls Tryd.prog 6 #[.agg #[.int .i64 k, .int .i64 wd, .int .i64 sl, .int .i64 cp, .int .u32 sa, .slice ia il ic, .int .i64 ow, .slice ra rl rc, .int .i64 at_, .int .i64 op, .int .i64 rd, .slice A m c, .slice LA n lc, .slice pa pn pc], .int .i64 at2] w fun e w' => e = .returned (.bool true) ∧ Same w w' := by
  have HTZ := Lib.hid hT
  have HTL : Hid (0 < w.heap.size) := Lib.hid hT.lt
  clear hT
  have hb := Blk.new w 36 #[.int .i64 k, .int .i64 wd, .int .i64 sl, .int .i64 cp, .int .u32 sa, .slice ia il ic, .int .i64 ow, .slice ra rl rc, .int .i64 at_, .int .i64 op, .int .i64 rd, .slice A m c, .slice LA n lc, .slice pa pn pc]
  have s0 := (Same.refl w).alloc (.cells #[.int .i64 k, .int .i64 wd, .int .i64 sl, .int .i64 cp, .int .u32 sa, .slice ia il ic, .int .i64 ow, .slice ra rl rc, .int .i64 at_, .int .i64 op, .int .i64 rd, .slice A m c, .slice LA n lc, .slice pa pn pc] 36)
  have HB0 := Lib.hid hb
  have HS0 := Lib.hid s0
  have LI := fun w' => light_any k wd sl cp sa ow ia ra il ic rl rc at_ op rd A m c LA n lc pa pn pc w'
  rw [hli] at LI
  clear hb s0
  have hn : n ≤ 4096 := by
    unfold lightB at hli
    have := of_decide_eq_true hli
    omega
  have al := hb.al
  have lv0 : Op.Live Op.chenOk Op.chenRank o (Op.chenMost o) (Op.start rec) := by
    refine Op.chen_first o rec hwd (fun h => ?_) (fun h => ?_)
    · have := hb.len
      have := hb.width
      rw [h] at *
      simp at *
      omega
    · have := hb.len
      rw [h] at this
      simp at this
      exact List.eq_nil_of_length_eq_zero (by omega)
  have hmul : True := trivial
  have hmost : Op.chenMost o ≤ 1000 := by
    have := al.1.2
    have := al.2.1.2
    unfold Op.chenMost
    split <;> omega
  obtain ⟨size, hsize⟩ : ∃ size, size = 1 + o.n + Op.csl o * o.width := ⟨_, rfl⟩
  obtain ⟨most, hmo⟩ : ∃ most, most = Op.chenMost o := ⟨_, rfl⟩
  rw [← hmo] at lv0 hmost
  have BY := fun w' (s : Same w w') => begin_yes ow ia ra ic rc A c rec w' hb ho hrec (hrow.same s)
  rw [← hsize] at BY
  have RUN := fun (x : Op.St × List Int) (lv : Op.Live Op.chenOk Op.chenRank o most x.1) (hl : Op.Wd x.2) (j : Nat) => Op.chenLaw.run (size := size) al lv hl j
  have STEP := fun {R : Nat → Prop} {g gm : Nat} {p : Pt} {l : List Int} {st : Int} {s : Op.St} (w' : World) (hS : Same w w') (hwn : ∀ i, R i ∨ i = g → w.heap.size ≤ i) (h : FB w' g 75 o size s p) (hm : Mem w' R gm l st) (hg : ¬ R g) (hl : Op.Wd l) (lv : Op.Live Op.chenOk Op.chenRank o most s) => step_any w' (HTZ.out.same hS) ⟨fun hr => by have := hwn _ (.inl hr); have := HTL.out; omega, fun e => by have := hwn g (.inr rfl); have := HTL.out; omega⟩ h hm hg hl lv hmost al hsize
  have HN := Lib.hid hn
  have HL := Lib.hid hls
  have HLR := Lib.hid hlrow
  have HLW := Lib.hid hlwd
  have LV := Lib.hid lv0
  have W8 := Lib.hid al.1.2
  clear hn hls hlrow hlwd lv0 al hli hb ho hrec hrow hwd hmost hmo hsize
  go_enter Tryd.func6, Tryd.ntmps6
  obtain ⟨⟨d0, d1, d2, d3, d4, d5, d6, d7⟩, d8, d9, d10, d11, d12, d13⟩ := case_cells HB0.out (Same.refl _)
  go_wp2_with fail
  refine (LI _).mono ?_
  rintro e v1 ⟨rfl, s1⟩
  have HB1 := Lib.hid (HB0.out.same s1)
  have HS1 := Lib.hid (HS0.out.trans s1)
  clear s1 d0 d1 d2 d3 d4 d5 d6 d7 d8 d9 d10 d11 d12 d13 HB0 HS0
  obtain ⟨⟨d0, d1, d2, d3, d4, d5, d6, d7⟩, d8, d9, d10, d11, d12, d13⟩ := case_cells HB1.out (Same.refl _)
  go_wp2_with fail
  refine (BY _ HS1.out).mono ?_
  rintro e v2 ⟨g, p, rfl, s2, hg, fb⟩
  have HB2 := Lib.hid (HB1.out.same s2)
  have HG : Hid (w.heap.size ≤ g) := Lib.hid (Nat.le_trans HS1.out.size hg)
  have HS2 := Lib.hid (HS1.out.trans s2)
  have HF2 := Lib.hid fb
  clear s2 hg fb d0 d1 d2 d3 d4 d5 d6 d7 d8 d9 d10 d11 d12 d13 HB1 HS1
  obtain ⟨⟨d0, d1, d2, d3, d4, d5, d6, d7⟩, d8, d9, d10, d11, d12, d13⟩ := case_cells HB2.out (Same.refl _)
  go_wp2_with fail
  refine (memory_any LA n lc ls v2 HL.out HN.out (HLR.out.same HS2.out)).mono ?_
  rintro e v3 ⟨gm, rfl, s3, m3⟩
  have HF3 := Lib.hid (HF2.out.same s3)
  have HS3 := Lib.hid (HS2.out.trans s3)
  obtain ⟨R, hR⟩ : ∃ R : Nat → Prop, R = fun i => v2.heap.size ≤ i ∧ i < v3.heap.size := ⟨_, rfl⟩
  have HM3 : Hid (Mem v3 R gm ls 0) := Lib.hid (by rw [hR]; exact m3.within)
  have HGR : Hid (¬ R g) := Lib.hid (by rw [hR]; intro h; have := HF2.out.blk.lt; omega)
  have HRW : Hid (∀ i, R i ∨ i = g → w.heap.size ≤ i) := Lib.hid (by
    rw [hR]
    intro i hi
    rcases hi with hi | hi
    · exact Nat.le_trans HS2.out.size hi.1
    · rw [hi]; exact HG.out)
  have HR3 : Hid (∀ i, R i ∨ i = g → i < v3.heap.size) := Lib.hid (by
    rw [hR]
    intro i hi
    rcases hi with hi | hi
    · exact hi.2
    · rw [hi]; exact HF3.out.blk.lt)
  have HV3 := Lib.hid (Nat.le_refl v3.heap.size)
  clear s3 m3 hR d0 d1 d2 d3 d4 d5 d6 d7 d8 d9 d10 d11 d12 d13 HB2 HF2 HS2
  obtain ⟨X, hX⟩ : ∃ X : Nat → Op.St × List Int, X = fun j => Op.runF Op.chen o size j (Op.start rec, ls) := ⟨_, rfl⟩
  have XS : ∀ j, X (j + 1) = Op.stepF Op.chen o size (X j) := fun j => by rw [hX]; rfl
  have XL : ∀ j, Op.Live Op.chenOk Op.chenRank o most (X j).1 ∧ Op.Wd (X j).2 ∧ (X j).2.length = ls.length := fun j => by rw [hX]; exact RUN (Op.start rec, ls) LV.out HLW.out j
  have X0 : X 0 = (Op.start rec, ls) := by rw [hX]; rfl
  have HX0 := Lib.hid X0
  have HXS := Lib.hid XS
  have HXL := Lib.hid XL
  clear hX X0 XS XL
  go_upto_block 0 with fail
  go_cut [] from 50 to 61 (fun wx => ∃ (k : Nat) (p : Pt) (st : Int), FB wx g 75 o size (X k).1 p ∧ Mem wx R gm (X k).2 st ∧ Same w wx ∧ v3.heap.size ≤ wx.heap.size)
  case first =>
    go_wp2_with fail
    go_loopg [8] 130 (fun gk i wx => ∃ k : Nat, k + gk = 130 ∧ i = .int .i64 k ∧ ∃ (p : Pt) (st : Int), FB wx g 75 o size (X k).1 p ∧ Mem wx R gm (X k).2 st ∧ Same w wx ∧ v3.heap.size ≤ wx.heap.size)
    case atStart => exact ⟨0, rfl, rfl, p, 0, by rw [HX0.out]; exact HF3.out, by rw [HX0.out]; exact HM3.out, HS3.out, HV3.out⟩
    case round =>
      obtain ⟨k, hk, rfl, p, st, fb, mm, ss, vv⟩ := hrel
      have HFB := Lib.hid fb
      have HM := Lib.hid mm
      have HSS := Lib.hid ss
      have HVV := Lib.hid vv
      have HK := Lib.hid hk
      clear fb mm ss vv hk HF3 HM3 HS3 HV3
      by_cases h1 : (k : Int) < at2
      · by_cases h2 : (k : Int) < 130
        · cases gk with
          | zero => have := HK.out; omega
          | succ gk =>
            have L := HXL.out k
            have ST := Lib.hid (STEP wr HSS.out HRW.out HFB.out HM.out HGR.out L.2.1 L.1)
            clear L
            go_wp2_with fail
            refine ST.out.mono ?_
            rintro e w8 ⟨rfl, p', fb', m', c'⟩
            have HF8 := Lib.hid fb'
            have HM8 := Lib.hid m'
            have HS8 := Lib.hid (HSS.out.more c' HRW.out)
            have HV8 := Lib.hid (Nat.le_trans HVV.out c'.size)
            clear fb' m' c' ST HFB HM HSS
            go_wp2
            go_roundg gk
            case rel => exact ⟨k + 1, by have := HK.out; omega, by simp, p', _, by rw [HXS.out]; exact HF8.out, by rw [HXS.out]; exact HM8.out, HS8.out, HV8.out⟩
            case measure => omega
        · go_wp2_with fail
          go_meet
          case rel => exact ⟨k, p, st, HFB.out, HM.out, HSS.out, HVV.out⟩
      · go_wp2_with fail
        go_meet
        case rel => exact ⟨k, p, st, HFB.out, HM.out, HSS.out, HVV.out⟩
  case rest =>
    obtain ⟨k, p1, st, fb, mm, ss, vv⟩ := hcut
    have HFB := Lib.hid fb
    have HM := Lib.hid mm
    have HSS := Lib.hid ss
    have HVV := Lib.hid vv
    have HLL : Hid ((X k).2.length = n) := Lib.hid (by rw [(HXL.out k).2.2]; exact HL.out)
    clear fb mm ss vv HF3 HM3 HS3 HV3
    go_wp2_with fail
    refine (clone_any wc HFB.out).mono ?_
    rintro e w5 ⟨g', rfl, s5, hg', fb'⟩
    have HG' : Hid (w.heap.size ≤ g') := Lib.hid (Nat.le_trans HSS.out.size hg')
    have HGG : Hid (¬ (R g' ∨ g' = g)) := Lib.hid (fun h => by have := HR3.out g' h; have := HVV.out; omega)
    have HFB5 := Lib.hid (HFB.out.same s5)
    have HM5 := Lib.hid (HM.out.same s5)
    have HSS5 := Lib.hid (HSS.out.trans s5)
    have HFC5 := Lib.hid fb'
    have HV5 := Lib.hid (Nat.le_trans HVV.out s5.size)
    clear s5 hg' fb' HFB HM HSS HVV
    go_wp2_with fail
    refine (mclone_any w5 HM5.out HLL.out).mono ?_
    rintro e w6 ⟨gc, rfl, s6, m6⟩
    obtain ⟨R', hR'⟩ : ∃ R' : Nat → Prop, R' = fun i => w5.heap.size ≤ i := ⟨_, rfl⟩
    rw [← hR'] at m6
    have HRG : Hid (¬ R' g') := Lib.hid (by rw [hR']; have := HFC5.out.blk.lt; omega)
    have HRR : Hid (∀ i, R' i ∨ i = g' → ¬ (R i ∨ i = g)) := Lib.hid (by
      rw [hR']
      intro i hi h
      have := HR3.out i h
      have := HV5.out
      rcases hi with hi | hi
      · omega
      · subst hi; exact HGG.out h)
    have HRW' : Hid (∀ i, R' i ∨ i = g' → w.heap.size ≤ i) := Lib.hid (by
      rw [hR']
      intro i hi
      rcases hi with hi | hi
      · exact Nat.le_trans HSS5.out.size hi
      · rw [hi]; exact HG'.out)
    have HFB6 := Lib.hid (HFB5.out.same s6)
    have HM6 := Lib.hid (HM5.out.same s6)
    have HSS6 := Lib.hid (HSS5.out.trans s6)
    have HFC6 := Lib.hid (HFC5.out.same s6)
    have HMC6 := Lib.hid m6
    clear s6 m6 hR' HFB5 HM5 HSS5 HFC5 HV5
    obtain ⟨st0, hst0⟩ : ∃ st0 : Int, st0 = st := ⟨_, rfl⟩
    rw [← hst0] at HM6 HMC6
    clear hst0
    have ST1 := Lib.hid (steps_any w6 HFC6.out)
    have ST2 := Lib.hid (steps_any w6 HFB6.out)
    have OV1 := Lib.hid (over_any w6 HFC6.out)
    have OV2 := Lib.hid (over_any w6 HFB6.out)
    go_wp2_with fail
    refine ST1.out.mono ?_
    rintro e w' ⟨rfl, rfl⟩
    go_wp2_with fail
    refine ST2.out.mono ?_
    rintro e w' ⟨rfl, rfl⟩
    go_wp2_with fail
    refine OV1.out.mono ?_
    rintro e w' ⟨rfl, rfl⟩
    go_wp2_with fail
    refine OV2.out.mono ?_
    rintro e w' ⟨rfl, rfl⟩
    go_wp2_with fail
    refine ST2.out.mono ?_
    rintro e w' ⟨rfl, rfl⟩
    clear ST1 ST2 OV1 OV2
    obtain ⟨Y, hY⟩ : ∃ Y : Nat → Op.St × List Int, Y = fun j => Op.runF Op.chen o size j (X k) := ⟨_, rfl⟩
    have YS : ∀ j, Y (j + 1) = Op.stepF Op.chen o size (Y j) := fun j => by rw [hY]; rfl
    have YL : ∀ j, Op.Live Op.chenOk Op.chenRank o most (Y j).1 ∧ Op.Wd (Y j).2 ∧ (Y j).2.length = (X k).2.length := fun j => by rw [hY]; exact RUN (X k) (HXL.out k).1 (HXL.out k).2.1 j
    have YT : ∀ j, j ≤ 130 → (j = 130 ∨ Op.goes o size (Y j).1 (Y j).2 = false) → Y j = Y 130 := fun j h1 h2 => by rw [hY] at h2 ⊢; exact Op.run_till h1 h2
    have Y0 : Y 0 = X k := by rw [hY]; rfl
    have HY0 := Lib.hid Y0
    have HYS := Lib.hid YS
    have HYL := Lib.hid YL
    have HYT := Lib.hid YT
    clear hY Y0 YS YL YT HXL HXS HX0
    generalize X k = z at *
    go_upto_block 2 with fail
    go_cut [] from 84 to 92 (fun wx => ∃ (p : Pt) (st : Int), FB wx g 75 o size (Y 130).1 p ∧ Mem wx R gm (Y 130).2 st ∧ FB wx g' 75 o size z.1 p1 ∧ Mem wx R' gc z.2 st0 ∧ Same w wx)
    case first =>
      go_wp2_with fail
      go_loopg [12] 130 (fun gk i wx => ∃ j : Nat, j + gk = 130 ∧ i = .int .i64 j ∧ ∃ (p : Pt) (st : Int), FB wx g 75 o size (Y j).1 p ∧ Mem wx R gm (Y j).2 st ∧ FB wx g' 75 o size z.1 p1 ∧ Mem wx R' gc z.2 st0 ∧ Same w wx)
      case atStart => exact ⟨0, rfl, rfl, p1, _, by rw [HY0.out]; exact HFB6.out, by rw [HY0.out]; exact HM6.out, HFC6.out, HMC6.out, HSS6.out⟩
      case round =>
        obtain ⟨j, hk, rfl, p, st, fb, mm, fc, mc, ss⟩ := hrel
        have HFB := Lib.hid fb
        have HM := Lib.hid mm
        have HFC := Lib.hid fc
        have HMC := Lib.hid mc
        have HSS := Lib.hid ss
        have HK := Lib.hid hk
        clear fb mm fc mc ss hk HFB6 HM6 HFC6 HMC6 HSS6
        by_cases h2 : (j : Int) < 130
        · have L := HYL.out j
          have ST := STEP wr HSS.out HRW.out HFB.out HM.out HGR.out L.2.1 L.1
          unfold Asked at ST
          cases hgo : Op.goes o size (Y j).1 (Y j).2
          · rw [hgo] at ST
            have e := (Op.stepF_no (F := Op.chen) hgo).trans (HYT.out j (by omega) (.inr hgo))
            rw [show ((Y j).1, (Y j).2) = Y j from rfl, e] at ST
            have HST := Lib.hid ST
            clear L ST hgo e
            go_wp2_with fail
            refine HST.out.mono ?_
            rintro e w8 ⟨rfl, p', fb', m', c'⟩
            have HF8 := Lib.hid fb'
            have HM8 := Lib.hid m'
            have HC8 := Lib.hid c'
            clear fb' m' c'
            go_wp2_with fail
            go_meet
            case rel => exact ⟨p', _, HF8.out, HM8.out, HFC.out.chg HC8.out HGG.out, HMC.out.chg HC8.out (fun i hi h => HRR.out i (.inl hi) h), HSS.out.more HC8.out HRW.out⟩
          · rw [hgo] at ST
            have HST := Lib.hid ST
            clear L ST hgo
            cases gk with
            | zero => have := HK.out; omega
            | succ gk =>
              go_wp2_with fail
              refine HST.out.mono ?_
              rintro e w8 ⟨rfl, p', fb', m', c'⟩
              have HF8 := Lib.hid fb'
              have HM8 := Lib.hid m'
              have HC8 := Lib.hid c'
              clear fb' m' c' HST
              go_wp2
              go_roundg gk
              case rel => exact ⟨j + 1, by have := HK.out; omega, by simp, p', _, by rw [HYS.out]; exact HF8.out, by rw [HYS.out]; exact HM8.out, HFC.out.chg HC8.out HGG.out, HMC.out.chg HC8.out (fun i hi h => HRR.out i (.inl hi) h), HSS.out.more HC8.out HRW.out⟩
              case measure => omega
        · have e := HYT.out j (by have := HK.out; omega) (.inl (by have := HK.out; omega))
          rw [e] at HFB HM
          clear e
          go_wp2_with fail
          go_meet
          case rel => exact ⟨p, st, HFB.out, HM.out, HFC.out, HMC.out, HSS.out⟩
    case rest =>
      obtain ⟨p2, st2, fb, mm, fc, mc, ss⟩ := hcut
      have HFB7 := Lib.hid fb
      have HM7 := Lib.hid mm
      have HFC7 := Lib.hid fc
      have HMC7 := Lib.hid mc
      have HSS7 := Lib.hid ss
      clear fb mm fc mc ss HFB6 HM6 HFC6 HMC6 HSS6
      have ST1 := Lib.hid (steps_any wc HFC7.out)
      have HGG2 : Hid (¬ (R' g ∨ g = g')) := Lib.hid (fun h => HRR.out g h (.inr rfl))
      go_wp2_with fail
      refine ST1.out.mono ?_
      rintro e w' ⟨rfl, rfl⟩
      clear ST1
      go_upto_block 4 with fail
      go_cut [] from 97 to 105 (fun wx => ∃ (p : Pt) (st : Int), FB wx g' 75 o size (Y 130).1 p ∧ Mem wx R' gc (Y 130).2 st ∧ FB wx g 75 o size (Y 130).1 p2 ∧ Mem wx R gm (Y 130).2 st2 ∧ Same w wx)
      case first =>
        go_wp2_with fail
        go_loopg [13] 130 (fun gk i wx => ∃ j : Nat, j + gk = 130 ∧ i = .int .i64 j ∧ ∃ (p : Pt) (st : Int), FB wx g' 75 o size (Y j).1 p ∧ Mem wx R' gc (Y j).2 st ∧ FB wx g 75 o size (Y 130).1 p2 ∧ Mem wx R gm (Y 130).2 st2 ∧ Same w wx)
        case atStart => exact ⟨0, rfl, rfl, p1, _, by rw [HY0.out]; exact HFC7.out, by rw [HY0.out]; exact HMC7.out, HFB7.out, HM7.out, HSS7.out⟩
        case round =>
          obtain ⟨j, hk, rfl, p, st, fb, mm, fc, mc, ss⟩ := hrel
          have HFB := Lib.hid fb
          have HM := Lib.hid mm
          have HFC := Lib.hid fc
          have HMC := Lib.hid mc
          have HSS := Lib.hid ss
          have HK := Lib.hid hk
          clear fb mm fc mc ss hk HFB7 HM7 HFC7 HMC7 HSS7
          by_cases h2 : (j : Int) < 130
          · have L := HYL.out j
            have ST := STEP wr HSS.out HRW'.out HFB.out HM.out HRG.out L.2.1 L.1
            unfold Asked at ST
            cases hgo : Op.goes o size (Y j).1 (Y j).2
            · rw [hgo] at ST
              have e := (Op.stepF_no (F := Op.chen) hgo).trans (HYT.out j (by omega) (.inr hgo))
              rw [show ((Y j).1, (Y j).2) = Y j from rfl, e] at ST
              have HST := Lib.hid ST
              clear L ST hgo e
              go_wp2_with fail
              refine HST.out.mono ?_
              rintro e w8 ⟨rfl, p', fb', m', c'⟩
              have HF8 := Lib.hid fb'
              have HM8 := Lib.hid m'
              have HC8 := Lib.hid c'
              clear fb' m' c'
              go_wp2_with fail
              go_meet
              case rel => exact ⟨p', _, HF8.out, HM8.out, HFC.out.chg HC8.out HGG2.out, HMC.out.chg HC8.out (fun i hi h => HRR.out i h (.inl hi)), HSS.out.more HC8.out HRW'.out⟩
            · rw [hgo] at ST
              have HST := Lib.hid ST
              clear L ST hgo
              cases gk with
              | zero => have := HK.out; omega
              | succ gk =>
                go_wp2_with fail
                refine HST.out.mono ?_
                rintro e w8 ⟨rfl, p', fb', m', c'⟩
                have HF8 := Lib.hid fb'
                have HM8 := Lib.hid m'
                have HC8 := Lib.hid c'
                clear fb' m' c' HST
                go_wp2
                go_roundg gk
                case rel => exact ⟨j + 1, by have := HK.out; omega, by simp, p', _, by rw [HYS.out]; exact HF8.out, by rw [HYS.out]; exact HM8.out, HFC.out.chg HC8.out HGG2.out, HMC.out.chg HC8.out (fun i hi h => HRR.out i h (.inl hi)), HSS.out.more HC8.out HRW'.out⟩
                case measure => omega
          · have e := HYT.out j (by have := HK.out; omega) (.inl (by have := HK.out; omega))
            rw [e] at HFB HM
            clear e
            go_wp2_with fail
            go_meet
            case rel => exact ⟨p, st, HFB.out, HM.out, HFC.out, HMC.out, HSS.out⟩
      case rest =>
        obtain ⟨p3, st3, fc, mc, fb, mm, ss⟩ := hcut
        have HFB8 := Lib.hid fb
        have HM8 := Lib.hid mm
        have HFC8 := Lib.hid fc
        have HMC8 := Lib.hid mc
        have HSS8 := Lib.hid ss
        clear fb mm fc mc ss HFB7 HM7 HFC7 HMC7 HSS7
        have YL := HYL.out 130
        have HYL1 := Lib.hid YL.1
        have HYLN : Hid ((Y 130).2.length ≤ 4294967296) := Lib.hid (by rw [YL.2.2]; have := HN.out; have := HLL.out; omega)
        have HAL := Lib.hid (answer_len (s := (Y 130).1) W8.out YL.1.done)
        clear YL HYL HY0 HYS HYT
        generalize Y 130 = x at *
        have AN1 := Lib.hid (answer_any wc HFB8.out W8.out HYL1.out.done)
        go_wp2_with fail
        refine AN1.out.mono ?_
        rintro e w9 ⟨A1, n1, c1, rfl, r1, l1, s9⟩
        have HR1 := Lib.hid r1
        have HL1 := Lib.hid l1
        have HFB9 := Lib.hid (HFB8.out.same s9)
        have HM9 := Lib.hid (HM8.out.same s9)
        have HFC9 := Lib.hid (HFC8.out.same s9)
        have HMC9 := Lib.hid (HMC8.out.same s9)
        have HSS9 := Lib.hid (HSS8.out.trans s9)
        clear r1 l1 s9 HFB8 HM8 HFC8 HMC8 HSS8 AN1
        have AN2 := Lib.hid (answer_any w9 HFC9.out W8.out HYL1.out.done)
        go_wp2_with fail
        refine AN2.out.mono ?_
        rintro e w10 ⟨A2, n2, c2, rfl, r2, l2, s10⟩
        have HR2 := Lib.hid r2
        have HR1b := Lib.hid (HR1.out.same s10)
        have HL2 := Lib.hid l2
        have HFB10 := Lib.hid (HFB9.out.same s10)
        have HM10 := Lib.hid (HM9.out.same s10)
        have HFC10 := Lib.hid (HFC9.out.same s10)
        have HMC10 := Lib.hid (HMC9.out.same s10)
        have HSS10 := Lib.hid (HSS9.out.trans s10)
        clear r2 l2 s10 HFB9 HM9 HFC9 HMC9 HSS9 AN2
        have WS := Lib.hid (words_same' A1 A2 n1 n2 c1 c2 _ w10 HL1.out HL2.out HR1b.out HR2.out (by have := HL1.out; have := HAL.out; omega) (by have := HL2.out; have := HAL.out; omega))
        go_wp2_with fail
        refine WS.out.mono ?_
        rintro e w11 ⟨rfl, s11⟩
        have HFB11 := Lib.hid (HFB10.out.same s11)
        have HM11 := Lib.hid (HM10.out.same s11)
        have HFC11 := Lib.hid (HFC10.out.same s11)
        have HMC11 := Lib.hid (HMC10.out.same s11)
        have HSS11 := Lib.hid (HSS10.out.trans s11)
        clear s11 HFB10 HM10 HFC10 HMC10 HSS10 WS HR1 HR2 HR1b HL1 HL2
        have OV1 := Lib.hid (over_any w11 HFB11.out)
        have OV2 := Lib.hid (over_any w11 HFC11.out)
        have ST1 := Lib.hid (steps_any w11 HFB11.out)
        have ST2 := Lib.hid (steps_any w11 HFC11.out)
        have WO1 := Lib.hid (words_any w11 HM11.out)
        go_wp2_with fail
        refine OV1.out.mono ?_
        rintro e w' ⟨rfl, rfl⟩
        go_wp2_with fail
        refine OV2.out.mono ?_
        rintro e w' ⟨rfl, rfl⟩
        go_wp2_with fail
        refine ST1.out.mono ?_
        rintro e w' ⟨rfl, rfl⟩
        go_wp2_with fail
        refine ST2.out.mono ?_
        rintro e w' ⟨rfl, rfl⟩
        go_wp2_with fail
        refine WO1.out.mono ?_
        rintro e w12 ⟨gx, cx, rfl, s12, o12⟩
        have HMC12 := Lib.hid (HMC11.out.same s12)
        have HSS12 := Lib.hid (HSS11.out.trans s12)
        have HO12 := Lib.hid o12.row
        clear s12 o12 HFB11 HM11 HFC11 HMC11 HSS11 OV1 OV2 ST1 ST2 WO1
        have WO2 := Lib.hid (words_any w12 HMC12.out)
        go_wp2_with fail
        refine WO2.out.mono ?_
        rintro e w13 ⟨gy, cy, rfl, s13, o13⟩
        have HSS13 := Lib.hid (HSS12.out.trans s13)
        have WS2 := Lib.hid (words_same' _ _ _ _ cx cy _ w13 rfl rfl (HO12.out.same s13) o13.row HYLN.out HYLN.out)
        clear s13 o13 HMC12 HSS12 HO12 WO2
        go_wp2_with fail
        refine WS2.out.mono ?_
        rintro e w14 ⟨rfl, s14⟩
        go_wp2_with fail
        refine (awake_any _ (HTZ.out.same ((HSS13.out.trans s14)))).mono ?_
        rintro e w15 ⟨rfl, s15⟩
        go_wp2
        go_ret
        exact ⟨rfl, (HSS13.out.trans s14).trans s15⟩

theorem clones_walk (k wd sl cp sa ow : Int) (ia ra : Option Addr) (il ic rl rc : Nat) (at_ op rd : Int) (A : Option Addr) (m c : Nat) (LA : Option Addr) (n lc : Nat) (pa : Option Addr) (pn pc : Nat) (rec ls : List Int) (at2 : Int) (w : World)
    (hrec : rec.length = m) (hrow : Row w A (rec.map (Value.int .u32))) (hwd : Op.Wd rec) (hls : ls.length = n) (hlrow : Row w LA (ls.map (Value.int .u32))) (hlwd : Op.Wd ls) (hsa : 0 ≤ sa ∧ sa < 4294967296 := by assumption) (hT : TZ w := by assumption) :
    Calls Tryd.prog 6 #[.agg #[.int .i64 k, .int .i64 wd, .int .i64 sl, .int .i64 cp, .int .u32 sa, .slice ia il ic, .int .i64 ow, .slice ra rl rc, .int .i64 at_, .int .i64 op, .int .i64 rd, .slice A m c, .slice LA n lc, .slice pa pn pc], .int .i64 at2] w fun e w' => e = .returned (.bool true) ∧ Same w w' := by
  cases hli : lightB il rl m n pn
  · exact clones_big k wd sl cp sa ow ia ra il ic rl rc at_ op rd A m c LA n lc pa pn pc at2 w hli
  · by_cases hc : bcode (decide (k = 2) && rightB wd sl cp sa il rl) at_ op rd wd rl m = 0
    · obtain ⟨o, hb, ho⟩ := begins_of hc
      exact clones_yes k wd sl cp sa ow ia ra il ic rl rc at_ op rd A m c LA n lc pa pn pc rec ls at2 w hli o hb ho hrec hrow hwd hls hlrow hlwd
    · exact clones_no k wd sl cp sa ow ia ra il ic rl rc at_ op rd A m c LA n lc pa pn pc at2 w hli _ rfl hc

end Go.Proofs.YtdepogopepjonaaDoor.Ch
