/-

  The walk of the law ChenEnds.
-/
import Derived.Test.YtdepogopepjonaaDoorChenPoked
set_option linter.unusedSimpArgs false
set_option linter.unusedVariables false
namespace Go.Proofs.YtdepogopepjonaaDoor.Ch
open Go.ChangeShapes Go.WideShapes Go.ChangeAt Go.RowKit Ws Mm Pa

theorem caseE {w w' : World} {q : Nat} {T : TypeId} {k wd sl cp sa ow : Int} {ia ra : Option Addr} {il ic rl rc : Nat} {at_ op rd : Int} {A : Option Addr} {m c : Nat} {LA : Option Addr} {n lc : Nat} {pa : Option Addr} {pn pc : Nat} (h : Blk w q T #[.int .i64 k, .int .i64 wd, .int .i64 sl, .int .i64 cp, .int .u32 sa, .slice ia il ic, .int .i64 ow, .slice ra rl rc, .int .i64 at_, .int .i64 op, .int .i64 rd, .slice A m c, .slice LA n lc, .slice pa pn pc]) (s : Same w w') : w'.cell? ⟨q, 0, none⟩ = some (.int .i64 k) ∧ w'.cell? ⟨q, 1, none⟩ = some (.int .i64 wd) ∧ w'.cell? ⟨q, 2, none⟩ = some (.int .i64 sl) ∧ w'.cell? ⟨q, 3, none⟩ = some (.int .i64 cp) ∧ w'.cell? ⟨q, 4, none⟩ = some (.int .u32 sa) ∧ w'.cell? ⟨q, 5, none⟩ = some (.slice ia il ic) ∧ w'.cell? ⟨q, 6, none⟩ = some (.int .i64 ow) ∧ w'.cell? ⟨q, 7, none⟩ = some (.slice ra rl rc) ∧ w'.cell? ⟨q, 8, none⟩ = some (.int .i64 at_) ∧ w'.cell? ⟨q, 12, none⟩ = some (.slice LA n lc) ∧ Same w w' := by
  obtain ⟨⟨d0, d1, d2, d3, d4, d5, d6, d7⟩, d8, d9, d10, d11, d12, d13⟩ := case_cells h s
  exact ⟨d0, d1, d2, d3, d4, d5, d6, d7, d8, d12, s⟩

theorem ends_big (k wd sl cp sa ow : Int) (ia ra : Option Addr) (il ic rl rc : Nat) (at_ op rd : Int) (A : Option Addr) (m c : Nat) (LA : Option Addr) (n lc : Nat) (pa : Option Addr) (pn pc : Nat) (w : World) (hli : lightB il rl m n pn = false) (hsa : 0 ≤ sa ∧ sa < 4294967296 := by assumption) (hT : TZ w := by assumption) :
    Calls Tryd.prog 5 #[.agg #[.int .i64 k, .int .i64 wd, .int .i64 sl, .int .i64 cp, .int .u32 sa, .slice ia il ic, .int .i64 ow, .slice ra rl rc, .int .i64 at_, .int .i64 op, .int .i64 rd, .slice A m c, .slice LA n lc, .slice pa pn pc]] w fun e w' => e = .returned (.bool true) ∧ Same w w' := by
  have HTZ := Lib.hid hT
  have HTL : Hid (0 < w.heap.size) := Lib.hid hT.lt
  clear hT
  have hb := Blk.new w 36 #[.int .i64 k, .int .i64 wd, .int .i64 sl, .int .i64 cp, .int .u32 sa, .slice ia il ic, .int .i64 ow, .slice ra rl rc, .int .i64 at_, .int .i64 op, .int .i64 rd, .slice A m c, .slice LA n lc, .slice pa pn pc]
  have s0 := (Same.refl w).alloc (.cells #[.int .i64 k, .int .i64 wd, .int .i64 sl, .int .i64 cp, .int .u32 sa, .slice ia il ic, .int .i64 ow, .slice ra rl rc, .int .i64 at_, .int .i64 op, .int .i64 rd, .slice A m c, .slice LA n lc, .slice pa pn pc] 36)
  have HB0 := Lib.hid hb
  have HS0 := Lib.hid s0
  have LI := fun w' => light_any k wd sl cp sa ow ia ra il ic rl rc at_ op rd A m c LA n lc pa pn pc w'
  rw [hli] at LI
  clear hb s0
  go_enter Tryd.func5, Tryd.ntmps5
  obtain ⟨⟨d0, d1, d2, d3, d4, d5, d6, d7⟩, d8, d9, d10, d11, d12, d13⟩ := case_cells HB0.out (Same.refl _)
  go_wp2_with fail
  refine (LI _).mono ?_
  rintro e v1 ⟨rfl, s1⟩
  have HS1 := Lib.hid (HS0.out.trans s1)
  clear s1 d0 d1 d2 d3 d4 d5 d6 d7 d8 d9 d10 d11 d12 d13 HB0 HS0
  go_wp2_with fail
  refine (awake_any _ (HTZ.out.same (HS1.out))).mono ?_
  rintro e v2 ⟨rfl, s2⟩
  go_wp2
  go_ret
  exact ⟨rfl, HS1.out.trans s2⟩

theorem ends_no (k wd sl cp sa ow : Int) (ia ra : Option Addr) (il ic rl rc : Nat) (at_ op rd : Int) (A : Option Addr) (m c : Nat) (LA : Option Addr) (n lc : Nat) (pa : Option Addr) (pn pc : Nat) (w : World) (hli : lightB il rl m n pn = true) (code : Int) (hcode : bcode (decide (k = 2) && rightB wd sl cp sa il rl) at_ op rd wd rl m = code) (hne : code ≠ 0) (hsa : 0 ≤ sa ∧ sa < 4294967296 := by assumption) (hT : TZ w := by assumption) :
    Calls Tryd.prog 5 #[.agg #[.int .i64 k, .int .i64 wd, .int .i64 sl, .int .i64 cp, .int .u32 sa, .slice ia il ic, .int .i64 ow, .slice ra rl rc, .int .i64 at_, .int .i64 op, .int .i64 rd, .slice A m c, .slice LA n lc, .slice pa pn pc]] w fun e w' => e = .returned (.bool true) ∧ Same w w' := by
  have HTZ := Lib.hid hT
  have HTL : Hid (0 < w.heap.size) := Lib.hid hT.lt
  clear hT
  have hb := Blk.new w 36 #[.int .i64 k, .int .i64 wd, .int .i64 sl, .int .i64 cp, .int .u32 sa, .slice ia il ic, .int .i64 ow, .slice ra rl rc, .int .i64 at_, .int .i64 op, .int .i64 rd, .slice A m c, .slice LA n lc, .slice pa pn pc]
  have s0 := (Same.refl w).alloc (.cells #[.int .i64 k, .int .i64 wd, .int .i64 sl, .int .i64 cp, .int .u32 sa, .slice ia il ic, .int .i64 ow, .slice ra rl rc, .int .i64 at_, .int .i64 op, .int .i64 rd, .slice A m c, .slice LA n lc, .slice pa pn pc] 36)
  have HB0 := Lib.hid hb
  have HS0 := Lib.hid s0
  have LI := fun w' => light_any k wd sl cp sa ow ia ra il ic rl rc at_ op rd A m c LA n lc pa pn pc w'
  rw [hli] at LI
  clear hb s0
  have hm5 : m ≤ 5000 := by
    unfold lightB at hli
    have := of_decide_eq_true hli
    omega
  have BN := fun w' => begin_no k wd sl cp sa ow ia ra il ic rl rc at_ op rd A m c w' hm5 code hcode hne
  have HCN : (code != 0) = true := by simpa using hne
  clear hcode hne hli hm5
  go_enter Tryd.func5, Tryd.ntmps5
  obtain ⟨⟨d0, d1, d2, d3, d4, d5, d6, d7⟩, d8, d9, d10, d11, d12, d13⟩ := case_cells HB0.out (Same.refl _)
  go_wp2_with fail
  refine (LI _).mono ?_
  rintro e v1 ⟨rfl, s1⟩
  have HB1 := Lib.hid (HB0.out.same s1)
  have HS1 := Lib.hid (HS0.out.trans s1)
  clear s1 d0 d1 d2 d3 d4 d5 d6 d7 d8 d9 d10 d11 d12 d13 HB0 HS0
  obtain ⟨⟨d0, d1, d2, d3, d4, d5, d6, d7⟩, d8, d9, d10, d11, d12, d13⟩ := case_cells HB1.out (Same.refl _)
  go_wp2_with fail
  refine (BN _).mono ?_
  rintro e v2 ⟨rfl, s2⟩
  have HB2 := Lib.hid (HB1.out.same s2)
  have HS2 := Lib.hid (HS1.out.trans s2)
  clear s2 d0 d1 d2 d3 d4 d5 d6 d7 d8 d9 d10 d11 d12 d13 HB1 HS1
  obtain ⟨⟨d0, d1, d2, d3, d4, d5, d6, d7⟩, d8, d9, d10, d11, d12, d13⟩ := case_cells HB2.out (Same.refl _)
  go_upto_region 4 with fail
  go_quiet (fail)
  have HS3 := Lib.hid (HS2.out.drewN nq)
  go_wp2_with fail
  refine (awake_any _ (HTZ.out.same (HS3.out))).mono ?_
  rintro e v3 ⟨rfl, s3⟩
  go_wp2
  go_ret
  exact ⟨rfl, HS3.out.trans s3⟩

/-- it begins, but the object does not lie within the memory -/
theorem ends_out (k wd sl cp sa ow : Int) (ia ra : Option Addr) (il ic rl rc : Nat) (at_ op rd : Int) (A : Option Addr) (m c : Nat) (LA : Option Addr) (n lc : Nat) (pa : Option Addr) (pn pc : Nat) (rec ls : List Int) (w : World) (hli : lightB il rl m n pn = true) (o : Op.Im) (hb : Begins k wd sl cp sa il rl at_ op rd m o) (ho : o = ⟨o.at_, o.width, rl, o.slots, o.cap, o.reader, o.wr⟩)
    (hrec : rec.length = m) (hrow : Row w A (rec.map (Value.int .u32))) (hwd : Op.Wd rec) (hls : ls.length = n) (hlrow : Row w LA (ls.map (Value.int .u32))) (hlwd : Op.Wd ls) (hfit : ¬ (at_ ≤ (n : Int) ∧ ((1 + o.n + Op.csl o * o.width : Nat) : Int) ≤ (n : Int) - at_)) (hsa : 0 ≤ sa ∧ sa < 4294967296 := by assumption) (hT : TZ w := by assumption) :
    Calls Tryd.prog 5 #[.agg #[.int .i64 k, .int .i64 wd, .int .i64 sl, .int .i64 cp, .int .u32 sa, .slice ia il ic, .int .i64 ow, .slice ra rl rc, .int .i64 at_, .int .i64 op, .int .i64 rd, .slice A m c, .slice LA n lc, .slice pa pn pc]] w fun e w' => e = .returned (.bool true) ∧ Same w w' := by
  have HTZ := Lib.hid hT
  have HTL : Hid (0 < w.heap.size) := Lib.hid hT.lt
  clear hT
  have hb := Blk.new w 36 #[.int .i64 k, .int .i64 wd, .int .i64 sl, .int .i64 cp, .int .u32 sa, .slice ia il ic, .int .i64 ow, .slice ra rl rc, .int .i64 at_, .int .i64 op, .int .i64 rd, .slice A m c, .slice LA n lc, .slice pa pn pc]
  have s0 := (Same.refl w).alloc (.cells #[.int .i64 k, .int .i64 wd, .int .i64 sl, .int .i64 cp, .int .u32 sa, .slice ia il ic, .int .i64 ow, .slice ra rl rc, .int .i64 at_, .int .i64 op, .int .i64 rd, .slice A m c, .slice LA n lc, .slice pa pn pc] 36)
  have HB0 := Lib.hid hb
  have HS0 := Lib.hid s0
  have LI := fun w' => light_any k wd sl cp sa ow ia ra il ic rl rc at_ op rd A m c LA n lc pa pn pc w'
  rw [hli] at LI
  clear hb s0
  have hn : n ≤ 400 := by
    unfold lightB at hli
    have := of_decide_eq_true hli
    omega
  have hpn : pn ≤ 100 := by
    unfold lightB at hli
    have := of_decide_eq_true hli
    omega
  have al := hb.al
  have lv0 : Op.Live Op.chenOk Op.chenRank o (Op.chenMost o) (Op.start rec) := by
    refine Op.chen_first o rec hwd (fun h => ?_) (fun h => ?_)
    · have := hb.len
      have := hb.width
      rw [h] at *
      simp at *
      omega
    · have := hb.len
      rw [h] at this
      simp at this
      exact List.eq_nil_of_length_eq_zero (by omega)
  have hmul : True := trivial
  have hmost : Op.chenMost o ≤ 1000 := by
    have := al.1.2
    have := al.2.1.2
    unfold Op.chenMost
    split <;> omega
  have hpos : True := trivial
  have hmin : 0 < Op.chenMost o := by
    unfold Op.chenMost
    split <;> omega
  obtain ⟨size, hsize⟩ : ∃ size, size = 1 + o.n + Op.csl o * o.width := ⟨_, rfl⟩
  have hn_ : o.n = rl := by rw [ho]
  have hcsl : ((rl : Int) + 2) = ((Op.csl o : Nat) : Int) := by unfold Op.csl; omega
  have hsz : (size : Int) = 1 + (rl : Int) + ((rl : Int) + 2) * wd := by rw [hb.width, hcsl, ← Int.natCast_mul]; omega
  have hat := hb.at_
  have SZ : ∀ w', Calls Tryd.prog 12 #[.agg #[.int .i64 k, .int .i64 wd, .int .i64 sl, .int .i64 cp, .int .u32 sa, .slice ia il ic, .int .i64 ow, .slice ra rl rc]] w' fun e w'' => e = .returned (.int .i64 (size : Int)) ∧ Same w' w'' := by
    intro w'
    have hk := hb.kind
    subst hk
    rw [hsz]
    exact size_yes wd sl cp sa ow ia ra il ic rl rc w' hb.right
  have hbo : boundI wd cp rl op = (Op.chenMost o : Int) := by
    have := hb.width
    unfold boundI Op.chenMost
    cases hwr : o.wr
    · have h1 := hb.op
      rw [hwr] at h1
      simp at h1
      rw [if_neg (by omega), if_pos h1, if_neg (by simp)]
      have := hb.cap
      omega
    · have h1 := hb.op
      rw [hwr] at h1
      simp at h1
      rw [if_pos h1, if_pos rfl]
      omega
  have BD : ∀ w', Calls Tryd.prog 14 #[.agg #[.int .i64 k, .int .i64 wd, .int .i64 sl, .int .i64 cp, .int .u32 sa, .slice ia il ic, .int .i64 ow, .slice ra rl rc], .int .i64 op] w' fun e w'' => e = .returned (.int .i64 (Op.chenMost o : Int)) ∧ Same w' w'' := by
    intro w'
    have hk := hb.kind
    subst hk
    rw [← hbo]
    exact bound_yes wd sl cp sa ow ia ra il ic rl rc op w' hb.right
  have BY := fun w' (s : Same w w') => begin_yes ow ia ra ic rc A c rec w' hb ho hrec (hrow.same s)
  rw [← hsize] at BY
  have HN : Hid (n ≤ 4096) := Lib.hid (by omega)
  have HL := Lib.hid hls
  have HLR := Lib.hid hlrow
  have HAT := Lib.hid hat
  have n400 := hn
  rw [← hsize] at hfit
  have hnofit : ¬ o.at_ + size ≤ n := by omega
  have HNF := Lib.hid hnofit
  have s73 : (size : Int) ≤ 53 := by have := Nat.mul_le_mul (show Op.csl o ≤ 6 by have := al.2.1.2; unfold Op.csl; omega) al.1.2; have := al.2.1.2; omega
  have s0' : (0 : Int) ≤ size := by omega
  have at0 : 0 ≤ at_ := by omega
  by_cases hfar : (n : Int) < at_
  · have hfb : decide ((n : Int) < at_) = true := by simpa using hfar
    clear hmul hpos hn hpn hls hlrow hlwd lv0 al hli hb ho hrec hrow hwd hmost hmin hsize hsz hat hbo hfit hnofit BD SZ
    go_enter Tryd.func5, Tryd.ntmps5
    obtain ⟨⟨d0, d1, d2, d3, d4, d5, d6, d7⟩, d8, d9, d10, d11, d12, d13⟩ := case_cells HB0.out (Same.refl _)
    go_wp2_with fail
    refine (LI _).mono ?_
    rintro e v1 ⟨rfl, s1⟩
    have HB1 := Lib.hid (HB0.out.same s1)
    have HS1 := Lib.hid (HS0.out.trans s1)
    clear s1 d0 d1 d2 d3 d4 d5 d6 d7 d8 d9 d10 d11 d12 d13 HB0 HS0
    obtain ⟨⟨d0, d1, d2, d3, d4, d5, d6, d7⟩, d8, d9, d10, d11, d12, d13⟩ := case_cells HB1.out (Same.refl _)
    go_wp2_with fail
    refine (BY _ HS1.out).mono ?_
    rintro e v2 ⟨g, p, rfl, s2, hg, fb⟩
    have HB2 := Lib.hid (HB1.out.same s2)
    have HS2 := Lib.hid (HS1.out.trans s2)
    have HF2 := Lib.hid fb
    clear s2 hg fb d0 d1 d2 d3 d4 d5 d6 d7 d8 d9 d10 d11 d12 d13 HB1 HS1
    obtain ⟨⟨d0, d1, d2, d3, d4, d5, d6, d7⟩, d8, d9, d10, d11, d12, d13⟩ := case_cells HB2.out (Same.refl _)
    go_upto_region 4 with fail
    go_quiet (fail)
    have HS3 := Lib.hid (HS2.out.drewN nq)
    have HF3 := Lib.hid (HF2.out.same ((Same.refl v2).drewN nq))
    have HB3 := Lib.hid (HB2.out.same ((Same.refl v2).drewN nq))
    clear d0 d1 d2 d3 d4 d5 d6 d7 d8 d9 d10 d11 d12 d13 HB2 HS2 HF2
    generalize v2.drewN nq = v3 at *
    obtain ⟨⟨d0, d1, d2, d3, d4, d5, d6, d7⟩, d8, d9, d10, d11, d12, d13⟩ := case_cells HB3.out (Same.refl _)
    go_wp2_with fail
    refine (memory_any LA n lc ls _ HL.out HN.out (HLR.out.same HS3.out)).mono ?_
    rintro e v4 ⟨gm, rfl, s4, m4⟩
    have HS4 := Lib.hid (HS3.out.trans s4)
    have HF4 := Lib.hid (HF3.out.same s4)
    have HM4 := Lib.hid m4
    clear s4 m4 d0 d1 d2 d3 d4 d5 d6 d7 d8 d9 d10 d11 d12 d13 HB3 HS3 HF3
    have STO := Lib.hid (step_out v4 HF4.out HM4.out (by rw [HL.out]; exact HNF.out))
    go_wp2_with fail
    refine STO.out.mono ?_
    rintro e v5 ⟨rfl, s5⟩
    have HS5 := Lib.hid (HS4.out.trans s5)
    clear s5 HS4 HF4 HM4 STO
    go_wp2_with fail
    refine (awake_any _ (HTZ.out.same (HS5.out))).mono ?_
    rintro e v6 ⟨rfl, s6⟩
    go_wp2
    go_ret
    exact ⟨rfl, HS5.out.trans s6⟩
  · have hfb : decide ((n : Int) < at_) = false := by simpa using hfar
    have hfs : decide ((n : Int) - at_ < size) = true := by simp; omega
    have f1 : IntKind.i64.wrap ((n : Int) - at_) = n - at_ := Go.IntWalk.i64_in _ (by omega)
    clear hmul hpos hn hpn hls hlrow hlwd lv0 al hli hb ho hrec hrow hwd hmost hmin hsize hsz hat hbo hfit hnofit BD hfar
    go_enter Tryd.func5, Tryd.ntmps5
    obtain ⟨⟨d0, d1, d2, d3, d4, d5, d6, d7⟩, d8, d9, d10, d11, d12, d13⟩ := case_cells HB0.out (Same.refl _)
    go_wp2_with fail
    refine (LI _).mono ?_
    rintro e v1 ⟨rfl, s1⟩
    have HB1 := Lib.hid (HB0.out.same s1)
    have HS1 := Lib.hid (HS0.out.trans s1)
    clear s1 d0 d1 d2 d3 d4 d5 d6 d7 d8 d9 d10 d11 d12 d13 HB0 HS0
    obtain ⟨⟨d0, d1, d2, d3, d4, d5, d6, d7⟩, d8, d9, d10, d11, d12, d13⟩ := case_cells HB1.out (Same.refl _)
    go_wp2_with fail
    refine (BY _ HS1.out).mono ?_
    rintro e v2 ⟨g, p, rfl, s2, hg, fb⟩
    have HB2 := Lib.hid (HB1.out.same s2)
    have HS2 := Lib.hid (HS1.out.trans s2)
    have HF2 := Lib.hid fb
    clear s2 hg fb d0 d1 d2 d3 d4 d5 d6 d7 d8 d9 d10 d11 d12 d13 HB1 HS1
    obtain ⟨⟨d0, d1, d2, d3, d4, d5, d6, d7⟩, d8, d9, d10, d11, d12, d13⟩ := case_cells HB2.out (Same.refl _)
    go_upto_region 4 with fail
    generalize w.heap.size = q at *
    clear d0 d1 d2 d3 d4 d5 d6 d7 d8 d9 d10 d11 d12 d13
    go_region_held3 (fun w' => w'.cell? ⟨q, 0, none⟩ = some (.int .i64 k) ∧ w'.cell? ⟨q, 1, none⟩ = some (.int .i64 wd) ∧ w'.cell? ⟨q, 2, none⟩ = some (.int .i64 sl) ∧ w'.cell? ⟨q, 3, none⟩ = some (.int .i64 cp) ∧ w'.cell? ⟨q, 4, none⟩ = some (.int .u32 sa) ∧ w'.cell? ⟨q, 5, none⟩ = some (.slice ia il ic) ∧ w'.cell? ⟨q, 6, none⟩ = some (.int .i64 ow) ∧ w'.cell? ⟨q, 7, none⟩ = some (.slice ra rl rc) ∧ w'.cell? ⟨q, 8, none⟩ = some (.int .i64 at_) ∧ w'.cell? ⟨q, 12, none⟩ = some (.slice LA n lc) ∧ Same v2 w')
      (first | (with_reducible assumption) | (with_reducible exact caseE HB2.out (Same.refl _).drew) | (rcases ‹_ ∧ _ ∧ _ ∧ _ ∧ _ ∧ _ ∧ _ ∧ _ ∧ _ ∧ _ ∧ Same v2 _› with ⟨_, _, _, _, _, _, _, _, _, _, x9⟩; (with_reducible exact caseE HB2.out (x9.trans hs))))
      (first | (go_at_call 12; ((with_reducible refine (SZ _).mono ?_); rintro e w' ⟨rfl, hs⟩)))
    rcases ‹_ ∧ _ ∧ _ ∧ _ ∧ _ ∧ _ ∧ _ ∧ _ ∧ _ ∧ _ ∧ Same v2 _› with ⟨_, _, _, _, _, _, _, _, _, _, x9⟩
    have HS3 := Lib.hid (HS2.out.trans x9)
    have HF3 := Lib.hid (HF2.out.same x9)
    have HB3 := Lib.hid (HB2.out.same x9)
    clear HB2 HS2 HF2 x9
    rename_i v3 _ _ _ _ _ _ _ _ _ _
    obtain ⟨⟨d0, d1, d2, d3, d4, d5, d6, d7⟩, d8, d9, d10, d11, d12, d13⟩ := case_cells HB3.out (Same.refl _)
    go_wp2_with fail
    refine (memory_any LA n lc ls _ HL.out HN.out (HLR.out.same HS3.out)).mono ?_
    rintro e v4 ⟨gm, rfl, s4, m4⟩
    have HS4 := Lib.hid (HS3.out.trans s4)
    have HF4 := Lib.hid (HF3.out.same s4)
    have HM4 := Lib.hid m4
    clear s4 m4 d0 d1 d2 d3 d4 d5 d6 d7 d8 d9 d10 d11 d12 d13 HB3 HS3 HF3
    have STO := Lib.hid (step_out v4 HF4.out HM4.out (by rw [HL.out]; exact HNF.out))
    go_wp2_with fail
    refine STO.out.mono ?_
    rintro e v5 ⟨rfl, s5⟩
    have HS5 := Lib.hid (HS4.out.trans s5)
    clear s5 HS4 HF4 HM4 STO
    go_wp2_with fail
    refine (awake_any _ (HTZ.out.same (HS5.out))).mono ?_
    rintro e v6 ⟨rfl, s6⟩
    go_wp2
    go_ret
    exact ⟨rfl, HS5.out.trans s6⟩

end Go.Proofs.YtdepogopepjonaaDoor.Ch
