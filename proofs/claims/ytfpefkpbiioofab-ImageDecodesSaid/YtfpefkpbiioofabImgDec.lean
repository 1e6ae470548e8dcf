/-
  Layer 33: bytes decoded (image.Decode).
-/
import Derived.Test.YtfpefkpbiioofabImgSys
import Derived.Test.YtfpefkpbiioofabImgEnc
set_option linter.unusedVariables false
set_option linter.unusedSimpArgs false
namespace Go.Proofs.Ytfpefkpbiioofab.Im
open Go.ChangeShapes Go.WideShapes Go.ChangeAt Go.RowKit Ws Cd

theorem results_cell3 {P : Program} {fn : Func} {p t u : Tmp} {ty : TypeId} (h : fn.results = #[.cell p ty, .tmp t, .tmp u]) (tmps : Array Value) (w : World) (g : Nat) (T : TypeId) (cs : Array Value) (fr : Nat × Nat) (d : TypeDesc)
    (hp : tmps.getD p undef = .pointer (some ⟨g, 0, none⟩)) (hg : w.heap[g]? = some (.cells cs T fr))
    (hu : P.underlying ty = some d) (hd : (match d with | .struct _ | .array _ _ => true | _ => false) = true) (hi : (P.info? ty).map (·.size) = some cs.size) :
    (results fn tmps).run P w = .ok (.tuple #[.agg cs, tmps.getD t undef, tmps.getD u undef]) w := by
  have hp' : tmps[p]?.getD undef = .pointer (some ⟨g, 0, none⟩) := by simpa using hp
  simp [results, h, hp', asAddr, run_loadVar_row w g T ty cs fr d hg hu hd hi]
theorem equal_any (A C : Option Addr) (n m c d : Nat) (xs ys : List Int) (w : World) (hn : xs.length = n) (hm : ys.length = m) (hx : Row w A (by8 xs)) (hy : Row w C (by8 ys)) (bx : By xs) (bY : By ys) :
    Calls Try.prog 26 #[.slice A n c, .slice C m d] w fun e w' => e = .returned (.bool (decide (xs = ys))) ∧ w = w' := by
  have h1 := run_str xs A n c w hn hx
  have h2 := run_str ys C m d w hm hy
  have h3 : ((strOfNums xs).toList == (strOfNums ys).toList) = decide (xs = ys) := by
    rw [Bool.eq_iff_iff, beq_iff_eq, decide_eq_true_eq]
    exact ⟨str_inj bx bY, fun h => by rw [h]⟩
  have H3 := Lib.hid h3
  clear h3 hn hm
  generalize strOfNums xs = s at *
  generalize strOfNums ys = t at *
  go_enter Try.func26, Try.ntmps26
  go_wp2
  go_ret
  exact ⟨ret_bool H3.out, rfl⟩
theorem hd_by : By hd := by
  intro y hy
  unfold hd at hy
  simp at hy
  omega
theorem prefix_any (b o n c b2 : Nat) (xs : List Int) (w : World) (hn : xs.length = n) (h3 : 3 ≤ n) (hc : n ≤ c) (hx : Row w (some ⟨b, o, none⟩) (by8 xs)) (hy : Row w (some ⟨b2, 0, none⟩) (by8 hd)) (bx : By xs) :
    Calls Try.prog 11 #[.slice (some ⟨b, o, none⟩) n c, .slice (some ⟨b2, 0, none⟩) 3 3] w fun e w' => e = .returned (.bool (decide (xs.take 3 = hd))) ∧ w = w' := by
  have hge : (n : Int) ≥ 3 := by omega
  have f1 : (3 : Int) ≤ c := by omega
  have hr := hx.cut 3
  rw [← by8_take] at hr
  have EQ := Lib.hid (fun c => equal_any (some ⟨b, o, none⟩) (some ⟨b2, 0, none⟩) 3 3 c 3 (xs.take 3) hd w (by rw [List.length_take]; omega) rfl hr hy (fun y hy => bx y (List.mem_of_mem_take hy)) hd_by)
  clear hr hx hy bx hn
  generalize decide (xs.take 3 = hd) = q at *
  go_enter Try.func11, Try.ntmps11
  go_wp2_with fail
  refine (EQ.out _).mono ?_
  rintro e w' ⟨rfl, rfl⟩
  go_wp2_with fail
  go_ret
  exact ⟨rfl, rfl⟩
def DecP (w : World) (x : PS × Int × Int) (e : Ending) (w' : World) : Prop := ∃ A n c B m d, e = .returned (.tuple #[.agg #[.slice A n c, .slice B m d], .int .i64 x.2.1, .int .i64 x.2.2]) ∧ SysAt w' A n B m x.1 ∧ (n ≤ 255 ∧ m ≤ 255) ∧ Same w w'
theorem sys_zero (w : World) : SysAt w none 0 none 0 ⟨[], []⟩ := ⟨rfl, rfl, fun i p h => by simp at h, fun i p h => by simp at h⟩
theorem decp_zero {w w' : World} {x : PS × Int × Int} {a e : Int} (hx : x = (⟨[], []⟩, a, e)) (hs : Same w w') : DecP w x (.returned (.tuple #[.agg #[.slice none 0 0, .slice none 0 0], .int .i64 a, .int .i64 e])) w' := by
  subst hx
  exact ⟨none, 0, 0, none, 0, 0, rfl, sys_zero _, ⟨by omega, by omega⟩, hs⟩
def fst3 (l : List Int) : Rs := aft l 3 ⟨0, false⟩
theorem dec_room {l : List Int} (h : 65536 < l.length) : dec l = (⟨[], []⟩, 0, 6) := if_pos h
theorem dec_head {l : List Int} (h : ¬ 65536 < l.length) (h2 : 3 ≤ l.length) (h3 : l.take 3 ≠ hd) : dec l = (⟨[], []⟩, 0, 4) := by
  unfold dec
  rw [if_neg h, if_pos ⟨h2, h3⟩]
section
variable {l : List Int} {s : PS} {r r2 : Rs} {z : Int} (h : ¬ 65536 < l.length) (h2 : ¬ (3 ≤ l.length ∧ l.take 3 ≠ hd)) (hs : (s, r) = rS l (fst3 l)) (hz : (z, r2) = rU l 2 r)
include h h2 hs hz
theorem dec_body : dec l = if r2.bad = true then ((⟨[], []⟩ : PS), (l.length : Int), (2 : Int)) else if z ≠ sumB (l.take r.k) then ((⟨[], []⟩ : PS), (r.k : Int), (4 : Int)) else if r2.k < l.length then ((⟨[], []⟩ : PS), (r.k + 2 : Int), (3 : Int)) else (s, (0 : Int), (0 : Int)) := by
  unfold dec
  rw [if_neg h, if_neg h2]
  simp only
  rw [show aft l 3 ⟨0, false⟩ = fst3 l from rfl, ← hs]
  simp only
  rw [← hz]
theorem dec_end (h3 : r2.bad = true) : dec l = ((⟨[], []⟩ : PS), (l.length : Int), (2 : Int)) := by rw [dec_body h h2 hs hz, if_pos h3]
theorem dec_sum (h3 : r2.bad = false) (h4 : z ≠ sumB (l.take r.k)) : dec l = ((⟨[], []⟩ : PS), (r.k : Int), (4 : Int)) := by rw [dec_body h h2 hs hz, if_neg (by simp [h3]), if_pos h4]
theorem dec_more (h3 : r2.bad = false) (h4 : z = sumB (l.take r.k)) (h5 : r2.k < l.length) : dec l = ((⟨[], []⟩ : PS), (r.k + 2 : Int), (3 : Int)) := by rw [dec_body h h2 hs hz, if_neg (by simp [h3]), if_neg (by simp [h4]), if_pos h5]
theorem dec_ok (h3 : r2.bad = false) (h4 : z = sumB (l.take r.k)) (h5 : ¬ r2.k < l.length) : dec l = (s, 0, 0) := by rw [dec_body h h2 hs hz, if_neg (by simp [h3]), if_neg (by simp [h4]), if_neg h5]
end
theorem aft_good {l : List Int} {n : Nat} {r : Rs} (h : (aft l n r).bad = false) : r.bad = false ∧ r.k + n ≤ l.length ∧ (aft l n r).k = r.k + n := by
  unfold aft at h ⊢
  split at h
  · next h2 => rw [if_pos h2]; exact ⟨h2.1, h2.2, rfl⟩
  · cases h
set_option maxRecDepth 100000 in
set_option maxHeartbeats 8000000 in
theorem decode_any (A : Option Addr) (n c : Nat) (l : List Int) (w : World) (hl : l.length = n) (hnc : n ≤ c ∧ c ≤ 9223372036854775807) (hb : By l) (hr : Row w A (by8 l)) :
    Calls Try.prog 5 #[.slice A n c] w (DecP w (dec l)) := by
  obtain ⟨hnc, hcm⟩ := hnc
  have HL := Lib.hid hl
  have HBY := Lib.hid hb
  have HRW := Lib.hid hr
  clear hl hb hr
  have kc := fun (w : World) (C : Array Value) (n c : Nat) => Lib.run_convert_bytes_const (P := Try.prog) w 22 5 C n c Try.underlying22 Try.underlying5
  obtain ⟨w1, hw1⟩ : ∃ w1, w1 = w.alloc (.cells #[.slice none 0 0, .slice none 0 0] 27) := ⟨_, rfl⟩
  have HS1 := Lib.hid (show Same w w1 from hw1 ▸ (Same.refl w).alloc _)
  have HB1 := Lib.hid (show Blk w1 w.heap.size 27 #[.slice none 0 0, .slice none 0 0] from hw1 ▸ Blk.new w _ _)
  have E1 := Lib.hid hw1
  clear hw1
  go_enter Try.func5, Try.ntmps5
  go_upto_region 1 with fail
  rw [← E1.out]
  by_cases h65 : (n : Int) > 65536
  · have HR65 := Lib.hid (show 65536 < l.length by have := HL.out; omega)
    obtain ⟨y0, y1⟩ := (⟨HB1.out.thaw 0, HB1.out.thaw 1⟩ : _ ∧ _)
    obtain ⟨z0, z1⟩ := (⟨HB1.out.cell 0, HB1.out.cell 1⟩ : _ ∧ _)
    simp only [List.getElem?_toArray, List.getElem?_cons_zero, List.getElem?_cons_succ] at z0 z1
    go_wp2_with fail
    obtain ⟨p1, p2⟩ := puts2 (v0 := .slice none 0 0) (v1 := .slice none 0 0) HB1.out
    refine bodyPost_ret (v := .tuple #[.agg #[.slice none 0 0, .slice none 0 0], .int .i64 (0), .int .i64 6]) (results_cell3 Try.results5 _ _ w.heap.size 27 #[.slice none 0 0, .slice none 0 0] (0, 0) _ rfl p1 Try.underlying27 rfl sys_size) rfl ?_
    exact decp_zero (dec_room HR65.out) (chg_new HS1.out p2 (Nat.le_refl _))
  · have HN65 := Lib.hid (show ¬ 65536 < l.length by have := HL.out; omega)
    by_cases h3 : (n : Int) ≥ 3
    · obtain ⟨b, o, hA⟩ : ∃ b o, A = some ⟨b, o, none⟩ := Row.addr HRW.out (by rw [by8_len]; have := HL.out; omega)
      subst hA
      obtain ⟨w2, hw2⟩ : ∃ w2, w2 = w1.alloc (.cells (by8 hd).toArray 5 (3, 4)) := ⟨_, rfl⟩
      have hs2 : Same w1 w2 := hw2 ▸ (Same.refl w1).alloc _
      have HSX := Lib.hid (HS1.out.trans hs2)
      have HBX := Lib.hid (HB1.out.same hs2)
      have hrow : Row w2 (some ⟨w1.heap.size, 0, none⟩) (by8 hd) := hw2 ▸ row_any w1 _ _ _
      have PF := Lib.hid (prefix_any b o n c w1.heap.size l w2 HL.out (by omega) hnc (HRW.out.same HSX.out) hrow HBY.out)
      have E2 := Lib.hid (show w1.alloc (.cells #[.int .u8 67, .int .u8 88, .int .u8 1] 5 (3, 4)) = w2 by rw [hw2]; rfl)
      clear hs2 hrow hw2
      by_cases hp : l.take 3 = hd
      · have HN2 := Lib.hid (show ¬ (3 ≤ l.length ∧ l.take 3 ≠ hd) from fun h => h.2 hp)
        have hq : decide (l.take 3 = hd) = true := decide_eq_true hp
        rw [hq] at PF
        clear hq hp HB1 HS1
        go_wp2_with fail
        rw [E2.out]
        refine PF.out.mono ?_
        rintro e wx' ⟨rfl, rfl⟩
        clear PF E1 E2 kc
        generalize hAd : (some ⟨b, o, none⟩ : Option Addr) = A at *
        clear hAd
        generalize w2 = wx at *
        go_wp2_with fail
        refine (new_any A n c l wx HL.out (by omega) (HRW.out.same HSX.out)).mono ?_
        rintro e w3 ⟨g, rfl, s3, r3⟩
        have HR3 := Lib.hid (show RSt w3 (fun i => wx.heap.size ≤ i ∧ i < w3.heap.size) g l ⟨0, false⟩ from r3.within)
        have HS3 := Lib.hid (HSX.out.trans s3)
        have HB3 := Lib.hid (HBX.out.same s3)
        have HWX := Lib.hid HSX.out.size
        have HBL := Lib.hid HBX.out.lt
        have HX3 := Lib.hid s3.size
        clear s3 r3 HSX HBX
        go_wp2_with fail
        refine (bytes_any 3 _ HR3.out).mono ?_
        rintro e w4 ⟨Ab, mb, cb, rfl, _, _, r4, s4⟩
        rw [aft_after (r := ⟨0, false⟩)] at r4
        have HR4 := Lib.hid (show RSt w4 (fun i => wx.heap.size ≤ i ∧ i < w3.heap.size) g l (fst3 l) from r4)
        have HS4 := Lib.hid (Same.more HS3.out s4 (fun i hi => by have := HWX.out; omega))
        have HB4 := Lib.hid (HB3.out.chg s4 (fun hi => by have := HBL.out; omega))
        have HZ4 := Lib.hid (fun i (hi : wx.heap.size ≤ i ∧ i < w3.heap.size) => Nat.lt_of_lt_of_le hi.2 s4.size)
        have HW34 := Lib.hid (show w.heap.size < w4.heap.size from Nat.lt_of_lt_of_le HBL.out (Nat.le_trans (Nat.le_of_eq rfl) (Nat.le_trans HX3.out s4.size)))
        clear r4 s4 HR3 HS3 HB3
        go_wp2_with fail
        refine (sysr_any _ HR4.out HBY.out HZ4.out).mono ?_
        rintro e w5 ⟨A5, n5, c5, B5, m5, d5, ds, es, rfl, y5, ⟨hn5, hm5⟩, r5, s5⟩
        obtain ⟨⟨ps, rs⟩, hps⟩ : ∃ p, p = rS l (fst3 l) := ⟨_, rfl⟩
        rw [← hps] at r5 y5
        have HPS := Lib.hid hps
        have HW5 := Lib.hid (show Wok ps by have h := rS_ok HBY.out (fst3 l); rw [← hps] at h; exact h)
        have s6 := (Same.refl w5).alloc (.cells #[.slice A5 n5 c5, .slice B5 m5 d5] 27)
        have HR6 := Lib.hid (show RSt _ (fun i => wx.heap.size ≤ i ∧ i < w3.heap.size) g l rs from Rd.same r5 s6)
        have HS6 := Lib.hid ((Same.more HS4.out s5 (fun i hi => by have := HWX.out; omega)).trans s6)
        have HB6 := Lib.hid ((HB4.out.chg s5 (fun hi => by have := HBL.out; omega)).same s6)
        have HD6 := Lib.hid (Blk.new w5 27 #[.slice A5 n5 c5, .slice B5 m5 d5])
        have HY6 := Lib.hid (y5.keep s6 (fun _ _ f => f))
        have HZ5 := Lib.hid (fun i (hi : wx.heap.size ≤ i ∧ i < w3.heap.size) => Nat.lt_of_lt_of_le (HZ4.out i hi) s5.size)
        clear hps r5 y5 s5 s6 HR4 HS4 HB4
        go_wp2_with fail
        refine (left_is _ HR6.out).mono ?_
        rintro e w7 ⟨rfl, s7⟩
        have HR7 := Lib.hid (show RSt w7 (fun i => wx.heap.size ≤ i ∧ i < w3.heap.size) g l rs from Rd.same HR6.out s7)
        have HS7 := Lib.hid (HS6.out.trans s7)
        have HB7 := Lib.hid (HB6.out.same s7)
        have HD7 := Lib.hid (HD6.out.same s7)
        have HY7 := Lib.hid (HY6.out.keep s7 (fun _ _ f => f))
        clear s7 HR6 HS6 HB6 HD6 HY6
        have hkl : rs.k ≤ l.length := Rd.fits HR7.out
        have HKL := Lib.hid hkl
        have hlf : 0 ≤ (if rs.bad = true then (0 : Int) else ((l.length - rs.k : Nat) : Int)) ∧ (if rs.bad = true then (0 : Int) else ((l.length - rs.k : Nat) : Int)) ≤ n := by have := HL.out; split <;> omega
        have HLF := Lib.hid (show rs.bad = false → (if rs.bad = true then (0 : Int) else ((l.length - rs.k : Nat) : Int)) = n - rs.k from fun h => by rw [h, if_neg (by decide)]; have := HL.out; omega)
        generalize (if rs.bad = true then (0 : Int) else ((l.length - rs.k : Nat) : Int)) = lf at *
        clear hkl
        have hx : IntKind.i64.wrap ((n : Int) - lf) = n - lf := Go.IntWalk.i64_in _ (by omega)
        go_wp2_with fail
        clear hx
        refine (u16r _ HR7.out HBY.out).mono ?_
        rintro e w8 ⟨rfl, r8, s8⟩
        obtain ⟨⟨z, r2⟩, hz⟩ : ∃ p, p = rU l 2 rs := ⟨_, rfl⟩
        rw [← hz] at r8 ⊢
        have HZ := Lib.hid hz
        have HR8 := Lib.hid r8
        have HS8 := Lib.hid (Same.more HS7.out s8 (fun i hi => by have := HWX.out; omega))
        have HB8 := Lib.hid (HB7.out.chg s8 (fun hi => by have := HBL.out; omega))
        have HD8 := Lib.hid (HD7.out.chg s8 (fun hi => by have := HZ5.out _ hi; omega))
        have HY8 := Lib.hid (HY7.out.keep s8 (fun i hi hS => by have := HZ4.out i hS; omega))
        have hzb := HBY.out
        have hz2 : 0 ≤ z ∧ z < 4294967296 := by have h1 := tld_bd HBY.out (n := 2) (by omega) rs; have h := congrArg Prod.fst HZ.out; simp only [rU] at h; omega
        clear hz r8 s8 HR7 HS7 HB7 HD7 HY7 hzb
        dsimp only
        go_wp2_with fail
        refine (err_any _ HR8.out).mono ?_
        rintro e w9 ⟨rfl, rfl⟩
        obtain ⟨k2, bad2⟩ := r2
        try simp only at HR8
        cases bad2 with
        | true =>
          obtain ⟨y0, y1⟩ := (⟨HB8.out.thaw 0, HB8.out.thaw 1⟩ : _ ∧ _)
          obtain ⟨z0, z1⟩ := (⟨HB8.out.cell 0, HB8.out.cell 1⟩ : _ ∧ _)
          simp only [List.getElem?_toArray, List.getElem?_cons_zero, List.getElem?_cons_succ] at z0 z1
          go_wp2_with fail
          obtain ⟨p1, p2⟩ := puts2 (v0 := .slice none 0 0) (v1 := .slice none 0 0) HB8.out
          refine bodyPost_ret (v := .tuple #[.agg #[.slice none 0 0, .slice none 0 0], .int .i64 (n), .int .i64 2]) (results_cell3 Try.results5 _ _ w.heap.size 27 #[.slice none 0 0, .slice none 0 0] (0, 0) _ rfl p1 Try.underlying27 rfl sys_size) rfl ?_
          exact decp_zero (by rw [dec_end HN65.out HN2.out HPS.out HZ.out rfl, HL.out]) (chg_new HS8.out p2 (Nat.le_refl _))
        | false =>
          obtain ⟨hg1, hg2, hg3⟩ := aft_good (l := l) (n := 2) (r := rs) (by have h := congrArg (fun p => p.2.bad) HZ.out; simp only [rU] at h; exact h.symm)
          have hk2 : k2 = rs.k + 2 := by have h := congrArg (fun p => p.2.k) HZ.out; simp only [rU] at h; omega
          have hlf2 : lf = n - rs.k := HLF.out hg1
          obtain ⟨b, o, hA⟩ : ∃ b o, A = some ⟨b, o, none⟩ := Row.addr HRW.out (by rw [by8_len]; omega)
          subst hA
          generalize hk : rs.k = k at *
          have HK := Lib.hid hk
          clear hk hlf HLF
          subst hlf2
          have e1 : (n : Int) - (n - k) = k := by omega
          have E1 := Lib.hid e1
          clear e1
          have f1 : (k : Int) ≤ c := by have := HL.out; omega
          have f2 : (0 : Int) ≤ k := by omega
          have HRK := Lib.hid (show Row w8 (some ⟨b, o, none⟩) (by8 (l.take k)) by rw [by8_take]; exact (HRW.out.same HS8.out).cut k)
          have f3 : IntKind.i64.wrap ((k : Int) + 2) = k + 2 := Go.IntWalk.i64_in _ (by have := HL.out; omega)
          have HLK := Lib.hid (show (l.take k).length = k by rw [List.length_take]; omega)
          have HBK := Lib.hid (show By (l.take k) from fun y hy => HBY.out y (List.mem_of_mem_take hy))
          rw [E1.out]
          go_wp2_with fail
          refine (sum_any _ k _ (l.take k) _ HLK.out (by have := HL.out; omega) HBK.out HRK.out).mono ?_
          rintro e w10 ⟨rfl, rfl⟩
          have HSB := Lib.hid (show sumB (l.take rs.k) = sumB (l.take k) by rw [HK.out])
          by_cases hsum : z = sumB (l.take k)
          · have HSM := Lib.hid (show z = sumB (l.take rs.k) by rw [HSB.out]; exact hsum)
            generalize sumB (l.take k) = sb at *
            subst hsum
            go_wp2_with fail
            refine (left_is _ HR8.out).mono ?_
            rintro e w11 ⟨rfl, s11⟩
            have HS11 := Lib.hid (HS8.out.trans s11)
            have HB11 := Lib.hid (HB8.out.same s11)
            have HD11 := Lib.hid (HD8.out.same s11)
            have HY11 := Lib.hid (HY8.out.keep s11 (fun _ _ f => f))
            clear s11 HS8 HB8 HD8 HY8 HR8
            rw [if_neg (by simp)]
            by_cases hmore : k2 < l.length
            · have g1 : ((l.length - k2 : Nat) : Int) > 0 := by omega
              generalize ((l.length - k2 : Nat) : Int) = lm at *
              have HMO := Lib.hid hmore
              clear hmore
              obtain ⟨y0, y1⟩ := (⟨HB11.out.thaw 0, HB11.out.thaw 1⟩ : _ ∧ _)
              obtain ⟨z0, z1⟩ := (⟨HB11.out.cell 0, HB11.out.cell 1⟩ : _ ∧ _)
              simp only [List.getElem?_toArray, List.getElem?_cons_zero, List.getElem?_cons_succ] at z0 z1
              go_wp2_with fail
              obtain ⟨p1, p2⟩ := puts2 (v0 := .slice none 0 0) (v1 := .slice none 0 0) HB11.out
              refine bodyPost_ret (v := .tuple #[.agg #[.slice none 0 0, .slice none 0 0], .int .i64 (k + 2), .int .i64 3]) (results_cell3 Try.results5 _ _ w.heap.size 27 #[.slice none 0 0, .slice none 0 0] (0, 0) _ rfl p1 Try.underlying27 rfl sys_size) rfl ?_
              exact decp_zero (by rw [dec_more HN65.out HN2.out HPS.out HZ.out rfl HSM.out HMO.out, HK.out]) (chg_new HS11.out p2 (Nat.le_refl _))
            · have g1 : ¬ ((l.length - k2 : Nat) : Int) > 0 := by omega
              generalize ((l.length - k2 : Nat) : Int) = lm at *
              have HMO := Lib.hid hmore
              clear hmore
              obtain ⟨q0, q1⟩ := (⟨HD11.out.cell 0, HD11.out.cell 1⟩ : _ ∧ _)
              simp only [List.getElem?_toArray, List.getElem?_cons_zero, List.getElem?_cons_succ] at q0 q1
              obtain ⟨y0, y1⟩ := (⟨HB11.out.thaw 0, HB11.out.thaw 1⟩ : _ ∧ _)
              obtain ⟨z0, z1⟩ := (⟨HB11.out.cell 0, HB11.out.cell 1⟩ : _ ∧ _)
              simp only [List.getElem?_toArray, List.getElem?_cons_zero, List.getElem?_cons_succ] at z0 z1
              go_wp2_with fail
              obtain ⟨p1, p2⟩ := puts2 (v0 := .slice A5 n5 c5) (v1 := .slice B5 m5 d5) HB11.out
              refine bodyPost_ret (v := .tuple #[.agg #[.slice A5 n5 c5, .slice B5 m5 d5], .int .i64 (0), .int .i64 0]) (results_cell3 Try.results5 _ _ w.heap.size 27 #[.slice A5 n5 c5, .slice B5 m5 d5] (0, 0) _ rfl p1 Try.underlying27 rfl sys_size) rfl ?_
              rw [dec_ok HN65.out HN2.out HPS.out HZ.out rfl HSM.out HMO.out]
              exact ⟨A5, n5, c5, B5, m5, d5, rfl, (HY11.out.keep p2 (fun i hi (he : i = w.heap.size) => by have := HBL.out; have := HZ4.out (w3.heap.size - 1); have h3 := HW34.out; omega)).at_ HW5.out, ⟨hn5, hm5⟩, chg_new HS11.out p2 (Nat.le_refl _)⟩
          · have HSM := Lib.hid (show z ≠ sumB (l.take rs.k) by rw [HSB.out]; exact hsum)
            generalize sumB (l.take k) = sb at *
            obtain ⟨y0, y1⟩ := (⟨HB8.out.thaw 0, HB8.out.thaw 1⟩ : _ ∧ _)
            obtain ⟨z0, z1⟩ := (⟨HB8.out.cell 0, HB8.out.cell 1⟩ : _ ∧ _)
            simp only [List.getElem?_toArray, List.getElem?_cons_zero, List.getElem?_cons_succ] at z0 z1
            go_wp2_with fail
            obtain ⟨p1, p2⟩ := puts2 (v0 := .slice none 0 0) (v1 := .slice none 0 0) HB8.out
            refine bodyPost_ret (v := .tuple #[.agg #[.slice none 0 0, .slice none 0 0], .int .i64 (k), .int .i64 4]) (results_cell3 Try.results5 _ _ w.heap.size 27 #[.slice none 0 0, .slice none 0 0] (0, 0) _ rfl p1 Try.underlying27 rfl sys_size) rfl ?_
            exact decp_zero (by rw [dec_sum HN65.out HN2.out HPS.out HZ.out rfl HSM.out, HK.out]) (chg_new HS8.out p2 (Nat.le_refl _))
      · have HPN := Lib.hid hp
        have hq : decide (l.take 3 = hd) = false := decide_eq_false hp
        rw [hq] at PF
        clear hq hp
        go_wp2_with fail
        rw [E2.out]
        refine PF.out.mono ?_
        rintro e wx' ⟨rfl, rfl⟩
        clear PF E1 E2 kc
        obtain ⟨y0, y1⟩ := (⟨HBX.out.thaw 0, HBX.out.thaw 1⟩ : _ ∧ _)
        obtain ⟨z0, z1⟩ := (⟨HBX.out.cell 0, HBX.out.cell 1⟩ : _ ∧ _)
        simp only [List.getElem?_toArray, List.getElem?_cons_zero, List.getElem?_cons_succ] at z0 z1
        go_wp2_with fail
        obtain ⟨p1, p2⟩ := puts2 (v0 := .slice none 0 0) (v1 := .slice none 0 0) HBX.out
        refine bodyPost_ret (v := .tuple #[.agg #[.slice none 0 0, .slice none 0 0], .int .i64 (0), .int .i64 4]) (results_cell3 Try.results5 _ _ w.heap.size 27 #[.slice none 0 0, .slice none 0 0] (0, 0) _ rfl p1 Try.underlying27 rfl sys_size) rfl ?_
        exact decp_zero (dec_head HN65.out (by have := HL.out; omega) HPN.out) (chg_new HSX.out p2 (Nat.le_refl _))
    · have HN2 := Lib.hid (show ¬ (3 ≤ l.length ∧ l.take 3 ≠ hd) from fun h => h3 (by have := HL.out; omega))
      have HSX := HS1
      have HBX := HB1
      clear HS1 HB1 E1 kc
      generalize w1 = wx at *
      go_wp2_with fail
      refine (new_any A n c l wx HL.out (by omega) (HRW.out.same HSX.out)).mono ?_
      rintro e w3 ⟨g, rfl, s3, r3⟩
      have HR3 := Lib.hid (show RSt w3 (fun i => wx.heap.size ≤ i ∧ i < w3.heap.size) g l ⟨0, false⟩ from r3.within)
      have HS3 := Lib.hid (HSX.out.trans s3)
      have HB3 := Lib.hid (HBX.out.same s3)
      have HWX := Lib.hid HSX.out.size
      have HBL := Lib.hid HBX.out.lt
      have HX3 := Lib.hid s3.size
      clear s3 r3 HSX HBX
      go_wp2_with fail
      refine (bytes_any 3 _ HR3.out).mono ?_
      rintro e w4 ⟨Ab, mb, cb, rfl, _, _, r4, s4⟩
      rw [aft_after (r := ⟨0, false⟩)] at r4
      have HR4 := Lib.hid (show RSt w4 (fun i => wx.heap.size ≤ i ∧ i < w3.heap.size) g l (fst3 l) from r4)
      have HS4 := Lib.hid (Same.more HS3.out s4 (fun i hi => by have := HWX.out; omega))
      have HB4 := Lib.hid (HB3.out.chg s4 (fun hi => by have := HBL.out; omega))
      have HZ4 := Lib.hid (fun i (hi : wx.heap.size ≤ i ∧ i < w3.heap.size) => Nat.lt_of_lt_of_le hi.2 s4.size)
      have HW34 := Lib.hid (show w.heap.size < w4.heap.size from Nat.lt_of_lt_of_le HBL.out (Nat.le_trans (Nat.le_of_eq rfl) (Nat.le_trans HX3.out s4.size)))
      clear r4 s4 HR3 HS3 HB3
      go_wp2_with fail
      refine (sysr_any _ HR4.out HBY.out HZ4.out).mono ?_
      rintro e w5 ⟨A5, n5, c5, B5, m5, d5, ds, es, rfl, y5, ⟨hn5, hm5⟩, r5, s5⟩
      obtain ⟨⟨ps, rs⟩, hps⟩ : ∃ p, p = rS l (fst3 l) := ⟨_, rfl⟩
      rw [← hps] at r5 y5
      have HPS := Lib.hid hps
      have HW5 := Lib.hid (show Wok ps by have h := rS_ok HBY.out (fst3 l); rw [← hps] at h; exact h)
      have s6 := (Same.refl w5).alloc (.cells #[.slice A5 n5 c5, .slice B5 m5 d5] 27)
      have HR6 := Lib.hid (show RSt _ (fun i => wx.heap.size ≤ i ∧ i < w3.heap.size) g l rs from Rd.same r5 s6)
      have HS6 := Lib.hid ((Same.more HS4.out s5 (fun i hi => by have := HWX.out; omega)).trans s6)
      have HB6 := Lib.hid ((HB4.out.chg s5 (fun hi => by have := HBL.out; omega)).same s6)
      have HD6 := Lib.hid (Blk.new w5 27 #[.slice A5 n5 c5, .slice B5 m5 d5])
      have HY6 := Lib.hid (y5.keep s6 (fun _ _ f => f))
      have HZ5 := Lib.hid (fun i (hi : wx.heap.size ≤ i ∧ i < w3.heap.size) => Nat.lt_of_lt_of_le (HZ4.out i hi) s5.size)
      clear hps r5 y5 s5 s6 HR4 HS4 HB4
      go_wp2_with fail
      refine (left_is _ HR6.out).mono ?_
      rintro e w7 ⟨rfl, s7⟩
      have HR7 := Lib.hid (show RSt w7 (fun i => wx.heap.size ≤ i ∧ i < w3.heap.size) g l rs from Rd.same HR6.out s7)
      have HS7 := Lib.hid (HS6.out.trans s7)
      have HB7 := Lib.hid (HB6.out.same s7)
      have HD7 := Lib.hid (HD6.out.same s7)
      have HY7 := Lib.hid (HY6.out.keep s7 (fun _ _ f => f))
      clear s7 HR6 HS6 HB6 HD6 HY6
      have hkl : rs.k ≤ l.length := Rd.fits HR7.out
      have HKL := Lib.hid hkl
      have hlf : 0 ≤ (if rs.bad = true then (0 : Int) else ((l.length - rs.k : Nat) : Int)) ∧ (if rs.bad = true then (0 : Int) else ((l.length - rs.k : Nat) : Int)) ≤ n := by have := HL.out; split <;> omega
      have HLF := Lib.hid (show rs.bad = false → (if rs.bad = true then (0 : Int) else ((l.length - rs.k : Nat) : Int)) = n - rs.k from fun h => by rw [h, if_neg (by decide)]; have := HL.out; omega)
      generalize (if rs.bad = true then (0 : Int) else ((l.length - rs.k : Nat) : Int)) = lf at *
      clear hkl
      have hx : IntKind.i64.wrap ((n : Int) - lf) = n - lf := Go.IntWalk.i64_in _ (by omega)
      go_wp2_with fail
      clear hx
      refine (u16r _ HR7.out HBY.out).mono ?_
      rintro e w8 ⟨rfl, r8, s8⟩
      obtain ⟨⟨z, r2⟩, hz⟩ : ∃ p, p = rU l 2 rs := ⟨_, rfl⟩
      rw [← hz] at r8 ⊢
      have HZ := Lib.hid hz
      have HR8 := Lib.hid r8
      have HS8 := Lib.hid (Same.more HS7.out s8 (fun i hi => by have := HWX.out; omega))
      have HB8 := Lib.hid (HB7.out.chg s8 (fun hi => by have := HBL.out; omega))
      have HD8 := Lib.hid (HD7.out.chg s8 (fun hi => by have := HZ5.out _ hi; omega))
      have HY8 := Lib.hid (HY7.out.keep s8 (fun i hi hS => by have := HZ4.out i hS; omega))
      have hzb := HBY.out
      have hz2 : 0 ≤ z ∧ z < 4294967296 := by have h1 := tld_bd HBY.out (n := 2) (by omega) rs; have h := congrArg Prod.fst HZ.out; simp only [rU] at h; omega
      clear hz r8 s8 HR7 HS7 HB7 HD7 HY7 hzb
      dsimp only
      go_wp2_with fail
      refine (err_any _ HR8.out).mono ?_
      rintro e w9 ⟨rfl, rfl⟩
      obtain ⟨k2, bad2⟩ := r2
      try simp only at HR8
      cases bad2 with
      | true =>
        obtain ⟨y0, y1⟩ := (⟨HB8.out.thaw 0, HB8.out.thaw 1⟩ : _ ∧ _)
        obtain ⟨z0, z1⟩ := (⟨HB8.out.cell 0, HB8.out.cell 1⟩ : _ ∧ _)
        simp only [List.getElem?_toArray, List.getElem?_cons_zero, List.getElem?_cons_succ] at z0 z1
        go_wp2_with fail
        obtain ⟨p1, p2⟩ := puts2 (v0 := .slice none 0 0) (v1 := .slice none 0 0) HB8.out
        refine bodyPost_ret (v := .tuple #[.agg #[.slice none 0 0, .slice none 0 0], .int .i64 (n), .int .i64 2]) (results_cell3 Try.results5 _ _ w.heap.size 27 #[.slice none 0 0, .slice none 0 0] (0, 0) _ rfl p1 Try.underlying27 rfl sys_size) rfl ?_
        exact decp_zero (by rw [dec_end HN65.out HN2.out HPS.out HZ.out rfl, HL.out]) (chg_new HS8.out p2 (Nat.le_refl _))
      | false =>
        obtain ⟨hg1, hg2, hg3⟩ := aft_good (l := l) (n := 2) (r := rs) (by have h := congrArg (fun p => p.2.bad) HZ.out; simp only [rU] at h; exact h.symm)
        have hk2 : k2 = rs.k + 2 := by have h := congrArg (fun p => p.2.k) HZ.out; simp only [rU] at h; omega
        have hlf2 : lf = n - rs.k := HLF.out hg1
        obtain ⟨b, o, hA⟩ : ∃ b o, A = some ⟨b, o, none⟩ := Row.addr HRW.out (by rw [by8_len]; omega)
        subst hA
        generalize hk : rs.k = k at *
        have HK := Lib.hid hk
        clear hk hlf HLF
        subst hlf2
        have e1 : (n : Int) - (n - k) = k := by omega
        have E1 := Lib.hid e1
        clear e1
        have f1 : (k : Int) ≤ c := by have := HL.out; omega
        have f2 : (0 : Int) ≤ k := by omega
        have HRK := Lib.hid (show Row w8 (some ⟨b, o, none⟩) (by8 (l.take k)) by rw [by8_take]; exact (HRW.out.same HS8.out).cut k)
        have f3 : IntKind.i64.wrap ((k : Int) + 2) = k + 2 := Go.IntWalk.i64_in _ (by have := HL.out; omega)
        have HLK := Lib.hid (show (l.take k).length = k by rw [List.length_take]; omega)
        have HBK := Lib.hid (show By (l.take k) from fun y hy => HBY.out y (List.mem_of_mem_take hy))
        rw [E1.out]
        go_wp2_with fail
        refine (sum_any _ k _ (l.take k) _ HLK.out (by have := HL.out; omega) HBK.out HRK.out).mono ?_
        rintro e w10 ⟨rfl, rfl⟩
        have HSB := Lib.hid (show sumB (l.take rs.k) = sumB (l.take k) by rw [HK.out])
        by_cases hsum : z = sumB (l.take k)
        · have HSM := Lib.hid (show z = sumB (l.take rs.k) by rw [HSB.out]; exact hsum)
          generalize sumB (l.take k) = sb at *
          subst hsum
          go_wp2_with fail
          refine (left_is _ HR8.out).mono ?_
          rintro e w11 ⟨rfl, s11⟩
          have HS11 := Lib.hid (HS8.out.trans s11)
          have HB11 := Lib.hid (HB8.out.same s11)
          have HD11 := Lib.hid (HD8.out.same s11)
          have HY11 := Lib.hid (HY8.out.keep s11 (fun _ _ f => f))
          clear s11 HS8 HB8 HD8 HY8 HR8
          rw [if_neg (by simp)]
          by_cases hmore : k2 < l.length
          · have g1 : ((l.length - k2 : Nat) : Int) > 0 := by omega
            generalize ((l.length - k2 : Nat) : Int) = lm at *
            have HMO := Lib.hid hmore
            clear hmore
            obtain ⟨y0, y1⟩ := (⟨HB11.out.thaw 0, HB11.out.thaw 1⟩ : _ ∧ _)
            obtain ⟨z0, z1⟩ := (⟨HB11.out.cell 0, HB11.out.cell 1⟩ : _ ∧ _)
            simp only [List.getElem?_toArray, List.getElem?_cons_zero, List.getElem?_cons_succ] at z0 z1
            go_wp2_with fail
            obtain ⟨p1, p2⟩ := puts2 (v0 := .slice none 0 0) (v1 := .slice none 0 0) HB11.out
            refine bodyPost_ret (v := .tuple #[.agg #[.slice none 0 0, .slice none 0 0], .int .i64 (k + 2), .int .i64 3]) (results_cell3 Try.results5 _ _ w.heap.size 27 #[.slice none 0 0, .slice none 0 0] (0, 0) _ rfl p1 Try.underlying27 rfl sys_size) rfl ?_
            exact decp_zero (by rw [dec_more HN65.out HN2.out HPS.out HZ.out rfl HSM.out HMO.out, HK.out]) (chg_new HS11.out p2 (Nat.le_refl _))
          · have g1 : ¬ ((l.length - k2 : Nat) : Int) > 0 := by omega
            generalize ((l.length - k2 : Nat) : Int) = lm at *
            have HMO := Lib.hid hmore
            clear hmore
            obtain ⟨q0, q1⟩ := (⟨HD11.out.cell 0, HD11.out.cell 1⟩ : _ ∧ _)
            simp only [List.getElem?_toArray, List.getElem?_cons_zero, List.getElem?_cons_succ] at q0 q1
            obtain ⟨y0, y1⟩ := (⟨HB11.out.thaw 0, HB11.out.thaw 1⟩ : _ ∧ _)
            obtain ⟨z0, z1⟩ := (⟨HB11.out.cell 0, HB11.out.cell 1⟩ : _ ∧ _)
            simp only [List.getElem?_toArray, List.getElem?_cons_zero, List.getElem?_cons_succ] at z0 z1
            go_wp2_with fail
            obtain ⟨p1, p2⟩ := puts2 (v0 := .slice A5 n5 c5) (v1 := .slice B5 m5 d5) HB11.out
            refine bodyPost_ret (v := .tuple #[.agg #[.slice A5 n5 c5, .slice B5 m5 d5], .int .i64 (0), .int .i64 0]) (results_cell3 Try.results5 _ _ w.heap.size 27 #[.slice A5 n5 c5, .slice B5 m5 d5] (0, 0) _ rfl p1 Try.underlying27 rfl sys_size) rfl ?_
            rw [dec_ok HN65.out HN2.out HPS.out HZ.out rfl HSM.out HMO.out]
            exact ⟨A5, n5, c5, B5, m5, d5, rfl, (HY11.out.keep p2 (fun i hi (he : i = w.heap.size) => by have := HBL.out; have := HZ4.out (w3.heap.size - 1); have h3 := HW34.out; omega)).at_ HW5.out, ⟨hn5, hm5⟩, chg_new HS11.out p2 (Nat.le_refl _)⟩
        · have HSM := Lib.hid (show z ≠ sumB (l.take rs.k) by rw [HSB.out]; exact hsum)
          generalize sumB (l.take k) = sb at *
          obtain ⟨y0, y1⟩ := (⟨HB8.out.thaw 0, HB8.out.thaw 1⟩ : _ ∧ _)
          obtain ⟨z0, z1⟩ := (⟨HB8.out.cell 0, HB8.out.cell 1⟩ : _ ∧ _)
          simp only [List.getElem?_toArray, List.getElem?_cons_zero, List.getElem?_cons_succ] at z0 z1
          go_wp2_with fail
          obtain ⟨p1, p2⟩ := puts2 (v0 := .slice none 0 0) (v1 := .slice none 0 0) HB8.out
          refine bodyPost_ret (v := .tuple #[.agg #[.slice none 0 0, .slice none 0 0], .int .i64 (k), .int .i64 4]) (results_cell3 Try.results5 _ _ w.heap.size 27 #[.slice none 0 0, .slice none 0 0] (0, 0) _ rfl p1 Try.underlying27 rfl sys_size) rfl ?_
          exact decp_zero (by rw [dec_sum HN65.out HN2.out HPS.out HZ.out rfl HSM.out, HK.out]) (chg_new HS8.out p2 (Nat.le_refl _))
end Go.Proofs.Ytfpefkpbiioofab.Im
