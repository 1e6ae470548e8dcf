/-
  Layer 33: any system that has an image comes back from it, and bytes that are decoded are encoded so (ImageBack).
-/
import Derived.Test.YtmbhbbndfmdhfaaImgLaw0
import Derived.Test.YtmbhbbndfmdhfaaImgSysEq
import Derived.Test.YtmbhbbndfmdhfaaImgCap
set_option linter.unusedVariables false
set_option linter.unusedSimpArgs false
namespace Go.Proofs.Ytmbhbbndfmdhfaa.Im
open Go.ChangeShapes Go.WideShapes Go.ChangeAt Go.RowKit Ws Cd

set_option maxRecDepth 100000 in
set_option maxHeartbeats 8000000 in
theorem imageback_any (A B : Option Addr) (n c m d : Nat) (s : PS) (C : Option Addr) (p cp : Nat) (l : List Int) (hl : l.length = p) (hcp : p ≤ cp ∧ cp ≤ 9223372036854775807) (hby : By l) (w : World) (hrw : Row w C (by8 l)) (hs : SysAt w A n B m s) (hnm : n ≤ maxLen ∧ m ≤ maxLen) :
    Calls Try.prog 6 #[.agg #[.slice A n c, .slice B m d], .slice C p cp] w fun e w' => e = .returned (.bool true) ∧ Same w w' := by
  have HSY := Lib.hid hs
  have HL := Lib.hid hl
  have HCP := Lib.hid hcp
  have HBY := Lib.hid hby
  have HRW := Lib.hid hrw
  clear hl hcp hby hrw
  have HNM := Lib.hid hnm
  have hs1 := (Same.refl w).alloc (.cells #[.slice A n c, .slice B m d] 25)
  have HS1 := Lib.hid hs1
  have HB1 := Lib.hid (Blk.new w 25 #[.slice A n c, .slice B m d])
  clear hs hnm hs1
  generalize hw1 : w.alloc (.cells #[.slice A n c, .slice B m d] 25) = w1 at *
  have HW1 := Lib.hid hw1
  clear hw1
  go_enter Try.func6, Try.ntmps6
  go_upto_region 1 with fail
  rw [HW1.out]
  obtain ⟨q0, q1⟩ : w1.cell? ⟨w.heap.size, 0, none⟩ = some (.slice A n c) ∧ w1.cell? ⟨w.heap.size, 1, none⟩ = some (.slice B m d) := ⟨HB1.out.cell 0, HB1.out.cell 1⟩
  go_wp2_with fail
  refine (few31 A B n c m d s 60 _ (HSY.out.same HS1.out) HNM.out).mono ?_
  rintro e w2 ⟨⟨b, rfl⟩, s2⟩
  have HS2 := Lib.hid (HS1.out.trans s2)
  have HB2 := Lib.hid (HB1.out.same s2)
  clear s2 q0 q1 HS1 HB1
  cases b with
  | false =>
    go_wp2_with fail
    refine (awake33 _).mono ?_
    rintro e wz ⟨rfl, sz⟩
    go_wp2_with fail
    go_ret
    exact ⟨rfl, HS2.out.trans sz⟩
  | true =>
    by_cases hp : (p : Int) > 3000
    · go_wp2_with fail
      refine (awake33 _).mono ?_
      rintro e wz ⟨rfl, sz⟩
      go_wp2_with fail
      go_ret
      exact ⟨rfl, HS2.out.trans sz⟩
    obtain ⟨q0, q1⟩ : w2.cell? ⟨w.heap.size, 0, none⟩ = some (.slice A n c) ∧ w2.cell? ⟨w.heap.size, 1, none⟩ = some (.slice B m d) := ⟨HB2.out.cell 0, HB2.out.cell 1⟩
    go_wp2_with fail
    refine (encode_any A B n c m d s _ (HSY.out.same HS2.out) HNM.out).mono ?_
    rintro e w3 hp3
    obtain ⟨im, him⟩ : ∃ i, i = img s := ⟨_, rfl⟩
    rw [← him] at hp3
    cases im with
    | none =>
      obtain ⟨rfl, s3⟩ := hp3
      have HS3 := Lib.hid (HS2.out.trans s3)
      clear him s3 q0 q1 HS2
      go_wp2_with fail
      refine (decode_any none 0 0 [] _ rfl ⟨by omega, by omega⟩ (fun y h => by cases h) (Row.nil _ _)).mono ?_
      rintro e w3b ⟨A4, n4, c4, B4, m4, d4, rfl, _, _, s4⟩
      generalize (dec []).2.2 = er0 at *
      generalize (dec []).2.1 = at0 at *
      have HS4 := Lib.hid ((HS3.out.trans s4).alloc (.cells #[.slice A4 n4 c4, .slice B4 m4 d4] 25))
      clear s4 HS3 HB2
      go_wp2_with fail
      refine (decode_any C p cp l _ HL.out HCP.out HBY.out (HRW.out.same HS4.out)).mono ?_
      rintro e w5 ⟨A5, n5, c5, B5, m5, d5, rfl, y5, hb5, s5⟩
      rcases dec_cases l with ⟨hne, hz⟩ | ⟨_, _, _, _, _, hok⟩
      · have e1 := int_ne hne
        have e2 : ((dec l).2.2 == 0) = false := by simpa using hne
        rw [hz] at y5
        clear hne hz
        generalize (dec l).2.2 = er at *
        generalize (dec l).2.1 = at_ at *
        have HY5 := Lib.hid y5
        have HS5 := Lib.hid (HS4.out.trans s5)
        have s6 := (Same.refl w5).alloc (.cells #[.slice A5 n5 c5, .slice B5 m5 d5] 25)
        have HD6 := Lib.hid (Blk.new w5 25 #[.slice A5 n5 c5, .slice B5 m5 d5])
        have HY6 := Lib.hid (y5.same s6)
        have HS6 := Lib.hid (HS5.out.trans s6)
        clear y5 s5 s6 HY5 HS5 HS4
        obtain ⟨q0, q1⟩ := (⟨HD6.out.cell 0, HD6.out.cell 1⟩ : _ ∧ _)
        simp only [List.getElem?_toArray, List.getElem?_cons_zero, List.getElem?_cons_succ] at q0 q1
        go_wp2_with fail
        refine (encode_any A5 B5 n5 c5 m5 d5 ⟨[], []⟩ _ HY6.out ⟨by unfold maxLen; omega, by unfold maxLen; omega⟩).mono ?_
        rintro e w7 hp
        rw [img_ex] at hp
        obtain ⟨A7, c7, rfl, o7, s7⟩ := hp
        have HS7 := Lib.hid (HS6.out.trans s7)
        have HY7 := Lib.hid (HY6.out.same s7)
        have HD7 := Lib.hid (HD6.out.same s7)
        clear s7 o7 q0 q1 HS6 HY6 HD6
        obtain ⟨q0, q1⟩ := (⟨HD7.out.cell 0, HD7.out.cell 1⟩ : _ ∧ _)
        simp only [List.getElem?_toArray, List.getElem?_cons_zero, List.getElem?_cons_succ] at q0 q1
        go_wp2_with fail
        refine (systems_eq A5 B5 none none n5 c5 m5 d5 0 0 0 0 ⟨[], []⟩ ⟨[], []⟩ _ HY7.out (sys_zero _) ⟨by unfold maxLen; omega, by unfold maxLen; omega⟩ true (by simp)).mono ?_
        rintro e w8 ⟨rfl, s8⟩
        have HS8 := Lib.hid (HS7.out.trans s8)
        clear s8 q0 q1
        go_wp2_with fail
        refine (awake33 _).mono ?_
        rintro e wz ⟨rfl, sz⟩
        go_wp2_with fail
        go_ret
        exact ⟨rfl, HS8.out.trans sz⟩
      · have hz : (dec l).2.2 = 0 := by rw [hok]
        have HI := Lib.hid (img_dec HBY.out hz)
        have HW := Lib.hid (show Wok (dec l).1 by rw [hok]; exact rS_ok HBY.out _)
        rw [hz]
        clear hz hok
        generalize (dec l).2.1 = at_ at *
        generalize (dec l).1 = ps at *
        have s6 := (Same.refl w5).alloc (.cells #[.slice A5 n5 c5, .slice B5 m5 d5] 25)
        have HD6 := Lib.hid (Blk.new w5 25 #[.slice A5 n5 c5, .slice B5 m5 d5])
        have HY6 := Lib.hid (y5.same s6)
        have HS6 := Lib.hid ((HS4.out.trans s5).trans s6)
        clear y5 s5 s6 HS4
        obtain ⟨q0, q1⟩ := (⟨HD6.out.cell 0, HD6.out.cell 1⟩ : _ ∧ _)
        simp only [List.getElem?_toArray, List.getElem?_cons_zero, List.getElem?_cons_succ] at q0 q1
        go_wp2_with fail
        refine (encode_any A5 B5 n5 c5 m5 d5 ps _ HY6.out ⟨by unfold maxLen; omega, by unfold maxLen; omega⟩).mono ?_
        rintro e w7 hp
        rw [HI.out] at hp
        obtain ⟨A7, c7, rfl, o7, s7⟩ := hp
        rw [HL.out]
        have HS7 := Lib.hid (HS6.out.trans s7)
        have HO7 := Lib.hid o7
        clear s7 o7 q0 q1 HS6 HY6 HD6
        go_wp2_with fail
        refine (bytes_eq A7 C p p c7 cp l l _ HL.out HL.out HO7.out.row (HRW.out.same HS7.out) HBY.out HBY.out).mono ?_
        rintro e w8 ⟨rfl, rfl⟩
        rw [decide_eq_true (rfl : l = l)]
        go_wp2_with fail
        refine (awake33 _).mono ?_
        rintro e wz ⟨rfl, sz⟩
        go_wp2_with fail
        go_ret
        exact ⟨rfl, HS7.out.trans sz⟩
    | some x =>
      obtain ⟨A3, c3, rfl, o3, s3⟩ := hp3
      have HS3 := Lib.hid (HS2.out.trans s3)
      have HB3 := Lib.hid (HB2.out.same s3)
      have HX := Lib.hid him.symm
      have hcap := own_cap o3
      rw [by8_len] at hcap
      have hbx := img_byt HX.out
      have hrx := o3.row
      clear him s3 q0 q1 HS2 HB2 o3
      go_wp2_with fail
      refine (decode_any A3 x.length c3 x _ rfl hcap hbx hrx).mono ?_
      rintro e w3b ⟨A4, n4, c4, B4, m4, d4, rfl, y4, hb4, s4⟩
      rw [dec_img HX.out] at y4 ⊢
      have s5 := (Same.refl w3b).alloc (.cells #[.slice A4 n4 c4, .slice B4 m4 d4] 25)
      have HY4 := Lib.hid (y4.same s5)
      have HS4 := Lib.hid ((HS3.out.trans s4).trans s5)
      have HB4 := Lib.hid ((HB3.out.same s4).same s5)
      have HD4 := Lib.hid (Blk.new w3b 25 #[.slice A4 n4 c4, .slice B4 m4 d4])
      clear y4 s4 s5 hrx hbx HS3 HB3 HX
      dsimp only
      obtain ⟨q0, q1⟩ := (⟨HB4.out.cell 0, HB4.out.cell 1⟩ : _ ∧ _)
      obtain ⟨z0, z1⟩ := (⟨HD4.out.cell 0, HD4.out.cell 1⟩ : _ ∧ _)
      simp only [List.getElem?_toArray, List.getElem?_cons_zero, List.getElem?_cons_succ] at q0 q1 z0 z1
      go_wp2_with fail
      refine (systems_eq A4 B4 A B n4 c4 m4 d4 n c m d s s _ HY4.out (HSY.out.same HS4.out) ⟨by unfold maxLen; omega, by unfold maxLen; omega⟩ true (by simp)).mono ?_
      rintro e w4b ⟨rfl, s5⟩
      have HS5 := Lib.hid (HS4.out.trans s5)
      clear s5 q0 q1 z0 z1 HS4 HY4 HB4 HD4
      have HS4 := HS5
      clear HS5
      go_wp2_with fail
      refine (decode_any C p cp l _ HL.out HCP.out HBY.out (HRW.out.same HS4.out)).mono ?_
      rintro e w5 ⟨A5, n5, c5, B5, m5, d5, rfl, y5, hb5, s5⟩
      rcases dec_cases l with ⟨hne, hz⟩ | ⟨_, _, _, _, _, hok⟩
      · have e1 := int_ne hne
        have e2 : ((dec l).2.2 == 0) = false := by simpa using hne
        rw [hz] at y5
        clear hne hz
        generalize (dec l).2.2 = er at *
        generalize (dec l).2.1 = at_ at *
        have HY5 := Lib.hid y5
        have HS5 := Lib.hid (HS4.out.trans s5)
        have s6 := (Same.refl w5).alloc (.cells #[.slice A5 n5 c5, .slice B5 m5 d5] 25)
        have HD6 := Lib.hid (Blk.new w5 25 #[.slice A5 n5 c5, .slice B5 m5 d5])
        have HY6 := Lib.hid (y5.same s6)
        have HS6 := Lib.hid (HS5.out.trans s6)
        clear y5 s5 s6 HY5 HS5 HS4
        obtain ⟨q0, q1⟩ := (⟨HD6.out.cell 0, HD6.out.cell 1⟩ : _ ∧ _)
        simp only [List.getElem?_toArray, List.getElem?_cons_zero, List.getElem?_cons_succ] at q0 q1
        go_wp2_with fail
        refine (encode_any A5 B5 n5 c5 m5 d5 ⟨[], []⟩ _ HY6.out ⟨by unfold maxLen; omega, by unfold maxLen; omega⟩).mono ?_
        rintro e w7 hp
        rw [img_ex] at hp
        obtain ⟨A7, c7, rfl, o7, s7⟩ := hp
        have HS7 := Lib.hid (HS6.out.trans s7)
        have HY7 := Lib.hid (HY6.out.same s7)
        have HD7 := Lib.hid (HD6.out.same s7)
        clear s7 o7 q0 q1 HS6 HY6 HD6
        obtain ⟨q0, q1⟩ := (⟨HD7.out.cell 0, HD7.out.cell 1⟩ : _ ∧ _)
        simp only [List.getElem?_toArray, List.getElem?_cons_zero, List.getElem?_cons_succ] at q0 q1
        go_wp2_with fail
        refine (systems_eq A5 B5 none none n5 c5 m5 d5 0 0 0 0 ⟨[], []⟩ ⟨[], []⟩ _ HY7.out (sys_zero _) ⟨by unfold maxLen; omega, by unfold maxLen; omega⟩ true (by simp)).mono ?_
        rintro e w8 ⟨rfl, s8⟩
        have HS8 := Lib.hid (HS7.out.trans s8)
        clear s8 q0 q1
        go_wp2_with fail
        refine (awake33 _).mono ?_
        rintro e wz ⟨rfl, sz⟩
        go_wp2_with fail
        go_ret
        exact ⟨rfl, HS8.out.trans sz⟩
      · have hz : (dec l).2.2 = 0 := by rw [hok]
        have HI := Lib.hid (img_dec HBY.out hz)
        have HW := Lib.hid (show Wok (dec l).1 by rw [hok]; exact rS_ok HBY.out _)
        rw [hz]
        clear hz hok
        generalize (dec l).2.1 = at_ at *
        generalize (dec l).1 = ps at *
        have s6 := (Same.refl w5).alloc (.cells #[.slice A5 n5 c5, .slice B5 m5 d5] 25)
        have HD6 := Lib.hid (Blk.new w5 25 #[.slice A5 n5 c5, .slice B5 m5 d5])
        have HY6 := Lib.hid (y5.same s6)
        have HS6 := Lib.hid ((HS4.out.trans s5).trans s6)
        clear y5 s5 s6 HS4
        obtain ⟨q0, q1⟩ := (⟨HD6.out.cell 0, HD6.out.cell 1⟩ : _ ∧ _)
        simp only [List.getElem?_toArray, List.getElem?_cons_zero, List.getElem?_cons_succ] at q0 q1
        go_wp2_with fail
        refine (encode_any A5 B5 n5 c5 m5 d5 ps _ HY6.out ⟨by unfold maxLen; omega, by unfold maxLen; omega⟩).mono ?_
        rintro e w7 hp
        rw [HI.out] at hp
        obtain ⟨A7, c7, rfl, o7, s7⟩ := hp
        rw [HL.out]
        have HS7 := Lib.hid (HS6.out.trans s7)
        have HO7 := Lib.hid o7
        clear s7 o7 q0 q1 HS6 HY6 HD6
        go_wp2_with fail
        refine (bytes_eq A7 C p p c7 cp l l _ HL.out HL.out HO7.out.row (HRW.out.same HS7.out) HBY.out HBY.out).mono ?_
        rintro e w8 ⟨rfl, rfl⟩
        rw [decide_eq_true (rfl : l = l)]
        go_wp2_with fail
        refine (awake33 _).mono ?_
        rintro e wz ⟨rfl, sz⟩
        go_wp2_with fail
        go_ret
        exact ⟨rfl, HS7.out.trans sz⟩
end Go.Proofs.Ytmbhbbndfmdhfaa.Im
