/-
  Layer 33: one byte of an image changed tells an error, or another system (ImageOne).
-/
import Derived.Test.YtmbhbbndfmdhfaaImgLaw0
import Derived.Test.YtmbhbbndfmdhfaaImgSysEq
import Derived.Test.YtmbhbbndfmdhfaaImgCap
set_option linter.unusedVariables false
set_option linter.unusedSimpArgs false
namespace Go.Proofs.Ytmbhbbndfmdhfaa.Im
open Go.ChangeShapes Go.WideShapes Go.ChangeAt Go.RowKit Ws Cd

set_option maxRecDepth 100000 in
set_option maxHeartbeats 8000000 in
theorem imageone_any (A B : Option Addr) (n c m d : Nat) (s : PS) (at_ ch : Int) (hch : 0 ≤ ch ∧ ch ≤ 255) (w : World) (hs : SysAt w A n B m s) (hnm : n ≤ maxLen ∧ m ≤ maxLen) :
    Calls Try.prog 7 #[.agg #[.slice A n c, .slice B m d], .int .i64 at_, .int .u8 ch] w fun e w' => e = .returned (.bool true) ∧ Same w w' := by
  have HSY := Lib.hid hs
  have HNM := Lib.hid hnm
  have hs1 := (Same.refl w).alloc (.cells #[.slice A n c, .slice B m d] 25)
  have HS1 := Lib.hid hs1
  have HB1 := Lib.hid (Blk.new w 25 #[.slice A n c, .slice B m d])
  clear hs hnm hs1
  generalize hw1 : w.alloc (.cells #[.slice A n c, .slice B m d] 25) = w1 at *
  have HW1 := Lib.hid hw1
  clear hw1
  go_enter Try.func7, Try.ntmps7
  go_upto_region 1 with fail
  rw [HW1.out]
  obtain ⟨q0, q1⟩ : w1.cell? ⟨w.heap.size, 0, none⟩ = some (.slice A n c) ∧ w1.cell? ⟨w.heap.size, 1, none⟩ = some (.slice B m d) := ⟨HB1.out.cell 0, HB1.out.cell 1⟩
  go_wp2_with fail
  refine (few31 A B n c m d s 60 _ (HSY.out.same HS1.out) HNM.out).mono ?_
  rintro e w2 ⟨⟨b, rfl⟩, s2⟩
  have HS2 := Lib.hid (HS1.out.trans s2)
  have HB2 := Lib.hid (HB1.out.same s2)
  clear s2 q0 q1 HS1 HB1
  cases b with
  | false =>
    go_wp2_with fail
    refine (awake33 _).mono ?_
    rintro e wz ⟨rfl, sz⟩
    go_wp2_with fail
    go_ret
    exact ⟨rfl, HS2.out.trans sz⟩
  | true =>
    obtain ⟨q0, q1⟩ : w2.cell? ⟨w.heap.size, 0, none⟩ = some (.slice A n c) ∧ w2.cell? ⟨w.heap.size, 1, none⟩ = some (.slice B m d) := ⟨HB2.out.cell 0, HB2.out.cell 1⟩
    go_wp2_with fail
    refine (encode_any A B n c m d s _ (HSY.out.same HS2.out) HNM.out).mono ?_
    rintro e w3 hp3
    obtain ⟨im, him⟩ : ∃ i, i = img s := ⟨_, rfl⟩
    rw [← him] at hp3
    cases im with
    | none =>
      obtain ⟨rfl, s3⟩ := hp3
      have HS3 := Lib.hid (HS2.out.trans s3)
      clear him s3 q0 q1 HS2
      go_wp2_with fail
      refine (awake33 _).mono ?_
      rintro e wz ⟨rfl, sz⟩
      go_wp2_with fail
      go_ret
      exact ⟨rfl, HS3.out.trans sz⟩
    | some x =>
      obtain ⟨A3, c3, rfl, o3, s3⟩ := hp3
      have HS3 := Lib.hid (HS2.out.trans s3)
      have HB3 := Lib.hid (HB2.out.same s3)
      have HX := Lib.hid him.symm
      have HO3 := Lib.hid o3
      have H23 := Lib.hid (HS2.out.size)
      clear him s3 q0 q1 HS2 HB2 o3
      by_cases ha : at_ < 0
      · go_wp2_with fail
        refine (awake33 _).mono ?_
        rintro e wz ⟨rfl, sz⟩
        go_wp2_with fail
        go_ret
        exact ⟨rfl, HS3.out.trans sz⟩
      by_cases hlen : at_ ≥ (x.length : Int)
      · go_wp2_with fail
        refine (awake33 _).mono ?_
        rintro e wz ⟨rfl, sz⟩
        go_wp2_with fail
        go_ret
        exact ⟨rfl, HS3.out.trans sz⟩
      obtain ⟨k, rfl⟩ : ∃ k : Nat, at_ = k := ⟨at_.toNat, by omega⟩
      have hkx : k < x.length := by omega
      obtain ⟨g, rfl, hg1, hg2, hfr⟩ := HO3.out.thaw (by rw [by8_len]; omega)
      obtain ⟨y, hy⟩ : ∃ y, x[k]? = some y := ⟨_, List.getElem?_eq_getElem hkx⟩
      obtain ⟨b, o, hA, hc⟩ := HO3.out.row k (.int .u8 y) (by unfold by8; rw [List.getElem?_map, hy]; rfl)
      injection hA with hA
      injection hA with hA hB
      subst hA hB
      rw [Nat.zero_add] at hc
      have hf := hfr k
      have hk0 : (0 : Int) ≤ k := by omega
      have hkl : (k : Int) < x.length := by omega
      by_cases hyc : y = ch
      · have e0 : (y == ch) = true := by simpa using hyc
        clear hyc
        go_wp2_with fail
        refine (awake33 _).mono ?_
        rintro e wz ⟨rfl, sz⟩
        go_wp2_with fail
        go_ret
        exact ⟨rfl, HS3.out.trans sz⟩
      have e0 : (y == ch) = false := by simpa using hyc
      have HNE := Lib.hid (show ¬ x = x.set k ch from fun h => hyc (by have h2 := congrArg (fun l => l[k]?) h; simp only [List.getElem?_set_self hkx, hy] at h2; injection h2))
      clear hyc
      have o4 := HO3.out.put k (.int .u8 ch)
      rw [show (by8 x).set k (.int .u8 ch) = by8 (x.set k ch) by unfold by8; rw [List.map_set]] at o4
      have hby4 : By (x.set k ch) := fun z hz => by
        rcases List.mem_or_eq_of_mem_set hz with h | h
        · exact img_byt HX.out z h
        · rw [h]; exact hch
      have HBY4 := Lib.hid hby4
      have HXL := Lib.hid (show (x.set k ch).length = x.length by rw [List.length_set])
      have hch4 : Chg (fun i => i = g) w3 (w3.setCell ⟨g, k, none⟩ (.int .u8 ch)) := (Chg.refl (fun i => i = g) w3).set (p := ⟨g, k, none⟩) (.inl rfl) _
      have HS4 := Lib.hid (chg_new HS3.out hch4 (by have := H23.out; omega))
      have HB4 := Lib.hid (HB3.out.chg hch4 (fun h => by have h2 := HB3.out; have := HO3.out.ne HB3.out (by decide) g rfl; omega))
      have HO4 := Lib.hid o4
      clear o4 hby4 hch4 HB3 HO3 hy
      go_wp2_with fail
      have hcap := own_cap HO4.out
      rw [by8_len, HXL.out] at hcap
      refine (decode_any (some ⟨g, 0, none⟩) x.length c3 (x.set k ch) _ HXL.out hcap HBY4.out HO4.out.row).mono ?_
      rintro e w5 ⟨A5, n5, c5, B5, m5, d5, rfl, y5, hb5, s5⟩
      have s6 := (Same.refl w5).alloc (.cells #[.slice A5 n5 c5, .slice B5 m5 d5] 25)
      have HY6 := Lib.hid (y5.same s6)
      have HS6 := Lib.hid ((HS4.out.trans s5).trans s6)
      have HB6 := Lib.hid ((HB4.out.same s5).same s6)
      have HD6 := Lib.hid (Blk.new w5 25 #[.slice A5 n5 c5, .slice B5 m5 d5])
      clear y5 s5 s6 HS4 HB4 HO4 hc hf hfr HS3
      have HDI := Lib.hid (fun hz : (dec (x.set k ch)).2.2 = 0 => img_dec HBY4.out hz)
      generalize (dec (x.set k ch)).2.2 = er at *
      generalize (dec (x.set k ch)).2.1 = ax at *
      generalize (dec (x.set k ch)).1 = ps at *
      obtain ⟨q0, q1⟩ := (⟨HB6.out.cell 0, HB6.out.cell 1⟩ : _ ∧ _)
      obtain ⟨z0, z1⟩ := (⟨HD6.out.cell 0, HD6.out.cell 1⟩ : _ ∧ _)
      simp only [List.getElem?_toArray, List.getElem?_cons_zero, List.getElem?_cons_succ] at q0 q1 z0 z1
      by_cases her : er = 0
      · have HPS := Lib.hid (show false = decide (ps = s) by
          symm
          rw [decide_eq_false_iff_not]
          intro h
          have h2 := HDI.out her
          rw [h, HX.out] at h2
          exact HNE.out (Option.some.inj h2))
        subst her
        go_wp2_with fail
        refine (systems_eq A5 B5 A B n5 c5 m5 d5 n c m d ps s _ HY6.out (HSY.out.same HS6.out) ⟨by unfold maxLen; omega, by unfold maxLen; omega⟩ false HPS.out).mono ?_
        rintro e w7 ⟨rfl, s7⟩
        have HS7 := Lib.hid (HS6.out.trans s7)
        clear s7 q0 q1 z0 z1
        go_wp2_with fail
        refine (awake33 _).mono ?_
        rintro e wz ⟨rfl, sz⟩
        go_wp2_with fail
        go_ret
        exact ⟨rfl, HS7.out.trans sz⟩
      · have e1 := int_ne her
        clear her
        go_wp2_with fail
        refine (awake33 _).mono ?_
        rintro e wz ⟨rfl, sz⟩
        go_wp2_with fail
        go_ret
        exact ⟨rfl, HS6.out.trans sz⟩
end Go.Proofs.Ytmbhbbndfmdhfaa.Im
