/-
  Layer 33: any system has the image that the document says, or none (ImageEncodes).
-/
import Derived.Test.YtmbhbbndfmdhfaaImgLaw0
import Derived.Test.YtmbhbbndfmdhfaaImgCap
import Derived.Test.YtmbhbbndfmdhfaaImgRefEnc
set_option linter.unusedVariables false
set_option linter.unusedSimpArgs false
namespace Go.Proofs.Ytmbhbbndfmdhfaa.Im
open Go.ChangeShapes Go.WideShapes Go.ChangeAt Go.RowKit Ws Cd

set_option maxRecDepth 100000 in
theorem fits_any (A B : Option Addr) (n c m d : Nat) (s : PS) (w : World) (hs : SysAt w A n B m s) (hnm : n ≤ maxLen ∧ m ≤ maxLen) (q : Bool) (hq : q = (img s).isSome) :
    Calls Try.prog 21 #[.agg #[.slice A n c, .slice B m d]] w fun e w' => e = .returned (.bool q) ∧ Same w w' := by
  have hs1 := (Same.refl w).alloc (.cells #[.slice A n c, .slice B m d] 25)
  have HS1 := Lib.hid hs1
  have HQ := Lib.hid hq
  have EN := Lib.hid (encode_any A B n c m d s _ (hs.same hs1) hnm)
  obtain ⟨q0, q1⟩ : (w.alloc (.cells #[.slice A n c, .slice B m d] 25)).cell? ⟨w.heap.size, 0, none⟩ = some (.slice A n c) ∧ (w.alloc (.cells #[.slice A n c, .slice B m d] 25)).cell? ⟨w.heap.size, 1, none⟩ = some (.slice B m d) := ⟨(Blk.new w 25 #[.slice A n c, .slice B m d]).cell 0, (Blk.new w 25 #[.slice A n c, .slice B m d]).cell 1⟩
  clear hs1 hq hs hnm
  go_enter Try.func21, Try.ntmps21
  go_wp2_with fail
  refine EN.out.mono ?_
  rintro e w2 hp
  obtain ⟨im, him⟩ : ∃ i, i = img s := ⟨_, rfl⟩
  rw [← him] at hp
  have HQ2 := Lib.hid (show q = im.isSome by rw [HQ.out, him])
  cases im with
  | none =>
    obtain ⟨rfl, s2⟩ := hp
    obtain rfl : q = false := HQ2.out
    clear him q0 q1
    go_wp2_with fail
    go_ret
    exact ⟨rfl, HS1.out.trans s2⟩
  | some x =>
    obtain ⟨A2, c2, rfl, _, s2⟩ := hp
    obtain rfl : q = true := HQ2.out
    clear him q0 q1
    go_wp2_with fail
    go_ret
    exact ⟨rfl, HS1.out.trans s2⟩
theorem img_short {s : PS} {x : List Int} (h : img s = some x) : x.length ≤ 65536 := by
  obtain ⟨rfl, _, h2⟩ := img_some h
  rw [List.length_append, lo_len]
  exact h2
set_option maxRecDepth 100000 in
set_option maxHeartbeats 8000000 in
theorem imageencodes_any (A B : Option Addr) (n c m d : Nat) (s : PS) (w : World) (hs : SysAt w A n B m s) (hnm : n ≤ maxLen ∧ m ≤ maxLen) :
    Calls Try.prog 4 #[.agg #[.slice A n c, .slice B m d]] w fun e w' => e = .returned (.bool true) ∧ Same w w' := by
  have HSY := Lib.hid hs
  have HNM := Lib.hid hnm
  have hs1 := (Same.refl w).alloc (.cells #[.slice A n c, .slice B m d] 25)
  have HS1 := Lib.hid hs1
  have HB1 := Lib.hid (Blk.new w 25 #[.slice A n c, .slice B m d])
  clear hs hnm hs1
  generalize hw1 : w.alloc (.cells #[.slice A n c, .slice B m d] 25) = w1 at *
  have HW1 := Lib.hid hw1
  clear hw1
  go_enter Try.func4, Try.ntmps4
  go_upto_region 1 with fail
  rw [HW1.out]
  obtain ⟨q0, q1⟩ : w1.cell? ⟨w.heap.size, 0, none⟩ = some (.slice A n c) ∧ w1.cell? ⟨w.heap.size, 1, none⟩ = some (.slice B m d) := ⟨HB1.out.cell 0, HB1.out.cell 1⟩
  go_wp2_with fail
  refine (few31 A B n c m d s 300 _ (HSY.out.same HS1.out) HNM.out).mono ?_
  rintro e w2 ⟨⟨b, rfl⟩, s2⟩
  have HS2 := Lib.hid (HS1.out.trans s2)
  have HB2 := Lib.hid (HB1.out.same s2)
  clear s2 q0 q1 HS1 HB1
  cases b with
  | false =>
    go_wp2_with fail
    refine (awake33 _).mono ?_
    rintro e wz ⟨rfl, sz⟩
    go_wp2_with fail
    go_ret
    exact ⟨rfl, HS2.out.trans sz⟩
  | true =>
    obtain ⟨q0, q1⟩ : w2.cell? ⟨w.heap.size, 0, none⟩ = some (.slice A n c) ∧ w2.cell? ⟨w.heap.size, 1, none⟩ = some (.slice B m d) := ⟨HB2.out.cell 0, HB2.out.cell 1⟩
    have hnb := HNM.out.1
    unfold maxLen at hnb
    obtain ⟨SV, hSV⟩ : ∃ v : Array Value, v = #[.slice A n c, .slice B m d] := ⟨_, rfl⟩
    have HSV := Lib.hid hSV
    have HB2' := Lib.hid (show Blk w2 w.heap.size 25 SV by rw [hSV]; exact HB2.out)
    clear hSV HB2
    have HTN := Lib.hid HSY.out.hn
    have HTT := Lib.hid HSY.out.ht
    go_wp2_with fail
    clear q0 q1
    go_loopg [16] n (fun gk iv wx => ∃ k : Nat, k + gk = n ∧ iv = .int .i64 k ∧ Same w2 wx)
    case atStart => exact ⟨0, by omega, rfl, Same.refl _⟩
    case round =>
      obtain ⟨k, hk, rfl, sx⟩ := hrel
      have HSx := Lib.hid sx
      clear sx
      cases gk with
      | succ GK =>
        have hlt : (k : Int) < n := by omega
        have k0 : (0 : Int) ≤ k := by omega
        obtain ⟨x, hx⟩ : ∃ x, s.ts[k]? = some x := ⟨_, List.getElem?_eq_getElem (by have := HTN.out; omega)⟩
        obtain ⟨b, o, rfl, X, cX, e0, e1, e2, e3, e4, e5, e6, _, _⟩ := (HTT.out.same (HS2.out.trans HSx.out)).at_ hx
        clear hx
        obtain ⟨kind, prio, per, off, dl, own, code⟩ := x
        simp only at e0 e1 e2 e3 e4 e5 e6
        have hbs := HB2'.out.same HSx.out
        rw [HSV.out] at hbs
        have s5 := (Same.refl wr).alloc (.cells #[.int .i64 kind, .int .i64 prio, .int .i64 per, .int .i64 off, .int .i64 dl, .int .i64 own, .slice X code.length cX] 45)
        have HS5 := Lib.hid (HSx.out.trans s5)
        obtain ⟨q0, q1, q2, q3, q4, q5, q6⟩ := tc (Blk.new wr 45 #[.int .i64 kind, .int .i64 prio, .int .i64 per, .int .i64 off, .int .i64 dl, .int .i64 own, .slice X code.length cX])
        have z0 := (hbs.same s5).cell 0
        simp only [List.getElem?_toArray, List.getElem?_cons_zero] at z0
        clear s5 hbs
        by_cases hc1 : (code.length : Int) > 100
        · by_cases hc2 : (n : Int) > 60
          · go_wp2_with fail
            refine (awake33 _).mono ?_
            rintro e wz ⟨rfl, sz⟩
            go_wp2_with fail
            go_ret
            exact ⟨rfl, HS2.out.trans (HS5.out.trans sz)⟩
          · go_wp2_with fail
            go_roundg GK
            case measure => omega
            case rel => exact ⟨k + 1, by omega, by go_num, HS5.out⟩
        · go_wp2_with fail
          go_roundg GK
          case measure => omega
          case rel => exact ⟨k + 1, by omega, by go_num, HS5.out⟩
      | zero =>
        obtain rfl : k = n := by omega
        have hge : ¬ (k : Int) < (k : Int) := by omega
        have hbs := HB2'.out.same HSx.out
        rw [HSV.out] at hbs
        have HBx := Lib.hid hbs
        have HSW := Lib.hid (HS2.out.trans HSx.out)
        clear hbs HSx HB2'
        obtain ⟨q0, q1⟩ := (⟨HBx.out.cell 0, HBx.out.cell 1⟩ : _ ∧ _)
        simp only [List.getElem?_toArray, List.getElem?_cons_zero, List.getElem?_cons_succ] at q0 q1
        go_wp2_with fail
        refine (encode_any A B k c m d s _ (HSY.out.same HSW.out) HNM.out).mono ?_
        rintro e w3 hp3
        obtain ⟨im, him⟩ : ∃ i, i = img s := ⟨_, rfl⟩
        rw [← him] at hp3
        have HIM := Lib.hid him
        have HQ := Lib.hid (show im.isSome = (img s).isSome by rw [him])
        clear him
        cases im with
        | none =>
          obtain ⟨rfl, s3⟩ := hp3
          have HS3 := Lib.hid (HSW.out.trans s3)
          have HB3 := Lib.hid (HBx.out.same s3)
          clear s3 q0 q1 HSW HBx
          obtain ⟨q0, q1⟩ := (⟨HB3.out.cell 0, HB3.out.cell 1⟩ : _ ∧ _)
          simp only [List.getElem?_toArray, List.getElem?_cons_zero, List.getElem?_cons_succ] at q0 q1
          go_wp2_with fail
          refine (rencode_any A B k c m d s _ (HSY.out.same HS3.out) HNM.out).mono ?_
          rintro e w4 hp4
          rw [← HIM.out] at hp4
          obtain ⟨rfl, s4⟩ := hp4
          have HS4 := Lib.hid (HS3.out.trans s4)
          have HB4 := Lib.hid (HB3.out.same s4)
          clear s4 q0 q1 HS3 HB3
          go_wp2_with fail
          refine (bytes_eq none none 0 0 0 0 ([] : List Int) ([] : List Int) _ rfl rfl (Row.nil w4 none : Row w4 none (by8 [])) (Row.nil w4 none : Row w4 none (by8 [])) (fun y h => by cases h) (fun y h => by cases h)).mono ?_
          rintro e wb ⟨rfl, rfl⟩
          rw [decide_eq_true (rfl : ([] : List Int) = ([] : List Int))]
          obtain ⟨q0, q1⟩ := (⟨HB4.out.cell 0, HB4.out.cell 1⟩ : _ ∧ _)
          simp only [List.getElem?_toArray, List.getElem?_cons_zero, List.getElem?_cons_succ] at q0 q1
          go_wp2_with fail
          refine (fits_any A B k c m d s _ (HSY.out.same HS4.out) HNM.out false HQ.out).mono ?_
          rintro e w5 ⟨rfl, s5⟩
          have HS5 := Lib.hid (HS4.out.trans s5)
          have HS45 := Lib.hid s5
          clear s5 q0 q1
          go_wp2_with fail
          refine (sum_any none 0 0 ([] : List Int) _ rfl (by omega) (fun y h => by cases h) ((Row.nil w4 none : Row w4 none (by8 [])).same HS45.out)).mono ?_
          rintro e wc ⟨rfl, rfl⟩
          go_wp2_with fail
          refine (rsum_any none 0 0 ([] : List Int) _ rfl (by omega) (fun y h => by cases h) ((Row.nil w4 none : Row w4 none (by8 [])).same HS45.out)).mono ?_
          rintro e wd ⟨rfl, rfl⟩
          go_wp2_with fail
          refine (awake33 _).mono ?_
          rintro e wz ⟨rfl, sz⟩
          go_wp2_with fail
          go_ret
          exact ⟨rfl, HS5.out.trans sz⟩
        | some x =>
          obtain ⟨A3, c3, rfl, o3, s3⟩ := hp3
          have HS3 := Lib.hid (HSW.out.trans s3)
          have HB3 := Lib.hid (HBx.out.same s3)
          have HR3 := Lib.hid o3.row
          have hshort := img_short HIM.out.symm
          have hbx := img_byt HIM.out.symm
          have HBY := Lib.hid (show By x from hbx)
          clear s3 q0 q1 HSW HBx o3 hbx
          obtain ⟨q0, q1⟩ := (⟨HB3.out.cell 0, HB3.out.cell 1⟩ : _ ∧ _)
          simp only [List.getElem?_toArray, List.getElem?_cons_zero, List.getElem?_cons_succ] at q0 q1
          go_wp2_with fail
          refine (rencode_any A B k c m d s _ (HSY.out.same HS3.out) HNM.out).mono ?_
          rintro e w4 hp4
          rw [← HIM.out] at hp4
          obtain ⟨A4, c4, rfl, o4, s4⟩ := hp4
          have HS4 := Lib.hid (HS3.out.trans s4)
          have HB4 := Lib.hid (HB3.out.same s4)
          have HR34 := Lib.hid (HR3.out.same s4)
          have HR4 := Lib.hid o4.row
          clear s4 q0 q1 HS3 HB3 o4
          go_wp2_with fail
          refine (bytes_eq A3 A4 x.length x.length c3 c4 x x _ rfl rfl HR34.out HR4.out HBY.out HBY.out).mono ?_
          rintro e wb ⟨rfl, rfl⟩
          rw [decide_eq_true (rfl : x = x)]
          obtain ⟨q0, q1⟩ := (⟨HB4.out.cell 0, HB4.out.cell 1⟩ : _ ∧ _)
          simp only [List.getElem?_toArray, List.getElem?_cons_zero, List.getElem?_cons_succ] at q0 q1
          go_wp2_with fail
          refine (fits_any A B k c m d s _ (HSY.out.same HS4.out) HNM.out true HQ.out).mono ?_
          rintro e w5 ⟨rfl, s5⟩
          have HS5 := Lib.hid (HS4.out.trans s5)
          have HS45 := Lib.hid s5
          clear s5 q0 q1
          go_wp2_with fail
          refine (sum_any A3 x.length c3 x _ rfl (by omega) HBY.out (HR34.out.same HS45.out)).mono ?_
          rintro e wc ⟨rfl, rfl⟩
          go_wp2_with fail
          refine (rsum_any A3 x.length c3 x _ rfl (by omega) HBY.out (HR34.out.same HS45.out)).mono ?_
          rintro e wd ⟨rfl, rfl⟩
          go_wp2_with fail
          refine (awake33 _).mono ?_
          rintro e wz ⟨rfl, sz⟩
          go_wp2_with fail
          go_ret
          exact ⟨rfl, HS5.out.trans sz⟩
end Go.Proofs.Ytmbhbbndfmdhfaa.Im
