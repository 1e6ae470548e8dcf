/-

  ImageDecodes: the system of any bytes, or why there is none, and where.
-/
import Derived.Test.YtfpefkpbiioofabImgLaw0
import Derived.Test.YtfpefkpbiioofabImgSysEq
import Derived.Test.YtfpefkpbiioofabImgRDec
import Derived.Test.YtfpefkpbiioofabImgCap
set_option linter.unusedVariables false
set_option linter.unusedSimpArgs false
namespace Go.Proofs.Ytfpefkpbiioofab.Im
open Go.ChangeShapes Go.WideShapes Go.ChangeAt Go.RowKit Ws Cd

set_option maxRecDepth 100000 in
set_option maxHeartbeats 4000000 in
theorem imagedecodes_any (C : Option Addr) (p cp : Nat) (l : List Int) (hl : l.length = p) (hcp : p ≤ cp ∧ cp ≤ 9223372036854775807) (hby : By l) (w : World) (hrw : Row w C (by8 l)) :
    Calls Try.prog 3 #[.slice C p cp] w fun e w' => e = .returned (.bool true) ∧ Same w w' := by
  have HL := Lib.hid hl
  have HCP := Lib.hid hcp
  have HBY := Lib.hid hby
  have HRW := Lib.hid hrw
  clear hl hcp hby hrw
  by_cases hp : (p : Int) > 3000
  · go_enter Try.func3, Try.ntmps3
    go_wp2_with fail
    refine (awake33 _).mono ?_
    rintro e wz ⟨rfl, sz⟩
    go_wp2_with fail
    go_ret
    exact ⟨rfl, sz⟩
  · go_enter Try.func3, Try.ntmps3
    go_wp2_with fail
    refine (decode_any C p cp l w HL.out HCP.out HBY.out HRW.out).mono ?_
    rintro e w1 ⟨A5, n5, c5, B5, m5, d5, rfl, y1, ⟨hn5, hm5⟩, s1⟩
    have HRD := Lib.hid (fun w' (h : Same w w') => rdecode_any C p cp l w' HL.out HCP.out HBY.out (HRW.out.same h))
    have hD : ∀ w w' e, DecP w (dec l) e w' → DecP w ((dec l).1, (dec l).2.1, (dec l).2.2) e w' := fun _ _ _ h => h
    have HDD := Lib.hid hD
    clear hD
    have s2 := (Same.refl w1).alloc (.cells #[.slice A5 n5 c5, .slice B5 m5 d5] 27)
    have hb2 := Blk.new w1 27 #[.slice A5 n5 c5, .slice B5 m5 d5]
    have HB2 := Lib.hid hb2
    have HS2 := Lib.hid (s1.trans s2)
    have HY2 := Lib.hid (y1.same s2)
    clear s1 s2 y1 hb2
    generalize dec l = dl at *
    obtain ⟨ps, at_, er⟩ := dl
    dsimp only at HRD HDD HY2 ⊢
    go_wp2_with fail
    refine (HRD.out _ HS2.out).mono ?_
    intro e w3 h3
    obtain ⟨A6, n6, c6, B6, m6, d6, rfl, y3, ⟨hn6, hm6⟩, s3⟩ := h3
    dsimp only at y3 ⊢
    have s4 := (Same.refl w3).alloc (.cells #[.slice A6 n6 c6, .slice B6 m6 d6] 27)
    have hb4 := Blk.new w3 27 #[.slice A6 n6 c6, .slice B6 m6 d6]
    obtain ⟨q0, q1⟩ := (⟨hb4.cell 0, hb4.cell 1⟩ : _ ∧ _)
    obtain ⟨p0, p1⟩ := (⟨(HB2.out.same (s3.trans s4)).cell 0, (HB2.out.same (s3.trans s4)).cell 1⟩ : _ ∧ _)
    simp only [List.getElem?_toArray, List.getElem?_cons_zero, List.getElem?_cons_succ] at q0 q1 p0 p1
    have HS4 := Lib.hid (HS2.out.trans (s3.trans s4))
    have SE := Lib.hid (systems_eq A5 B5 A6 B6 n5 c5 m5 d5 n6 c6 m6 d6 ps ps _ (HY2.out.same (s3.trans s4)) (y3.same s4) ⟨by unfold maxLen; omega, by unfold maxLen; omega⟩ true (by simp))
    clear s3 s4 y3 hb4 HB2 HY2
    go_wp2_with fail
    refine SE.out.mono ?_
    rintro e w5 ⟨rfl, s5⟩
    have HS5 := Lib.hid (HS4.out.trans s5)
    clear s5
    go_wp2_with fail
    refine (awake33 _).mono ?_
    rintro e wz ⟨rfl, sz⟩
    have HSZ := Lib.hid (HS5.out.trans sz)
    clear sz
    go_wp2_with fail
    go_ret
    exact ⟨rfl, HSZ.out⟩
end Go.Proofs.Ytfpefkpbiioofab.Im
