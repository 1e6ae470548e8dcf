/-

  The walk of the law BitmapOrders, its example given.
-/
import Derived.Test.YtikjkmomokhanaaDoorBitRef
set_option linter.unusedVariables false
set_option linter.unusedSimpArgs false
namespace Go.Proofs.YtikjkmomokhanaaDoor.Bo
open Go.ChangeShapes Go.WideShapes Go.ChangeAt Go.RowKit Ws Od

set_option maxRecDepth 100000 in
theorem orders_walk (A : Option Addr) (n c : Nat) (P : List Int) (w : World) (hn : P.length = n) (hr : Row w A (P.map (Value.int .i64)))
    (AW : ∀ w', Same w w' → Calls Tryd.prog 18 #[] w' fun e w'' => e = .returned (.bool true) ∧ Same w' w'')
    (IE : ∀ (A C : Option Addr) (m c d : Nat) (xs : List Int) (w' : World), xs.length = m → m ≤ 5000 → Row w' A (xs.map (Value.int .i64)) → Row w' C (xs.map (Value.int .i64)) → Calls Tryd.prog 11 #[.slice A m c, .slice C m d] w' fun e w'' => e = .returned (.bool true) ∧ Same w' w'') :
    Calls Tryd.prog 4 #[.slice A n c] w fun e w' => e = .returned (.bool true) ∧ Same w w' := by
  have HAW := Lib.hid AW
  have HIE := Lib.hid IE
  by_cases hm : n ≤ 100
  rotate_left
  · have h2 : (100 : Int) < n := by omega
    clear hn hr AW IE hm
    go_enter Tryd.func4, Tryd.ntmps4
    go_wp2_with fail
    refine (HAW.out _ (Same.refl _)).mono ?_
    rintro e w1 ⟨rfl, s1⟩
    go_wp2
    go_ret
    exact ⟨rfl, s1⟩
  have h2 : ¬ (100 : Int) < n := by omega
  have RK := Lib.hid (fun w' (s : Same w w') => ranks_any A n c P w' hn (by omega) (hr.same s))
  have RR := Lib.hid (fun w' (s : Same w w') => rranks_any A n c P w' hn (by omega) (hr.same s))
  have OD := Lib.hid (fun w' (s : Same w w') => order_any A n c P w' hn (by omega) (hr.same s))
  have RO := Lib.hid (fun w' (s : Same w w') => rorder_any A n c P w' hn (by omega) (hr.same s))
  have HL1 : Hid ((nI (rankL P)).length = n) := Lib.hid (by rw [nI_len, rankL_len, hn])
  have HL2 : Hid ((nI (ordL P)).length = n) := Lib.hid (by rw [nI_len, ordL_len, hn])
  clear hn hr AW IE
  unfold Nums at RK RO
  unfold NumsF at RR OD
  generalize nI (rankL P) = L1 at *
  generalize nI (ordL P) = L2 at *
  go_enter Tryd.func4, Tryd.ntmps4
  go_wp2_with fail
  refine (RK.out _ (Same.refl _)).mono ?_
  rintro e w1 ⟨A1, c1, rfl, r1, s1⟩
  have HS1 := Lib.hid s1
  have HR1 := Lib.hid r1
  rw [HL1.out]
  clear s1 r1 RK
  go_wp2_with fail
  refine (RR.out _ HS1.out).mono ?_
  rintro e w2 ⟨A2, c2, rfl, r2, s2, _⟩
  have HS2 := Lib.hid (HS1.out.trans s2)
  have HE1 := Lib.hid (HIE.out A1 A2 n c1 c2 L1 w2 HL1.out (by omega) (HR1.out.same s2) r2)
  rw [HL1.out]
  clear s2 r2 RR HS1 HR1
  go_wp2_with fail
  refine HE1.out.mono ?_
  rintro e w3 ⟨rfl, s3⟩
  have HS3 := Lib.hid (HS2.out.trans s3)
  clear s3 HE1 HS2
  go_wp2_with fail
  refine (OD.out _ HS3.out).mono ?_
  rintro e w4 ⟨A4, c4, rfl, r4, s4, _⟩
  have HS4 := Lib.hid (HS3.out.trans s4)
  have HR4 := Lib.hid r4
  rw [HL2.out]
  clear s4 r4 OD HS3
  go_wp2_with fail
  refine (RO.out _ HS4.out).mono ?_
  rintro e w5 ⟨A5, c5, rfl, r5, s5⟩
  have HS5 := Lib.hid (HS4.out.trans s5)
  have HE2 := Lib.hid (HIE.out A4 A5 n c4 c5 L2 w5 HL2.out (by omega) (HR4.out.same s5) r5)
  rw [HL2.out]
  clear s5 r5 RO HS4 HR4
  go_wp2_with fail
  refine HE2.out.mono ?_
  rintro e w6 ⟨rfl, s6⟩
  have HS6 := Lib.hid (HS5.out.trans s6)
  clear s6 HE2 HS5
  go_wp2_with fail
  refine (HAW.out _ HS6.out).mono ?_
  rintro e w7 ⟨rfl, s7⟩
  go_wp2
  go_ret
  exact ⟨rfl, HS6.out.trans s7⟩

end Go.Proofs.YtikjkmomokhanaaDoor.Bo
