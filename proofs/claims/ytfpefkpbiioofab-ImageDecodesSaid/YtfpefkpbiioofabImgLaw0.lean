/-

  Layer 33: Few; the chapter's example.
-/
import Derived.Test.YtfpefkpbiioofabImgDec
import Derived.Test.YtfpefkpbiioofabImgTrip3
set_option linter.unusedVariables false
set_option linter.unusedSimpArgs false
namespace Go.Proofs.Ytfpefkpbiioofab.Im
open Go.ChangeShapes Go.WideShapes Go.ChangeAt Go.RowKit Ws Cd

/-- some truth value, and nothing is changed -/
def Some2 (w : World) (e : Ending) (w' : World) : Prop := (∃ b : Bool, e = .returned (.bool b)) ∧ Same w w'
def ex0 : List Int := [67, 88, 1, 0, 0, 156, 0]
theorem ex0_by : By ex0 := by
  intro y hy
  unfold ex0 at hy
  simp at hy
  omega
theorem img_ex : img ⟨[], []⟩ = some ex0 := by
  have hb : body ⟨[], []⟩ = [67, 88, 1, 0, 0] := by decide
  have hs : sumB [67, 88, 1, 0, 0] = 156 := by decide
  have hl : lo 156 2 = [156, 0] := by decide
  unfold img
  rw [hb, if_pos (by decide), hs, hl]
  rfl
theorem dec_ex : dec ex0 = (⟨[], []⟩, (0 : Int), (0 : Int)) := dec_img img_ex
theorem sum_ex : sumB ex0 = 312 := by decide
set_option maxRecDepth 100000 in
set_option maxHeartbeats 1000000 in
theorem awake33 (w : World) : Calls Try.prog 4 #[] w fun e w' => e = .returned (.bool true) ∧ Same w w' := by
  go_enter Try.func4, Try.ntmps4
  go_wp2_with fail
  refine (encode_any none none 0 0 0 0 ⟨[], []⟩ _ (sys_zero _) ⟨by decide, by decide⟩).mono ?_
  rintro e w1 hp
  rw [img_ex] at hp
  obtain ⟨A, c, rfl, ho, s1⟩ := hp
  rw [show ex0.length = 7 from rfl]
  have HO := Lib.hid ho
  have HS1 := Lib.hid s1
  clear ho s1
  go_wp2_with fail
  have s2 := (Same.refl w1).alloc (.cells #[.int .u8 67, .int .u8 88, .int .u8 1, .int .u8 0, .int .u8 0, .int .u8 156, .int .u8 0] 5)
  refine (decode_any (some ⟨w1.heap.size, 0, none⟩) 7 7 ex0 _ rfl ⟨by omega, by omega⟩ ex0_by (by_row_lit w1 ex0)).mono ?_
  rintro e w2 ⟨A2, n2, c2, B2, m2, d2, rfl, hs2, _, s3⟩
  rw [dec_ex]
  have HS2 := Lib.hid (HS1.out.trans (s2.trans s3))
  have HO2 := Lib.hid ((HO.out.same s2).same s3)
  clear hs2 s2 s3 HO HS1
  dsimp only
  go_wp2_with fail
  have s4 := (Same.refl w2).alloc (.cells #[.slice A2 n2 c2, .slice B2 m2 d2] 27)
  have s5 := (Same.refl (w2.alloc (.cells #[.slice A2 n2 c2, .slice B2 m2 d2] 27))).alloc (.cells #[.int .u8 67, .int .u8 88, .int .u8 1, .int .u8 0, .int .u8 0, .int .u8 156, .int .u8 0] 5)
  have hr := by_row_lit (w2.alloc (.cells #[.slice A2 n2 c2, .slice B2 m2 d2] 27)) ex0
  rw [show (w2.alloc (.cells #[.slice A2 n2 c2, .slice B2 m2 d2] 27)).heap.size = w2.heap.size + 1 by simp] at hr
  have HO5 := Lib.hid ((HO2.out.same s4).same s5)
  have HS5 := Lib.hid ((HS2.out.trans s4).trans s5)
  refine (bytes_eq A (some ⟨w2.heap.size + 1, 0, none⟩) 7 7 c 7 ex0 ex0 _ rfl rfl HO5.out.row hr ex0_by ex0_by).mono ?_
  rintro e w6 ⟨rfl, rfl⟩
  rw [decide_eq_true (rfl : ex0 = ex0)]
  clear hr s4 s5 HS2 HO2
  go_wp2_with fail
  refine (sum_any A 7 c ex0 _ rfl (by omega) ex0_by HO5.out.row).mono ?_
  rintro e w7 ⟨rfl, rfl⟩
  rw [sum_ex]
  go_wp2_with fail
  go_ret
  exact ⟨rfl, HS5.out⟩
end Go.Proofs.Ytfpefkpbiioofab.Im
