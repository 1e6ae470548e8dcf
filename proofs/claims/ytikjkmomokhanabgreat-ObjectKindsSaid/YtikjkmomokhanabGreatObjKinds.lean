/-

  The kinds' words, and the walk of the law ObjectKinds.
-/
import Derived.Test.YtikjkmomokhanabGreatObjAwake
import Derived.Deep.LoopGhost
set_option linter.unusedVariables false
set_option linter.unusedSimpArgs false
namespace Go.Proofs.YtikjkmomokhanabGreat.Oj
open Go.ChangeShapes Go.WideShapes Go.ChangeAt Go.RowKit Ws
open Go.Proofs.YtikjkmomokhanabGreat.Fc (chg_setRow row_blk face_size one_0 one_1 one_2 one_3 one_4 one_5 one_6 ret_int ret_bool)

/-- a kind's word -/
def wordF (k : Int) : ByteArray := if k = 1 then ⟨#[102, 111, 117, 114]⟩ else if k = 2 then ⟨#[99, 104, 101, 110]⟩ else if k = 3 then ⟨#[115, 101, 113]⟩ else if k = 4 then ⟨#[114, 105, 110, 103]⟩ else if k = 5 then ⟨#[99, 97, 98]⟩ else if k = 6 then ⟨#[102, 105, 102, 111]⟩ else ⟨#[]⟩
theorem word_1 : wordF 1 = ⟨#[102, 111, 117, 114]⟩ := by unfold wordF; simp
theorem word_2 : wordF 2 = ⟨#[99, 104, 101, 110]⟩ := by unfold wordF; simp
theorem word_3 : wordF 3 = ⟨#[115, 101, 113]⟩ := by unfold wordF; simp
theorem word_4 : wordF 4 = ⟨#[114, 105, 110, 103]⟩ := by unfold wordF; simp
theorem word_5 : wordF 5 = ⟨#[99, 97, 98]⟩ := by unfold wordF; simp
theorem word_6 : wordF 6 = ⟨#[102, 105, 102, 111]⟩ := by unfold wordF; simp
theorem word_none {k : Int} (h : k < 1 ∨ 6 < k) : wordF k = ⟨#[]⟩ := by
  unfold wordF
  rw [if_neg (by omega), if_neg (by omega), if_neg (by omega), if_neg (by omega), if_neg (by omega), if_neg (by omega)]
set_option maxRecDepth 100000 in
theorem word_of_1 (w : World) : Calls Tryz.prog 26 #[.int .i64 1] w fun e w' => e = .returned (.string ⟨#[102, 111, 117, 114]⟩) ∧ Same w w' := by
  go_enter Tryz.func26, Tryz.ntmps26
  go_wp2_with fail
  refine (Fc.face_1 _).mono ?_
  rintro e w2 ⟨rfl, s2⟩
  have HZ := Lib.hid (Blk.new w2 70 #[.string ⟨#[]⟩, .nilFunc, .nilFunc, .nilFunc, .nilFunc])
  have HS3 := Lib.hid (show Same w ((w2.alloc (.cells #[.string ⟨#[]⟩, .nilFunc, .nilFunc, .nilFunc, .nilFunc] 70)).setRow w2.heap.size #[.string ⟨#[102, 111, 117, 114]⟩, .func (.func 63) #[] #[], .func (.func 64) #[] #[], .func (.func 65) #[] #[], .func (.func 66) #[] #[]]) from chg_setRow (s2.alloc _) (.inr s2.size) _)
  have HF := Lib.hid (row_blk (cs := #[.string ⟨#[102, 111, 117, 114]⟩, .func (.func 63) #[] #[], .func (.func 64) #[] #[], .func (.func 65) #[] #[], .func (.func 66) #[] #[]]) HZ.out)
  have df : ((w2.alloc (.cells #[.string ⟨#[]⟩, .nilFunc, .nilFunc, .nilFunc, .nilFunc] 70)).setRow w2.heap.size #[.string ⟨#[102, 111, 117, 114]⟩, .func (.func 63) #[] #[], .func (.func 64) #[] #[], .func (.func 65) #[] #[], .func (.func 66) #[] #[]]).cell? ⟨w2.heap.size, 0, none⟩ = some (.string ⟨#[102, 111, 117, 114]⟩) := HF.out.cell 0
  clear s2
  go_wp2_with (refine wpList_store_row rfl 70 (.tmp 3) (.tmp 8) rfl w2.heap.size #[.string ⟨#[102, 111, 117, 114]⟩, .func (.func 63) #[] #[], .func (.func 64) #[] #[], .func (.func 65) #[] #[], .func (.func 66) #[] #[]] rfl rfl 70 #[.string ⟨#[]⟩, .nilFunc, .nilFunc, .nilFunc, .nilFunc] HZ.out face_size rfl one_1 ?_)
  go_ret
  exact ⟨rfl, HS3.out⟩
set_option maxRecDepth 100000 in
theorem word_of_2 (w : World) : Calls Tryz.prog 26 #[.int .i64 2] w fun e w' => e = .returned (.string ⟨#[99, 104, 101, 110]⟩) ∧ Same w w' := by
  go_enter Tryz.func26, Tryz.ntmps26
  go_wp2_with fail
  refine (Fc.face_2 _).mono ?_
  rintro e w2 ⟨rfl, s2⟩
  have HZ := Lib.hid (Blk.new w2 70 #[.string ⟨#[]⟩, .nilFunc, .nilFunc, .nilFunc, .nilFunc])
  have HS3 := Lib.hid (show Same w ((w2.alloc (.cells #[.string ⟨#[]⟩, .nilFunc, .nilFunc, .nilFunc, .nilFunc] 70)).setRow w2.heap.size #[.string ⟨#[99, 104, 101, 110]⟩, .func (.func 67) #[] #[], .func (.func 68) #[] #[], .func (.func 69) #[] #[], .func (.func 70) #[] #[]]) from chg_setRow (s2.alloc _) (.inr s2.size) _)
  have HF := Lib.hid (row_blk (cs := #[.string ⟨#[99, 104, 101, 110]⟩, .func (.func 67) #[] #[], .func (.func 68) #[] #[], .func (.func 69) #[] #[], .func (.func 70) #[] #[]]) HZ.out)
  have df : ((w2.alloc (.cells #[.string ⟨#[]⟩, .nilFunc, .nilFunc, .nilFunc, .nilFunc] 70)).setRow w2.heap.size #[.string ⟨#[99, 104, 101, 110]⟩, .func (.func 67) #[] #[], .func (.func 68) #[] #[], .func (.func 69) #[] #[], .func (.func 70) #[] #[]]).cell? ⟨w2.heap.size, 0, none⟩ = some (.string ⟨#[99, 104, 101, 110]⟩) := HF.out.cell 0
  clear s2
  go_wp2_with (refine wpList_store_row rfl 70 (.tmp 3) (.tmp 8) rfl w2.heap.size #[.string ⟨#[99, 104, 101, 110]⟩, .func (.func 67) #[] #[], .func (.func 68) #[] #[], .func (.func 69) #[] #[], .func (.func 70) #[] #[]] rfl rfl 70 #[.string ⟨#[]⟩, .nilFunc, .nilFunc, .nilFunc, .nilFunc] HZ.out face_size rfl one_2 ?_)
  go_ret
  exact ⟨rfl, HS3.out⟩
set_option maxRecDepth 100000 in
theorem word_of_3 (w : World) : Calls Tryz.prog 26 #[.int .i64 3] w fun e w' => e = .returned (.string ⟨#[115, 101, 113]⟩) ∧ Same w w' := by
  go_enter Tryz.func26, Tryz.ntmps26
  go_wp2_with fail
  refine (Fc.face_3 _).mono ?_
  rintro e w2 ⟨rfl, s2⟩
  have HZ := Lib.hid (Blk.new w2 70 #[.string ⟨#[]⟩, .nilFunc, .nilFunc, .nilFunc, .nilFunc])
  have HS3 := Lib.hid (show Same w ((w2.alloc (.cells #[.string ⟨#[]⟩, .nilFunc, .nilFunc, .nilFunc, .nilFunc] 70)).setRow w2.heap.size #[.string ⟨#[115, 101, 113]⟩, .func (.func 71) #[] #[], .func (.func 72) #[] #[], .func (.func 73) #[] #[], .func (.func 74) #[] #[]]) from chg_setRow (s2.alloc _) (.inr s2.size) _)
  have HF := Lib.hid (row_blk (cs := #[.string ⟨#[115, 101, 113]⟩, .func (.func 71) #[] #[], .func (.func 72) #[] #[], .func (.func 73) #[] #[], .func (.func 74) #[] #[]]) HZ.out)
  have df : ((w2.alloc (.cells #[.string ⟨#[]⟩, .nilFunc, .nilFunc, .nilFunc, .nilFunc] 70)).setRow w2.heap.size #[.string ⟨#[115, 101, 113]⟩, .func (.func 71) #[] #[], .func (.func 72) #[] #[], .func (.func 73) #[] #[], .func (.func 74) #[] #[]]).cell? ⟨w2.heap.size, 0, none⟩ = some (.string ⟨#[115, 101, 113]⟩) := HF.out.cell 0
  clear s2
  go_wp2_with (refine wpList_store_row rfl 70 (.tmp 3) (.tmp 8) rfl w2.heap.size #[.string ⟨#[115, 101, 113]⟩, .func (.func 71) #[] #[], .func (.func 72) #[] #[], .func (.func 73) #[] #[], .func (.func 74) #[] #[]] rfl rfl 70 #[.string ⟨#[]⟩, .nilFunc, .nilFunc, .nilFunc, .nilFunc] HZ.out face_size rfl one_3 ?_)
  go_ret
  exact ⟨rfl, HS3.out⟩
set_option maxRecDepth 100000 in
theorem word_of_4 (w : World) : Calls Tryz.prog 26 #[.int .i64 4] w fun e w' => e = .returned (.string ⟨#[114, 105, 110, 103]⟩) ∧ Same w w' := by
  go_enter Tryz.func26, Tryz.ntmps26
  go_wp2_with fail
  refine (Fc.face_4 _).mono ?_
  rintro e w2 ⟨rfl, s2⟩
  have HZ := Lib.hid (Blk.new w2 70 #[.string ⟨#[]⟩, .nilFunc, .nilFunc, .nilFunc, .nilFunc])
  have HS3 := Lib.hid (show Same w ((w2.alloc (.cells #[.string ⟨#[]⟩, .nilFunc, .nilFunc, .nilFunc, .nilFunc] 70)).setRow w2.heap.size #[.string ⟨#[114, 105, 110, 103]⟩, .func (.func 75) #[] #[], .func (.func 76) #[] #[], .func (.func 77) #[] #[], .func (.func 78) #[] #[]]) from chg_setRow (s2.alloc _) (.inr s2.size) _)
  have HF := Lib.hid (row_blk (cs := #[.string ⟨#[114, 105, 110, 103]⟩, .func (.func 75) #[] #[], .func (.func 76) #[] #[], .func (.func 77) #[] #[], .func (.func 78) #[] #[]]) HZ.out)
  have df : ((w2.alloc (.cells #[.string ⟨#[]⟩, .nilFunc, .nilFunc, .nilFunc, .nilFunc] 70)).setRow w2.heap.size #[.string ⟨#[114, 105, 110, 103]⟩, .func (.func 75) #[] #[], .func (.func 76) #[] #[], .func (.func 77) #[] #[], .func (.func 78) #[] #[]]).cell? ⟨w2.heap.size, 0, none⟩ = some (.string ⟨#[114, 105, 110, 103]⟩) := HF.out.cell 0
  clear s2
  go_wp2_with (refine wpList_store_row rfl 70 (.tmp 3) (.tmp 8) rfl w2.heap.size #[.string ⟨#[114, 105, 110, 103]⟩, .func (.func 75) #[] #[], .func (.func 76) #[] #[], .func (.func 77) #[] #[], .func (.func 78) #[] #[]] rfl rfl 70 #[.string ⟨#[]⟩, .nilFunc, .nilFunc, .nilFunc, .nilFunc] HZ.out face_size rfl one_4 ?_)
  go_ret
  exact ⟨rfl, HS3.out⟩
set_option maxRecDepth 100000 in
theorem word_of_5 (w : World) : Calls Tryz.prog 26 #[.int .i64 5] w fun e w' => e = .returned (.string ⟨#[99, 97, 98]⟩) ∧ Same w w' := by
  go_enter Tryz.func26, Tryz.ntmps26
  go_wp2_with fail
  refine (Fc.face_5 _).mono ?_
  rintro e w2 ⟨rfl, s2⟩
  have HZ := Lib.hid (Blk.new w2 70 #[.string ⟨#[]⟩, .nilFunc, .nilFunc, .nilFunc, .nilFunc])
  have HS3 := Lib.hid (show Same w ((w2.alloc (.cells #[.string ⟨#[]⟩, .nilFunc, .nilFunc, .nilFunc, .nilFunc] 70)).setRow w2.heap.size #[.string ⟨#[99, 97, 98]⟩, .func (.func 79) #[] #[], .func (.func 80) #[] #[], .func (.func 81) #[] #[], .func (.func 82) #[] #[]]) from chg_setRow (s2.alloc _) (.inr s2.size) _)
  have HF := Lib.hid (row_blk (cs := #[.string ⟨#[99, 97, 98]⟩, .func (.func 79) #[] #[], .func (.func 80) #[] #[], .func (.func 81) #[] #[], .func (.func 82) #[] #[]]) HZ.out)
  have df : ((w2.alloc (.cells #[.string ⟨#[]⟩, .nilFunc, .nilFunc, .nilFunc, .nilFunc] 70)).setRow w2.heap.size #[.string ⟨#[99, 97, 98]⟩, .func (.func 79) #[] #[], .func (.func 80) #[] #[], .func (.func 81) #[] #[], .func (.func 82) #[] #[]]).cell? ⟨w2.heap.size, 0, none⟩ = some (.string ⟨#[99, 97, 98]⟩) := HF.out.cell 0
  clear s2
  go_wp2_with (refine wpList_store_row rfl 70 (.tmp 3) (.tmp 8) rfl w2.heap.size #[.string ⟨#[99, 97, 98]⟩, .func (.func 79) #[] #[], .func (.func 80) #[] #[], .func (.func 81) #[] #[], .func (.func 82) #[] #[]] rfl rfl 70 #[.string ⟨#[]⟩, .nilFunc, .nilFunc, .nilFunc, .nilFunc] HZ.out face_size rfl one_5 ?_)
  go_ret
  exact ⟨rfl, HS3.out⟩
set_option maxRecDepth 100000 in
theorem word_of_6 (w : World) : Calls Tryz.prog 26 #[.int .i64 6] w fun e w' => e = .returned (.string ⟨#[102, 105, 102, 111]⟩) ∧ Same w w' := by
  go_enter Tryz.func26, Tryz.ntmps26
  go_wp2_with fail
  refine (Fc.face_6 _).mono ?_
  rintro e w2 ⟨rfl, s2⟩
  have HZ := Lib.hid (Blk.new w2 70 #[.string ⟨#[]⟩, .nilFunc, .nilFunc, .nilFunc, .nilFunc])
  have HS3 := Lib.hid (show Same w ((w2.alloc (.cells #[.string ⟨#[]⟩, .nilFunc, .nilFunc, .nilFunc, .nilFunc] 70)).setRow w2.heap.size #[.string ⟨#[102, 105, 102, 111]⟩, .func (.func 83) #[] #[], .func (.func 84) #[] #[], .func (.func 85) #[] #[], .func (.func 86) #[] #[]]) from chg_setRow (s2.alloc _) (.inr s2.size) _)
  have HF := Lib.hid (row_blk (cs := #[.string ⟨#[102, 105, 102, 111]⟩, .func (.func 83) #[] #[], .func (.func 84) #[] #[], .func (.func 85) #[] #[], .func (.func 86) #[] #[]]) HZ.out)
  have df : ((w2.alloc (.cells #[.string ⟨#[]⟩, .nilFunc, .nilFunc, .nilFunc, .nilFunc] 70)).setRow w2.heap.size #[.string ⟨#[102, 105, 102, 111]⟩, .func (.func 83) #[] #[], .func (.func 84) #[] #[], .func (.func 85) #[] #[], .func (.func 86) #[] #[]]).cell? ⟨w2.heap.size, 0, none⟩ = some (.string ⟨#[102, 105, 102, 111]⟩) := HF.out.cell 0
  clear s2
  go_wp2_with (refine wpList_store_row rfl 70 (.tmp 3) (.tmp 8) rfl w2.heap.size #[.string ⟨#[102, 105, 102, 111]⟩, .func (.func 83) #[] #[], .func (.func 84) #[] #[], .func (.func 85) #[] #[], .func (.func 86) #[] #[]] rfl rfl 70 #[.string ⟨#[]⟩, .nilFunc, .nilFunc, .nilFunc, .nilFunc] HZ.out face_size rfl one_6 ?_)
  go_ret
  exact ⟨rfl, HS3.out⟩
set_option maxRecDepth 100000 in
theorem word_of_none (k : Int) (h : k < 1 ∨ 6 < k) (w : World) : Calls Tryz.prog 26 #[.int .i64 k] w fun e w' => e = .returned (.string ⟨#[]⟩) ∧ Same w w' := by
  have HFN := Lib.hid (fun w' => Fc.face_none k h w')
  clear h
  go_enter Tryz.func26, Tryz.ntmps26
  go_wp2_with fail
  refine (HFN.out _).mono ?_
  rintro e w2 ⟨rfl, s2⟩
  have HZ := Lib.hid (Blk.new w2 70 #[.string ⟨#[]⟩, .nilFunc, .nilFunc, .nilFunc, .nilFunc])
  have HS3 := Lib.hid (show Same w ((w2.alloc (.cells #[.string ⟨#[]⟩, .nilFunc, .nilFunc, .nilFunc, .nilFunc] 70)).setRow w2.heap.size #[.string ⟨#[]⟩, .nilFunc, .nilFunc, .nilFunc, .nilFunc]) from chg_setRow (s2.alloc _) (.inr s2.size) _)
  have HF := Lib.hid (row_blk (cs := #[.string ⟨#[]⟩, .nilFunc, .nilFunc, .nilFunc, .nilFunc]) HZ.out)
  have df : ((w2.alloc (.cells #[.string ⟨#[]⟩, .nilFunc, .nilFunc, .nilFunc, .nilFunc] 70)).setRow w2.heap.size #[.string ⟨#[]⟩, .nilFunc, .nilFunc, .nilFunc, .nilFunc]).cell? ⟨w2.heap.size, 0, none⟩ = some (.string ⟨#[]⟩) := HF.out.cell 0
  clear s2
  go_wp2_with (refine wpList_store_row rfl 70 (.tmp 3) (.tmp 8) rfl w2.heap.size #[.string ⟨#[]⟩, .nilFunc, .nilFunc, .nilFunc, .nilFunc] rfl rfl 70 #[.string ⟨#[]⟩, .nilFunc, .nilFunc, .nilFunc, .nilFunc] HZ.out face_size rfl one_0 ?_)
  go_ret
  exact ⟨rfl, HS3.out⟩
theorem word_any (k : Int) (w : World) : Calls Tryz.prog 26 #[.int .i64 k] w fun e w' => e = .returned (.string (wordF k)) ∧ Same w w' := by
  by_cases h : k < 1 ∨ 6 < k
  · rw [word_none h]
    exact word_of_none k h w
  rcases (show k = 1 ∨ k = 2 ∨ k = 3 ∨ k = 4 ∨ k = 5 ∨ k = 6 by omega) with rfl | rfl | rfl | rfl | rfl | rfl
  · rw [word_1]; exact word_of_1 w
  · rw [word_2]; exact word_of_2 w
  · rw [word_3]; exact word_of_3 w
  · rw [word_4]; exact word_of_4 w
  · rw [word_5]; exact word_of_5 w
  · rw [word_6]; exact word_of_6 w
theorem str_eq (t s : ByteArray) : (t.toList == s.toList) = decide (t = s) := by
  rw [Bool.eq_iff_iff, beq_iff_eq, decide_eq_true_iff, ByteArray.toList_eq, ByteArray.toList_eq]
  exact ⟨fun h => ByteArray.ext (Array.toList_inj.mp h), fun h => by rw [h]⟩
/-- a word's kind: the first one from k on; 0: none -/
def kindI (s : ByteArray) : Nat → Int
  | 0 => 0
  | k + 1 => if kindI s k ≠ 0 then kindI s k else if wordF ((k + 1 : Nat) : Int) = s then ((k + 1 : Nat) : Int) else 0
theorem kind_stays {s : ByteArray} {k : Nat} (h : kindI s k ≠ 0) : kindI s (k + 1) = kindI s k := by
  show (if kindI s k ≠ 0 then kindI s k else _) = _
  rw [if_pos h]
theorem kind_upto {s : ByteArray} {k : Nat} (h : kindI s k ≠ 0) : ∀ j, kindI s (k + j) = kindI s k := by
  intro j
  induction j with
  | zero => rfl
  | succ j ih => rw [← Nat.add_assoc, kind_stays (by rw [ih]; exact h), ih]
theorem kind_hit {s : ByteArray} {k : Nat} (h : kindI s k = 0) (hw : wordF ((k + 1 : Nat) : Int) = s) : kindI s (k + 1) = ((k + 1 : Nat) : Int) := by
  show (if kindI s k ≠ 0 then _ else _) = _
  rw [if_neg (by simpa using h), if_pos hw]
theorem kind_miss {s : ByteArray} {k : Nat} (h : kindI s k = 0) (hw : wordF ((k + 1 : Nat) : Int) ≠ s) : kindI s (k + 1) = 0 := by
  show (if kindI s k ≠ 0 then _ else _) = _
  rw [if_neg (by simpa using h), if_neg hw]
def kindF (s : ByteArray) : Int := kindI s 6
def hasF (s : ByteArray) : Bool := decide (kindF s ≠ 0)
set_option maxRecDepth 100000 in
theorem kind_any (s : ByteArray) (w : World) : Calls Tryz.prog 27 #[.string s] w fun e w' => e = .returned (.tuple #[.int .i64 (kindF s), .bool (hasF s)]) ∧ Same w w' := by
  have HW := Lib.hid (fun k w' => word_any k w')
  go_enter Tryz.func27, Tryz.ntmps27
  go_wp2_with fail
  go_loopg [4] 6 (fun gk iv wx => ∃ k : Nat, k + gk = 6 ∧ iv = .int .i64 ((k : Int) + 1) ∧ kindI s k = 0 ∧ Same w wx)
  case atStart => exact ⟨0, rfl, rfl, rfl, Same.refl _⟩
  case round =>
    obtain ⟨k, hk, rfl, hz, sx⟩ := hrel
    have HZ := Lib.hid hz
    have HS := Lib.hid sx
    clear hz sx
    cases gk with
    | zero =>
      obtain rfl : k = 6 := by omega
      have hge : ¬ ((6 : Nat) : Int) + 1 ≤ 6 := by omega
      go_wp2_with fail
      go_ret2
      exact ⟨by unfold hasF kindF; rw [HZ.out]; rfl, HS.out⟩
    | succ GK =>
      have hlt : (k : Int) + 1 ≤ 6 := by omega
      have HC := Lib.hid (HW.out ((k : Int) + 1) wr)
      have HK : Hid (((k + 1 : Nat) : Int) = (k : Int) + 1) := Lib.hid (by omega)
      by_cases hw : wordF ((k : Int) + 1) = s
      · have hb : ((wordF ((k : Int) + 1)).toList == s.toList) = true := by rw [str_eq]; exact decide_eq_true hw
        have HH := Lib.hid (kind_hit HZ.out (by rw [HK.out]; exact hw))
        have hv : kindF s = (k : Int) + 1 := by
          unfold kindF
          have h1 : kindI s (k + 1) ≠ 0 := by rw [HH.out]; omega
          have h2 := kind_upto h1 (5 - k)
          rw [show k + 1 + (5 - k) = 6 by omega] at h2
          rw [h2, HH.out, HK.out]
        have HV := Lib.hid hv
        clear hw hv
        generalize wordF ((k : Int) + 1) = wd at *
        go_wp2_with fail
        refine HC.out.mono ?_
        rintro e w2 ⟨rfl, s2⟩
        have HS2 := Lib.hid (HS.out.trans s2)
        clear s2
        go_wp2_with fail
        go_ret2
        exact ⟨by unfold hasF; rw [HV.out, decide_eq_true (by omega)]; rfl, HS2.out⟩
      · have hb : ((wordF ((k : Int) + 1)).toList == s.toList) = false := by rw [str_eq]; exact decide_eq_false hw
        have HM := Lib.hid (kind_miss HZ.out (by rw [HK.out]; exact hw))
        clear hw
        generalize wordF ((k : Int) + 1) = wd at *
        go_wp2_with fail
        refine HC.out.mono ?_
        rintro e w2 ⟨rfl, s2⟩
        have HS2 := Lib.hid (HS.out.trans s2)
        clear s2
        go_wp2_with fail
        go_roundg GK
        case rel => exact ⟨k + 1, by omega, by go_num, HM.out, HS2.out⟩
        case measure => omega

/-! ### the law -/
def wordsL : List ByteArray := (List.range 7).map fun k : Nat => wordF (k : Int)
theorem wordsL_get {k : Nat} (h : k < 7) : wordsL[k]? = some (wordF (k : Int)) := by unfold wordsL; rw [List.getElem?_map, List.getElem?_range h]; rfl
theorem wordsL_val : (wordsL.map Value.string) = [.string ⟨#[]⟩, .string ⟨#[102, 111, 117, 114]⟩, .string ⟨#[99, 104, 101, 110]⟩, .string ⟨#[115, 101, 113]⟩, .string ⟨#[114, 105, 110, 103]⟩, .string ⟨#[99, 97, 98]⟩, .string ⟨#[102, 105, 102, 111]⟩] := by
  unfold wordsL wordF
  simp [List.range, List.range.loop]
def NumsS (w : World) (e : Ending) (w' : World) : Prop := ∃ A c, e = .returned (.slice A 7 c) ∧ Row w' A (wordsL.map Value.string) ∧ Same w w'
set_option maxRecDepth 100000 in
theorem rwords_any (w : World) : Calls Tryz.prog 25 #[] w (NumsS w) := by
  go_enter Tryz.func25, Tryz.ntmps25
  go_wp2_with fail
  go_ret
  exact ⟨_, _, rfl, by rw [wordsL_val]; exact row_lit20 _ _ _, (Same.refl _).alloc _⟩
/-- whether there is a word of a kind among the first k, and which kind: the last one -/
def lastI (s : ByteArray) : Nat → Int
  | 0 => 0
  | k + 1 => if 0 < k ∧ wordF (k : Int) = s then (k : Int) else lastI s k
theorem wordF_inj {a b : Nat} (ha : 0 < a ∧ a < 7) (hb : 0 < b ∧ b < 7) (h : wordF (a : Int) = wordF (b : Int)) : a = b := by
  have ea : a = 1 ∨ a = 2 ∨ a = 3 ∨ a = 4 ∨ a = 5 ∨ a = 6 := by omega
  have eb : b = 1 ∨ b = 2 ∨ b = 3 ∨ b = 4 ∨ b = 5 ∨ b = 6 := by omega
  rcases ea with rfl | rfl | rfl | rfl | rfl | rfl <;> rcases eb with rfl | rfl | rfl | rfl | rfl | rfl <;> first | rfl | (exfalso; revert h; decide)
theorem last_kind (s : ByteArray) : lastI s 7 = kindF s := by
  have hone : ∀ k : Nat, k < 6 → kindI s k ≠ 0 → ∃ j : Nat, 0 < j ∧ j ≤ k ∧ wordF (j : Int) = s ∧ kindI s k = j := by
    intro k
    induction k with
    | zero => intro _ h; exact absurd rfl h
    | succ k ih =>
      intro hk h
      by_cases h0 : kindI s k = 0
      · by_cases hw : wordF ((k + 1 : Nat) : Int) = s
        · exact ⟨k + 1, by omega, by omega, hw, kind_hit h0 hw⟩
        · rw [kind_miss h0 hw] at h
          exact absurd rfl h
      · obtain ⟨j, h1, h2, h3, h4⟩ := ih (by omega) h0
        exact ⟨j, h1, by omega, h3, by rw [kind_stays h0, h4]⟩
  have hall : ∀ k : Nat, k ≤ 6 → lastI s (k + 1) = kindI s k := by
    intro k
    induction k with
    | zero => intro _; show (if 0 < 0 ∧ _ then _ else lastI s 0) = _; rw [if_neg (by omega)]; rfl
    | succ k ih =>
      intro hk
      have ih := ih (by omega)
      show (if 0 < k + 1 ∧ wordF ((k + 1 : Nat) : Int) = s then ((k + 1 : Nat) : Int) else lastI s (k + 1)) = _
      by_cases hw : wordF ((k + 1 : Nat) : Int) = s
      · rw [if_pos ⟨by omega, hw⟩]
        by_cases h0 : kindI s k = 0
        · rw [kind_hit h0 hw]
        · obtain ⟨j, h1, h2, h3, h4⟩ := hone k (by omega) h0
          have := wordF_inj (a := j) (b := k + 1) ⟨h1, by omega⟩ ⟨by omega, by omega⟩ (by rw [h3, hw])
          omega
      · rw [if_neg (by rintro ⟨_, h⟩; exact hw h), ih]
        by_cases h0 : kindI s k = 0
        · rw [kind_miss h0 hw, h0]
        · rw [kind_stays h0]
  exact hall 6 (by omega)

theorem writes_6 (w : World) : Calls Tryz.prog 23 #[.int .i64 6] w fun e w' => e = .returned (.int .i64 3) ∧ w = w' := by
  go_enter Tryz.func23, Tryz.ntmps23
  go_wp2
  go_ret
  exact ⟨rfl, rfl⟩
theorem reads_6 (w : World) : Calls Tryz.prog 24 #[.int .i64 6] w fun e w' => e = .returned (.int .i64 4) ∧ w = w' := by
  go_enter Tryz.func24, Tryz.ntmps24
  go_wp2
  go_ret
  exact ⟨rfl, rfl⟩
theorem writes_val (k : Int) (w : World) : Calls Tryz.prog 23 #[.int .i64 k] w fun e w' => e = .returned (.int .i64 (if k = 6 then 3 else 2)) ∧ w = w' := by
  by_cases h : k = 6
  · subst h
    rw [if_pos rfl]
    exact writes_6 w
  · rw [if_neg h]
    exact Ob.rwrites_reg k h w
theorem reads_val (k : Int) (w : World) : Calls Tryz.prog 24 #[.int .i64 k] w fun e w' => e = .returned (.int .i64 (if k = 6 then 4 else 1)) ∧ w = w' := by
  by_cases h : k = 6
  · subst h
    rw [if_pos rfl]
    exact reads_6 w
  · rw [if_neg h]
    exact Ob.rreads_reg k h w
set_option maxRecDepth 100000 in
set_option maxHeartbeats 2000000 in
theorem kinds_in (k : Int) (s : ByteArray) (w : World) (hs : s.size ≤ 100) (hin : 1 ≤ k ∧ k ≤ 6) : Calls Tryz.prog 4 #[.int .i64 k, .string s] w fun e w' => e = .returned (.bool true) ∧ Same w w' := by
  have h2 : ¬ (100 : Int) < (s.size : Int) := by omega
  have k1 := hin.1
  have k6 := hin.2
  have OP := fun w' => ops_any k w'
  have ho : opsF k = ((if k = 6 then 3 else 2), (if k = 6 then 4 else 1), true) := by
    unfold opsF
    rw [if_neg (by omega)]
    by_cases h : k = 6 <;> simp [h]
  rw [ho] at OP
  have HOP := Lib.hid OP
  have HWR := Lib.hid (fun w' => writes_val k w')
  have HRD := Lib.hid (fun w' => reads_val k w')
  clear OP ho hs hin
  generalize (if k = 6 then (3 : Int) else 2) = va at *
  generalize (if k = 6 then (4 : Int) else 1) = vb at *
  have va1 : (va != va) = false := by simp
  have vb1 : (vb != vb) = false := by simp
  go_enter Tryz.func4, Tryz.ntmps4
  go_wp2_with fail
  refine (HOP.out _).mono ?_
  rintro e w' ⟨rfl, rfl⟩
  go_wp2_with fail
  refine (HWR.out _).mono ?_
  rintro e w' ⟨rfl, rfl⟩
  go_wp2_with fail
  refine (HRD.out _).mono ?_
  rintro e w' ⟨rfl, rfl⟩
  have HS2 := Lib.hid (Same.refl w)
  clear HOP HWR HRD
  go_wp2_with fail
  refine (rwords_any _).mono ?_
  rintro e w3 ⟨A, c, rfl, r3, s3⟩
  have HS3 := Lib.hid (HS2.out.trans s3)
  have HR3 := Lib.hid r3
  clear s3 r3 HS2
  go_wp2_with fail
  go_loopg [61, 9, 10] 7 (fun gk iv nv fv wx => ∃ j : Nat, j + gk = 7 ∧ iv = .int .i64 j ∧ nv = .int .i64 (lastI s j) ∧ fv = .bool (decide (lastI s j ≠ 0)) ∧ Same w3 wx)
  case atStart => exact ⟨0, rfl, rfl, rfl, rfl, Same.refl _⟩
  case round =>
    obtain ⟨j, hj, rfl, rfl, rfl, sx⟩ := hrel
    have HX := Lib.hid sx
    clear sx
    cases gk with
    | zero =>
      obtain rfl : j = 7 := by omega
      have hge : ¬ ((7 : Nat) : Int) < 7 := by omega
      rw [last_kind s]
      have HK := Lib.hid (kind_any s wr)
      have hfe : decide (kindF s ≠ 0) = hasF s := rfl
      rw [hfe]
      have HWN := Lib.hid (fun w' => word_any k w')
      clear hfe
      generalize kindF s = kf at *
      generalize hasF s = hf at *
      have hff : (hf == hf) = true := by cases hf <;> rfl
      go_wp2_with fail
      refine HK.out.mono ?_
      rintro e w4 ⟨rfl, s4⟩
      have HS4 := Lib.hid ((HS3.out.trans HX.out).trans s4)
      clear s4
      have HS5 := HS4
      go_wp2_with fail
      refine (awake_any _).mono ?_
      rintro e w6 ⟨rfl, s6⟩
      go_wp2
      go_ret
      exact ⟨rfl, HS5.out.trans s6⟩
    | succ GK =>
      have hlt : (j : Int) < 7 := by omega
      have j0 : (0 : Int) ≤ j := by omega
      have hg : (wordsL.map Value.string)[j]? = some (.string (wordF (j : Int))) := by rw [List.getElem?_map, wordsL_get (by omega)]; rfl
      obtain ⟨b, o, rfl, cw⟩ := HR3.out j _ hg
      have cw := HX.out.cell cw
      have HWN := Lib.hid (fun w' => word_any k w')
      have hL : lastI s (j + 1) = if 0 < j ∧ wordF (j : Int) = s then (j : Int) else lastI s j := rfl
      have HL := Lib.hid hL
      clear hg hL
      by_cases h0 : 0 < j ∧ wordF (j : Int) = s
      · have j1 : (0 : Int) < j := by omega
        have hb : ((wordF (j : Int)).toList == s.toList) = true := by rw [str_eq]; exact decide_eq_true h0.2
        have hl := HL.out
        rw [if_pos h0] at hl
        have HL2 := Lib.hid hl
        have HJ := Lib.hid (show decide ((j : Int) ≠ 0) = true from decide_eq_true (by omega))
        clear h0 hl HL
        by_cases hk : (j : Int) = k
        · have hkb : ((j : Int) == k) = true := by simpa using hk
          have HWK := Lib.hid (HWN.out wr)
          rw [← hk] at HWK
          have hww : ((wordF (j : Int)).toList != (wordF (j : Int)).toList) = false := by simp
          have hkk := hk.symm
          subst hkk
          clear hkb hk HWN
          go_wp2_with fail
          all_goals
            refine HWK.out.mono ?_
            rintro e w5 ⟨rfl, s5⟩
            have HX5 := Lib.hid (HX.out.trans s5)
            clear s5
            go_wp2_with fail
            go_roundg GK
            case rel => exact ⟨j + 1, by omega, by go_num, by rw [HL2.out], by rw [HL2.out, HJ.out], HX5.out⟩
            case measure => omega
        · have hkb : ((j : Int) == k) = false := by simpa using hk
          clear hk
          go_wp2_with fail
          go_roundg GK
          case rel => exact ⟨j + 1, by omega, by go_num, by rw [HL2.out], by rw [HL2.out, HJ.out], HX.out⟩
          case measure => omega
      · have hl := HL.out
        rw [if_neg h0] at hl
        have HL2 := Lib.hid hl
        have hbj : ¬ (0 : Int) < j ∨ ((0 : Int) < j ∧ ((wordF (j : Int)).toList == s.toList) = false) := by
          by_cases h1 : (0 : Int) < j
          · exact .inr ⟨h1, by rw [str_eq]; exact decide_eq_false (fun h => h0 ⟨by omega, h⟩)⟩
          · exact .inl h1
        clear h0 hl HL
        generalize hli : lastI s j = lj at *
        have HLI := Lib.hid hli
        clear hli
        generalize hdi : decide (lj ≠ 0) = dj at *
        have HDI := Lib.hid hdi
        clear hdi
        rcases hbj with j1 | ⟨j1, hb⟩
        all_goals
          by_cases hk : (j : Int) = k
          · have hkb : ((j : Int) == k) = true := by simpa using hk
            have HWK := Lib.hid (HWN.out wr)
            rw [← hk] at HWK
            have hww : ((wordF (j : Int)).toList != (wordF (j : Int)).toList) = false := by simp
            have hkk := hk.symm
            subst hkk
            clear hkb hk HWN
            go_wp2_with fail
            all_goals
              refine HWK.out.mono ?_
              rintro e w5 ⟨rfl, s5⟩
              have HX5 := Lib.hid (HX.out.trans s5)
              clear s5
              go_wp2_with fail
              go_roundg GK
              case rel => exact ⟨j + 1, by omega, by go_num, by rw [HL2.out], by rw [HL2.out, HDI.out], HX5.out⟩
              case measure => omega
          · have hkb : ((j : Int) == k) = false := by simpa using hk
            clear hk
            go_wp2_with fail
            go_roundg GK
            case rel => exact ⟨j + 1, by omega, by go_num, by rw [HL2.out], by rw [HL2.out, HDI.out], HX.out⟩
            case measure => omega
set_option maxRecDepth 100000 in
set_option maxHeartbeats 2000000 in
theorem kinds_out (k : Int) (s : ByteArray) (w : World) (hs : s.size ≤ 100) (hout : k < 1 ∨ 6 < k) : Calls Tryz.prog 4 #[.int .i64 k, .string s] w fun e w' => e = .returned (.bool true) ∧ Same w w' := by
  have h2 : ¬ (100 : Int) < (s.size : Int) := by omega
  have OP := fun w' => ops_any k w'
  have ho : opsF k = (0, 0, false) := by unfold opsF; rw [if_pos hout]
  rw [ho] at OP
  have HOP := Lib.hid OP
  have HE := Lib.hid (word_none hout)
  clear OP ho hs
  rcases hout with k1 | k1
  all_goals
    have k2 : k < 1 ∨ 1 ≤ k := by omega
    go_enter Tryz.func4, Tryz.ntmps4
    go_wp2_with fail
    refine (HOP.out _).mono ?_
    rintro e w' ⟨rfl, rfl⟩
    have HS2 := Lib.hid (Same.refl w)
    clear k2
    go_wp2_with fail
    refine (rwords_any _).mono ?_
    rintro e w3 ⟨A, c, rfl, r3, s3⟩
    have HS3 := Lib.hid (HS2.out.trans s3)
    have HR3 := Lib.hid r3
    clear s3 r3 HS2
    go_wp2_with fail
    go_loopg [61, 9, 10] 7 (fun gk iv nv fv wx => ∃ j : Nat, j + gk = 7 ∧ iv = .int .i64 j ∧ nv = .int .i64 (lastI s j) ∧ fv = .bool (decide (lastI s j ≠ 0)) ∧ Same w3 wx)
    case atStart => exact ⟨0, rfl, rfl, rfl, rfl, Same.refl _⟩
    case round =>
      obtain ⟨j, hj, rfl, rfl, rfl, sx⟩ := hrel
      have HX := Lib.hid sx
      clear sx
      cases gk with
      | zero =>
        obtain rfl : j = 7 := by omega
        have hge : ¬ ((7 : Nat) : Int) < 7 := by omega
        rw [last_kind s]
        have HK := Lib.hid (kind_any s wr)
        have hfe : decide (kindF s ≠ 0) = hasF s := rfl
        rw [hfe]
        have HWN := Lib.hid (fun w' => word_any k w')
        clear hfe
        generalize kindF s = kf at *
        generalize hasF s = hf at *
        have hff : (hf == hf) = true := by cases hf <;> rfl
        go_wp2_with fail
        refine HK.out.mono ?_
        rintro e w4 ⟨rfl, s4⟩
        have HS4 := Lib.hid ((HS3.out.trans HX.out).trans s4)
        clear s4
        go_wp2_with fail
        refine (HWN.out _).mono ?_
        rintro e w5 ⟨rfl, s5⟩
        have HS5 := Lib.hid (HS4.out.trans s5)
        rw [HE.out]
        clear s5
        go_wp2_with fail
        refine (awake_any _).mono ?_
        rintro e w6 ⟨rfl, s6⟩
        go_wp2
        go_ret
        exact ⟨rfl, HS5.out.trans s6⟩
      | succ GK =>
        have hlt : (j : Int) < 7 := by omega
        have j0 : (0 : Int) ≤ j := by omega
        have hg : (wordsL.map Value.string)[j]? = some (.string (wordF (j : Int))) := by rw [List.getElem?_map, wordsL_get (by omega)]; rfl
        obtain ⟨b, o, rfl, cw⟩ := HR3.out j _ hg
        have cw := HX.out.cell cw
        have HWN := Lib.hid (fun w' => word_any k w')
        have hL : lastI s (j + 1) = if 0 < j ∧ wordF (j : Int) = s then (j : Int) else lastI s j := rfl
        have HL := Lib.hid hL
        clear hg hL
        by_cases h0 : 0 < j ∧ wordF (j : Int) = s
        · have j1 : (0 : Int) < j := by omega
          have hb : ((wordF (j : Int)).toList == s.toList) = true := by rw [str_eq]; exact decide_eq_true h0.2
          have hl := HL.out
          rw [if_pos h0] at hl
          have HL2 := Lib.hid hl
          have HJ := Lib.hid (show decide ((j : Int) ≠ 0) = true from decide_eq_true (by omega))
          clear h0 hl HL
          by_cases hk : (j : Int) = k
          · have hkb : ((j : Int) == k) = true := by simpa using hk
            have HWK := Lib.hid (HWN.out wr)
            rw [← hk] at HWK
            have hww : ((wordF (j : Int)).toList != (wordF (j : Int)).toList) = false := by simp
            have hkk := hk.symm
            subst hkk
            clear hkb hk HWN
            go_wp2_with fail
            all_goals
              refine HWK.out.mono ?_
              rintro e w5 ⟨rfl, s5⟩
              have HX5 := Lib.hid (HX.out.trans s5)
              clear s5
              go_wp2_with fail
              go_roundg GK
              case rel => exact ⟨j + 1, by omega, by go_num, by rw [HL2.out], by rw [HL2.out, HJ.out], HX5.out⟩
              case measure => omega
          · have hkb : ((j : Int) == k) = false := by simpa using hk
            clear hk
            go_wp2_with fail
            go_roundg GK
            case rel => exact ⟨j + 1, by omega, by go_num, by rw [HL2.out], by rw [HL2.out, HJ.out], HX.out⟩
            case measure => omega
        · have hl := HL.out
          rw [if_neg h0] at hl
          have HL2 := Lib.hid hl
          have hbj : ¬ (0 : Int) < j ∨ ((0 : Int) < j ∧ ((wordF (j : Int)).toList == s.toList) = false) := by
            by_cases h1 : (0 : Int) < j
            · exact .inr ⟨h1, by rw [str_eq]; exact decide_eq_false (fun h => h0 ⟨by omega, h⟩)⟩
            · exact .inl h1
          clear h0 hl HL
          generalize hli : lastI s j = lj at *
          have HLI := Lib.hid hli
          clear hli
          generalize hdi : decide (lj ≠ 0) = dj at *
          have HDI := Lib.hid hdi
          clear hdi
          rcases hbj with j1 | ⟨j1, hb⟩
          all_goals
            by_cases hk : (j : Int) = k
            · have hkb : ((j : Int) == k) = true := by simpa using hk
              have HWK := Lib.hid (HWN.out wr)
              rw [← hk] at HWK
              have hww : ((wordF (j : Int)).toList != (wordF (j : Int)).toList) = false := by simp
              have hkk := hk.symm
              subst hkk
              clear hkb hk HWN
              go_wp2_with fail
              all_goals
                refine HWK.out.mono ?_
                rintro e w5 ⟨rfl, s5⟩
                have HX5 := Lib.hid (HX.out.trans s5)
                clear s5
                go_wp2_with fail
                go_roundg GK
                case rel => exact ⟨j + 1, by omega, by go_num, by rw [HL2.out], by rw [HL2.out, HDI.out], HX5.out⟩
                case measure => omega
            · have hkb : ((j : Int) == k) = false := by simpa using hk
              clear hk
              go_wp2_with fail
              go_roundg GK
              case rel => exact ⟨j + 1, by omega, by go_num, by rw [HL2.out], by rw [HL2.out, HDI.out], HX.out⟩
              case measure => omega
theorem kinds_any (k : Int) (s : ByteArray) (w : World) : Calls Tryz.prog 4 #[.int .i64 k, .string s] w fun e w' => e = .returned (.bool true) ∧ Same w w' := by
  by_cases hs : s.size ≤ 100
  · by_cases hin : 1 ≤ k ∧ k ≤ 6
    · exact kinds_in k s w hs hin
    · exact kinds_out k s w hs (by omega)
  · have h2 : (100 : Int) < (s.size : Int) := by omega
    clear hs
    go_enter Tryz.func4, Tryz.ntmps4
    go_wp2_with fail
    refine (awake_any _).mono ?_
    rintro e w1 ⟨rfl, s1⟩
    go_wp2
    go_ret
    exact ⟨rfl, s1⟩

end Go.Proofs.YtikjkmomokhanabGreat.Oj
