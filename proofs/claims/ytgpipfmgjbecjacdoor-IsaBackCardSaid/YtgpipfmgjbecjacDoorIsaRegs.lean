/-
  Contracts of package isa, and of the document's own answers on layer 8: which registers are looked at, and which are changed.
-/
import Derived.Test.YtgpipfmgjbecjacDoorIsaWords
import Derived.Test.YtgpipfmgjbecjacDoorBitBase
import Derived.StillTailTactics
set_option linter.unusedVariables false
namespace Go.Proofs.YtgpipfmgjbecjacDoor.Is
open Go.ChangeShapes Go.WideShapes Go.ChangeAt Go.RowKit Ws Cd Bt

/-- the operand of a letter -/
def letV (a b c : Int) (t : UInt8) : Int := if t = 65 then a else if t = 66 then b else c
def Letters (L : List UInt8) : Prop := ∀ t ∈ L, t = 65 ∨ t = 66 ∨ t = 67

set_option maxRecDepth 100000 in
set_option maxHeartbeats 1000000 in
theorem registers_any (op a b c n : Int) (hn : 0 ≤ n ∧ n < 4294967296) (L : List UInt8) (hL : Letters L) (w : World) :
    Calls Tryd.prog 42 #[ins op a b c n, .string ⟨L.toArray⟩] w fun e w' => e = .returned (.int .u64 ((orN (L.map (letV a b c)) : Nat) : Int)) ∧ Same w w' := by
  obtain ⟨s, hs⟩ : ∃ s : ByteArray, s = ⟨L.toArray⟩ := ⟨_, rfl⟩
  rw [← hs]
  have hsz : s.size = L.length := by rw [hs]; rfl
  have hget : ∀ k (h : k < s.size) (t : UInt8), L[k]? = some t → s[k]'h = t := by
    subst hs
    intro k h t ht
    have h' : k < L.length := by rw [← hsz]; exact h
    rw [List.getElem?_eq_getElem h'] at ht
    injection ht
  have HSZ := Lib.hid hsz
  have HG := Lib.hid hget
  clear hs hsz hget
  unfold ins
  go_enter Tryd.func42, Tryd.ntmps42
  go_wp2_with fail
  refine (values_any op a b c n hn _).mono ?_
  rintro e w1 ⟨rfl, s1⟩
  have s01 := Same.trans ((Same.refl w).alloc _) s1
  clear s1
  go_wp2_with fail
  generalize hw2 : w1.alloc (.cells _ 62) = w2
  have s12 : Same w1 w2 := by rw [← hw2]; exact (Same.refl _).alloc _
  have hb : Blk w2 w1.heap.size 62 #[.int .i64 a, .int .i64 b, .int .i64 c, .int .i64 n] := by rw [← hw2]; exact Blk.new _ _ _
  have z2s : w2.heap.size = w1.heap.size + 1 := by rw [← hw2]; simp
  have s02 := s01.trans s12
  clear hw2 s12 s01
  generalize w1.heap.size = g at *
  have Z2 := Lib.hid z2s
  clear z2s
  have HB := Lib.hid hb
  have S02 := Lib.hid s02
  clear hb s02
  go_loopg [5] L.length (fun gk m wx => ∃ k : Nat, k + gk = L.length ∧ m = .int .u64 ((orN ((L.take k).map (letV a b c)) : Nat) : Int) ∧ wx = w2.iter s k)
  case atStart => exact ⟨0, by omega, rfl, rfl⟩
  case round =>
    obtain ⟨k, hkg, rfl, rfl⟩ := hrel
    have hlt := orN_lt ((L.take k).map (letV a b c))
    obtain ⟨v, hv⟩ : ∃ v, v = orN ((L.take k).map (letV a b c)) := ⟨_, rfl⟩
    rw [← hv] at hlt ⊢
    cases gk with
    | zero =>
      have hks : ¬ k < s.size := by rw [HSZ.out]; omega
      have hnx : ∀ ty, (Instr.next (.pointer (some ⟨w2.heap.size, 0, none⟩)) true ty).run Tryd.prog (w2.iter s k) = _ := fun ty => run_next_end w2 s k ty hks
      rw [Z2.out] at hnx
      have HV := Lib.hid (show v = orN (L.map (letV a b c)) by rw [hv, List.take_of_length_le (by omega)])
      clear hv
      go_wp2_with fail
      go_ret
      exact ⟨Bt.ret_int (by rw [HV.out]), S02.out.alloc _⟩
    | succ gk =>
      have hks : k < s.size := by rw [HSZ.out]; omega
      obtain ⟨t, ht⟩ : ∃ t, L[k]? = some t := ⟨_, List.getElem?_eq_getElem (by omega)⟩
      have hst := HG.out k hks t ht
      have hl3 := hL t (List.mem_of_getElem? ht)
      have hasc : (s[k]'hks).toNat < 128 := by rw [hst]; rcases hl3 with rfl | rfl | rfl <;> decide
      have hnx : ∀ ty, (Instr.next (.pointer (some ⟨w2.heap.size, 0, none⟩)) true ty).run Tryd.prog (w2.iter s k) = _ := fun ty => run_next_ascii w2 s k ty hks hasc
      rw [hst, Z2.out] at hnx
      have HV := Lib.hid (show v ||| bitN (letV a b c t) = orN ((L.take (k + 1)).map (letV a b c)) by rw [List.take_add_one, ht, hv, List.map_append]; exact (orN_snoc _ _).symm)
      have sk : Same w2 (w2.iter s k) := (Same.refl _).alloc _
      have hbk := HB.out.same sk
      clear hv hst hasc ht
      have z0 : (w2.iter s k).cell? ⟨g, 0, none⟩ = some (.int .i64 a) := hbk.cell 0
      have z1 : (w2.iter s k).cell? ⟨g, 1, none⟩ = some (.int .i64 b) := hbk.cell 1
      have z2 : (w2.iter s k).cell? ⟨g, 2, none⟩ = some (.int .i64 c) := hbk.cell 2
      have zz0 : (w2.iter s (k + 1)).cell? ⟨g, 0, none⟩ = some (.int .i64 a) := (HB.out.same ((Same.refl _).alloc _)).cell 0
      have zz1 : (w2.iter s (k + 1)).cell? ⟨g, 1, none⟩ = some (.int .i64 b) := (HB.out.same ((Same.refl _).alloc _)).cell 1
      have zz2 : (w2.iter s (k + 1)).cell? ⟨g, 2, none⟩ = some (.int .i64 c) := (HB.out.same ((Same.refl _).alloc _)).cell 2
      clear hbk sk
      rcases hl3 with rfl | rfl | rfl
      · rw [show (65 : UInt8).toNat = 65 from rfl] at hnx
        go_wp2_with fail
        refine (put_any v hlt a _).mono ?_
        rintro e w3 ⟨rfl, rfl⟩
        go_wp2_with fail
        go_roundg gk
        case measure => omega
        case rel => exact ⟨k + 1, by omega, by rw [← HV.out]; rfl, rfl⟩
      · rw [show (66 : UInt8).toNat = 66 from rfl] at hnx
        go_wp2_with fail
        refine (put_any v hlt b _).mono ?_
        rintro e w3 ⟨rfl, rfl⟩
        go_wp2_with fail
        go_roundg gk
        case measure => omega
        case rel => exact ⟨k + 1, by omega, by rw [← HV.out]; rfl, rfl⟩
      · rw [show (67 : UInt8).toNat = 67 from rfl] at hnx
        go_wp2_with fail
        refine (put_any v hlt c _).mono ?_
        rintro e w3 ⟨rfl, rfl⟩
        go_wp2_with fail
        go_roundg gk
        case measure => omega
        case rel => exact ⟨k + 1, by omega, by rw [← HV.out]; rfl, rfl⟩

theorem right_in {op a b c n : Int} (h : rightB op a b c n = true) : 0 ≤ op ∧ op < 22 := by
  unfold rightB at h
  rw [Bool.and_eq_true] at h
  exact of_decide_eq_true h.1
theorem letters_ok {l : List (List UInt8)} (h : (l.all fun L => L.all fun t => decide (t = 65 ∨ t = 66 ∨ t = 67)) = true) (o : Nat) : Letters (l.getD o []) := by
  intro t ht
  by_cases ho : o < l.length
  · have e : l.getD o [] = l[o] := by simp [List.getD, ho]
    rw [e] at ht
    exact of_decide_eq_true (List.all_eq_true.1 (List.all_eq_true.1 h _ (List.getElem_mem ho)) t ht)
  · rw [getD_out l o [] (by omega)] at ht
    cases ht
theorem useL_ok (o : Nat) : Letters (useL.getD o []) := letters_ok (by decide) o
theorem setL_ok (o : Nat) : Letters (setL.getD o []) := letters_ok (by decide) o

set_option maxRecDepth 100000 in
set_option maxHeartbeats 1000000 in
theorem uses_any (op a b c n : Int) (hn : 0 ≤ n ∧ n < 4294967296) (w : World) (ht : Tabs w) :
    Calls Tryd.prog 13 #[ins op a b c n] w fun e w' => e = .returned (.int .u64 ((if rightB op a b c n then orN ((useL.getD op.toNat []).map (letV a b c)) else 0 : Nat) : Int)) ∧ Same w w' := by
  have HT := Lib.hid ht
  clear ht
  cases hr : rightB op a b c n
  · have HR := Lib.hid hr
    clear hr
    unfold ins
    go_enter Tryd.func13, Tryd.ntmps13
    go_wp2_with fail
    refine (right_any op a b c n hn _ (HT.out.same ((Same.refl _).alloc _))).mono ?_
    rintro e w1 ⟨rfl, s1⟩
    rw [HR.out]
    go_wp2_with fail
    go_ret
    exact ⟨rfl, Same.trans ((Same.refl _).alloc _) s1⟩
  · have ho := right_in hr
    obtain ⟨o, rfl⟩ : ∃ o : Nat, op = (o : Int) := ⟨op.toNat, by omega⟩
    have ho2 : o < 22 := by omega
    have HR := Lib.hid hr
    clear hr
    unfold ins
    go_enter Tryd.func13, Tryd.ntmps13
    go_wp2_with fail
    refine (right_any (o : Int) a b c n hn _ (HT.out.same ((Same.refl _).alloc _))).mono ?_
    rintro e w1 ⟨rfl, s1⟩
    rw [HR.out]
    have hb := Blk.same (Blk.new w 24 #[.int .i64 (o : Int), .int .i64 a, .int .i64 b, .int .i64 c, .int .u32 n]) s1
    have s01 := Same.trans ((Same.refl w).alloc (.cells #[.int .i64 (o : Int), .int .i64 a, .int .i64 b, .int .i64 c, .int .u32 n] 24)) s1
    have hc := (HT.out.same s01).kinds _ _ (str_at ho2).2.1
    unfold str at hc
    obtain ⟨L, hL⟩ : ∃ L, L = useL.getD o [] := ⟨_, rfl⟩
    rw [← hL] at hc
    have HL := Lib.hid hL
    have hl := useL_ok o
    rw [← hL] at hl
    have S01 := Lib.hid s01
    have b0 : w1.cell? ⟨w.heap.size, 0, none⟩ = some (.int .i64 (o : Int)) := hb.cell 0
    have b1 : w1.cell? ⟨w.heap.size, 1, none⟩ = some (.int .i64 a) := hb.cell 1
    have b2 : w1.cell? ⟨w.heap.size, 2, none⟩ = some (.int .i64 b) := hb.cell 2
    have b3 : w1.cell? ⟨w.heap.size, 3, none⟩ = some (.int .i64 c) := hb.cell 3
    have b4 : w1.cell? ⟨w.heap.size, 4, none⟩ = some (.int .u32 n) := hb.cell 4
    clear hL s1 s01 hb
    generalize w.heap.size = g at *
    go_wp2_with fail
    go_still_tail 6, (by kernel_rfl)
    change wpList _ _ _ _ _ w1.drew
    have S1d := Lib.hid (Same.drew S01.out)
    generalize w1.drew = w2 at *
    clear b0 b1 b2 b3 b4 hc
    go_wp2_with fail
    refine (registers_any (o : Int) a b c n hn L hl w2).mono ?_
    rintro e w3 ⟨rfl, s3⟩
    go_wp2_with fail
    go_ret
    exact ⟨Bt.ret_int (by rw [HL.out]; rfl), S1d.out.trans s3⟩

set_option maxRecDepth 100000 in
set_option maxHeartbeats 1000000 in
theorem sets_any (op a b c n : Int) (hn : 0 ≤ n ∧ n < 4294967296) (w : World) (ht : Tabs w) :
    Calls Tryd.prog 14 #[ins op a b c n] w fun e w' => e = .returned (.int .u64 ((if rightB op a b c n then orN ((setL.getD op.toNat []).map (letV a b c)) else 0 : Nat) : Int)) ∧ Same w w' := by
  have HT := Lib.hid ht
  clear ht
  cases hr : rightB op a b c n
  · have HR := Lib.hid hr
    clear hr
    unfold ins
    go_enter Tryd.func14, Tryd.ntmps14
    go_wp2_with fail
    refine (right_any op a b c n hn _ (HT.out.same ((Same.refl _).alloc _))).mono ?_
    rintro e w1 ⟨rfl, s1⟩
    rw [HR.out]
    go_wp2_with fail
    go_ret
    exact ⟨rfl, Same.trans ((Same.refl _).alloc _) s1⟩
  · have ho := right_in hr
    obtain ⟨o, rfl⟩ : ∃ o : Nat, op = (o : Int) := ⟨op.toNat, by omega⟩
    have ho2 : o < 22 := by omega
    have HR := Lib.hid hr
    clear hr
    unfold ins
    go_enter Tryd.func14, Tryd.ntmps14
    go_wp2_with fail
    refine (right_any (o : Int) a b c n hn _ (HT.out.same ((Same.refl _).alloc _))).mono ?_
    rintro e w1 ⟨rfl, s1⟩
    rw [HR.out]
    have hb := Blk.same (Blk.new w 24 #[.int .i64 (o : Int), .int .i64 a, .int .i64 b, .int .i64 c, .int .u32 n]) s1
    have s01 := Same.trans ((Same.refl w).alloc (.cells #[.int .i64 (o : Int), .int .i64 a, .int .i64 b, .int .i64 c, .int .u32 n] 24)) s1
    have hc := (HT.out.same s01).kinds _ _ (str_at ho2).2.2
    unfold str at hc
    obtain ⟨L, hL⟩ : ∃ L, L = setL.getD o [] := ⟨_, rfl⟩
    rw [← hL] at hc
    have HL := Lib.hid hL
    have hl := setL_ok o
    rw [← hL] at hl
    have S01 := Lib.hid s01
    have b0 : w1.cell? ⟨w.heap.size, 0, none⟩ = some (.int .i64 (o : Int)) := hb.cell 0
    have b1 : w1.cell? ⟨w.heap.size, 1, none⟩ = some (.int .i64 a) := hb.cell 1
    have b2 : w1.cell? ⟨w.heap.size, 2, none⟩ = some (.int .i64 b) := hb.cell 2
    have b3 : w1.cell? ⟨w.heap.size, 3, none⟩ = some (.int .i64 c) := hb.cell 3
    have b4 : w1.cell? ⟨w.heap.size, 4, none⟩ = some (.int .u32 n) := hb.cell 4
    clear hL s1 s01 hb
    generalize w.heap.size = g at *
    go_wp2_with fail
    go_still_tail 6, (by kernel_rfl)
    change wpList _ _ _ _ _ w1.drew
    have S1d := Lib.hid (Same.drew S01.out)
    generalize w1.drew = w2 at *
    clear b0 b1 b2 b3 b4 hc
    go_wp2_with fail
    refine (registers_any (o : Int) a b c n hn L hl w2).mono ?_
    rintro e w3 ⟨rfl, s3⟩
    go_wp2_with fail
    go_ret
    exact ⟨Bt.ret_int (by rw [HL.out]; rfl), S1d.out.trans s3⟩

end Go.Proofs.YtgpipfmgjbecjacDoor.Is
