/-
  Contracts of package isa, and of the document's own answers on layer 8: the kinds' words; the chapter's example.
-/
import Derived.Test.YtgpipfmgjbecjacDoorIsaDecode
set_option linter.unusedVariables false
namespace Go.Proofs.YtgpipfmgjbecjacDoor.Is
open Go.ChangeShapes Go.WideShapes Go.ChangeAt Go.RowKit Ws Cd

def wordB (o : Nat) : ByteArray := ⟨(wordL.getD o []).toArray⟩
def wordV (op : Int) : ByteArray := if 0 ≤ op ∧ op < 22 then wordB op.toNat else ⟨#[]⟩

theorem word_any (op : Int) (w : World) (ht : Tabs w) :
    Calls Tryd.prog 29 #[.int .i64 op] w fun e w' => e = .returned (.string (wordV op)) ∧ w = w' := by
  by_cases ho : 0 ≤ op ∧ op < 22
  · obtain ⟨o, rfl⟩ : ∃ o : Nat, op = (o : Int) := ⟨op.toNat, by omega⟩
    have ho2 : o < 22 := by omega
    have hd : decide (0 ≤ (o : Int) ∧ (o : Int) < 22) = true := by simp; omega
    have hv : wordV (o : Int) = wordB o := by unfold wordV; rw [if_pos ho]; rfl
    have hc := ht.kinds _ _ (str_at ho2).1
    rw [hv]
    rw [show str (wordL.getD o []) = .string (wordB o) from rfl] at hc
    have HD := Lib.hid hd
    clear hd hv ht ho
    generalize wordB o = s at *
    go_enter Tryd.func29, Tryd.ntmps29
    go_wp2_with fail
    refine (iskind_any _ _).mono ?_
    rintro e w1 ⟨rfl, rfl⟩
    rw [HD.out]
    go_wp2_with fail
    go_ret
    exact ⟨rfl, rfl⟩
  · have hd : decide (0 ≤ op ∧ op < 22) = false := by simp; omega
    have hv : wordV op = ⟨#[]⟩ := by unfold wordV; rw [if_neg ho]
    rw [hv]
    have HD := Lib.hid hd
    clear hd hv ho
    go_enter Tryd.func29, Tryd.ntmps29
    go_wp2_with fail
    refine (iskind_any _ _).mono ?_
    rintro e w1 ⟨rfl, rfl⟩
    rw [HD.out]
    go_wp2_with fail
    go_ret
    exact ⟨rfl, rfl⟩

theorem str_eq (t s : ByteArray) : (t.toList == s.toList) = decide (t = s) := by
  rw [Bool.eq_iff_iff, beq_iff_eq, decide_eq_true_iff, ByteArray.toList_eq, ByteArray.toList_eq]
  exact ⟨bytes_inj, fun h => by rw [h]⟩
theorem str_ne {t s : ByteArray} (h : (t.toList == s.toList) = false) : t ≠ s := by
  rw [str_eq] at h
  exact of_decide_eq_false h
theorem str_is {t s : ByteArray} (h : (t.toList == s.toList) = true) : t = s := by
  rw [str_eq] at h
  exact of_decide_eq_true h

/-- the kind of a word, if it is one's -/
def kindOf (s : ByteArray) : Option Nat := (List.range 22).find? fun k => decide (wordB k = s)

def KindPost (w : World) (s : ByteArray) (e : Ending) (w' : World) : Prop :=
  w = w' ∧ match kindOf s with
    | some k => e = .returned (.tuple #[.int .i64 k, .bool true])
    | none => e = .returned (.tuple #[.int .i64 0, .bool false])

set_option maxHeartbeats 1000000 in
theorem kind_any (s : ByteArray) (w : World) (ht : Tabs w) : Calls Tryd.prog 28 #[.string s] w (KindPost w s) := by
  have HT := Lib.hid ht
  clear ht
  go_enter Tryd.func28, Tryd.ntmps28
  go_wp2_with fail
  go_loopg [5] 22 (fun gk i wx => ∃ k : Nat, k + gk = 22 ∧ i = .int .i64 k ∧ (∀ j, j < k → wordB j ≠ s) ∧ wx = w)
  case atStart => exact ⟨0, by omega, rfl, fun j hj => absurd hj (by omega), rfl⟩
  case round =>
    obtain ⟨k, hkg, rfl, hall, rfl⟩ := hrel
    have HA := Lib.hid hall
    clear hall
    cases gk with
    | zero =>
      obtain rfl : k = 22 := by omega
      go_wp2_with fail
      go_ret2
      refine ⟨rfl, ?_⟩
      rw [show kindOf s = none by
        unfold kindOf
        rw [List.find?_range_eq_none]
        intro j hj
        simpa using HA.out j hj]
      rfl
    | succ gk =>
      have hk22 : k < 22 := by omega
      go_wp2_with fail
      refine (word_any _ _ HT.out).mono ?_
      rintro e w1 ⟨rfl, rfl⟩
      rw [show wordV (k : Int) = wordB k by unfold wordV; rw [if_pos (by omega)]; rfl]
      obtain ⟨t, htt⟩ : ∃ t, t = wordB k := ⟨_, rfl⟩
      rw [← htt]
      have HTT := Lib.hid htt
      clear htt
      go_wp2_with fail
      · go_ret2
        have ht : t = s := str_is (by assumption)
        refine ⟨rfl, ?_⟩
        rw [show kindOf s = some k by
          unfold kindOf
          rw [List.find?_range_eq_some]
          refine ⟨by rw [← HTT.out, ht]; simp, by simpa using hk22, fun j hj => by simpa using HA.out j hj⟩]
        rfl
      · have ht : t ≠ s := str_ne (by assumption)
        have HN := Lib.hid ht
        clear ht
        go_roundg gk
        case measure => omega
        case rel => exact ⟨k + 1, by omega, by go_num, fun j hj => by
          rcases (by omega : j < k ∨ j = k) with h | rfl
          · exact HA.out j h
          · rw [← HTT.out]; exact HN.out, rfl⟩

def wordCells : List Value := (List.range 22).map fun o => Value.string (wordB o)
theorem wordCells_at {k : Nat} (hk : k < 22) : wordCells[k]? = some (.string (wordB k)) := by unfold wordCells; rw [List.getElem?_map, List.getElem?_range hk]; rfl

set_option maxRecDepth 100000 in
theorem words_any8 (w : World) : Calls Tryd.prog 27 #[] w fun e w' => ∃ A c, e = .returned (.slice A 22 c) ∧ Row w' A wordCells ∧ Same w w' := by
  go_enter Tryd.func27, Tryd.ntmps27
  go_wp2_with fail
  go_ret
  refine ⟨_, _, rfl, ?_, (Same.refl _).alloc _⟩
  exact row_new w _ _

theorem word_inj {i j : Nat} (hi : i < 22) (hj : j < 22) (h : wordB i = wordB j) : i = j := by
  have hall : ((List.range 22).all fun i => (List.range 22).all fun j => decide (wordL.getD i [] = wordL.getD j [] → i = j)) = true := by decide
  have := of_decide_eq_true (List.all_eq_true.1 (List.all_eq_true.1 hall i (List.mem_range.2 hi)) j (List.mem_range.2 hj))
  refine this ?_
  have h2 := congrArg (fun b : ByteArray => b.data.toList) h
  simpa [wordB] using h2

theorem kind_of_is {j : Nat} (hj : j < 22) : kindOf (wordB j) = some j := by
  unfold kindOf
  rw [List.find?_range_eq_some]
  refine ⟨by simp, by simpa using hj, fun i hi => ?_⟩
  have : wordB i ≠ wordB j := fun h => by
    have := word_inj (by omega) hj h
    omega
  simpa using this
theorem kind_of_no {s : ByteArray} (h : ∀ j, j < 22 → wordB j ≠ s) : kindOf s = none := by
  unfold kindOf
  rw [List.find?_range_eq_none]
  intro j hj
  simpa using h j hj

set_option maxRecDepth 100000 in
set_option maxHeartbeats 1000000 in
theorem iawake (w : World) (ht : Tabs w) : Calls Tryd.prog 15 #[] w fun e w' => e = .returned (.bool true) ∧ Same w w' := by
  have HT := Lib.hid ht
  clear ht
  go_enter Tryd.func15, Tryd.ntmps15
  go_wp2_with fail
  have s0 : Same w ((w.alloc (.cells #[.int .i64 3, .int .i64 1, .int .i64 2, .int .i64 3, .int .u32 0] 24)).alloc (.cells #[.int .i64 3, .int .i64 1, .int .i64 2, .int .i64 3, .int .u32 0] 24)) := ((Same.refl _).alloc _).alloc _
  have hb0 : Blk ((w.alloc (.cells #[.int .i64 3, .int .i64 1, .int .i64 2, .int .i64 3, .int .u32 0] 24)).alloc (.cells #[.int .i64 3, .int .i64 1, .int .i64 2, .int .i64 3, .int .u32 0] 24)) w.heap.size 24 #[.int .i64 3, .int .i64 1, .int .i64 2, .int .i64 3, .int .u32 0] := (Blk.new w _ _).same ((Same.refl _).alloc _)
  have hc : Code ((w.alloc (.cells #[.int .i64 3, .int .i64 1, .int .i64 2, .int .i64 3, .int .u32 0] 24)).alloc (.cells #[.int .i64 3, .int .i64 1, .int .i64 2, .int .i64 3, .int .u32 0] 24)) (some ⟨w.heap.size + 1, 0, none⟩) [⟨3, 1, 2, 3, 0⟩] := by
    refine code_of_row ?_ (fun x hx => by
      rw [List.mem_singleton] at hx
      subst hx
      exact ⟨by decide, by decide⟩)
    rw [codeCells_one]
    have := row_new (w.alloc (.cells #[.int .i64 3, .int .i64 1, .int .i64 2, .int .i64 3, .int .u32 0] 24)) #[.int .i64 3, .int .i64 1, .int .i64 2, .int .i64 3, .int .u32 0] 24
    rw [show (w.alloc (.cells #[.int .i64 3, .int .i64 1, .int .i64 2, .int .i64 3, .int .u32 0] 24)).heap.size = w.heap.size + 1 by simp] at this
    exact this
  refine (encode_any _ 1 _ [⟨3, 1, 2, 3, 0⟩] _ rfl (by decide) hc (HT.out.same s0)).mono ?_
  rintro e w1 hp
  rcases hp with ⟨_, A, c, rfl, hr, s1⟩ | ⟨hf, _⟩
  case inr => exact absurd hf (by decide)
  have s01 := s0.trans s1
  have hb1 := hb0.same s1
  rw [show encL [⟨3, 1, 2, 3, 0⟩] = [3, 1, 2, 3, 0, 0, 0, 0] by decide] at hr
  clear s0 hb0 hc s1
  generalize w.heap.size = g at *
  go_wp2_with fail
  refine (bytes_eq A _ 8 8 c _ [3, 1, 2, 3, 0, 0, 0, 0] [3, 1, 2, 3, 0, 0, 0, 0] _ rfl rfl (hr.same ((Same.refl _).alloc _)) (row_new _ _ _) (fun x hx => by simp at hx; omega) (fun x hx => by simp at hx; omega)).mono ?_
  rintro e w2 ⟨rfl, rfl⟩
  rw [decide_eq_true rfl]
  generalize hw2 : w1.alloc (.cells _ 5) = w2
  have s12 : Same w1 w2 := by rw [← hw2]; exact (Same.refl _).alloc _
  have hb2 := hb1.same s12
  have s02 := s01.trans s12
  clear hb1 s01 hr hw2 s12
  have z0 : w2.cell? ⟨g, 0, none⟩ = some (.int .i64 3) := hb2.cell 0
  have z1 : w2.cell? ⟨g, 1, none⟩ = some (.int .i64 1) := hb2.cell 1
  have z2 : w2.cell? ⟨g, 2, none⟩ = some (.int .i64 2) := hb2.cell 2
  have z3 : w2.cell? ⟨g, 3, none⟩ = some (.int .i64 3) := hb2.cell 3
  have z4 : w2.cell? ⟨g, 4, none⟩ = some (.int .u32 0) := hb2.cell 4
  go_wp2_with fail
  refine (right_any 3 1 2 3 0 (by decide) _ (HT.out.same s02)).mono ?_
  rintro e w3 ⟨rfl, s3⟩
  rw [show rightB 3 1 2 3 0 = true by decide]
  have s03 := s02.trans s3
  go_wp2_with fail
  refine (word_any 3 _ (HT.out.same s03)).mono ?_
  rintro e w4 ⟨rfl, rfl⟩
  rw [show wordV 3 = ⟨#[97, 100, 100]⟩ by rfl]
  go_wp2_with fail
  go_ret
  exact ⟨rfl, s03⟩

end Go.Proofs.YtgpipfmgjbecjacDoor.Is
