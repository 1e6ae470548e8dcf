/-
  The walk of the law IsaWords: it returns true whatever the kind and the text are.
-/
import Derived.Test.YtgpipfmgjbecjacDoorIsaWords
set_option linter.unusedVariables false
namespace Go.Proofs.YtgpipfmgjbecjacDoor.Is
open Go.ChangeShapes Go.WideShapes Go.ChangeAt Go.RowKit Ws Cd

theorem iwords_big (op : Int) (s : ByteArray) (hs : 100 < (s.size : Int)) (w : World) (ht : Tabs w) :
    Calls Tryd.prog 6 #[.int .i64 op, .string s] w fun e w' => e = .returned (.bool true) ∧ Same w w' := by
  have HT := Lib.hid ht
  clear ht
  go_enter Tryd.func6, Tryd.ntmps6
  go_wp2_with fail
  refine (iawake _ HT.out).mono ?_
  rintro e w1 ⟨rfl, s1⟩
  go_wp2_with fail
  go_ret
  exact ⟨rfl, s1⟩

/-- what was found among the first k words -/
def wantB (op : Int) (k : Nat) : ByteArray := if 0 ≤ op ∧ op < k then wordB op.toNat else ⟨#[]⟩
theorem want_yes {op : Int} {k : Nat} (h : (k : Int) = op) : wantB op (k + 1) = wordB k := by unfold wantB; rw [if_pos (by omega)]; congr 1; omega
theorem want_no {op : Int} {k : Nat} (h : (k : Int) ≠ op) : wantB op (k + 1) = wantB op k := by
  unfold wantB
  by_cases h2 : 0 ≤ op ∧ op < k
  · rw [if_pos h2, if_pos (by omega)]
  · rw [if_neg h2, if_neg (by omega)]

def Found (s : ByteArray) (k : Nat) (kind is : Value) : Prop :=
  ((∀ j, j < k → wordB j ≠ s) ∧ kind = .int .i64 0 ∧ is = .bool false) ∨ ∃ j, j < k ∧ wordB j = s ∧ kind = .int .i64 j ∧ is = .bool true

def WordsRel (w1 : World) (op : Int) (s : ByteArray) (k : Nat) (want kind is j : Value) (wx : World) : Prop :=
  j = .int .i64 k ∧ want = .string (wantB op k) ∧ Found s k kind is ∧ wx = w1

set_option maxHeartbeats 1000000 in
theorem iwords_walk (op : Int) (s : ByteArray) (w : World) (ht : Tabs w) :
    Calls Tryd.prog 6 #[.int .i64 op, .string s] w fun e w' => e = .returned (.bool true) ∧ Same w w' := by
  by_cases hs : 100 < (s.size : Int)
  · exact iwords_big op s hs w ht
  have HT := Lib.hid ht
  clear ht
  go_enter Tryd.func6, Tryd.ntmps6
  go_wp2_with fail
  refine (words_any8 _).mono ?_
  rintro e w1 ⟨A, c, rfl, hr, s1⟩
  go_wp2_with fail
  go_loopg [6, 7, 8, 20] 22 (fun gk want kind is j wx => ∃ k : Nat, k + gk = 22 ∧ WordsRel w1 op s k want kind is j wx)
  case atStart => exact ⟨0, by omega, rfl, by unfold wantB; rw [if_neg (by omega)], .inl ⟨fun j hj => absurd hj (by omega), rfl, rfl⟩, rfl⟩
  case round =>
    obtain ⟨k, hkg, rfl, rfl, hf, rfl⟩ := hrel
    cases gk with
    | zero =>
      obtain rfl : k = 22 := by omega
      have hw : wordV op = wantB op 22 := rfl
      obtain ⟨t, htt⟩ : ∃ t, t = wantB op 22 := ⟨_, rfl⟩
      rw [← htt]
      have HW := Lib.hid (hw.trans htt.symm)
      have hts : (t.toList == t.toList) = true := by simp
      clear hw htt
      rcases hf with ⟨hn, rfl, rfl⟩ | ⟨j, hj, rfl, rfl, rfl⟩
      · have HK := Lib.hid (kind_of_no hn)
        clear hn
        go_wp2_with fail
        refine (kind_any s _ (HT.out.same s1)).mono ?_
        rintro e w2 ⟨rfl, he⟩
        rw [HK.out] at he
        subst he
        go_wp2_with fail
        refine (word_any op _ (HT.out.same s1)).mono ?_
        rintro e w2 ⟨rfl, rfl⟩
        rw [HW.out]
        go_wp2_with fail
        refine (iawake _ (HT.out.same s1)).mono ?_
        rintro e w2 ⟨rfl, s2⟩
        go_wp2_with fail
        go_ret
        exact ⟨rfl, s1.trans s2⟩
      · have HK := Lib.hid (kind_of_is hj)
        have hjj : ((j : Int) == (j : Int)) = true := by simp
        go_wp2_with fail
        refine (kind_any (wordB j) _ (HT.out.same s1)).mono ?_
        rintro e w2 ⟨rfl, he⟩
        rw [HK.out] at he
        subst he
        go_wp2_with fail
        refine (word_any op _ (HT.out.same s1)).mono ?_
        rintro e w2 ⟨rfl, rfl⟩
        rw [HW.out]
        go_wp2_with fail
        refine (iawake _ (HT.out.same s1)).mono ?_
        rintro e w2 ⟨rfl, s2⟩
        go_wp2_with fail
        go_ret
        exact ⟨rfl, s1.trans s2⟩
    | succ gk =>
      have hk22 : k < 22 := by omega
      obtain ⟨b, o, rfl⟩ := hr.addr (by decide)
      have hc := hr.get (wordCells_at hk22)
      have HF := Lib.hid hf
      obtain ⟨t, htt⟩ : ∃ t, t = wordB k := ⟨_, rfl⟩
      rw [← htt] at hc
      have HTT := Lib.hid htt
      clear htt hf
      by_cases h1 : (k : Int) = op
      · have hq : ((k : Int) == op) = true := by simp [h1]
        have HY := Lib.hid (want_yes h1)
        clear h1
        by_cases h2 : t = s
        · have h3 : (t.toList == s.toList) = true := by rw [h2]; simp
          have H2 := Lib.hid h2
          clear h2
          go_wp2_with fail
          go_roundg gk
          case measure => omega
          case rel => exact ⟨k + 1, by omega, by go_num, by rw [HY.out, HTT.out], .inr ⟨k, by omega, by rw [← HTT.out, H2.out], rfl, rfl⟩, rfl⟩
        · have h3 : (t.toList == s.toList) = false := by rw [str_eq]; exact decide_eq_false h2
          have H2 := Lib.hid h2
          clear h2
          go_wp2_with fail
          go_roundg gk
          case measure => omega
          case rel =>
            refine ⟨k + 1, by omega, by go_num, by rw [HY.out, HTT.out], ?_, rfl⟩
            rcases HF.out with ⟨hn, e1, e2⟩ | ⟨j, hj, hw, e1, e2⟩
            · exact .inl ⟨fun j hj => by
                rcases (by omega : j < k ∨ j = k) with h | rfl
                · exact hn j h
                · rw [← HTT.out]; exact H2.out, e1, e2⟩
            · exact .inr ⟨j, by omega, hw, e1, e2⟩
      · have hq : ((k : Int) == op) = false := by simp [h1]
        have HY := Lib.hid (want_no h1)
        clear h1
        by_cases h2 : t = s
        · have h3 : (t.toList == s.toList) = true := by rw [h2]; simp
          have H2 := Lib.hid h2
          clear h2
          go_wp2_with fail
          go_roundg gk
          case measure => omega
          case rel => exact ⟨k + 1, by omega, by go_num, by rw [HY.out], .inr ⟨k, by omega, by rw [← HTT.out, H2.out], rfl, rfl⟩, rfl⟩
        · have h3 : (t.toList == s.toList) = false := by rw [str_eq]; exact decide_eq_false h2
          have H2 := Lib.hid h2
          clear h2
          go_wp2_with fail
          go_roundg gk
          case measure => omega
          case rel =>
            refine ⟨k + 1, by omega, by go_num, by rw [HY.out], ?_, rfl⟩
            rcases HF.out with ⟨hn, e1, e2⟩ | ⟨j, hj, hw, e1, e2⟩
            · exact .inl ⟨fun j hj => by
                rcases (by omega : j < k ∨ j = k) with h | rfl
                · exact hn j h
                · rw [← HTT.out]; exact H2.out, e1, e2⟩
            · exact .inr ⟨j, by omega, hw, e1, e2⟩

end Go.Proofs.YtgpipfmgjbecjacDoor.Is
