/-
  The walks of the laws on layer 7: AluDoes, AluSwaps, AluRests return true whatever the kind and the words are.
-/
import Derived.Test.YtgpipfmgjbecjabDoorAlu
import Derived.Test.YtgpipfmgjbecjabDoorTab
set_option linter.unusedVariables false
namespace Go.Proofs.YtgpipfmgjbecjabDoor.Al
open Go.ChangeShapes Go.WideShapes Go.ChangeAt Go.RowKit Ws

theorem ado_any (op : Int) (b c : Nat) (hb : b < 4294967296) (hc : c < 4294967296) (w : World) :
    Calls Tryd.prog 6 #[.int .i64 op, .int .u32 (b : Int), .int .u32 (c : Int)] w fun e w' => e = .returned (.tuple #[.int .u32 (doN op b c : Nat), .bool (isV op)]) ∧ w = w' := by
  rcases (by omega : op = 3 ∨ op = 4 ∨ op = 5 ∨ op = 6 ∨ op = 7 ∨ op = 8 ∨ op = 9 ∨ op = 10 ∨ (op < 3 ∨ 10 < op)) with rfl | rfl | rfl | rfl | rfl | rfl | rfl | rfl | h
  · exact ado_3 b c hb hc w
  · exact ado_4 b c hb hc w
  · exact ado_5 b c hb hc w
  · exact ado_6 b c hb hc w
  · exact ado_7 b c hb hc w
  · exact ado_8 b c hb hc w
  · exact ado_9 b c hb hc w
  · exact ado_10 b c hb hc w
  · rw [show isV op = false by unfold isV; simp; omega, show doN op b c = 0 by unfold doN; repeat (rw [if_neg (by omega)])]
    exact ado_no op h b c w

theorem rdo_any (op : Int) (b c : Nat) (hb : b < 4294967296) (hc : c < 4294967296) (w : World) :
    Calls Tryd.prog 7 #[.int .i64 op, .int .u32 (b : Int), .int .u32 (c : Int)] w fun e w' => e = .returned (.tuple #[.int .u32 (doN op b c : Nat), .bool (isV op)]) ∧ w = w' := by
  rcases (by omega : op = 3 ∨ op = 4 ∨ op = 5 ∨ op = 6 ∨ op = 7 ∨ op = 8 ∨ op = 9 ∨ op = 10 ∨ (op < 3 ∨ 10 < op)) with rfl | rfl | rfl | rfl | rfl | rfl | rfl | rfl | h
  · exact rdo_3 b c hb hc w
  · exact rdo_4 b c hb hc w
  · exact rdo_5 b c hb hc w
  · exact rdo_6 b c hb hc w
  · exact rdo_7 b c hb hc w
  · exact rdo_8 b c hb hc w
  · exact rdo_9 b c hb hc w
  · exact rdo_10 b c hb hc w
  · rw [show isV op = false by unfold isV; simp; omega, show doN op b c = 0 by unfold doN; repeat (rw [if_neg (by omega)])]
    exact rdo_no op h b c hb hc w

theorem doN_lt (op : Int) (b c : Nat) (hb : b < 4294967296) (hc : c < 4294967296) : doN op b c < 4294967296 := by
  have h := bw_lt op b c hb hc
  unfold doN
  repeat' split
  all_goals omega

/-- the table 'rests' stands as it is laid -/
def Rests (w : World) : Prop := ∀ (i : Nat) (z : Int), ([0, 0, 0, 0, 0, 1, 4294967295, 0, 0] : List Int)[i]? = some z → w.cell? ⟨0, i, none⟩ = some (.int .u32 z)

def restN (op : Int) : Int := if op = 5 then 1 else if op = 6 then 4294967295 else 0
def restB (op : Int) : Bool := decide (3 ≤ op ∧ op ≤ 8)

theorem arest_any (op : Int) (w : World) (hr : Rests w) :
    Calls Tryd.prog 11 #[.int .i64 op] w fun e w' => e = .returned (.tuple #[.int .u32 (restN op), .bool (restB op)]) ∧ w = w' := by
  have h3 := hr 3 0 rfl
  have h4 := hr 4 0 rfl
  have h5 := hr 5 1 rfl
  have h6 := hr 6 4294967295 rfl
  have h7 := hr 7 0 rfl
  have h8 := hr 8 0 rfl
  clear hr
  rcases (by omega : op = 3 ∨ op = 4 ∨ op = 5 ∨ op = 6 ∨ op = 7 ∨ op = 8 ∨ op = 9 ∨ op = 10 ∨ (op < 3 ∨ 10 < op)) with rfl | rfl | rfl | rfl | rfl | rfl | rfl | rfl | h
  case inr.inr.inr.inr.inr.inr.inr.inr =>
    have hv : isV op = false := by unfold isV; simp; omega
    rw [show restN op = 0 by unfold restN; repeat (rw [if_neg (by omega)]), show restB op = false by unfold restB; simp; omega]
    have HV := Lib.hid hv
    clear hv
    go_enter Tryd.func11, Tryd.ntmps11
    go_wp2_with (go_at_call 8; refine (ais _ _).mono ?_; rintro e w' ⟨rfl, rfl⟩; rw [HV.out])
    go_ret2
    exact ⟨rfl, rfl⟩
  all_goals
    go_enter Tryd.func11, Tryd.ntmps11
    go_wp2_with (go_at_call 8; refine (ais _ _).mono ?_; rintro e w' ⟨rfl, rfl⟩; first | rw [show isV 3 = true by decide] | rw [show isV 4 = true by decide] | rw [show isV 5 = true by decide] | rw [show isV 6 = true by decide] | rw [show isV 7 = true by decide] | rw [show isV 8 = true by decide] | rw [show isV 9 = true by decide] | rw [show isV 10 = true by decide])
    go_ret2
    exact ⟨rfl, rfl⟩

def swB (op : Int) : Bool := decide (3 ≤ op ∧ op ≤ 10 ∧ op ≠ 4 ∧ op ≠ 9)

theorem aswaps_any (op : Int) (w : World) :
    Calls Tryd.prog 10 #[.int .i64 op] w fun e w' => e = .returned (.bool (swB op)) ∧ w = w' := by
  obtain ⟨v, hv⟩ : ∃ v, v = isV op := ⟨_, rfl⟩
  have h4 : (op != 4) = decide (op ≠ 4) := by rw [Bool.eq_iff_iff]; simp
  have h9 : (op != 9) = decide (op ≠ 9) := by rw [Bool.eq_iff_iff]; simp
  have hs : swB op = (v && (op != 4) && (op != 9)) := by rw [hv]; unfold swB isV; rw [Bool.eq_iff_iff]; simp; omega
  have HV := Lib.hid hv
  have HS := Lib.hid hs
  clear hv hs h4 h9
  cases v
  · go_enter Tryd.func10, Tryd.ntmps10
    go_wp2_with (go_at_call 8; refine (ais _ _).mono ?_; rintro e w' ⟨rfl, rfl⟩; rw [← HV.out])
    go_ret
    exact ⟨ret_bool (by rw [HS.out]; simp), rfl⟩
  · cases h4 : (op != 4)
    · have H4 := Lib.hid h4
      go_enter Tryd.func10, Tryd.ntmps10
      go_wp2_with (go_at_call 8; refine (ais _ _).mono ?_; rintro e w' ⟨rfl, rfl⟩; rw [← HV.out])
      go_ret
      exact ⟨ret_bool (by rw [HS.out, H4.out]; simp), rfl⟩
    · cases h9 : (op != 9)
      all_goals
        have H4 := Lib.hid h4
        have H9 := Lib.hid h9
        go_enter Tryd.func10, Tryd.ntmps10
        go_wp2_with (go_at_call 8; refine (ais _ _).mono ?_; rintro e w' ⟨rfl, rfl⟩; rw [← HV.out])
        go_ret
        exact ⟨ret_bool (by rw [HS.out, H4.out, H9.out]; simp), rfl⟩

theorem aawake (w : World) (hr : Rests w) :
    Calls Tryd.prog 9 #[] w fun e w' => e = .returned (.bool true) ∧ w = w' := by
  have HR := Lib.hid hr
  clear hr
  go_enter Tryd.func9, Tryd.ntmps9
  go_wp2_with fail
  refine (ado_any 4 2 5 (by decide) (by decide) _).mono ?_
  rintro e w' ⟨rfl, rfl⟩
  rw [show doN 4 2 5 = 4294967293 by decide, show isV 4 = true by decide]
  go_wp2_with fail
  refine (arest_any _ _ HR.out).mono ?_
  rintro e w' ⟨rfl, rfl⟩
  rw [show restN 6 = 4294967295 by decide, show restB 6 = true by decide]
  go_wp2_with fail
  refine (ais _ _).mono ?_
  rintro e w' ⟨rfl, rfl⟩
  rw [show isV 3 = true by decide]
  go_wp2_with fail
  refine (aswaps_any _ _).mono ?_
  rintro e w' ⟨rfl, rfl⟩
  rw [show swB 3 = true by decide]
  go_wp2_with fail
  go_ret
  exact ⟨rfl, rfl⟩

theorem does_walk (op : Int) (b c : Nat) (hb : b < 4294967296) (hc : c < 4294967296) (w : World) (hr : Rests w) :
    Calls Tryd.prog 3 #[.int .i64 op, .int .u32 (b : Int), .int .u32 (c : Int)] w fun e w' => e = .returned (.bool true) ∧ w = w' := by
  have HR := Lib.hid hr
  clear hr
  go_enter Tryd.func3, Tryd.ntmps3
  go_wp2_with fail
  refine (ado_any op b c hb hc _).mono ?_
  rintro e w' ⟨rfl, rfl⟩
  go_wp2_with fail
  refine (rdo_any op b c hb hc _).mono ?_
  rintro e w' ⟨rfl, rfl⟩
  generalize doN op b c = d
  have hd : (((d : Nat) : Int) == ((d : Nat) : Int)) = true := by simp
  obtain ⟨v, hv⟩ : ∃ v, v = isV op := ⟨_, rfl⟩
  rw [← hv]
  have HV := Lib.hid hv
  clear hv
  cases v
  all_goals
    go_wp2_with fail
    refine (ais _ _).mono ?_
    rintro e w' ⟨rfl, rfl⟩
    rw [← HV.out]
    go_wp2_with fail
    refine (aawake _ HR.out).mono ?_
    rintro e w' ⟨rfl, rfl⟩
    go_wp2_with fail
    go_ret
    exact ⟨rfl, rfl⟩

theorem sw_comm (op : Int) (b c : Nat) (h : swB op = true) : doN op b c = doN op c b := by
  unfold swB at h
  simp at h
  obtain ⟨h1, h2, h3, h4⟩ := h
  unfold doN bw
  rw [Nat.add_comm c b, Nat.mul_comm c b, Nat.and_comm c b, Nat.or_comm c b, Nat.xor_comm c b, if_neg h3, if_neg h3, if_neg h4, if_neg h4]
  repeat' split
  all_goals first | rfl | omega
theorem sw_two (op : Int) (h : isV op = true) : (swB op == (doN op 1 2 == doN op 2 1)) = true := by
  unfold isV at h
  simp at h
  rcases (by omega : op = 3 ∨ op = 4 ∨ op = 5 ∨ op = 6 ∨ op = 7 ∨ op = 8 ∨ op = 9 ∨ op = 10) with rfl | rfl | rfl | rfl | rfl | rfl | rfl | rfl <;> decide

theorem sw_is {op : Int} (h : isV op = false) : swB op = false := by
  unfold isV at h
  unfold swB
  simp at h ⊢
  omega

theorem swaps_walk (op : Int) (b c : Nat) (hb : b < 4294967296) (hc : c < 4294967296) (w : World) (hr : Rests w) :
    Calls Tryd.prog 4 #[.int .i64 op, .int .u32 (b : Int), .int .u32 (c : Int)] w fun e w' => e = .returned (.bool true) ∧ w = w' := by
  have HR := Lib.hid hr
  clear hr
  cases hv : isV op
  · have hs := sw_is hv
    have HV := Lib.hid hv
    have HS := Lib.hid hs
    clear hv hs
    go_enter Tryd.func4, Tryd.ntmps4
    go_wp2_with fail
    refine (rdo_any op 0 0 (by decide) (by decide) _).mono ?_
    rintro e w' ⟨rfl, rfl⟩
    rw [HV.out]
    go_wp2_with fail
    refine (aswaps_any _ _).mono ?_
    rintro e w' ⟨rfl, rfl⟩
    rw [HS.out]
    go_wp2_with fail
    refine (aawake _ HR.out).mono ?_
    rintro e w' ⟨rfl, rfl⟩
    go_wp2_with fail
    go_ret
    exact ⟨rfl, rfl⟩
  · have h2 := Lib.hid (sw_two op hv)
    cases hs : swB op
    · have HV := Lib.hid hv
      have HS := Lib.hid hs
      clear hv hs
      go_enter Tryd.func4, Tryd.ntmps4
      go_wp2_with fail
      refine (rdo_any op 0 0 (by decide) (by decide) _).mono ?_
      rintro e w' ⟨rfl, rfl⟩
      rw [HV.out]
      go_wp2_with fail
      refine (ado_any op b c hb hc _).mono ?_
      rintro e w' ⟨rfl, rfl⟩
      rw [HV.out]
      generalize doN op b c = d1
      go_wp2_with fail
      refine (ado_any op c b hc hb _).mono ?_
      rintro e w' ⟨rfl, rfl⟩
      rw [HV.out]
      generalize doN op c b = d2
      go_wp2_with fail
      refine (rdo_any op 1 2 (by decide) (by decide) _).mono ?_
      rintro e w' ⟨rfl, rfl⟩
      rw [HV.out]
      obtain ⟨d3, h3⟩ : ∃ d, d = doN op 1 2 := ⟨_, rfl⟩
      rw [← h3]
      have H3 := Lib.hid h3
      clear h3
      go_wp2_with fail
      refine (rdo_any op 2 1 (by decide) (by decide) _).mono ?_
      rintro e w' ⟨rfl, rfl⟩
      rw [HV.out]
      obtain ⟨d4, h4⟩ : ∃ d, d = doN op 2 1 := ⟨_, rfl⟩
      rw [← h4]
      have H4 := Lib.hid h4
      clear h4
      have he : (((d3 : Nat) : Int) == ((d4 : Nat) : Int)) = false := by
        have := h2.out
        rw [HS.out, ← H3.out, ← H4.out] at this
        simp at this ⊢
        omega
      go_wp2_with fail
      refine (aswaps_any _ _).mono ?_
      rintro e w' ⟨rfl, rfl⟩
      rw [HS.out]
      go_wp2_with fail
      refine (aswaps_any _ _).mono ?_
      rintro e w' ⟨rfl, rfl⟩
      rw [HS.out]
      go_wp2_with fail
      refine (aawake _ HR.out).mono ?_
      rintro e w' ⟨rfl, rfl⟩
      go_wp2_with fail
      go_ret
      exact ⟨rfl, rfl⟩
    · have hcm := Lib.hid (sw_comm op b c hs)
      have HV := Lib.hid hv
      have HS := Lib.hid hs
      clear hv hs
      go_enter Tryd.func4, Tryd.ntmps4
      go_wp2_with fail
      refine (rdo_any op 0 0 (by decide) (by decide) _).mono ?_
      rintro e w' ⟨rfl, rfl⟩
      rw [HV.out]
      go_wp2_with fail
      refine (ado_any op b c hb hc _).mono ?_
      rintro e w' ⟨rfl, rfl⟩
      rw [HV.out, hcm.out]
      go_wp2_with fail
      refine (ado_any op c b hc hb _).mono ?_
      rintro e w' ⟨rfl, rfl⟩
      rw [HV.out]
      generalize doN op c b = d2
      have hd : (((d2 : Nat) : Int) == ((d2 : Nat) : Int)) = true := by simp
      go_wp2_with fail
      refine (rdo_any op 1 2 (by decide) (by decide) _).mono ?_
      rintro e w' ⟨rfl, rfl⟩
      rw [HV.out]
      obtain ⟨d3, h3⟩ : ∃ d, d = doN op 1 2 := ⟨_, rfl⟩
      rw [← h3]
      have H3 := Lib.hid h3
      clear h3
      go_wp2_with fail
      refine (rdo_any op 2 1 (by decide) (by decide) _).mono ?_
      rintro e w' ⟨rfl, rfl⟩
      rw [HV.out]
      obtain ⟨d4, h4⟩ : ∃ d, d = doN op 2 1 := ⟨_, rfl⟩
      rw [← h4]
      have H4 := Lib.hid h4
      clear h4
      have he : (((d3 : Nat) : Int) == ((d4 : Nat) : Int)) = true := by
        have := h2.out
        rw [HS.out, ← H3.out, ← H4.out] at this
        simp at this ⊢
        omega
      go_wp2_with fail
      refine (aswaps_any _ _).mono ?_
      rintro e w' ⟨rfl, rfl⟩
      rw [HS.out]
      go_wp2_with fail
      refine (aswaps_any _ _).mono ?_
      rintro e w' ⟨rfl, rfl⟩
      rw [HS.out]
      go_wp2_with fail
      refine (aawake _ HR.out).mono ?_
      rintro e w' ⟨rfl, rfl⟩
      go_wp2_with fail
      go_ret
      exact ⟨rfl, rfl⟩

theorem rest_is {op : Int} (h : isV op = false) : restB op = false ∧ restN op = 0 := by
  unfold isV at h
  simp at h
  unfold restB restN
  refine ⟨by simp; omega, ?_⟩
  rw [if_neg (by omega), if_neg (by omega)]
theorem rest_no {op : Int} (h : isV op = true) (h2 : restB op = false) : restN op = 0 ∧ ∀ c, doN op 2 c ≠ 2 := by
  unfold isV at h
  unfold restB at h2
  simp at h h2
  rcases (by omega : op = 9 ∨ op = 10) with rfl | rfl
  all_goals
    refine ⟨rfl, fun c => ?_⟩
    simp [doN]
    split <;> omega
theorem rest_yes {op : Int} (h : restB op = true) (b : Nat) (hb : b < 4294967296) : doN op b (restN op).toNat = b ∧ 0 ≤ restN op ∧ (restN op).toNat < 4294967296 := by
  unfold restB at h
  simp at h
  rcases (by omega : op = 3 ∨ op = 4 ∨ op = 5 ∨ op = 6 ∨ op = 7 ∨ op = 8) with rfl | rfl | rfl | rfl | rfl | rfl
  · exact ⟨by simp [doN, restN]; omega, by decide, by decide⟩
  · exact ⟨by simp [doN, restN]; omega, by decide, by decide⟩
  · exact ⟨by simp [doN, restN]; omega, by decide, by decide⟩
  · refine ⟨?_, by decide, by decide⟩
    show bw 6 b 4294967295 = b
    show b &&& 4294967295 = b
    exact (Nat.and_two_pow_sub_one_eq_mod b 32).trans (Nat.mod_eq_of_lt hb)
  · refine ⟨?_, by decide, by decide⟩
    show b ||| 0 = b
    exact Nat.or_zero b
  · refine ⟨?_, by decide, by decide⟩
    show b ^^^ 0 = b
    exact Nat.xor_zero b

theorem rests_walk (op : Int) (b c : Nat) (hb : b < 4294967296) (hc : c < 4294967296) (w : World) (hr : Rests w) :
    Calls Tryd.prog 5 #[.int .i64 op, .int .u32 (b : Int), .int .u32 (c : Int)] w fun e w' => e = .returned (.bool true) ∧ w = w' := by
  have HR := Lib.hid hr
  clear hr
  cases hv : isV op
  · obtain ⟨h1, h2⟩ := rest_is hv
    have HV := Lib.hid hv
    have H1 := Lib.hid h1
    have H2 := Lib.hid h2
    clear hv h1 h2
    go_enter Tryd.func5, Tryd.ntmps5
    go_wp2_with fail
    refine (arest_any _ _ HR.out).mono ?_
    rintro e w' ⟨rfl, rfl⟩
    rw [H1.out, H2.out]
    go_wp2_with fail
    refine (rdo_any op 0 0 (by decide) (by decide) _).mono ?_
    rintro e w' ⟨rfl, rfl⟩
    rw [HV.out]
    go_wp2_with fail
    refine (aawake _ HR.out).mono ?_
    rintro e w' ⟨rfl, rfl⟩
    go_wp2_with fail
    go_ret
    exact ⟨rfl, rfl⟩
  · cases h1 : restB op
    · obtain ⟨h2, h3⟩ := rest_no hv h1
      have h4 := h3 c
      have HV := Lib.hid hv
      have H1 := Lib.hid h1
      have H2 := Lib.hid h2
      have H4 := Lib.hid h4
      clear hv h1 h2 h3 h4
      go_enter Tryd.func5, Tryd.ntmps5
      go_wp2_with fail
      refine (arest_any _ _ HR.out).mono ?_
      rintro e w' ⟨rfl, rfl⟩
      rw [H1.out, H2.out]
      go_wp2_with fail
      refine (rdo_any op 0 0 (by decide) (by decide) _).mono ?_
      rintro e w' ⟨rfl, rfl⟩
      rw [HV.out]
      go_wp2_with fail
      refine (rdo_any op 2 c (by decide) hc _).mono ?_
      rintro e w' ⟨rfl, rfl⟩
      rw [HV.out]
      obtain ⟨d, hd⟩ : ∃ d, d = doN op 2 c := ⟨_, rfl⟩
      rw [← hd]
      have H5 : (((d : Nat) : Int) != 2) = true := by
        have := H4.out
        rw [← hd] at this
        simp
        omega
      clear hd
      go_wp2_with fail
      refine (aawake _ HR.out).mono ?_
      rintro e w' ⟨rfl, rfl⟩
      go_wp2_with fail
      go_ret
      exact ⟨rfl, rfl⟩
    · obtain ⟨h2, h3, h4⟩ := rest_yes h1 b hb
      obtain ⟨r, hrn⟩ : ∃ r : Nat, r = (restN op).toNat := ⟨_, rfl⟩
      rw [← hrn] at h2 h4
      have h5 : restN op = (r : Int) := by omega
      have HV := Lib.hid hv
      have H1 := Lib.hid h1
      have H2 := Lib.hid h2
      have H5 := Lib.hid h5
      clear hv h1 h2 h3 h5 hrn
      have hbb : (((b : Nat) : Int) == ((b : Nat) : Int)) = true := by simp
      go_enter Tryd.func5, Tryd.ntmps5
      go_wp2_with fail
      refine (arest_any _ _ HR.out).mono ?_
      rintro e w' ⟨rfl, rfl⟩
      rw [H1.out, H5.out]
      go_wp2_with fail
      refine (rdo_any op 0 0 (by decide) (by decide) _).mono ?_
      rintro e w' ⟨rfl, rfl⟩
      rw [HV.out]
      go_wp2_with fail
      refine (rdo_any op b r hb h4 _).mono ?_
      rintro e w' ⟨rfl, rfl⟩
      rw [HV.out, H2.out]
      go_wp2_with fail
      refine (aawake _ HR.out).mono ?_
      rintro e w' ⟨rfl, rfl⟩
      go_wp2_with fail
      go_ret
      exact ⟨rfl, rfl⟩

theorem nat_of {z : Int} (h : (Lit.int .u32 z).wf = true) : ∃ n : Nat, z = (n : Int) ∧ n < 4294967296 := by
  simp only [Lit.wf, IntKind.min, IntKind.max, IntKind.signed, IntKind.bits, Bool.and_eq_true] at h
  simp at h
  exact ⟨z.toNat, by omega, by omega⟩

theorem rests_of {w : World} {l : List (String × DataW Unit)} (h : laidMetH Tryd.prog l w) (hp : (l.all fun x => x.2.handleName?.isNone) = true) (hm : ("coxswain/alu.rests", Rows.laid_coxswain_alu_rests) ∈ l) : Rests w := by
  rw [MakeChecks.laidMetH_plain _ _ _ hp] at h
  have hR := Tb.reads h hm
  intro i z hz
  refine Tb.reads_list hR (g := 0) (t := 31) (by kernel_rfl) (by kernel_rfl) 3 (([0, 0, 0, 0, 0, 1, 4294967295, 0, 0] : List Int).map (Value.int .u32)) (by kernel_rfl) i _ ?_
  rw [List.getElem?_map, hz]
  rfl

/-- what the frames call: any numbers of these kinds -/
theorem framed {f : FuncId} {a b c : Int} (wb : (Lit.int .u32 b).wf = true) (wc : (Lit.int .u32 c).wf = true) {w : World}
    (h : ∀ (m n : Nat), m < 4294967296 → n < 4294967296 → Calls Tryd.prog f #[.int .i64 a, .int .u32 (m : Int), .int .u32 (n : Int)] w fun e w' => e = .returned (.bool true) ∧ w = w') :
    Calls Tryd.prog f #[.int .i64 a, .int .u32 b, .int .u32 c] w fun e w' => e = .returned (.bool true) ∧ Below w.heap.size w w' := by
  obtain ⟨m, rfl, hm⟩ := nat_of wb
  obtain ⟨n, rfl, hn⟩ := nat_of wc
  exact (h m n hm hn).mono fun e w' ⟨he, hw⟩ => ⟨he, hw ▸ Below.refl _ _⟩

end Go.Proofs.YtgpipfmgjbecjabDoor.Al
