/-

  The walks of the laws on layer 7: AluDoes, AluSwaps, AluRests return true whatever the kind and the words are.
-/
import Derived.Test.YtiipdeionmndcaaDoorRows
import Derived.Test.YtiipdeionmndcaaDoorAluMath
import Derived.Test.YtiipdeionmndcaaDoorWords
import Derived.WalkKit
import Derived.WalkLawsBesides
import Derived.ProofKit
import Derived.OpenShut
import Derived.Lib.Hide
import Derived.Deep.QuietTactic
import Derived.BigQuiet
import Derived.Outline
import Derived.Test.YtiipdeionmndcaaDoorTab
section
set_option linter.unusedSimpArgs false
set_option linter.unusedVariables false
namespace Go.Proofs.YtiipdeionmndcaaDoor.Al
open Go.ChangeShapes Go.WideShapes Go.ChangeAt Go.RowKit Ws

theorem ret_pair {k : IntKind} {a b : Int} {p q : Bool} (h : a = b) (h' : p = q) : Ending.returned (.tuple #[.int k a, .bool p]) = .returned (.tuple #[.int k b, .bool q]) := by rw [h, h']
theorem ret_bool {a b : Bool} (h : a = b) : Ending.returned (.bool a) = .returned (.bool b) := by rw [h]

theorem atruth (t : Bool) (w : World) :
    Calls Tryd.prog 115 #[.bool t] w fun e w' => e = .returned (.int .u32 (if t = true then 1 else 0)) ∧ w = w' := by
  cases t
  all_goals
    go_enter Tryd.func115, Tryd.ntmps115
    go_wp2
    go_ret
    exact ⟨rfl, rfl⟩

theorem ado_3 (b c : Nat) (hb : b < 4294967296) (hc : c < 4294967296) (w : World) :
    Calls Tryd.prog 101 #[.int .i64 3, .int .u32 (b : Int), .int .u32 (c : Int)] w fun e w' => e = .returned (.tuple #[.int .u32 (doN 3 b c : Nat), .bool true]) ∧ w = w' := by
  go_enter Tryd.func101, Tryd.ntmps101
  go_wp2_with fail
  go_ret2
  exact ⟨ret_pair (by simp [doN]) rfl, rfl⟩

theorem ado_4 (b c : Nat) (hb : b < 4294967296) (hc : c < 4294967296) (w : World) :
    Calls Tryd.prog 101 #[.int .i64 4, .int .u32 (b : Int), .int .u32 (c : Int)] w fun e w' => e = .returned (.tuple #[.int .u32 (doN 4 b c : Nat), .bool true]) ∧ w = w' := by
  go_enter Tryd.func101, Tryd.ntmps101
  go_wp2_with fail
  go_ret2
  exact ⟨ret_pair (by simp only [doN, if_neg (show ¬ ((4 : Int) = 3) by decide), if_true]; omega) rfl, rfl⟩

theorem ado_5 (b c : Nat) (hb : b < 4294967296) (hc : c < 4294967296) (w : World) :
    Calls Tryd.prog 101 #[.int .i64 5, .int .u32 (b : Int), .int .u32 (c : Int)] w fun e w' => e = .returned (.tuple #[.int .u32 (doN 5 b c : Nat), .bool true]) ∧ w = w' := by
  go_enter Tryd.func101, Tryd.ntmps101
  go_wp2_with fail
  go_ret2
  exact ⟨ret_pair (by simp [doN]) rfl, rfl⟩

theorem ado_6 (b c : Nat) (hb : b < 4294967296) (hc : c < 4294967296) (w : World) :
    Calls Tryd.prog 101 #[.int .i64 6, .int .u32 (b : Int), .int .u32 (c : Int)] w fun e w' => e = .returned (.tuple #[.int .u32 (doN 6 b c : Nat), .bool true]) ∧ w = w' := by
  go_enter Tryd.func101, Tryd.ntmps101
  go_wp2_with fail
  go_ret2
  exact ⟨ret_pair (by rw [bits_and_u32 b c hb hc]; rfl) rfl, rfl⟩

theorem ado_7 (b c : Nat) (hb : b < 4294967296) (hc : c < 4294967296) (w : World) :
    Calls Tryd.prog 101 #[.int .i64 7, .int .u32 (b : Int), .int .u32 (c : Int)] w fun e w' => e = .returned (.tuple #[.int .u32 (doN 7 b c : Nat), .bool true]) ∧ w = w' := by
  go_enter Tryd.func101, Tryd.ntmps101
  go_wp2_with fail
  go_ret2
  exact ⟨ret_pair (by rw [bits_or_u32 b c hb hc]; rfl) rfl, rfl⟩

theorem ado_8 (b c : Nat) (hb : b < 4294967296) (hc : c < 4294967296) (w : World) :
    Calls Tryd.prog 101 #[.int .i64 8, .int .u32 (b : Int), .int .u32 (c : Int)] w fun e w' => e = .returned (.tuple #[.int .u32 (doN 8 b c : Nat), .bool true]) ∧ w = w' := by
  go_enter Tryd.func101, Tryd.ntmps101
  go_wp2_with fail
  go_ret2
  exact ⟨ret_pair (by rw [bits_xor_u32 b c hb hc]; rfl) rfl, rfl⟩

theorem ado_9 (b c : Nat) (hb : b < 4294967296) (hc : c < 4294967296) (w : World) :
    Calls Tryd.prog 101 #[.int .i64 9, .int .u32 (b : Int), .int .u32 (c : Int)] w fun e w' => e = .returned (.tuple #[.int .u32 (doN 9 b c : Nat), .bool true]) ∧ w = w' := by
  by_cases h : b < c
  · have hd : decide ((b : Int) < (c : Int)) = true := by simpa using h
    have hv : doN 9 b c = 1 := by simp [doN, h]
    rw [hv]
    clear hv
    go_enter Tryd.func101, Tryd.ntmps101
    go_wp2_with (go_at_call 115; refine (atruth _ _).mono ?_; rintro e w' ⟨rfl, rfl⟩)
    go_ret2
    exact ⟨rfl, rfl⟩
  · have hd : decide ((b : Int) < (c : Int)) = false := by simpa using h
    have hv : doN 9 b c = 0 := by simp [doN, h]
    rw [hv]
    clear hv
    go_enter Tryd.func101, Tryd.ntmps101
    go_wp2_with (go_at_call 115; refine (atruth _ _).mono ?_; rintro e w' ⟨rfl, rfl⟩)
    go_ret2
    exact ⟨rfl, rfl⟩

theorem ado_10 (b c : Nat) (hb : b < 4294967296) (hc : c < 4294967296) (w : World) :
    Calls Tryd.prog 101 #[.int .i64 10, .int .u32 (b : Int), .int .u32 (c : Int)] w fun e w' => e = .returned (.tuple #[.int .u32 (doN 10 b c : Nat), .bool true]) ∧ w = w' := by
  by_cases h : b = c
  · have hd : ((b : Int) == (c : Int)) = true := by simp; omega
    have hv : doN 10 b c = 1 := by simp [doN, h]
    rw [hv]
    clear hv
    go_enter Tryd.func101, Tryd.ntmps101
    go_wp2_with (go_at_call 115; refine (atruth _ _).mono ?_; rintro e w' ⟨rfl, rfl⟩)
    go_ret2
    exact ⟨rfl, rfl⟩
  · have hd : ((b : Int) == (c : Int)) = false := by simp; omega
    have hv : doN 10 b c = 0 := by simp [doN, h]
    rw [hv]
    clear hv
    go_enter Tryd.func101, Tryd.ntmps101
    go_wp2_with (go_at_call 115; refine (atruth _ _).mono ?_; rintro e w' ⟨rfl, rfl⟩)
    go_ret2
    exact ⟨rfl, rfl⟩

theorem ado_no (op : Int) (ho : op < 3 ∨ 10 < op) (b c : Nat) (w : World) :
    Calls Tryd.prog 101 #[.int .i64 op, .int .u32 (b : Int), .int .u32 (c : Int)] w fun e w' => e = .returned (.tuple #[.int .u32 0, .bool false]) ∧ w = w' := by
  rcases ho with ho | ho
  all_goals
    go_enter Tryd.func101, Tryd.ntmps101
    go_wp2_with fail
    go_ret2
    exact ⟨rfl, rfl⟩

end Go.Proofs.YtiipdeionmndcaaDoor.Al
end
section
set_option linter.unusedSimpArgs false
set_option linter.unusedVariables false
namespace Go.Proofs.YtiipdeionmndcaaDoor.Al
open Go.ChangeShapes Go.WideShapes Go.ChangeAt Go.RowKit Ws

theorem ado_any (op : Int) (b c : Nat) (hb : b < 4294967296) (hc : c < 4294967296) (w : World) :
    Calls Tryd.prog 101 #[.int .i64 op, .int .u32 (b : Int), .int .u32 (c : Int)] w fun e w' => e = .returned (.tuple #[.int .u32 (doN op b c : Nat), .bool (isV op)]) ∧ w = w' := by
  rcases (by omega : op = 3 ∨ op = 4 ∨ op = 5 ∨ op = 6 ∨ op = 7 ∨ op = 8 ∨ op = 9 ∨ op = 10 ∨ (op < 3 ∨ 10 < op)) with rfl | rfl | rfl | rfl | rfl | rfl | rfl | rfl | h
  · exact ado_3 b c hb hc w
  · exact ado_4 b c hb hc w
  · exact ado_5 b c hb hc w
  · exact ado_6 b c hb hc w
  · exact ado_7 b c hb hc w
  · exact ado_8 b c hb hc w
  · exact ado_9 b c hb hc w
  · exact ado_10 b c hb hc w
  · rw [show isV op = false by unfold isV; simp; omega, show doN op b c = 0 by unfold doN; repeat (rw [if_neg (by omega)])]
    exact ado_no op h b c w

theorem doN_lt (op : Int) (b c : Nat) (hb : b < 4294967296) (hc : c < 4294967296) : doN op b c < 4294967296 := by
  have h := bw_lt op b c hb hc
  unfold doN
  repeat' split
  all_goals omega

def restN (op : Int) : Int := if op = 5 then 1 else if op = 6 then 4294967295 else 0
def restB (op : Int) : Bool := decide (3 ≤ op ∧ op ≤ 8)

def swB (op : Int) : Bool := decide (3 ≤ op ∧ op ≤ 10 ∧ op ≠ 4 ∧ op ≠ 9)

theorem sw_comm (op : Int) (b c : Nat) (h : swB op = true) : doN op b c = doN op c b := by
  unfold swB at h
  simp at h
  obtain ⟨h1, h2, h3, h4⟩ := h
  unfold doN bw
  rw [Nat.add_comm c b, Nat.mul_comm c b, Nat.and_comm c b, Nat.or_comm c b, Nat.xor_comm c b, if_neg h3, if_neg h3, if_neg h4, if_neg h4]
  repeat' split
  all_goals first | rfl | omega
theorem sw_two (op : Int) (h : isV op = true) : (swB op == (doN op 1 2 == doN op 2 1)) = true := by
  unfold isV at h
  simp at h
  rcases (by omega : op = 3 ∨ op = 4 ∨ op = 5 ∨ op = 6 ∨ op = 7 ∨ op = 8 ∨ op = 9 ∨ op = 10) with rfl | rfl | rfl | rfl | rfl | rfl | rfl | rfl <;> decide

theorem sw_is {op : Int} (h : isV op = false) : swB op = false := by
  unfold isV at h
  unfold swB
  simp at h ⊢
  omega

theorem rest_is {op : Int} (h : isV op = false) : restB op = false ∧ restN op = 0 := by
  unfold isV at h
  simp at h
  unfold restB restN
  refine ⟨by simp; omega, ?_⟩
  rw [if_neg (by omega), if_neg (by omega)]
theorem rest_no {op : Int} (h : isV op = true) (h2 : restB op = false) : restN op = 0 ∧ ∀ c, doN op 2 c ≠ 2 := by
  unfold isV at h
  unfold restB at h2
  simp at h h2
  rcases (by omega : op = 9 ∨ op = 10) with rfl | rfl
  all_goals
    refine ⟨rfl, fun c => ?_⟩
    simp [doN]
    split <;> omega
theorem rest_yes {op : Int} (h : restB op = true) (b : Nat) (hb : b < 4294967296) : doN op b (restN op).toNat = b ∧ 0 ≤ restN op ∧ (restN op).toNat < 4294967296 := by
  unfold restB at h
  simp at h
  rcases (by omega : op = 3 ∨ op = 4 ∨ op = 5 ∨ op = 6 ∨ op = 7 ∨ op = 8) with rfl | rfl | rfl | rfl | rfl | rfl
  · exact ⟨by simp [doN, restN]; omega, by decide, by decide⟩
  · exact ⟨by simp [doN, restN]; omega, by decide, by decide⟩
  · exact ⟨by simp [doN, restN]; omega, by decide, by decide⟩
  · refine ⟨?_, by decide, by decide⟩
    show bw 6 b 4294967295 = b
    show b &&& 4294967295 = b
    exact (Nat.and_two_pow_sub_one_eq_mod b 32).trans (Nat.mod_eq_of_lt hb)
  · refine ⟨?_, by decide, by decide⟩
    show b ||| 0 = b
    exact Nat.or_zero b
  · refine ⟨?_, by decide, by decide⟩
    show b ^^^ 0 = b
    exact Nat.xor_zero b

theorem nat_of {z : Int} (h : (Lit.int .u32 z).wf = true) : ∃ n : Nat, z = (n : Int) ∧ n < 4294967296 := by
  simp only [Lit.wf, IntKind.min, IntKind.max, IntKind.signed, IntKind.bits, Bool.and_eq_true] at h
  simp at h
  exact ⟨z.toNat, by omega, by omega⟩

/-- what the frames call: any numbers of these kinds -/
theorem framed {f : FuncId} {a b c : Int} (wb : (Lit.int .u32 b).wf = true) (wc : (Lit.int .u32 c).wf = true) {w : World}
    (h : ∀ (m n : Nat), m < 4294967296 → n < 4294967296 → Calls Tryd.prog f #[.int .i64 a, .int .u32 (m : Int), .int .u32 (n : Int)] w fun e w' => e = .returned (.bool true) ∧ w = w') :
    Calls Tryd.prog f #[.int .i64 a, .int .u32 b, .int .u32 c] w fun e w' => e = .returned (.bool true) ∧ Below w.heap.size w w' := by
  obtain ⟨m, rfl, hm⟩ := nat_of wb
  obtain ⟨n, rfl, hn⟩ := nat_of wc
  exact (h m n hm hn).mono fun e w' ⟨he, hw⟩ => ⟨he, hw ▸ Below.refl _ _⟩

end Go.Proofs.YtiipdeionmndcaaDoor.Al
end
