/-

  The walks of the laws on layer 7: AluDoes, AluSwaps, AluRests return true whatever the kind and the words are.
-/
import Derived.Test.YtgimelpjklnjmabDoorAlu
import Derived.Test.YtgimelpjklnjmabDoorTab
set_option linter.unusedSimpArgs false
set_option linter.unusedVariables false
namespace Go.Proofs.YtgimelpjklnjmabDoor.Al
open Go.ChangeShapes Go.WideShapes Go.ChangeAt Go.RowKit Ws

theorem ado_any (op : Int) (b c : Nat) (hb : b < 4294967296) (hc : c < 4294967296) (w : World) :
    Calls Tryd.prog 82 #[.int .i64 op, .int .u32 (b : Int), .int .u32 (c : Int)] w fun e w' => e = .returned (.tuple #[.int .u32 (doN op b c : Nat), .bool (isV op)]) ∧ w = w' := by
  rcases (by omega : op = 3 ∨ op = 4 ∨ op = 5 ∨ op = 6 ∨ op = 7 ∨ op = 8 ∨ op = 9 ∨ op = 10 ∨ (op < 3 ∨ 10 < op)) with rfl | rfl | rfl | rfl | rfl | rfl | rfl | rfl | h
  · exact ado_3 b c hb hc w
  · exact ado_4 b c hb hc w
  · exact ado_5 b c hb hc w
  · exact ado_6 b c hb hc w
  · exact ado_7 b c hb hc w
  · exact ado_8 b c hb hc w
  · exact ado_9 b c hb hc w
  · exact ado_10 b c hb hc w
  · rw [show isV op = false by unfold isV; simp; omega, show doN op b c = 0 by unfold doN; repeat (rw [if_neg (by omega)])]
    exact ado_no op h b c w

theorem rdo_any (op : Int) (b c : Nat) (hb : b < 4294967296) (hc : c < 4294967296) (w : World) :
    Calls Tryd.prog 36 #[.int .i64 op, .int .u32 (b : Int), .int .u32 (c : Int)] w fun e w' => e = .returned (.tuple #[.int .u32 (doN op b c : Nat), .bool (isV op)]) ∧ w = w' := by
  rcases (by omega : op = 3 ∨ op = 4 ∨ op = 5 ∨ op = 6 ∨ op = 7 ∨ op = 8 ∨ op = 9 ∨ op = 10 ∨ (op < 3 ∨ 10 < op)) with rfl | rfl | rfl | rfl | rfl | rfl | rfl | rfl | h
  · exact rdo_3 b c hb hc w
  · exact rdo_4 b c hb hc w
  · exact rdo_5 b c hb hc w
  · exact rdo_6 b c hb hc w
  · exact rdo_7 b c hb hc w
  · exact rdo_8 b c hb hc w
  · exact rdo_9 b c hb hc w
  · exact rdo_10 b c hb hc w
  · rw [show isV op = false by unfold isV; simp; omega, show doN op b c = 0 by unfold doN; repeat (rw [if_neg (by omega)])]
    exact rdo_no op h b c hb hc w

theorem doN_lt (op : Int) (b c : Nat) (hb : b < 4294967296) (hc : c < 4294967296) : doN op b c < 4294967296 := by
  have h := bw_lt op b c hb hc
  unfold doN
  repeat' split
  all_goals omega

def restN (op : Int) : Int := if op = 5 then 1 else if op = 6 then 4294967295 else 0
def restB (op : Int) : Bool := decide (3 ≤ op ∧ op ≤ 8)

def swB (op : Int) : Bool := decide (3 ≤ op ∧ op ≤ 10 ∧ op ≠ 4 ∧ op ≠ 9)

theorem sw_comm (op : Int) (b c : Nat) (h : swB op = true) : doN op b c = doN op c b := by
  unfold swB at h
  simp at h
  obtain ⟨h1, h2, h3, h4⟩ := h
  unfold doN bw
  rw [Nat.add_comm c b, Nat.mul_comm c b, Nat.and_comm c b, Nat.or_comm c b, Nat.xor_comm c b, if_neg h3, if_neg h3, if_neg h4, if_neg h4]
  repeat' split
  all_goals first | rfl | omega
theorem sw_two (op : Int) (h : isV op = true) : (swB op == (doN op 1 2 == doN op 2 1)) = true := by
  unfold isV at h
  simp at h
  rcases (by omega : op = 3 ∨ op = 4 ∨ op = 5 ∨ op = 6 ∨ op = 7 ∨ op = 8 ∨ op = 9 ∨ op = 10) with rfl | rfl | rfl | rfl | rfl | rfl | rfl | rfl <;> decide

theorem sw_is {op : Int} (h : isV op = false) : swB op = false := by
  unfold isV at h
  unfold swB
  simp at h ⊢
  omega

theorem rest_is {op : Int} (h : isV op = false) : restB op = false ∧ restN op = 0 := by
  unfold isV at h
  simp at h
  unfold restB restN
  refine ⟨by simp; omega, ?_⟩
  rw [if_neg (by omega), if_neg (by omega)]
theorem rest_no {op : Int} (h : isV op = true) (h2 : restB op = false) : restN op = 0 ∧ ∀ c, doN op 2 c ≠ 2 := by
  unfold isV at h
  unfold restB at h2
  simp at h h2
  rcases (by omega : op = 9 ∨ op = 10) with rfl | rfl
  all_goals
    refine ⟨rfl, fun c => ?_⟩
    simp [doN]
    split <;> omega
theorem rest_yes {op : Int} (h : restB op = true) (b : Nat) (hb : b < 4294967296) : doN op b (restN op).toNat = b ∧ 0 ≤ restN op ∧ (restN op).toNat < 4294967296 := by
  unfold restB at h
  simp at h
  rcases (by omega : op = 3 ∨ op = 4 ∨ op = 5 ∨ op = 6 ∨ op = 7 ∨ op = 8) with rfl | rfl | rfl | rfl | rfl | rfl
  · exact ⟨by simp [doN, restN]; omega, by decide, by decide⟩
  · exact ⟨by simp [doN, restN]; omega, by decide, by decide⟩
  · exact ⟨by simp [doN, restN]; omega, by decide, by decide⟩
  · refine ⟨?_, by decide, by decide⟩
    show bw 6 b 4294967295 = b
    show b &&& 4294967295 = b
    exact (Nat.and_two_pow_sub_one_eq_mod b 32).trans (Nat.mod_eq_of_lt hb)
  · refine ⟨?_, by decide, by decide⟩
    show b ||| 0 = b
    exact Nat.or_zero b
  · refine ⟨?_, by decide, by decide⟩
    show b ^^^ 0 = b
    exact Nat.xor_zero b

theorem nat_of {z : Int} (h : (Lit.int .u32 z).wf = true) : ∃ n : Nat, z = (n : Int) ∧ n < 4294967296 := by
  simp only [Lit.wf, IntKind.min, IntKind.max, IntKind.signed, IntKind.bits, Bool.and_eq_true] at h
  simp at h
  exact ⟨z.toNat, by omega, by omega⟩

/-- what the frames call: any numbers of these kinds -/
theorem framed {f : FuncId} {a b c : Int} (wb : (Lit.int .u32 b).wf = true) (wc : (Lit.int .u32 c).wf = true) {w : World}
    (h : ∀ (m n : Nat), m < 4294967296 → n < 4294967296 → Calls Tryd.prog f #[.int .i64 a, .int .u32 (m : Int), .int .u32 (n : Int)] w fun e w' => e = .returned (.bool true) ∧ w = w') :
    Calls Tryd.prog f #[.int .i64 a, .int .u32 b, .int .u32 c] w fun e w' => e = .returned (.bool true) ∧ Below w.heap.size w w' := by
  obtain ⟨m, rfl, hm⟩ := nat_of wb
  obtain ⟨n, rfl, hn⟩ := nat_of wc
  exact (h m n hm hn).mono fun e w' ⟨he, hw⟩ => ⟨he, hw ▸ Below.refl _ _⟩

end Go.Proofs.YtgimelpjklnjmabDoor.Al
