/-
  What stands of each way of a program that may be (chapter 10): plain.
-/
import Derived.Test.YtnlndkpjfgpodaaDoorFlowMore
set_option linter.unusedSimpArgs false
set_option linter.unusedVariables false
namespace Go.Proofs.YtnlndkpjfgpodaaDoor.Fp

/-- all that is asked of one way -/
structure OneWay (p : List Ins) (k : Nat) (t : Int) : Prop where
  lo : 0 ≤ t
  hi : t < p.length
  ne : ¬ t = (k : Int)
  reach : R p p.length k = true → R p p.length t.toNat = true
  into : ∀ s, s ∈ loopsL p → hasB s t = true → hasB s k = false → t = s.1
  out : ∀ s, s ∈ loopsL p → hasB s k = true → hasB s t = false → (k : Int) = s.2
  down : t < k → (at_ p k).op = 16
section
variable {right : Ins → Bool} {p : List Ins}
theorem Fine.way (h : Fine right p) (hn : ∀ j, j < p.length → 0 ≤ (at_ p j).n) {k : Nat} (hk : k < p.length) {t : Int} (ht : t ∈ nextL p k) : OneWay p k t := by
  obtain ⟨hb, he⟩ := h.edge hn hk ht
  refine ⟨hb.1, hb.2, ?_, fun hr => R_closed h hn hk hr ht, fun s hs => (h.ways hn hk ht hs).1, fun s hs => (h.ways hn hk ht hs).2, ?_⟩
  · rcases he with ⟨_, _, h1⟩ | h1 | ⟨_, _, h1⟩ <;> omega
  · intro h0
    rcases he with ⟨_, _, h1⟩ | h1 | ⟨h2, _, h1⟩
    · omega
    · omega
    · exact h2
theorem next_done {k : Nat} (h : (at_ p k).op = 21) : nextL p k = [] := by unfold nextL; rw [if_pos h]
theorem next_some {k : Nat} (h : ¬ (at_ p k).op = 21) : 0 < (nextL p k).length := by
  unfold nextL
  rw [if_neg h]
  repeat' split
  all_goals simp
theorem next_len (p : List Ins) (k : Nat) : (nextL p k).length ≤ 2 := by
  unfold nextL
  repeat' split
  all_goals simp
theorem check_many {right : Ins → Bool} (h : 64 < p.length) : (check right p).2 = 1 := by rw [check_size (.inr h)]
end

end Go.Proofs.YtnlndkpjfgpodaaDoor.Fp
