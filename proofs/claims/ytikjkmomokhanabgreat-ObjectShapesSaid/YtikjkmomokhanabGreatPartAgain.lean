/-
  An attempt fails (package operation): Again; and how the block stands to it.
-/
import Derived.Test.YtikjkmomokhanabGreatImp
import Derived.Test.YtikjkmomokhanabGreatOpSeq
set_option linter.unusedSimpArgs false
set_option linter.unusedVariables false
namespace Go.Proofs.YtikjkmomokhanabGreat.Pa
open Go.ChangeShapes Go.WideShapes Go.ChangeAt Go.RowKit Ws Mm
open Go.Proofs.YtikjkmomokhanabGreat.Op (Im St more failS)

/-- which stage comes behind an attempt that failed -/
def Pt.failed (p : Pt) : Pt := if p.att - 1 < 1 then { p with att := p.att - 1, un := false, code := 1 } else { p with att := p.att - 1, stage := 1, turn := 0 }

section
variable {R : Nat → Prop} {g gm : Nat} {T : TypeId} {p : Pt} {ex : List Value} {l : List Int} {st : Int}
theorem pagain (w : World) (h : PB w g T p ex) (m : Mem w R gm l st) (hg : ¬ R g) (ha : 0 ≤ p.att ∧ p.att ≤ 100000) :
    Calls Tryz.prog 184 #[.pointer (some ⟨g, 0, none⟩)] w fun e w' => e = .returned (.bool (!decide (p.att - 1 < 1))) ∧
      Lft R g gm T (if p.att - 1 < 1 then { p with att := p.att - 1 } else { p with att := p.att - 1, stage := 1, turn := 0 }) ex l st w w' := by
  obtain ⟨_, _, _, c3, c4, _, _⟩ := h.head
  obtain ⟨c15, _⟩ := h.last
  have f3 := h.thaw 3
  have f4 := h.thaw 4
  have f15 := h.thaw 15
  have L1 := (Lft.first h m).set hg 15 _ (h.put_att (p.att - 1))
  have L2 := L1.set hg 3 _ (L1.op.put_stage 1)
  have L3 := L2.set hg 4 _ (L2.op.put_turn 0)
  obtain ⟨ha1, ha2⟩ := ha
  by_cases hlt : p.att - 1 < 1
  · rw [if_pos hlt, decide_eq_true hlt]
    clear L2 L3
    go_enter Tryz.func184, Tryz.ntmps184
    go_wp2
    go_ret
    exact ⟨rfl, L1⟩
  · rw [if_neg hlt, decide_eq_false hlt]
    go_enter Tryz.func184, Tryz.ntmps184
    go_wp2
    go_ret
    exact ⟨rfl, L3⟩
end

/-- a step that fails -/
theorem imp_fail {o : Im} {size : Nat} {s : St} {p : Pt} (h : Imp o size s p) (hov : s.over = false) (s1 : St) (k1 : s1.steps = s.steps + 1) (k2 : s1.tries = s.tries) (k3 : s1.over = false) (k4 : s1.code = s.code) :
    Imp o size (failS o s1) (Pt.failed { p with steps := p.steps + 1 }) := by
  obtain ⟨h1, h2, h3, h4, h5, h6, h7, h8, h9, h10, h11, h12⟩ := h
  have h15 := h12 hov
  unfold failS Pt.failed
  by_cases hc : o.cap ≤ s1.tries + 1
  · rw [if_pos hc, if_pos (by simp only; omega)]
    exact ⟨h1, h2, h3, h4, h5, by simp [Op.St.fin], by simp [Op.St.fin], by simp only [Op.St.fin]; omega, rfl, rfl, fun h => (by cases h), fun h => (by cases h)⟩
  · rw [if_neg hc, if_neg (by simp only; omega)]
    exact ⟨h1, h2, h3, h4, h5, by simp, by simp, by simp only; omega, by simp only; rw [k3, ← hov]; exact h9, by simp only; rw [k4]; exact h10, fun _ => ⟨rfl, rfl⟩, fun _ => by simp only; omega⟩
end Go.Proofs.YtikjkmomokhanabGreat.Pa
