/-

  Numbers of ways, counted up to a top: what may be added and multiplied (an instance of Sr); plain.
-/
import Derived.Test.YtnlndkpjfgpodaaDoorWlkLive
import Derived.Test.YtnlndkpjfgpodaaDoorWordBase
set_option linter.unusedSimpArgs false
set_option linter.unusedVariables false
namespace Go.Proofs.YtnlndkpjfgpodaaDoor.Wk
open Go.Proofs.YtnlndkpjfgpodaaDoor.Wd (addv mulv sm)

/-- a number of ways -/
abbrev Nw (v : Int) : Prop := 0 ≤ v ∧ v ≤ 1099511627776
theorem nw_sm {a : Int} (h : Nw a) : sm a = a := by unfold sm; omega
theorem nw_add (a b : Int) : Nw (addv a b) := by unfold Nw addv sm; omega
theorem add_is {a b : Int} (ha : Nw a) (hb : Nw b) : addv a b = min (a + b) 1099511627776 := by unfold addv; rw [nw_sm ha, nw_sm hb]
theorem mul_is {a b : Int} (ha : Nw a) (hb : Nw b) : mulv a b = min (a * b) 1099511627776 := by unfold mulv; rw [nw_sm ha, nw_sm hb]
theorem nw_mul {a b : Int} (ha : Nw a) (hb : Nw b) : Nw (mulv a b) := by
  rw [mul_is ha hb]
  have := Int.mul_nonneg ha.1 hb.1
  unfold Nw
  omega
/-- what is cut off before it is multiplied is cut off behind it, too -/
theorem cut_mul {a x : Int} (ha : 0 ≤ a) (hx : 0 ≤ x) : min (a * min x 1099511627776) 1099511627776 = min (a * x) 1099511627776 := by
  rcases Int.le_total x 1099511627776 with h | h
  · rw [Int.min_eq_left h]
  · rw [Int.min_eq_right h]
    rcases Int.lt_or_le 0 a with h1 | h1
    · have h2 : 1 * 1099511627776 ≤ a * 1099511627776 := Int.mul_le_mul_of_nonneg_right (by omega) (by omega)
      have h3 : a * 1099511627776 ≤ a * x := Int.mul_le_mul_of_nonneg_left h ha
      omega
    · obtain rfl : a = 0 := by omega
      rw [Int.zero_mul, Int.zero_mul]
theorem cut_add {a x : Int} (ha : 0 ≤ a) (hx : 0 ≤ x) : min (a + min x 1099511627776) 1099511627776 = min (a + x) 1099511627776 := by omega
theorem mulv_comm {a b : Int} : mulv a b = mulv b a := by unfold mulv; rw [Int.mul_comm]
theorem addv_comm {a b : Int} : addv a b = addv b a := by unfold addv; rw [Int.add_comm]
theorem addv_assoc {a b c : Int} (ha : Nw a) (hb : Nw b) (hc : Nw c) : addv (addv a b) c = addv a (addv b c) := by
  rw [add_is (nw_add _ _) hc, add_is ha (nw_add _ _), add_is ha hb, add_is hb hc]
  obtain ⟨a1, a2⟩ := ha
  obtain ⟨b1, b2⟩ := hb
  obtain ⟨c1, c2⟩ := hc
  omega
theorem mulv_assoc {a b c : Int} (ha : Nw a) (hb : Nw b) (hc : Nw c) : mulv (mulv a b) c = mulv a (mulv b c) := by
  rw [mul_is (nw_mul ha hb) hc, mul_is ha (nw_mul hb hc), mul_is ha hb, mul_is hb hc, cut_mul ha.1 (Int.mul_nonneg hb.1 hc.1), Int.mul_comm, cut_mul hc.1 (Int.mul_nonneg ha.1 hb.1), Int.mul_comm, Int.mul_assoc]
theorem mulv_dl {a b c : Int} (ha : Nw a) (hb : Nw b) (hc : Nw c) : mulv a (addv b c) = addv (mulv a b) (mulv a c) := by
  have h1 := Int.mul_nonneg ha.1 hb.1
  have h2 := Int.mul_nonneg ha.1 hc.1
  rw [mul_is ha (nw_add _ _), add_is (nw_mul ha hb) (nw_mul ha hc), add_is hb hc, mul_is ha hb, mul_is ha hc, cut_mul ha.1 (by have := hb.1; have := hc.1; omega), Int.mul_add]
  omega
abbrev Ct : Type := { v : Int // Nw v }
def srC : Sr Ct where
  add a b := ⟨addv a.1 b.1, nw_add _ _⟩
  mul a b := ⟨mulv a.1 b.1, nw_mul a.2 b.2⟩
  zero := ⟨0, by decide⟩
  one := ⟨1, by decide⟩
  add_comm a b := Subtype.ext addv_comm
  add_assoc a b c := Subtype.ext (addv_assoc a.2 b.2 c.2)
  add_zero a := Subtype.ext (by
    show addv a.1 0 = a.1
    rw [add_is a.2 (by decide)]
    have := a.2.2
    omega)
  mul_assoc a b c := Subtype.ext (mulv_assoc a.2 b.2 c.2)
  one_mul a := Subtype.ext (by
    show mulv 1 a.1 = a.1
    rw [mul_is (by decide) a.2, Int.one_mul]
    have := a.2.2
    omega)
  mul_one a := Subtype.ext (by
    show mulv a.1 1 = a.1
    rw [mul_is a.2 (by decide), Int.mul_one]
    have := a.2.2
    omega)
  zero_mul a := Subtype.ext (by
    show mulv 0 a.1 = 0
    rw [mul_is (by decide) a.2, Int.zero_mul]
    rfl)
  mul_zero a := Subtype.ext (by
    show mulv a.1 0 = 0
    rw [mul_is a.2 (by decide), Int.mul_zero]
    rfl)
  dl a b c := Subtype.ext (mulv_dl a.2 b.2 c.2)
  dr a b c := Subtype.ext (by
    show mulv (addv a.1 b.1) c.1 = addv (mulv a.1 c.1) (mulv b.1 c.1)
    rw [mulv_comm, mulv_dl c.2 a.2 b.2, mulv_comm (a := c.1), mulv_comm (a := c.1)])
end Go.Proofs.YtnlndkpjfgpodaaDoor.Wk
