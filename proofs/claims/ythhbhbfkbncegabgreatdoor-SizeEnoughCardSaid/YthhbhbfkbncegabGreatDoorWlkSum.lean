/-
 What a walk of given choices weighs, against what the best walks weigh (chapter 12): plain.
-/
import Derived.Test.YthhbhbfkbncegabGreatDoorCstPart
section
section
set_option linter.unusedSimpArgs false
set_option linter.unusedVariables false
set_option linter.unusedSectionVars false
namespace Go.Proofs.YthhbhbfkbncegabGreatDoor.Wk
open Fp (Ins at_ Fine check loopsL hasB nextL lp has_iff)
open Cs (spn spn_lt spn_top spn_in lp_in lp_back lp_spn back_last last_back)

/-- what may be added and multiplied -/
structure Sr (α : Type) where
 add : α → α → α
 mul : α → α → α
 zero : α
 one : α
 add_comm : ∀ a b, add a b = add b a
 add_assoc : ∀ a b c, add (add a b) c = add a (add b c)
 add_zero : ∀ a, add a zero = a
 mul_assoc : ∀ a b c, mul (mul a b) c = mul a (mul b c)
 one_mul : ∀ a, mul one a = a
 mul_one : ∀ a, mul a one = a
 zero_mul : ∀ a, mul zero a = zero
 mul_zero : ∀ a, mul a zero = zero
 dl : ∀ a b c, mul a (add b c) = add (mul a b) (mul a c)
 dr : ∀ a b c, mul (add a b) c = add (mul a c) (mul b c)
/-- a part: gone through, and ended within -/
structure Wg (α : Type) where
 thru : α
 fin : α
section
variable {α : Type} (S : Sr α)
theorem zero_add (a : α) : S.add S.zero a = a := by rw [S.add_comm, S.add_zero]
def mulW (x y : Wg α) : Wg α := ⟨S.mul x.thru y.thru, S.add x.fin (S.mul x.thru y.fin)⟩
def addW (x y : Wg α) : Wg α := ⟨S.add x.thru y.thru, S.add x.fin y.fin⟩
def oneW : Wg α := ⟨S.one, S.zero⟩
def zeroW : Wg α := ⟨S.zero, S.zero⟩
def sc (a : α) (x : Wg α) : Wg α := ⟨S.mul a x.thru, S.mul a x.fin⟩
def sumW : List (Wg α) → Wg α
 | [] => zeroW S
 | x :: l => addW S x (sumW l)
/-- so many times -/
def pw (x : Wg α) : Nat → Wg α
 | 0 => oneW S
 | n + 1 => mulW S (pw x n) x
variable (p : List Ins)
/-- of the loops below n that have a place the last one -/
def lastJ : Nat → Int → Option Nat
 | 0, _ => none
 | n + 1, k => if hasB (lp (loopsL p) n) k = true then some n else lastJ n k
variable (h : Nat → α) (o : Nat → Wg α)
/-- a loop as a whole -/
def rp (j : Nat) : Wg α := pw S (o j) ((at_ p (lp (loopsL p) j).2.toNat).c + 1).toNat
def stepG (n : Nat) (g : Nat → Wg α) (k : Nat) : Wg α :=
 match lastJ p n k with
 | some j => if (k : Int) = (lp (loopsL p) j).1 then mulW S (rp S p o j) (g ((lp (loopsL p) j).2 + 1).toNat) else zeroW S
 | none =>
  if (at_ p k).op = 21 then ⟨S.zero, h k⟩
  else if (k : Int) = (spn p n).2 then ⟨h k, S.zero⟩
  else sc S (h k) (sumW S ((nextL p k).map fun t => g t.toNat))
def bk (n : Nat) : Nat → Nat → Wg α
 | 0, _ => zeroW S
 | f + 1, k => stepG S p h o n (bk n f) k
/-- from a place of a part to its end -/
def G (n k : Nat) : Wg α := bk S p h o n p.length k

end

section
variable {α : Type} {S : Sr α} {p : List Ins} {h : Nat → α} {o : Nat → Wg α} {right : Ins → Bool}
variable (hF : Fine right p) (hn : ∀ j, j < p.length → 0 ≤ (at_ p j).n)
include hF hn
/-! ### forwards and backwards -/
end
end Go.Proofs.YthhbhbfkbncegabGreatDoor.Wk
end
section
set_option linter.unusedSimpArgs false
set_option linter.unusedVariables false
set_option linter.unusedSectionVars false
namespace Go.Proofs.YthhbhbfkbncegabGreatDoor.Wk
open Fp (Ins at_ Fine check loopsL hasB nextL lp has_iff)
open Cs (spn spn_lt spn_top spn_in lp_in lp_back lp_spn back_last last_back)

/-- where one is on a walk: the place, and how often each Back went back -/
structure Sp where
 pc : Nat
 tn : Nat → Int
def up (f : Nat → Int) (k : Nat) (v : Int) : Nat → Int := fun u => if u = k then v else f u
def nx (p : List Ins) (s : Sp) (jump : Bool) : Sp :=
 if (at_ p s.pc).op = 16 then (if s.tn s.pc < (at_ p s.pc).c then ⟨(at_ p s.pc).n.toNat, up s.tn s.pc (s.tn s.pc + 1)⟩ else ⟨s.pc + 1, up s.tn s.pc 0⟩)
 else if (at_ p s.pc).op = 14 ∨ ((at_ p s.pc).op = 15 ∧ jump = true) then ⟨(at_ p s.pc).n.toNat, s.tn⟩ else ⟨s.pc + 1, s.tn⟩
def Sp0 : Sp := ⟨0, fun _ => 0⟩
section
variable {α : Type} (S : Sr α) (p : List Ins) (h : Nat → α) (o : Nat → Wg α)
/-- how often the Back of the loop j may go back yet -/
def lft (s : Sp) (j : Nat) : Nat := ((at_ p (lp (loopsL p) j).2.toNat).c - s.tn (lp (loopsL p) j).2.toNat).toNat
def vt (s : Sp) : Nat → Nat → Nat → Wg α
 | m, 0, pos => G S p h o m pos
 | m, i + 1, pos => if hasB (lp (loopsL p) m) s.pc = true then mulW S (G S p h o m pos) (mulW S (pw S (o m) (lft p s m)) (vt s (m + 1) i ((lp (loopsL p) m).2 + 1).toNat)) else vt s (m + 1) i pos
def Vt (s : Sp) (m pos : Nat) : Wg α := vt S p h o s m ((loopsL p).length - m) pos
def V (s : Sp) : α := (Vt S p h o s 0 s.pc).fin
end
section
variable {α : Type} {S : Sr α} {p : List Ins} {h : Nat → α} {o : Nat → Wg α} {right : Ins → Bool}
variable (hF : Fine right p) (hn : ∀ j, j < p.length → 0 ≤ (at_ p j).n)
include hF hn
/-- two loops that share a place lie one in the other -/
theorem within {j m : Nat} (hj : j < m) (hm : m < (loopsL p).length) {k : Int} (h1 : hasB (lp (loopsL p) j) k = true) (h2 : hasB (lp (loopsL p) m) k = true) : (lp (loopsL p) m).1 ≤ (lp (loopsL p) j).1 ∧ (lp (loopsL p) j).2 < (lp (loopsL p) m).2 := by
 have h3 := Fp.lp_lt hj hm
 have h4 := hF.nest (Fp.lp_mem (by omega : j < (loopsL p).length)) (Fp.lp_mem hm) h3
 have h5 := has_iff.1 h1
 have h6 := has_iff.1 h2
 unfold Fp.overB at h4
 simp at h4
 omega
end
end Go.Proofs.YthhbhbfkbncegabGreatDoor.Wk
end
end
section
section
section
set_option linter.unusedSimpArgs false
set_option linter.unusedVariables false
set_option linter.unusedSectionVars false
namespace Go.Proofs.YthhbhbfkbncegabGreatDoor.Wk
open Fp (Ins at_ Fine check loopsL hasB nextL lp has_iff)
open Cs (spn spn_lt spn_top spn_in lp_in lp_back lp_spn back_last last_back)

/-- a Zero that may lead to two places -/
def Jmp (p : List Ins) (k : Nat) : Prop := (at_ p k).op = 15 ∧ ¬ (at_ p k).n = (k : Int) + 1
instance (p : List Ins) (k : Nat) : Decidable (Jmp p k) := by unfold Jmp; infer_instance
section
variable {α : Type} {S : Sr α} {p : List Ins} {h : Nat → α} {o : Nat → Wg α} {right : Ins → Bool}
variable (hF : Fine right p) (hn : ∀ j, j < p.length → 0 ≤ (at_ p j).n)
include hF hn
/-! ### something comes -/
omit hF hn in
structure Nz (S : Sr α) (nz : α → Prop) : Prop where
 one : nz S.one
 mul : ∀ a b, nz a → nz b → nz (S.mul a b)
 left : ∀ a b, nz a → nz (S.add a b)
section
variable {nz : α → Prop} (hz : Nz S nz)
include hz
end
end
end Go.Proofs.YthhbhbfkbncegabGreatDoor.Wk
end
section
set_option linter.unusedSimpArgs false
set_option linter.unusedVariables false
set_option linter.unusedSectionVars false
namespace Go.Proofs.YthhbhbfkbncegabGreatDoor.Wk
open Fp (Ins at_ Fine check loopsL hasB nextL lp has_iff)
open Cs (spn spn_lt spn_top spn_in lp_in lp_back lp_spn back_last last_back Ok ok_none ok_zero ok_both ok_cl clI adI bestI bothI leadI Wy Known lastIn hereI St onceS onceT onceW repW knownT weighW come0 last_known getD_set btG)

abbrev Vl : Type := { v : Int // Ok v }
/-- what is asked of 'better' -/
structure Bt (bt : Int → Int → Bool) : Prop where
 ok : ∀ a b, Ok a → Ok b → Ok (bestI bt a b)
 comm : ∀ a b, Ok a → Ok b → bestI bt a b = bestI bt b a
 assoc : ∀ a b c, Ok a → Ok b → Ok c → bestI bt (bestI bt a b) c = bestI bt a (bestI bt b c)
 dist : ∀ a b c, Ok a → Ok b → Ok c → bothI a (bestI bt b c) = bestI bt (bothI a b) (bothI a c)
def hW (w : List Int) (k : Nat) : Vl := ⟨clI (w.getD k 0), ok_cl _⟩
instance (v : Int) : Decidable (Ok v) := by unfold Ok; infer_instance
section
variable {p : List Ins} {right : Ins → Bool} {bt : Int → Int → Bool} (hb : Bt bt)
variable (hF : Fine right p) (hn : ∀ j, j < p.length → 0 ≤ (at_ p j).n)
include hF hn
end
end Go.Proofs.YthhbhbfkbncegabGreatDoor.Wk
end
end
section
section
set_option linter.unusedSimpArgs false
set_option linter.unusedVariables false
set_option linter.unusedSectionVars false
namespace Go.Proofs.YthhbhbfkbncegabGreatDoor.Wk
open Fp (Ins at_ Fine check loopsL hasB nextL lp has_iff)

/-- the next state, and how many choices were made -/
def wkN (p : List Ins) (ch : List Bool) (x : Sp × Nat) : Sp × Nat := if (at_ p x.1.pc).op = 15 then (nx p x.1 (ch.getD x.2 false), x.2 + 1) else (nx p x.1 false, x.2)
def wk (p : List Ins) (ch : List Bool) : Nat → Sp × Nat
 | 0 => (Sp0, 0)
 | i + 1 => wkN p ch (wk p ch i)
/-- nobody of the first ones is a Done -/
def NoD (p : List Ins) (ch : List Bool) (n : Nat) : Prop := ∀ i, i < n → ¬ (at_ p (wk p ch i).1.pc).op = 21
theorem NoD.succ {p : List Ins} {ch : List Bool} {n : Nat} (h : NoD p ch n) (h1 : ¬ (at_ p (wk p ch n).1.pc).op = 21) : NoD p ch (n + 1) := fun i hi => by
 rcases Nat.lt_or_ge i n with h2 | h2
 ·exact h i h2
 ·have : i = n := by omega
  subst this; exact h1
section
variable {p : List Ins} {right : Ins → Bool} (hF : Fine right p) (hn : ∀ j, j < p.length → 0 ≤ (at_ p j).n)
include hF hn
end
end Go.Proofs.YthhbhbfkbncegabGreatDoor.Wk
end
section
set_option linter.unusedSimpArgs false
set_option linter.unusedVariables false
set_option linter.unusedSectionVars false
namespace Go.Proofs.YthhbhbfkbncegabGreatDoor.Wk
open Fp (Ins at_ Fine check loopsL hasB nextL lp has_iff)
open Cs (Ok clI adI bestI bothI weighW btG ok_cl)

section
variable {p : List Ins} {right : Ins → Bool} (hF : Fine right p) (hn : ∀ j, j < p.length → 0 ≤ (at_ p j).n) (hC : ∀ j, j < (loopsL p).length → 0 ≤ (at_ p (lp (loopsL p) j).2.toNat).c)
include hF hn hC
end
end Go.Proofs.YthhbhbfkbncegabGreatDoor.Wk
end
end
end
