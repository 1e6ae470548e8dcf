/-
 What a walk of given choices weighs, against what the best walks weigh (chapter 12): plain.
-/
import Derived.Test.YthhbhbfkbncegabGreatDoorCstPart
section
section
set_option linter.unusedSimpArgs false
set_option linter.unusedVariables false
set_option linter.unusedSectionVars false
namespace Go.Proofs.YthhbhbfkbncegabGreatDoor.Wk
open Fp (Ins at_ Fine check loopsL hasB nextL lp has_iff)
open Cs (spn spn_lt spn_top spn_in lp_in lp_back lp_spn back_last last_back)

section
variable {α : Type} (S : Sr α)
variable (p : List Ins)
variable (h : Nat → α) (o : Nat → Wg α)
end

section
variable {α : Type} {S : Sr α} {p : List Ins} {h : Nat → α} {o : Nat → Wg α} {right : Ins → Bool}
variable (hF : Fine right p) (hn : ∀ j, j < p.length → 0 ≤ (at_ p j).n)
include hF hn
/-! ### forwards and backwards -/
omit hF hn in
omit hF hn in
omit hF hn in
omit hF hn in
end
end Go.Proofs.YthhbhbfkbncegabGreatDoor.Wk
end
section
set_option linter.unusedSimpArgs false
set_option linter.unusedVariables false
set_option linter.unusedSectionVars false
namespace Go.Proofs.YthhbhbfkbncegabGreatDoor.Wk
open Fp (Ins at_ Fine check loopsL hasB nextL lp has_iff)
open Cs (spn spn_lt spn_top spn_in lp_in lp_back lp_spn back_last last_back)

/-- where one is on a walk: the place, and how often each Back went back -/
structure Sp where
 pc : Nat
 tn : Nat → Int
def up (f : Nat → Int) (k : Nat) (v : Int) : Nat → Int := fun u => if u = k then v else f u
def nx (p : List Ins) (s : Sp) (jump : Bool) : Sp :=
 if (at_ p s.pc).op = 16 then (if s.tn s.pc < (at_ p s.pc).c then ⟨(at_ p s.pc).n.toNat, up s.tn s.pc (s.tn s.pc + 1)⟩ else ⟨s.pc + 1, up s.tn s.pc 0⟩)
 else if (at_ p s.pc).op = 14 ∨ ((at_ p s.pc).op = 15 ∧ jump = true) then ⟨(at_ p s.pc).n.toNat, s.tn⟩ else ⟨s.pc + 1, s.tn⟩
def Sp0 : Sp := ⟨0, fun _ => 0⟩
section
variable {α : Type} (S : Sr α) (p : List Ins) (h : Nat → α) (o : Nat → Wg α)
end
section
variable {α : Type} {S : Sr α} {p : List Ins} {h : Nat → α} {o : Nat → Wg α} {right : Ins → Bool}
variable (hF : Fine right p) (hn : ∀ j, j < p.length → 0 ≤ (at_ p j).n)
include hF hn
omit hF hn in
end
end Go.Proofs.YthhbhbfkbncegabGreatDoor.Wk
end
end
section
section
section
set_option linter.unusedSimpArgs false
set_option linter.unusedVariables false
set_option linter.unusedSectionVars false
namespace Go.Proofs.YthhbhbfkbncegabGreatDoor.Wk
open Fp (Ins at_ Fine check loopsL hasB nextL lp has_iff)
open Cs (spn spn_lt spn_top spn_in lp_in lp_back lp_spn back_last last_back)

/-- a Zero that may lead to two places -/
def Jmp (p : List Ins) (k : Nat) : Prop := (at_ p k).op = 15 ∧ ¬ (at_ p k).n = (k : Int) + 1
instance (p : List Ins) (k : Nat) : Decidable (Jmp p k) := by unfold Jmp; infer_instance
section
variable {α : Type} {S : Sr α} {p : List Ins} {h : Nat → α} {o : Nat → Wg α} {right : Ins → Bool}
variable (hF : Fine right p) (hn : ∀ j, j < p.length → 0 ≤ (at_ p j).n)
include hF hn
/-! ### something comes -/
omit hF hn in
omit hF hn in
section
variable {nz : α → Prop} (hz : Nz S nz)
include hz
omit hF hn in
omit hF hn in
omit hF hn in
omit hF hn in
omit hF hn in
omit hz in
end
end
end Go.Proofs.YthhbhbfkbncegabGreatDoor.Wk
end
section
set_option linter.unusedSimpArgs false
set_option linter.unusedVariables false
set_option linter.unusedSectionVars false
namespace Go.Proofs.YthhbhbfkbncegabGreatDoor.Wk
open Fp (Ins at_ Fine check loopsL hasB nextL lp has_iff)
open Cs (spn spn_lt spn_top spn_in lp_in lp_back lp_spn back_last last_back Ok ok_none ok_zero ok_both ok_cl clI adI bestI bothI leadI Wy Known lastIn hereI St onceS onceT onceW repW knownT weighW come0 last_known getD_set btG)

instance (v : Int) : Decidable (Ok v) := by unfold Ok; infer_instance
section
variable {p : List Ins} {right : Ins → Bool} {bt : Int → Int → Bool} (hb : Bt bt)
variable (hF : Fine right p) (hn : ∀ j, j < p.length → 0 ≤ (at_ p j).n)
include hF hn
omit hF hn in
end
end Go.Proofs.YthhbhbfkbncegabGreatDoor.Wk
end
end
section
section
set_option linter.unusedSimpArgs false
set_option linter.unusedVariables false
set_option linter.unusedSectionVars false
namespace Go.Proofs.YthhbhbfkbncegabGreatDoor.Wk
open Fp (Ins at_ Fine check loopsL hasB nextL lp has_iff)

/-- the next state, and how many choices were made -/
def wkN (p : List Ins) (ch : List Bool) (x : Sp × Nat) : Sp × Nat := if (at_ p x.1.pc).op = 15 then (nx p x.1 (ch.getD x.2 false), x.2 + 1) else (nx p x.1 false, x.2)
def wk (p : List Ins) (ch : List Bool) : Nat → Sp × Nat
 | 0 => (Sp0, 0)
 | i + 1 => wkN p ch (wk p ch i)
/-- nobody of the first ones is a Done -/
def NoD (p : List Ins) (ch : List Bool) (n : Nat) : Prop := ∀ i, i < n → ¬ (at_ p (wk p ch i).1.pc).op = 21
theorem NoD.succ {p : List Ins} {ch : List Bool} {n : Nat} (h : NoD p ch n) (h1 : ¬ (at_ p (wk p ch n).1.pc).op = 21) : NoD p ch (n + 1) := fun i hi => by
 rcases Nat.lt_or_ge i n with h2 | h2
 ·exact h i h2
 ·have : i = n := by omega
  subst this; exact h1
section
variable {p : List Ins} {right : Ins → Bool} (hF : Fine right p) (hn : ∀ j, j < p.length → 0 ≤ (at_ p j).n)
include hF hn
omit hn in
end
end Go.Proofs.YthhbhbfkbncegabGreatDoor.Wk
end
section
set_option linter.unusedSimpArgs false
set_option linter.unusedVariables false
set_option linter.unusedSectionVars false
namespace Go.Proofs.YthhbhbfkbncegabGreatDoor.Wk
open Fp (Ins at_ Fine check loopsL hasB nextL lp has_iff)
open Cs (Ok clI adI bestI bothI weighW btG ok_cl)

section
variable {p : List Ins} {right : Ins → Bool} (hF : Fine right p) (hn : ∀ j, j < p.length → 0 ≤ (at_ p j).n) (hC : ∀ j, j < (loopsL p).length → 0 ≤ (at_ p (lp (loopsL p) j).2.toNat).c)
include hF hn hC
end
end Go.Proofs.YthhbhbfkbncegabGreatDoor.Wk
end
end
end
