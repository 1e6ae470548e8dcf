/-
 What the best walk through a program weighs (chapter 12): plain; and that nothing weighs less where weights are no less.
-/
import Derived.Test.YthhbhbfkbncegaaGreatDoorFlowMore
set_option linter.unusedSimpArgs false
set_option linter.unusedVariables false
namespace Go.Proofs.YthhbhbfkbncegaaGreatDoor.Cs
open Fp (Ins at_ Fine check loopsL hasB nextL)

def clI (n : Int) : Int := max 0 (min n 1099511627776)
def adI (a b : Int) : Int := min (max 0 (min a 1099511627776) + max 0 (min b 1099511627776)) 1099511627776
/-- what a part weighs: gone through, and ended within -/
structure Wy where
 thru : Int
 fin : Int
def bestI (bt : Int → Int → Bool) (a b : Int) : Int := if b = -1 ∨ (a ≠ -1 ∧ bt a b = true) then a else b
def bothI (a b : Int) : Int := if a = -1 ∨ b = -1 then -1 else adI a b
def leadI (bt : Int → Int → Bool) (come : List Int) (t n : Int) : List Int := come.set t.toNat (bestI bt (come.getD t.toNat 0) n)
abbrev Known := List ((Int × Int) × Wy)
/-- of the loops that have a place the last one -/
def lastIn (ls : Known) (k : Int) : Option ((Int × Int) × Wy) := ls.reverse.find? fun l => hasB l.1 k
def hereI (w come : List Int) (k : Nat) : Int := bothI (come.getD k 0) (clI (w.getD k 0))
structure St where
 come : List Int
 all : Wy
def onceS (bt : Int → Int → Bool) (p : List Ins) (w : List Int) (ls : Known) (last : Int) (s : St) (k : Nat) : St :=
 match lastIn ls k with
 | some l => if (k : Int) = l.1.1 then ⟨leadI bt s.come (l.1.2 + 1) (bothI (s.come.getD k 0) l.2.thru), ⟨s.all.thru, bestI bt s.all.fin (bothI (s.come.getD k 0) l.2.fin)⟩⟩ else s
 | none =>
  if (at_ p k).op = 21 then ⟨s.come, ⟨s.all.thru, bestI bt s.all.fin (hereI w s.come k)⟩⟩
  else if (k : Int) = last then ⟨s.come, ⟨hereI w s.come k, s.all.fin⟩⟩
  else ⟨(nextL p k).foldl (fun c t => leadI bt c t (hereI w s.come k)) s.come, s.all⟩
def come0 (n : Nat) (k : Nat) : List Int := (List.replicate (n + 1) (-1)).set k 0
/-- so many places from the first one on -/
def onceT (bt : Int → Int → Bool) (p : List Ins) (w : List Int) (ls : Known) (a : Nat) (last : Int) : Nat → St
 | 0 => ⟨come0 p.length a, ⟨-1, -1⟩⟩
 | n + 1 => onceS bt p w ls last (onceT bt p w ls a last n) (a + n)
def onceW (bt : Int → Int → Bool) (p : List Ins) (w : List Int) (ls : Known) (s : Int × Int) : Wy := (onceT bt p w ls s.1.toNat s.2 (s.2 + 1 - s.1).toNat).all
def repW (bt : Int → Int → Bool) (x : Wy) : Nat → Wy
 | 0 => ⟨0, -1⟩
 | n + 1 => ⟨bothI (repW bt x n).thru x.thru, bestI bt (repW bt x n).fin (bothI (repW bt x n).thru x.fin)⟩
def knownT (bt : Int → Int → Bool) (p : List Ins) (w : List Int) : Nat → Known
 | 0 => []
 | n + 1 => knownT bt p w n ++ [(((loopsL p).getD n (0, 0)), repW bt (onceW bt p w (knownT bt p w n) ((loopsL p).getD n (0, 0))) ((at_ p ((loopsL p).getD n (0, 0)).2.toNat).c + 1).toNat)]
def weighW (bt : Int → Int → Bool) (p : List Ins) (w : List Int) : Int := (onceW bt p w (knownT bt p w (loopsL p).length) (0, (p.length : Int) - 1)).fin

end Go.Proofs.YthhbhbfkbncegaaGreatDoor.Cs
