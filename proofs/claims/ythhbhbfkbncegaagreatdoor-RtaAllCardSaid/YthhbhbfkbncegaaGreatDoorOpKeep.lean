/-
 What is read is what was written last, as long as nobody writes: of four slots; plain.
-/
import Derived.Test.YthhbhbfkbncegaaGreatDoorWords
section
set_option linter.unusedSimpArgs false
set_option linter.unusedVariables false
namespace Go.Proofs.YthhbhbfkbncegaaGreatDoor.Op

/-- an operation that is under way: which row of its chapter comes next (from 0 on), how often that row was made, the words that it keeps -/
structure St where
 row : Nat
 i : Nat
 rc : List Int
 a : Int
 b : Int
 used : List Bool
 tries : Nat
 steps : Nat
 code : Int
 over : Bool

/-- what does not change: where the object stands, how many words a record has, how many readers, slots and attempts there are, whose operation it is, whether it writes -/
structure Im where
 at_ : Nat
 width : Nat
 n : Nat
 slots : Nat
 cap : Nat
 reader : Nat
 wr : Bool

def St.to (s : St) (r : Nat) : St := { s with row := r, i := 0 }
def St.fin (s : St) (wr : Bool) (code : Int) : St := { s with over := true, code := code, rc := if code = 0 ∧ wr = false then s.rc else [] }
/-- the word of an object that stands at a place -/
def get (o : Im) (l : List Int) (k : Nat) : Int := l.getD (o.at_ + k) 0
def put (o : Im) (l : List Int) (k : Nat) (v : Int) : List Int := l.set (o.at_ + k) v

/-- the next word of the record whose words stand from k on; behind the last one comes a row, or the end -/
def word (o : Im) (s : St) (l : List Int) (k : Nat) (next : Option Nat) : St × List Int :=
 let s1 : St := if o.wr then { s with i := s.i + 1 } else { s with i := s.i + 1, rc := s.rc ++ [get o l (k + s.i)] }
 let l1 := if o.wr then put o l (k + s.i) (s.rc.getD s.i 0) else l
 if s.i + 1 < o.width then (s1, l1) else
  match next with
  | none => (s1.fin o.wr 0, l1)
  | some r => (s1.to r, l1)

/-! ### four slots -/
/-- all words of a list are words -/
def Wd (l : List Int) : Prop := ∀ x ∈ l, 0 ≤ x ∧ x < 4294967296
theorem Wd.get {l : List Int} (h : Wd l) (o : Im) (k : Nat) : 0 ≤ Op.get o l k ∧ Op.get o l k < 4294967296 := by
 unfold Op.get
 by_cases hk : o.at_ + k < l.length
 ·rw [List.getD_eq_getElem?_getD, List.getElem?_eq_getElem hk]
  exact h _ (List.getElem_mem hk)
 ·rw [List.getD_eq_getElem?_getD, List.getElem?_eq_none (by omega)]
  simp
theorem Wd.put {l : List Int} (h : Wd l) (o : Im) (k : Nat) {v : Int} (hv : 0 ≤ v ∧ v < 4294967296) : Wd (Op.put o l k v) := by
 intro x hx
 rcases List.mem_or_eq_of_mem_set hx with hx | rfl
 ·exact h x hx
 ·exact hv
/-- what a step leaves as it was meant -/
structure Fine (ok : Im → St → Prop) (rank : Im → St → Nat) (o : Im) (s : St) (l : List Int) (r : St × List Int) : Prop where
 ok : ok o r.1
 wrc : Wd r.1.rc
 words : Wd r.2
 len : r.2.length = l.length
 steps : r.1.steps = s.steps + 1
 rank : rank o r.1 + 1 ≤ rank o s

end Go.Proofs.YthhbhbfkbncegaaGreatDoor.Op
end
section
set_option linter.unusedSimpArgs false
set_option linter.unusedVariables false
namespace Go.Proofs.YthhbhbfkbncegaaGreatDoor.Op

/-- the words of an object from k on -/
def part (o : Im) (l : List Int) (k n : Nat) : List Int := (List.range n).map fun j => get o l (k + j)
/-! ### four slots -/
end Go.Proofs.YthhbhbfkbncegaaGreatDoor.Op
end
