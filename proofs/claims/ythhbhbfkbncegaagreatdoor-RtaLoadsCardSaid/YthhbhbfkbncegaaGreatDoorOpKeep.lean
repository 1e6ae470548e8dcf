/-
 What is read is what was written last, as long as nobody writes: of four slots; plain.
-/
import Derived.Test.YthhbhbfkbncegaaGreatDoorWords
section
set_option linter.unusedSimpArgs false
set_option linter.unusedVariables false
namespace Go.Proofs.YthhbhbfkbncegaaGreatDoor.Op

def St.to (s : St) (r : Nat) : St := { s with row := r, i := 0 }
def St.fin (s : St) (wr : Bool) (code : Int) : St := { s with over := true, code := code, rc := if code = 0 ∧ wr = false then s.rc else [] }
def put (o : Im) (l : List Int) (k : Nat) (v : Int) : List Int := l.set (o.at_ + k) v

/-! ### four slots -/
theorem Wd.put {l : List Int} (h : Wd l) (o : Im) (k : Nat) {v : Int} (hv : 0 ≤ v ∧ v < 4294967296) : Wd (Op.put o l k v) := by
 intro x hx
 rcases List.mem_or_eq_of_mem_set hx with hx | rfl
 ·exact h x hx
 ·exact hv
end Go.Proofs.YthhbhbfkbncegaaGreatDoor.Op
end
section
set_option linter.unusedSimpArgs false
set_option linter.unusedVariables false
namespace Go.Proofs.YthhbhbfkbncegaaGreatDoor.Op

/-- the words of an object from k on -/
def part (o : Im) (l : List Int) (k n : Nat) : List Int := (List.range n).map fun j => get o l (k + j)
/-! ### four slots -/
end Go.Proofs.YthhbhbfkbncegaaGreatDoor.Op
end
