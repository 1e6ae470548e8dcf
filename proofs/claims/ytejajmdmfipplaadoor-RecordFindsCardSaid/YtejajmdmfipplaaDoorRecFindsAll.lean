/-

  RecordFinds returns true for all records and any record.
-/
import Derived.Test.YtejajmdmfipplaaDoorRecFinds
import Derived.Test.YtejajmdmfipplaaDoorMat
set_option linter.unusedSimpArgs false
set_option linter.unusedVariables false
namespace Go.Proofs.YtejajmdmfipplaaDoor.Rc
open Go.ChangeShapes Go.WideShapes Go.ChangeAt Go.RowKit Ws

theorem finds_any (A C : Option Addr) (n c m d : Nat) (l : List (List Int)) (r : List Int) (w : World) (hn : l.length = n) (hl : Mt.Mat w A l) (hb : ∀ x ∈ l, (∀ y ∈ x, 0 ≤ y ∧ y < 4294967296) ∧ x.length ≤ maxLen) (hm : r.length = m) (hr : Row w C (r.map (Value.int .u32))) :
    Calls Tryd.prog 5 #[.slice A n c, .slice C m d] w fun e w' => e = .returned (.bool true) ∧ Same w w' := by
  have hL : Recs w A l := hl
  have hR : Row w C (w32 r) := hr
  have hB : ∀ x ∈ l, x.length ≤ 9223372036854775807 := fun x hx => by
    have := (hb x hx).2
    unfold maxLen at this
    omega
  have hC : C = none → m = 0 := by
    intro h
    subst h
    cases r with
    | nil => exact hm.symm
    | cons x r =>
      obtain ⟨b, o, h, _⟩ := hR 0 _ rfl
      cases h
  by_cases h60 : m ≤ 60
  · by_cases hf : fewB l = true
    · exact finds_in A C n c m d l r w hn hm hC hL hR hf h60
    · exact finds_out A C n c m d l w hn hL hB (.inl (by simpa using hf))
  · exact finds_out A C n c m d l w hn hL hB (.inr (by omega))

end Go.Proofs.YtejajmdmfipplaaDoor.Rc
