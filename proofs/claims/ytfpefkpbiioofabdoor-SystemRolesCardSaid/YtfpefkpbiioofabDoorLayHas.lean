/-

  Regions (api.Region) one behind the other: in which of them a word lies (layout.Owner).
-/
import Derived.Test.YtfpefkpbiioofabDoorRows
import Derived.Test.YtfpefkpbiioofabDoorWordsK
import Derived.Test.YtfpefkpbiioofabDoorOpen
import Derived.Test.YtfpefkpbiioofabDoorFlat
import Derived.ProofKit
import Derived.OpenShut
import Derived.WalkKit
import Derived.WalkLawsBesides
import Derived.Deep.LoopGhost
import Derived.Deep.RegionHeld3
import Derived.BigQuiet
import Derived.Lib.Hide
set_option linter.unusedVariables false
set_option linter.unusedSimpArgs false
namespace Go.Proofs.YtfpefkpbiioofabDoor.Ly
open Go.ChangeShapes Go.WideShapes Go.ChangeAt Go.RowKit Ws

theorem ret_bool {a b : Bool} (h : a = b) : Ending.returned (.bool a) = .returned (.bool b) := by rw [h]
theorem ret_int {k : IntKind} {a b : Int} (h : a = b) : Ending.returned (.int k a) = .returned (.int k b) := by rw [h]
/-- the slice at A holds these regions -/
def Regs (w : World) (A : Option Addr) (l : List (Int × Int)) : Prop :=
  ∀ (k : Nat) (r : Int × Int), l[k]? = some r → ∃ b o, A = some ⟨b, o, none⟩ ∧ w.cell? ⟨b, o + k * 2, none⟩ = some (.int .i64 r.1) ∧ w.cell? ⟨b, o + k * 2 + 1, none⟩ = some (.int .i64 r.2)
theorem Regs.same {w w' : World} {A : Option Addr} {l : List (Int × Int)} (h : Regs w A l) (hs : Same w w') : Regs w' A l := fun k r hr => by
  obtain ⟨b, o, h1, h2, h3⟩ := h k r hr
  exact ⟨b, o, h1, hs.cell h2, hs.cell h3⟩
/-- has a region a place? -/
def hasB (r : Int × Int) (x : Int) : Bool := decide (0 ≤ r.1 ∧ r.1 ≤ x ∧ x - r.1 < r.2)
def bd (x : Int) : Prop := -9223372036854775808 ≤ x ∧ x ≤ 9223372036854775807
/-- the first one that has it; -1: none -/
def holdF (l : List (Int × Int)) (x : Int) : Int := match l.findIdx? (fun r => hasB r x) with
  | none => -1
  | some i => (i : Int)
theorem hold_none {l : List (Int × Int)} {x : Int} (h : ∀ r ∈ l, hasB r x = false) : holdF l x = -1 := by
  unfold holdF
  rw [List.findIdx?_eq_none_iff.2 h]
theorem hold_some {l : List (Int × Int)} {x : Int} {k : Nat} {r : Int × Int} (hk : l[k]? = some r) (hr : hasB r x = true) (hn : ∀ j, j < k → ∀ q, l[j]? = some q → hasB q x = false) : holdF l x = k := by
  unfold holdF
  have : l.findIdx? (fun r => hasB r x) = some k := by
    rw [List.findIdx?_eq_some_iff_getElem]
    obtain ⟨h1, h2⟩ := List.getElem?_eq_some_iff.1 hk
    refine ⟨h1, by rw [h2]; exact hr, fun j hj => ?_⟩
    have hjl : j < l.length := by omega
    have := hn j hj (l[j]) (List.getElem?_eq_getElem hjl)
    simp [this]
  rw [this]
/-- whose a word is: the task, or the object -/
def ownF (l m : List (Int × Int)) (x : Int) : Int × Int := if holdF l x ≠ -1 then (holdF l x, -1) else (-1, holdF m x)
theorem layout_cells {w : World} {g : Nat} {T : TypeId} {v0 v1 v2 : Value} (h : Blk w g T #[v0, v1, v2]) : w.cell? ⟨g, 0, none⟩ = some v0 ∧ w.cell? ⟨g, 1, none⟩ = some v1 ∧ w.cell? ⟨g, 2, none⟩ = some v2 := ⟨h.cell 0, h.cell 1, h.cell 2⟩
end Go.Proofs.YtfpefkpbiioofabDoor.Ly
