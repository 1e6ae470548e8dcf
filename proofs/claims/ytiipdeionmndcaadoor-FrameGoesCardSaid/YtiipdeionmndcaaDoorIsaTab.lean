/-
  The tables of package isa as they are laid, and what they say of an instruction. Conditions: none but that the listed variables read as listed.
-/
import Derived.Test.YtiipdeionmndcaaDoorRows
import Derived.Test.YtiipdeionmndcaaDoorWords
import Derived.Test.YtiipdeionmndcaaDoorTab
import Derived.WalkKit
import Derived.WalkLawsBesides
import Derived.ProofKit
import Derived.OpenShut
import Derived.Lib.Hide
import Derived.Deep.QuietTactic
import Derived.BigQuiet
import Derived.Outline
import Derived.Deep.LoopGhost
set_option linter.unusedSimpArgs false
set_option linter.unusedVariables false
namespace Go.Proofs.YtiipdeionmndcaaDoor.Is
open Go.ChangeShapes Go.WideShapes Go.ChangeAt Go.RowKit Ws

/-- the kinds' words, as bytes -/
def wordL : List (List UInt8) := [[110, 111, 112], [115, 101, 116], [109, 111, 118, 101], [97, 100, 100], [115, 117, 98], [109, 117, 108], [97, 110, 100], [111, 114], [120, 111, 114], [108, 101, 115, 115], [101, 113, 117, 97, 108], [108, 111, 97, 100], [115, 116, 111, 114, 101], [99, 97, 115], [106, 117, 109, 112], [122, 101, 114, 111], [98, 97, 99, 107], [114, 101, 97, 100], [119, 114, 105, 116, 101], [112, 117, 116], [116, 97, 107, 101], [100, 111, 110, 101]]
/-- what each operand of a kind may be: 0 nothing, 1 a register, 2 an object, 3 turns, 4 a place, 5 an own word, 6 any word -/
def hasL : List (List Nat) := [[0, 0, 0, 0], [1, 0, 0, 6], [1, 1, 0, 0], [1, 1, 1, 0], [1, 1, 1, 0], [1, 1, 1, 0], [1, 1, 1, 0], [1, 1, 1, 0], [1, 1, 1, 0], [1, 1, 1, 0], [1, 1, 1, 0], [1, 1, 0, 6], [1, 1, 0, 6], [1, 1, 1, 6], [0, 0, 0, 4], [1, 0, 0, 4], [0, 0, 3, 4], [1, 2, 0, 5], [1, 2, 0, 5], [1, 2, 0, 5], [1, 2, 0, 5], [0, 0, 0, 0]]
/-- the registers that a kind looks at, and that it may change, by their letters -/
def useL : List (List UInt8) := [[], [], [66], [66, 67], [66, 67], [66, 67], [66, 67], [66, 67], [66, 67], [66, 67], [66, 67], [66], [65, 66], [65, 66, 67], [], [65], [], [], [], [], [], []]
def setL : List (List UInt8) := [[], [65], [65], [65], [65], [65], [65], [65], [65], [65], [65], [65], [], [65], [], [], [], [65], [65], [65], [65], []]
def loL : List Nat := [0, 0, 0, 1, 0, 0, 0]
def hiL : List Nat := [0, 7, 7, 255, 63, 63, 4294967295]

def str (l : List UInt8) : Value := .string ⟨l.toArray⟩
def kindRow (o : Nat) : List Value := [str (wordL.getD o [])] ++ (hasL.getD o []).map (fun (c : Nat) => Value.int .i64 (c : Int)) ++ [str (useL.getD o []), str (setL.getD o [])]
def kindCells : List Value := (List.range 22).flatMap kindRow
def boundCells : List Value := (List.range 7).flatMap fun c => [.int .i64 ((loL.getD c 0 : Nat) : Int), .int .i64 ((hiL.getD c 0 : Nat) : Int)]

/-- both tables stand as they are laid -/
structure Tabs (w : World) : Prop where
  kinds : ∀ i v, kindCells[i]? = some v → w.cell? ⟨1, i, none⟩ = some v
  bounds : ∀ i v, boundCells[i]? = some v → w.cell? ⟨0, i, none⟩ = some v
theorem Tabs.same {w w' : World} (h : Tabs w) (hs : Same w w') : Tabs w' := ⟨fun i v hv => hs.cell (h.kinds i v hv), fun i v hv => hs.cell (h.bounds i v hv)⟩
theorem Tabs.drewN {w : World} (h : Tabs w) (n : Nat) : Tabs (w.drewN n) := ⟨fun i v hv => h.kinds i v hv, fun i v hv => h.bounds i v hv⟩

theorem tabs_of {w : World} {l : List (String × DataW Unit)} (h : laidMetH Tryd.prog l w) (hp : (l.all fun x => x.2.handleName?.isNone) = true) (hm : ("coxswain/isa.kinds", Rows.laid_coxswain_isa_kinds) ∈ l) (hn : ("coxswain/isa.bounds", Rows.laid_coxswain_isa_bounds) ∈ l) : Tabs w := by
  rw [MakeChecks.laidMetH_plain _ _ _ hp] at h
  refine ⟨fun i v hv => ?_, fun i v hv => ?_⟩
  · exact Tb.reads_list (Tb.reads h hm) (g := 1) (t := 155) (by kernel_rfl) (by kernel_rfl) 6 kindCells (by kernel_rfl) i v hv
  · exact Tb.reads_list (Tb.reads h hn) (g := 0) (t := 151) (by kernel_rfl) (by kernel_rfl) 6 boundCells (by kernel_rfl) i v hv

def hasC (o k : Nat) : Nat := (hasL.getD o []).getD k 0

theorem kind_at {o k : Nat} (ho : o < 22) (hk : k < 4) : kindCells[o * 7 + 1 + k]? = some (.int .i64 ((hasC o k : Nat) : Int)) := by
  have hall : ((List.range 22).all fun o => (List.range 4).all fun k => match kindCells[o * 7 + 1 + k]? with | some (.int .i64 z) => z == ((hasC o k : Nat) : Int) | _ => false) = true := by kernel_rfl
  have := List.all_eq_true.1 (List.all_eq_true.1 hall o (List.mem_range.2 ho)) k (List.mem_range.2 hk)
  split at this
  · rename_i z hz
    rw [hz]
    simp at this
    rw [this]
  · cases this
theorem str_at {o : Nat} (ho : o < 22) : kindCells[o * 7]? = some (str (wordL.getD o [])) ∧ kindCells[o * 7 + 5]? = some (str (useL.getD o [])) ∧ kindCells[o * 7 + 6]? = some (str (setL.getD o [])) := by
  have hall : (List.range 22).map (fun o => (kindCells[o * 7]?, kindCells[o * 7 + 5]?, kindCells[o * 7 + 6]?)) = (List.range 22).map fun o => (some (str (wordL.getD o [])), some (str (useL.getD o [])), some (str (setL.getD o []))) := by kernel_rfl
  have := congrArg (·[o]?) hall
  simp only [List.getElem?_map, List.getElem?_range ho, Option.map_some] at this
  injection this with this
  injection this with h1 h2
  injection h2 with h2 h3
  exact ⟨h1, h2, h3⟩
theorem bound_at {c : Nat} (hc : c < 7) : boundCells[c * 2]? = some (.int .i64 ((loL.getD c 0 : Nat) : Int)) ∧ boundCells[c * 2 + 1]? = some (.int .i64 ((hiL.getD c 0 : Nat) : Int)) := by
  have hall : (List.range 7).map (fun c => (boundCells[c * 2]?, boundCells[c * 2 + 1]?)) = (List.range 7).map fun c => (some (Value.int .i64 ((loL.getD c 0 : Nat) : Int)), some (Value.int .i64 ((hiL.getD c 0 : Nat) : Int))) := by kernel_rfl
  have := congrArg (·[c]?) hall
  simp only [List.getElem?_map, List.getElem?_range hc, Option.map_some] at this
  injection this with this
  injection this with h1 h2
  exact ⟨h1, h2⟩
theorem getD_out {α : Type} (l : List α) (i : Nat) (d : α) (h : l.length ≤ i) : l.getD i d = d := by simp [List.getD, List.getElem?_eq_none h]
theorem has_lt (o k : Nat) : hasC o k < 7 := by
  have hall : ((List.range 22).all fun o => (List.range 4).all fun k => decide (hasC o k < 7)) = true := by decide
  by_cases ho : o < 22
  · by_cases hk : k < 4
    · exact of_decide_eq_true (List.all_eq_true.1 (List.all_eq_true.1 hall o (List.mem_range.2 ho)) k (List.mem_range.2 hk))
    · have hl : ((List.range 22).all fun o => decide ((hasL.getD o []).length ≤ 4)) = true := by decide
      have := of_decide_eq_true (List.all_eq_true.1 hl o (List.mem_range.2 ho))
      unfold hasC
      rw [getD_out _ _ _ (by omega)]
      decide
  · unfold hasC
    rw [getD_out hasL _ _ (by simpa [hasL] using ho)]
    simp
theorem bound_le : ∀ c, loL.getD c 0 ≤ 4294967295 ∧ hiL.getD c 0 ≤ 4294967295 := by
  intro c
  by_cases hc : c < 7
  · have hall : ((List.range 7).all fun c => decide (loL.getD c 0 ≤ 4294967295 ∧ hiL.getD c 0 ≤ 4294967295)) = true := by decide
    exact of_decide_eq_true (List.all_eq_true.1 hall c (List.mem_range.2 hc))
  · rw [getD_out loL _ _ (by simpa [loL] using hc), getD_out hiL _ _ (by simpa [hiL] using hc)]
    decide

/-- is an operand what it may be? -/
def fitB (c : Nat) (x : Int) : Bool := decide (((loL.getD c 0 : Nat) : Int) ≤ x ∧ x ≤ ((hiL.getD c 0 : Nat) : Int))
/-- is an instruction right, by the tables? -/
def rightB (op a b c n : Int) : Bool := decide (0 ≤ op ∧ op < 22) && (fitB (hasC op.toNat 0) a && (fitB (hasC op.toNat 1) b && (fitB (hasC op.toNat 2) c && fitB (hasC op.toNat 3) n)))

end Go.Proofs.YtiipdeionmndcaaDoor.Is
