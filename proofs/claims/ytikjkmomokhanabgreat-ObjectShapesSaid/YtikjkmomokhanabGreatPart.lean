/-
  What all kinds' operations have in common (package operation): the block that holds it, and the contracts of its methods.
-/
import Derived.Test.YtikjkmomokhanabGreatMemBase
import Derived.Test.YtikjkmomokhanabGreatOpPure
set_option linter.unusedSimpArgs false
set_option linter.unusedVariables false
namespace Go.Proofs.YtikjkmomokhanabGreat.Pa
open Go.ChangeShapes Go.WideShapes Go.ChangeAt Go.RowKit Ws Mm

/-- an operation's part -/
structure Pt where
  rd : Bool
  reader : Int
  width : Int
  stage : Int
  turn : Int
  at_ : Int
  size : Int
  rc : List Int
  att : Int
  steps : Int
  un : Bool
  code : Int

def Pt.tail (p : Pt) (ex : List Value) : List Value := .int .i64 p.att :: .int .i64 p.steps :: .bool p.un :: .int .i64 p.code :: ex
def Pt.cells (p : Pt) (ex : List Value) : List Value :=
  .bool p.rd :: .int .i64 p.reader :: .int .i64 p.width :: .int .i64 p.stage :: .int .i64 p.turn :: .int .i64 p.at_ :: .int .i64 p.size :: (p.rc.map (Value.int .u32) ++ p.tail ex)
/-- block g is an operation: its part, and what its kind has besides -/
structure PB (w : World) (g : Nat) (T : TypeId) (p : Pt) (ex : List Value) : Prop where
  rec8 : p.rc.length = 8
  blk : Blk w g T (p.cells ex).toArray

theorem PB.chg {S : Nat → Prop} {w w' : World} {g : Nat} {T : TypeId} {p : Pt} {ex : List Value} (h : PB w g T p ex) (hc : Chg S w w') (hn : ¬ S g) : PB w' g T p ex := ⟨h.1, h.2.chg hc hn⟩
theorem PB.same {w w' : World} {g : Nat} {T : TypeId} {p : Pt} {ex : List Value} (h : PB w g T p ex) (hc : Same w w') : PB w' g T p ex := ⟨h.1, h.2.same hc⟩
section
variable {w : World} {g : Nat} {T : TypeId} {p : Pt} {ex : List Value}
theorem PB.head (h : PB w g T p ex) : w.cell? ⟨g, 0, none⟩ = some (.bool p.rd) ∧ w.cell? ⟨g, 1, none⟩ = some (.int .i64 p.reader) ∧ w.cell? ⟨g, 2, none⟩ = some (.int .i64 p.width) ∧ w.cell? ⟨g, 3, none⟩ = some (.int .i64 p.stage) ∧
    w.cell? ⟨g, 4, none⟩ = some (.int .i64 p.turn) ∧ w.cell? ⟨g, 5, none⟩ = some (.int .i64 p.at_) ∧ w.cell? ⟨g, 6, none⟩ = some (.int .i64 p.size) := by
  refine ⟨?_, ?_, ?_, ?_, ?_, ?_, ?_⟩ <;> (rw [h.2.cell]; simp [Pt.cells])
theorem PB.rec_ (h : PB w g T p ex) (j : Nat) (hj : j < 8) : w.cell? ⟨g, 7 + j, none⟩ = some (.int .u32 (Op.gd p.rc j)) := by
  unfold Op.gd
  have h8 := h.1
  rw [h.2.cell]
  have e : (p.cells ex)[7 + j]? = (p.rc.map (Value.int .u32) ++ p.tail ex)[j]? := by unfold Pt.cells; rw [Nat.add_comm]; rfl
  rw [List.getElem?_toArray, e, List.getElem?_append_left (by simp; omega), List.getElem?_map, List.getElem?_eq_getElem (by omega), List.getD_eq_getElem?_getD, List.getElem?_eq_getElem (by omega)]
  rfl
theorem PB.tail_ (h : PB w g T p ex) (k : Nat) : w.cell? ⟨g, 15 + k, none⟩ = (p.tail ex)[k]? := by
  have h8 := h.1
  rw [h.2.cell]
  have e : (p.cells ex)[15 + k]? = (p.rc.map (Value.int .u32) ++ p.tail ex)[8 + k]? := by
    unfold Pt.cells
    have : 15 + k = (8 + k) + 7 := by omega
    rw [this]
    rfl
  rw [List.getElem?_toArray, e, List.getElem?_append_right (by simp; omega), List.length_map, h8, show 8 + k - 8 = k by omega]
theorem PB.last (h : PB w g T p ex) : w.cell? ⟨g, 15, none⟩ = some (.int .i64 p.att) ∧ w.cell? ⟨g, 16, none⟩ = some (.int .i64 p.steps) ∧ w.cell? ⟨g, 17, none⟩ = some (.bool p.un) ∧ w.cell? ⟨g, 18, none⟩ = some (.int .i64 p.code) :=
  ⟨h.tail_ 0, h.tail_ 1, h.tail_ 2, h.tail_ 3⟩
theorem PB.ex_ (h : PB w g T p ex) (k : Nat) : w.cell? ⟨g, 19 + k, none⟩ = ex[k]? := by
  have := h.tail_ (4 + k)
  rw [show 15 + (4 + k) = 19 + k by omega] at this
  rw [this]
  unfold Pt.tail
  rw [Nat.add_comm]
  rfl
theorem PB.thaw (h : PB w g T p ex) (i : Nat) : w.frozen? ⟨g, i, none⟩ = false := h.2.thaw i
theorem PB.lt (h : PB w g T p ex) : g < w.heap.size := h.2.lt

theorem PB.put_stage (h : PB w g T p ex) (v : Int) : PB (w.setCell ⟨g, 3, none⟩ (.int .i64 v)) g T { p with stage := v } ex := ⟨h.1, by have := h.2.put 3 (.int .i64 v); simpa [Pt.cells, Pt.tail] using this⟩
theorem PB.put_turn (h : PB w g T p ex) (v : Int) : PB (w.setCell ⟨g, 4, none⟩ (.int .i64 v)) g T { p with turn := v } ex := ⟨h.1, by have := h.2.put 4 (.int .i64 v); simpa [Pt.cells, Pt.tail] using this⟩
theorem PB.put_tail (h : PB w g T p ex) (k : Nat) (v : Value) {p' : Pt} {ex' : List Value} (hp : p'.cells ex' = (.bool p.rd :: .int .i64 p.reader :: .int .i64 p.width :: .int .i64 p.stage :: .int .i64 p.turn :: .int .i64 p.at_ :: .int .i64 p.size :: (p.rc.map (Value.int .u32) ++ (p.tail ex).set k v))) (hr : p'.rc.length = 8) :
    PB (w.setCell ⟨g, 15 + k, none⟩ v) g T p' ex' := by
  refine ⟨hr, ?_⟩
  have h8 := h.1
  have := h.2.put (15 + k) v
  rw [List.setIfInBounds_toArray] at this
  have e : (p.cells ex).set (15 + k) v = p'.cells ex' := by
    rw [hp]
    unfold Pt.cells
    rw [show 15 + k = (8 + k) + 7 by omega]
    simp only [List.set_cons_succ]
    rw [List.set_append_right _ _ (by simp; omega), List.length_map, h8, show 8 + k - 8 = k by omega]
  rw [e] at this
  exact this
theorem PB.put_att (h : PB w g T p ex) (v : Int) : PB (w.setCell ⟨g, 15, none⟩ (.int .i64 v)) g T { p with att := v } ex := h.put_tail 0 _ rfl h.1
theorem PB.put_steps (h : PB w g T p ex) (v : Int) : PB (w.setCell ⟨g, 16, none⟩ (.int .i64 v)) g T { p with steps := v } ex := h.put_tail 1 _ rfl h.1
theorem PB.put_un (h : PB w g T p ex) (v : Bool) : PB (w.setCell ⟨g, 17, none⟩ (.bool v)) g T { p with un := v } ex := h.put_tail 2 _ rfl h.1
theorem PB.put_code (h : PB w g T p ex) (v : Int) : PB (w.setCell ⟨g, 18, none⟩ (.int .i64 v)) g T { p with code := v } ex := h.put_tail 3 _ rfl h.1
theorem PB.put_ex (h : PB w g T p ex) (k : Nat) (v : Value) : PB (w.setCell ⟨g, 19 + k, none⟩ v) g T p (ex.set k v) := by
  rw [show 19 + k = 15 + (k + 4) by omega]
  exact h.put_tail (k + 4) v rfl h.1
theorem PB.put_rec (h : PB w g T p ex) (j : Nat) (hj : j < 8) (v : Int) : PB (w.setCell ⟨g, 7 + j, none⟩ (.int .u32 v)) g T { p with rc := p.rc.set j v } ex := by
  have h8 := h.1
  refine ⟨by simpa using h8, ?_⟩
  have := h.2.put (7 + j) (.int .u32 v)
  rw [List.setIfInBounds_toArray] at this
  have e : (p.cells ex).set (7 + j) (.int .u32 v) = Pt.cells { p with rc := p.rc.set j v } ex := by
    unfold Pt.cells
    rw [show 7 + j = j + 7 by omega]
    simp only [List.set_cons_succ]
    rw [List.set_append_left _ _ (by simp; omega), List.map_set]
    rfl
  rw [e] at this
  exact this
end

end Go.Proofs.YtikjkmomokhanabGreat.Pa
