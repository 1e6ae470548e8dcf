/-

  Contracts of package flow (layer 10): Inner; the document's Fine.
-/
import Derived.Test.YtflmejcojfnknaaDoorFlowUse
import Derived.Laws.Rows
import Derived.Laws.ResultCell
set_option linter.unusedVariables false
set_option linter.unusedSimpArgs false
namespace Go.Proofs.YtflmejcojfnknaaDoor.Fw
open Go.ChangeShapes Go.WideShapes Go.ChangeAt Go.RowKit Ws Fp
open Go.Proofs.YtflmejcojfnknaaDoor.Is (Tabs ins rightB leadB)

theorem results_cell2 {P : Program} {fn : Func} {p t : Tmp} {ty : TypeId} (h : fn.results = #[.cell p ty, .tmp t]) (tmps : Array Value) (w : World) (g : Nat) (T : TypeId) (cs : Array Value) (fr : Nat × Nat) (d : TypeDesc)
    (hp : tmps.getD p undef = .pointer (some ⟨g, 0, none⟩)) (hg : w.heap[g]? = some (.cells cs T fr))
    (hu : P.underlying ty = some d) (hd : (match d with | .struct _ | .array _ _ => true | _ => false) = true) (hi : (P.info? ty).map (·.size) = some cs.size) :
    (results fn tmps).run P w = .ok (.tuple #[.agg cs, tmps.getD t undef]) w := by
  have hp' : tmps[p]?.getD undef = .pointer (some ⟨g, 0, none⟩) := by simpa using hp
  simp [results, h, hp', asAddr, run_loadVar_row w g T ty cs fr d hg hu hd hi]
/-- the first loop that has a place -/
def innerI (l : List (Int × Int)) (x : Int) : Int × Int := match first l.length (fun k => hasB (lp l k) x) with | some k => lp l k | none => (0, 0)
def innerB (l : List (Int × Int)) (x : Int) : Bool := (first l.length (fun k => hasB (lp l k) x)).isSome
def InnerPost (l : List (Int × Int)) (x : Int) (e : Ending) : Prop := e = .returned (.tuple #[.agg #[.int .i64 (innerI l x).1, .int .i64 (innerI l x).2], .bool (innerB l x)])
theorem inner_yes {l : List (Int × Int)} {x : Int} {k : Nat} {t : Int × Int} (hk : k < l.length) (ht : lp l k = t) (h : hasB t x = true) (hn : ∀ j, j < k → hasB (lp l j) x = false) : InnerPost l x (.returned (.tuple #[.agg #[.int .i64 t.1, .int .i64 t.2], .bool true])) := by
  have e := first_some (n := l.length) (f := fun k => hasB (lp l k) x) hk (show hasB (lp l k) x = true by rw [ht]; exact h) hn
  unfold InnerPost innerI innerB
  rw [e]
  simp only [ht, Option.isSome]
theorem inner_no {l : List (Int × Int)} {x : Int} (hn : ∀ j, j < l.length → hasB (lp l j) x = false) : InnerPost l x (.returned (.tuple #[.agg #[.int .i64 0, .int .i64 0], .bool false])) := by
  have e := first_none (n := l.length) (f := fun k => hasB (lp l k) x) hn
  unfold InnerPost innerI innerB
  rw [e]
  rfl
theorem span_size : (Tryd.prog.info? 58).map (·.size) = some 2 := by kernel_rfl

end Go.Proofs.YtflmejcojfnknaaDoor.Fw
