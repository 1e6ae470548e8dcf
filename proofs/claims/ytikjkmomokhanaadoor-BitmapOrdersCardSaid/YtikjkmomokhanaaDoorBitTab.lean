/-

  The library's table of bits' places, as it is laid.
-/
import Derived.Test.YtikjkmomokhanaaDoorRows
import Derived.Test.YtikjkmomokhanaaDoorBitEach
import Derived.Test.YtikjkmomokhanaaDoorTab
set_option linter.unusedSimpArgs false
set_option linter.unusedVariables false
namespace Go.Proofs.YtikjkmomokhanaaDoor.Be
open Go.ChangeShapes Go.WideShapes Go.ChangeAt Go.RowKit Ws

def tzCells : List Value := Lib.deBruijn64tab.map (fun (n : Nat) => Value.int .u8 (n : Int))
theorem tz_of {w : World} {l : List (String × DataW Unit)} (h : laidMetH Tryd.prog l w) (hp : (l.all fun x => x.2.handleName?.isNone) = true) (hm : ("math/bits.deBruijn64tab", Rows.laid_math_bits_deBruijn64tab) ∈ l) : TZ w := by
  rw [MakeChecks.laidMetH_plain _ _ _ hp] at h
  intro j hj
  refine Tb.reads_list (Tb.reads h hm) (g := 0) (t := 99) (by kernel_rfl) (by kernel_rfl) 6 tzCells (by kernel_rfl) j _ ?_
  unfold tzCells
  rw [List.getElem?_map, List.getElem?_eq_getElem hj, List.getD_eq_getElem?_getD, List.getElem?_eq_getElem hj]
  rfl

end Go.Proofs.YtikjkmomokhanaaDoor.Be
