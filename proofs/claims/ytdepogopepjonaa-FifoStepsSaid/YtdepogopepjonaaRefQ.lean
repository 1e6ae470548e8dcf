/-
  What a queue's operations are called, as the document's own layer tells it.
-/
import Derived.Test.YtdepogopepjonaaFifoObj
set_option linter.unusedSimpArgs false
set_option linter.unusedVariables false
namespace Go.Proofs.Ytdepogopepjonaa.Rf
open Go.ChangeShapes Go.WideShapes Go.ChangeAt Go.RowKit Ws Mm Pa

theorem rwrites_q (k : Int) (h : k = 6 ∨ k = 6) (w : World) : Calls Try.prog 38 #[.int .i64 k] w fun e w' => e = .returned (.int .i64 3) ∧ w = w' := by
  obtain rfl : k = 6 := by omega
  exact Ff.rwrites_fifo w
theorem rreads_q (k : Int) (h : k = 6 ∨ k = 6) (w : World) : Calls Try.prog 39 #[.int .i64 k] w fun e w' => e = .returned (.int .i64 4) ∧ w = w' := by
  obtain rfl : k = 6 := by omega
  exact Ff.rreads_fifo w

end Go.Proofs.Ytdepogopepjonaa.Rf
