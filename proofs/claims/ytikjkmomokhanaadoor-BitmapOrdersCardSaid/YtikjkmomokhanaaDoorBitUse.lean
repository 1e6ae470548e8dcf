/-

  Sets of numbers (layer 3): the maker of the iterator, and the iterator as a range over a function asks for it.
-/
import Derived.Test.YtikjkmomokhanaaDoorBitEach
import Derived.RangeFuncKeeps
import Derived.RangeFuncFrom
set_option linter.unusedVariables false
set_option linter.unusedSimpArgs false
namespace Go.Proofs.YtikjkmomokhanaaDoor.Be
open Go.ChangeShapes Go.WideShapes Go.ChangeAt Go.RowKit Ws
open Go.Shelf

theorem each_any (m : Nat) (hm : m < 18446744073709551616) (w : World) :
    Calls Tryd.prog 42 #[.int .u64 (m : Int)] w fun e w' => e = .returned (.func (.func 63) #[] #[.pointer (some ⟨w.heap.size, 0, none⟩)]) ∧ ∃ t, w' = w.alloc (.cells #[.int .u64 (m : Int)] t) := by
  go_enter Tryd.func42, Tryd.ntmps42
  go_wp2_with fail
  go_ret
  exact ⟨rfl, _, rfl⟩

theorem each_stops (n : Nat) (hn : 1 ≤ n) (Bm n₀ m : Nat) (hm : m < 18446744073709551616) (hnt : 0 < n₀) (w : World) (hle : n₀ ≤ w.heap.size) (hBm : Bm < w.heap.size)
    (hB : w.cell? ⟨Bm, 0, none⟩ = some (.int .u64 (m : Int))) (hT : TZ w) :
    SeqStopsK Fence.wide n Tryd.prog 63 #[.pointer (some ⟨Bm, 0, none⟩)] (fun x : Nat => #[.int .i64 (x : Int)]) (Below n₀) (fun xs => xs = bitsL m) (fun pre => pre <+: bitsL m) (bitsL m).length w := by
  intro l J Jx W hW _ _ hY h0
  exact each_in n hn l Bm n₀ m hm hnt J Jx hY W ((hW.cell (p := ⟨Bm, 0, none⟩) hBm).trans hB) (hT.below hW (Nat.lt_of_lt_of_le hnt hle)) h0

end Go.Proofs.YtikjkmomokhanaaDoor.Be
