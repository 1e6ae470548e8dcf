/-

  Layer 3: BitmapPicks and BitmapSets of whatever word came in.
-/
import Derived.Test.YtikjkmomokhanaaDoorBitFour
set_option linter.unusedSimpArgs false
set_option linter.unusedVariables false
namespace Go.Proofs.YtikjkmomokhanaaDoor.Be
open Go.ChangeShapes Go.WideShapes Go.ChangeAt Go.RowKit Ws

theorem picks_int (A : Option Addr) (n c : Nat) (P : List Int) (m : Int) (w : World) (hn : P.length = n) (hr : Row w A (P.map (Value.int .i64))) (hm : 0 ≤ m ∧ m < 18446744073709551616) (hT : TZ w) :
    Calls Tryd.prog 5 #[.slice A n c, .int .u64 m] w fun e w' => e = .returned (.bool true) ∧ Same w w' := by
  obtain ⟨k, rfl⟩ := Int.eq_ofNat_of_zero_le hm.1
  exact picks_any A n c P k w hn hr (by omega) hT
theorem sets_int (m i k : Int) (w : World) (hm : 0 ≤ m ∧ m < 18446744073709551616) (hT : TZ w) :
    Calls Tryd.prog 3 #[.int .u64 m, .int .i64 i, .int .i64 k] w fun e w' => e = .returned (.bool true) ∧ Same w w' := by
  obtain ⟨j, rfl⟩ := Int.eq_ofNat_of_zero_le hm.1
  exact sets_any j i k w (by omega) hT

end Go.Proofs.YtikjkmomokhanaaDoor.Be
