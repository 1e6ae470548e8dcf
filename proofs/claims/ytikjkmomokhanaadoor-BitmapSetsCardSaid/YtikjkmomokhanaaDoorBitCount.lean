/-

  How many numbers are in a set: bits.OnesCount64 at every word.
-/
import Derived.Test.YtikjkmomokhanaaDoorBitBase
import Derived.Test.YtikjkmomokhanaaDoorBitPop
import Derived.Laws.Bits128
import Derived.IntWalk
set_option linter.unusedVariables false
set_option linter.unusedSimpArgs false
namespace Go.Proofs.YtikjkmomokhanaaDoor.Bp
open Go.ChangeShapes Go.WideShapes Go.ChangeAt Go.RowKit Ws
open Go.Proofs.YtikjkmomokhanaaDoor.Bt (ret_int)

theorem wn (n : Nat) (h : n < 18446744073709551616) : IntKind.u64.wrap (n : Int) = n := by rw [IntKind.wrap_u64]; omega
set_option maxRecDepth 100000 in
theorem ones_any (x : Nat) (hx : x < 18446744073709551616) (w : World) : Calls Tryd.prog 43 #[.int .u64 (x : Int)] w fun e w' => e = .returned (.int .i64 (((List.range' 0 64).filter (fun i => x.testBit i)).length : Nat)) ∧ w = w' := by
  obtain ⟨a, b, c, ha, hb, hc, la, lb, lc, hl, h64⟩ := ones x hx
  generalize ((List.range' 0 64).filter (fun i => x.testBit i)).length = r at *
  have hx2 : (x : Int) / 2 = ((x / 2 : Nat) : Int) := by omega
  have ha4 : (a : Int) / 4 = ((a / 4 : Nat) : Int) := by omega
  have hb16 : (b : Int) / 16 = ((b / 16 : Nat) : Int) := by omega
  have E1 : IntKind.u64.wrap (bits .and .u64 ((x : Int) / 2) 6148914691236517205 + bits .and .u64 (x : Int) 6148914691236517205) = (a : Int) := by
    rw [hx2, show (6148914691236517205 : Int) = ((6148914691236517205 : Nat) : Int) from rfl, bits_and_u64_nat _ _ (by omega) (by omega), bits_and_u64_nat _ _ hx (by omega), ← Int.natCast_add, ← ha, wn a la]
  have E2 : IntKind.u64.wrap (bits .and .u64 ((a : Int) / 4) 3689348814741910323 + bits .and .u64 (a : Int) 3689348814741910323) = (b : Int) := by
    rw [ha4, show (3689348814741910323 : Int) = ((3689348814741910323 : Nat) : Int) from rfl, bits_and_u64_nat _ _ (by omega) (by omega), bits_and_u64_nat _ _ la (by omega), ← Int.natCast_add, ← hb, wn b (by omega)]
  have E3 : bits .and .u64 (IntKind.u64.wrap ((b : Int) / 16 + (b : Int))) 1085102592571150095 = (c : Int) := by
    rw [hb16, ← Int.natCast_add, wn _ (by omega), show (1085102592571150095 : Int) = ((1085102592571150095 : Nat) : Int) from rfl, bits_and_u64_nat _ _ (by omega) (by omega), ← hc]
  clear ha hb hc
  have H1 := Lib.hid E1
  have H2 := Lib.hid E2
  have H3 := Lib.hid E3
  have HL := Lib.hid hl
  clear E1 E2 E3 hl hx2 ha4 hb16
  go_enter Tryd.func43, Tryd.ntmps43
  go_wp2_with fail
  go_ret
  refine ⟨ret_int ?_, rfl⟩
  rw [H1.out, H2.out, H3.out]
  have d1 : (c : Int) + (c : Int) / 256 = ((c + c / 256 : Nat) : Int) := by omega
  have hq := HL.out
  rw [d1, wn _ (by omega)]
  obtain ⟨d, hd⟩ : ∃ d, d = c + c / 256 := ⟨_, rfl⟩
  rw [← hd] at hq ⊢
  have ld : d < 2305843009213693952 := by omega
  have d2 : (d : Int) + (d : Int) / 65536 = ((d + d / 65536 : Nat) : Int) := by omega
  rw [d2, wn _ (by omega)]
  obtain ⟨e, he⟩ : ∃ e, e = d + d / 65536 := ⟨_, rfl⟩
  rw [← he] at hq ⊢
  have le : e < 4611686018427387904 := by omega
  have d3 : (e : Int) + (e : Int) / 4294967296 = ((e + e / 4294967296 : Nat) : Int) := by omega
  rw [d3, wn _ (by omega)]
  obtain ⟨f, hf⟩ : ∃ f, f = e + e / 4294967296 := ⟨_, rfl⟩
  rw [← hf] at hq ⊢
  have lf : f < 9223372036854775808 := by omega
  rw [i64_and127, Go.IntWalk.wrap64_in _ (by omega)]
  clear d1 d2 d3 hd he hf H1 H2 H3 HL la lb lc ld le
  omega
theorem count_any (x : Nat) (hx : x < 18446744073709551616) (w : World) : Calls Tryd.prog 13 #[.int .u64 (x : Int)] w fun e w' => e = .returned (.int .i64 (((List.range' 0 64).filter (fun i => x.testBit i)).length : Nat)) ∧ w = w' := by
  have O := ones_any x hx w
  generalize ((List.range' 0 64).filter (fun i => x.testBit i)).length = r at *
  clear hx
  go_enter Tryd.func13, Tryd.ntmps13
  go_wp2_with fail
  refine O.mono ?_
  rintro e w' ⟨rfl, rfl⟩
  go_wp2_with fail
  go_ret
  exact ⟨rfl, rfl⟩

end Go.Proofs.YtikjkmomokhanaaDoor.Bp
