/-
  Bytes laid: package codec's Put8, Put16, Put32, and the document's own answer; the chapter's example.
-/
import Derived.Test.YtfpefkpbiioofabCodecMore
set_option linter.unusedSimpArgs false
set_option linter.unusedVariables false
namespace Go.Proofs.Ytfpefkpbiioofab.Cd
open Go.ChangeShapes Go.WideShapes Go.ChangeAt Go.RowKit Ws

/-- the n lowest bytes of a number -/
def low (x : Int) (n : Nat) : List Int := (List.range n).map fun j => x / 2 ^ (8 * j) % 256
theorem low_zero (x : Int) : low x 0 = [] := rfl
theorem low_succ (x : Int) (n : Nat) : low x (n + 1) = low x n ++ [x / 2 ^ (8 * n) % 256] := by unfold low; rw [List.range_succ, List.map_append]; rfl
theorem low_len (x : Int) (n : Nat) : (low x n).length = n := by simp [low]
theorem low_by (x : Int) (n : Nat) : By (low x n) := by
  intro y hy
  obtain ⟨j, _, rfl⟩ := List.mem_map.1 hy
  omega

def LayPost (w : World) (l : List Int) (x : Int) (n : Nat) (e : Ending) (w' : World) : Prop :=
  ∃ A c, e = .returned (.slice A (l.length + n) c) ∧ Own w' w.heap.size 5 A c (by8 (l ++ low x n)) ∧ Same w w'

def LayRel (w : World) (l : List Int) (x : Int) (n : Nat) (v i : Value) (wr : World) : Prop :=
  ∃ (k : Nat) (A : Option Addr) (c : Nat), k ≤ n ∧ i = .int .i64 k ∧ v = .slice A (l.length + k) c ∧ Own wr w.heap.size 5 A c (by8 (l ++ low x k)) ∧ Same w wr

theorem row_one (w : World) (u : Value) (t : TypeId) : Row (w.alloc (.cells #[u] t)) (some ⟨w.heap.size, 0, none⟩) [u] := by
  intro j v hj
  cases j with
  | zero =>
    refine ⟨_, _, rfl, ?_⟩
    simp at hj
    subst hj
    exact (Same.refl _).new rfl
  | succ j => simp at hj

set_option maxRecDepth 100000 in
theorem lay_any (A : Option Addr) (m c : Nat) (l : List Int) (x : Int) (n : Nat) (w : World) (hl : l.length = m) (hm : m ≤ 65536) (hn : n ≤ 4) (hr : Row w A (by8 l)) :
    Calls Try.prog 44 #[.slice A m c, .int .u32 x, .int .i64 n] w (LayPost w l x n) := by
  obtain ⟨i0, hi, hz0, hz1, hz2⟩ := info_parts u8_info
  have hmk := make_any m (m + n) (by omega) (by omega)
  have hw : ((m : Int) + n) = ((m + n : Nat) : Int) := by omega
  have hmk2 : ∀ W : World, (Instr.makeSlice 22 (.int .i64 (m : Int)) (.int .i64 ((m : Int) + n))).run Try.prog W = .ok (.slice (some ⟨W.heap.size, 0, none⟩) m (m + n)) (W.alloc (.cells (zeros (m + n)) 5)) := fun W => by
    rw [hw]; exact hmk W
  have ho := made_own m (m + n) (by omega) (by omega) w
  have hz : (by8 (List.replicate m 0)).length = m := by rw [by8_len, List.length_replicate]
  have hy : (by8 l).length = m := by rw [by8_len]; exact hl
  have HZ := Lib.hid hz
  have HY := Lib.hid hy
  have HL := Lib.hid hl
  clear hz hy hl hmk hw
  go_enter Try.func44, Try.ntmps44
  go_wp2_with (with_reducible refine wpList_cp rfl (.tmp 16) (.tmp 17) 22 22 rfl 5 Try.underlying22 u8_one w.heap.size (some ⟨w.heap.size, 0, none⟩) m (m + n) (m + n) (by8 (List.replicate m 0)) rfl HZ.out ho A m c (by8 l) rfl HY.out (hr.same ((Same.refl _).alloc _)) (by8_one _) ?_)
  intro w2 ho2 hc2
  have hyn : (by8 l).take m ++ (by8 (List.replicate m 0)).drop m = by8 l := by
    rw [List.take_of_length_le (by have := HY.out; omega), List.drop_of_length_le (by have := HZ.out; omega), List.append_nil]
  rw [hyn] at ho2
  have hs2 : Same w w2 := Same.more ((Same.refl w).alloc (.cells (zeros (m + n)) 5)) hc2 fun i hi => by
    have hi : w.heap.size = i := by simpa using hi
    omega
  clear hyn hmk2 hc2 ho
  go_wp2
  go_loopw [7, 20] (fun v i wr => LayRel w l x n v i wr) (fun _ i _ => n - (intOf i).toNat)
  case atStart => exact ⟨0, _, _, Nat.zero_le _, rfl, by rw [HL.out]; rfl, by rw [low_zero, List.append_nil]; exact ho2, hs2⟩
  case round =>
    obtain ⟨k, A', c', hk, rfl, rfl, ho', hs'⟩ := hrel
    by_cases hlt : k < n
    · have HK := Lib.hid (show (by8 (l ++ low x k)).length = l.length + k by rw [by8_len, List.length_append, low_len])
      go_wp2_with (at_builtin; refine wpList_app rfl (.tmp 23) (.tmp 29) 22 rfl w.heap.size 5 i0 _ 1 Try.underlying22 hi hz0 hz1 hz2 rfl A' (l.length + k) c' (by8 (l ++ low x k)) rfl HK.out (ho'.same ((Same.refl _).alloc _)) _ _ _ [_] rfl rfl (row_one _ _ _) ?c2 ?c3 (by omega) ?c4 ?c5)
      case c2 =>
        intro u hu
        rw [List.mem_singleton] at hu
        subst hu
        rfl
      case c3 => have := HK.out; have := HL.out; simp; omega
      case c4 => have := hs'.size; simp; omega
      intro A2 c2 w3 ho3 hc3 _
      have hs3 : Same w w3 := Same.more (hs'.alloc _) hc3 fun g hg => by
        have hg : A' = some ⟨g, 0, none⟩ := hg
        subst hg
        exact (own_lt ho').1
      have ho4 : Own w3 w.heap.size 5 A2 c2 (by8 (l ++ low x (k + 1))) := by
        rw [low_succ, ← List.append_assoc, by8_app]
        exact ho3
      clear ho3 hc3
      go_wp2
      go_roundw
      case rel => exact ⟨k + 1, A2, c2, by omega, by go_num, by rw [Nat.add_assoc], ho4, hs3⟩
      case measure => simp [intOf]; omega
    · have hkn : k = n := by omega
      subst hkn
      go_wp2
      go_ret
      exact ⟨A', c', rfl, ho', hs'⟩

/-- put: lay, by the count of each -/
theorem put8_any (A : Option Addr) (m c : Nat) (l : List Int) (x : Int) (w : World) (hl : l.length = m) (hm : m ≤ 65536) (hr : Row w A (by8 l)) :
    Calls Try.prog 42 #[.slice A m c, .int .i64 x] w (LayPost w l (x % 4294967296) 1) := by
  go_enter Try.func42, Try.ntmps42
  go_wp2_with fail
  refine (lay_any A m c l (x % 4294967296) 1 w hl hm (by omega) hr).mono ?_
  rintro e w' ⟨A', c', rfl, ho, hs⟩
  have HL := Lib.hid hl
  rw [hl]
  clear hl
  go_wp2
  go_ret
  exact ⟨A', c', by rw [HL.out]; rfl, ho, hs⟩
theorem put16_any (A : Option Addr) (m c : Nat) (l : List Int) (x : Int) (w : World) (hl : l.length = m) (hm : m ≤ 65536) (hr : Row w A (by8 l)) :
    Calls Try.prog 25 #[.slice A m c, .int .i64 x] w (LayPost w l (x % 4294967296) 2) := by
  go_enter Try.func25, Try.ntmps25
  go_wp2_with fail
  refine (lay_any A m c l (x % 4294967296) 2 w hl hm (by omega) hr).mono ?_
  rintro e w' ⟨A', c', rfl, ho, hs⟩
  have HL := Lib.hid hl
  rw [hl]
  clear hl
  go_wp2
  go_ret
  exact ⟨A', c', by rw [HL.out]; rfl, ho, hs⟩
theorem put32_any (A : Option Addr) (m c : Nat) (l : List Int) (x : Int) (w : World) (hl : l.length = m) (hm : m ≤ 65536) (hr : Row w A (by8 l)) :
    Calls Try.prog 51 #[.slice A m c, .int .u32 x] w (LayPost w l x 4) := by
  go_enter Try.func51, Try.ntmps51
  go_wp2_with fail
  refine (lay_any A m c l x 4 w hl hm (by omega) hr).mono ?_
  rintro e w' ⟨A', c', rfl, ho, hs⟩
  have HL := Lib.hid hl
  rw [hl]
  clear hl
  go_wp2
  go_ret
  exact ⟨A', c', by rw [HL.out]; rfl, ho, hs⟩

/-! ### the document's answer -/
def PutRel (w : World) (l : List Int) (x : Int) (n : Nat) (v y i : Value) (wr : World) : Prop :=
  ∃ (k : Nat) (A : Option Addr) (c : Nat), k ≤ n ∧ i = .int .i64 k ∧ y = .int .u32 (x / 2 ^ (8 * k)) ∧ v = .slice A (l.length + k) c ∧ Own wr w.heap.size 5 A c (by8 (l ++ low x k)) ∧ Same w wr

theorem own_none' (w : World) : Own (w.alloc (.cells #[] 5)) w.heap.size 5 (some ⟨w.heap.size, 0, none⟩) 0 [] := own_none w _

theorem down (x : Int) (k : Nat) : x / 2 ^ (8 * k) / 256 = x / 2 ^ (8 * (k + 1)) := by
  have h : (2 : Int) ^ (8 * (k + 1)) = 2 ^ (8 * k) * 256 := by rw [show 8 * (k + 1) = 8 * k + 8 from by omega, Int.pow_add]; rfl
  have p : (0 : Int) < 2 ^ (8 * k) := Int.pow_pos (by omega)
  rw [h, Int.ediv_ediv, if_neg (by omega)]
  omega
theorem down_bd (x : Int) (hx : 0 ≤ x ∧ x < 4294967296) (k : Nat) : 0 ≤ x / 2 ^ (8 * k) ∧ x / 2 ^ (8 * k) < 4294967296 := by
  have p : (0 : Int) < 2 ^ (8 * k) := Int.pow_pos (by omega)
  exact ⟨Int.ediv_nonneg hx.1 (by omega), Int.lt_of_le_of_lt (Int.ediv_le_self _ hx.1) hx.2⟩

/-! ### the chapter's example -/
theorem by_row_lit (w : World) (cs : List Int) : Row (w.alloc (.cells (by8 cs).toArray 5)) (some ⟨w.heap.size, 0, none⟩) (by8 cs) := by
  intro j u hj
  refine ⟨_, _, rfl, ?_⟩
  rw [Nat.zero_add]
  exact (Same.refl _).new (by simpa using hj)

end Go.Proofs.Ytfpefkpbiioofab.Cd
