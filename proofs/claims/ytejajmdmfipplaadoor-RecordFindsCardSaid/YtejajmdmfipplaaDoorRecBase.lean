/-

  What the functions of package record, and the document's own answers on layer 4, give back on rows of words, as contracts of their calls.
-/
import Derived.Test.YtejajmdmfipplaaDoorRows
import Derived.Test.YtejajmdmfipplaaDoorWords
import Derived.WalkLawsBesides
import Derived.WalkSpells
import Derived.ProofKit
import Derived.OpenShut
import Derived.Lib.Hide
import Derived.Deep.QuietTactic
import Derived.BigQuiet
set_option linter.unusedSimpArgs false
set_option linter.unusedVariables false
namespace Go.Proofs.YtejajmdmfipplaaDoor.Rc
open Go.ChangeShapes Go.WideShapes Go.ChangeAt Go.RowKit Ws

theorem ret_bool {a b : Bool} (h : a = b) : Ending.returned (.bool a) = .returned (.bool b) := by rw [h]

/-- words as cells -/
def w32 (l : List Int) : List Value := l.map (Value.int .u32)
theorem w32_len (l : List Int) : (w32 l).length = l.length := by simp [w32]
theorem w32_one (l : List Int) : ∀ u ∈ w32 l, u.oneCell' = true := by
  intro u hu
  obtain ⟨x, _, rfl⟩ := List.mem_map.1 hu
  rfl
theorem w32_set (l : List Int) (k : Nat) (x : Int) : (w32 l).set k (.int .u32 x) = w32 (l.set k x) := by simp [w32, List.map_set]

theorem words_any (A C : Option Addr) (n m c d : Nat) (xs ys : List Int) (w : World) (hn : xs.length = n) (hm : ys.length = m) (hx : Row w A (w32 xs)) (hy : Row w C (w32 ys))
    (b1 : n ≤ 4294967296) (b2 : m ≤ 4294967296) :
    Calls Tryd.prog 30 #[.slice A n c, .slice C m d] w fun e w' => e = .returned (.bool (decide (xs = ys))) ∧ ∃ k, w' = w.drewN k := by
  by_cases hl : n = m
  · subst hl
    have HX := Lib.hid hn
    have HY := Lib.hid hm
    clear hn hm
    go_enter Tryd.func30, Tryd.ntmps30
    go_wp2
    go_loopw [5, 13] (fun _ i wr => ∃ k : Nat, k ≤ n ∧ i = .int .i64 k ∧ xs.take k = ys.take k ∧ ∃ q, wr = w.drewN q) (fun _ i _ => n - (intOf i).toNat)
    case atStart => exact ⟨0, Nat.zero_le _, rfl, by simp, 0, rfl⟩
    case round =>
      obtain ⟨k, hk, rfl, hp, q, rfl⟩ := hrel
      have HP := Lib.hid hp
      clear hp
      by_cases hlt : k < n
      · obtain ⟨b, o, rfl, hc1⟩ := hx.at_ (k := k) (by have := HX.out; rw [w32_len]; omega)
        obtain ⟨b', o', rfl, hc2⟩ := hy.at_ (k := k) (by have := HY.out; rw [w32_len]; omega)
        simp only [w32, List.getElem_map] at hc1 hc2
        have hkx : k < xs.length := by have := HX.out; omega
        have hky : k < ys.length := by have := HY.out; omega
        have hsx : xs.take (k + 1) = xs.take k ++ [xs[k]] := by rw [List.take_succ_eq_append_getElem hkx]
        have hsy : ys.take (k + 1) = ys.take k ++ [ys[k]] := by rw [List.take_succ_eq_append_getElem hky]
        obtain ⟨x, hxx⟩ : ∃ x, x = xs[k] := ⟨_, rfl⟩
        obtain ⟨y, hyy⟩ : ∃ y, y = ys[k] := ⟨_, rfl⟩
        rw [← hxx] at hc1 hsx
        rw [← hyy] at hc2 hsy
        have HSX := Lib.hid hsx
        have HSY := Lib.hid hsy
        clear hsx hsy hxx hyy
        by_cases hxy : x = y
        · have hb : (x != y) = false := by simpa using hxy
          have HXY := Lib.hid hxy
          clear hxy
          go_wp2
          go_quiet (fail)
          go_wp2
          go_roundw
          case rel => exact ⟨k + 1, by omega, by go_num, by rw [HSX.out, HSY.out, HP.out, HXY.out], _, rfl⟩
          case measure => simp [intOf]; omega
        · have hb : (x != y) = true := by simpa using hxy
          have hd : decide (xs = ys) = false := by
            rw [decide_eq_false_iff_not]
            rintro rfl
            have := HSX.out
            rw [HSY.out] at this
            have := List.append_cancel_left this
            injection this with this
            exact hxy this.symm
          have HD := Lib.hid hd
          clear hd hxy
          go_wp2
          go_quiet (fail)
          go_wp2
          go_ret
          exact ⟨ret_bool HD.out.symm, q + nq, by simp⟩
      · have hkn : k = n := by omega
        subst hkn
        have hd : decide (xs = ys) = true := by
          rw [decide_eq_true_iff]
          have h1 := HP.out
          rw [List.take_of_length_le (by have := HX.out; omega), List.take_of_length_le (by have := HY.out; omega)] at h1
          exact h1
        have HD := Lib.hid hd
        clear hd
        go_wp2
        go_ret
        exact ⟨ret_bool HD.out.symm, _, rfl⟩
  · have hd : decide (xs = ys) = false := by
      rw [decide_eq_false_iff_not]
      rintro rfl
      omega
    have HD := Lib.hid hd
    clear hd
    have hne : ((n : Int) != (m : Int)) = true := by simp; omega
    go_enter Tryd.func30, Tryd.ntmps30
    go_wp2
    go_ret
    exact ⟨ret_bool HD.out.symm, 0, rfl⟩

theorem equal_any (A C : Option Addr) (n m c d : Nat) (xs ys : List Int) (w : World) (hn : xs.length = n) (hm : ys.length = m) (hx : Row w A (w32 xs)) (hy : Row w C (w32 ys))
    (b1 : n ≤ 4294967296) (b2 : m ≤ 4294967296) :
    Calls Tryd.prog 72 #[.slice A n c, .slice C m d] w fun e w' => e = .returned (.bool (decide (xs = ys))) ∧ ∃ k, w' = w.drewN k := by
  by_cases hl : n = m
  · subst hl
    have HX := Lib.hid hn
    have HY := Lib.hid hm
    clear hn hm
    go_enter Tryd.func72, Tryd.ntmps72
    go_wp2
    go_loopw [5, 13] (fun _ i wr => ∃ k : Nat, k ≤ n ∧ i = .int .i64 k ∧ xs.take k = ys.take k ∧ ∃ q, wr = w.drewN q) (fun _ i _ => n - (intOf i).toNat)
    case atStart => exact ⟨0, Nat.zero_le _, rfl, by simp, 0, rfl⟩
    case round =>
      obtain ⟨k, hk, rfl, hp, q, rfl⟩ := hrel
      have HP := Lib.hid hp
      clear hp
      by_cases hlt : k < n
      · obtain ⟨b, o, rfl, hc1⟩ := hx.at_ (k := k) (by have := HX.out; rw [w32_len]; omega)
        obtain ⟨b', o', rfl, hc2⟩ := hy.at_ (k := k) (by have := HY.out; rw [w32_len]; omega)
        simp only [w32, List.getElem_map] at hc1 hc2
        have hkx : k < xs.length := by have := HX.out; omega
        have hky : k < ys.length := by have := HY.out; omega
        have hsx : xs.take (k + 1) = xs.take k ++ [xs[k]] := by rw [List.take_succ_eq_append_getElem hkx]
        have hsy : ys.take (k + 1) = ys.take k ++ [ys[k]] := by rw [List.take_succ_eq_append_getElem hky]
        obtain ⟨x, hxx⟩ : ∃ x, x = xs[k] := ⟨_, rfl⟩
        obtain ⟨y, hyy⟩ : ∃ y, y = ys[k] := ⟨_, rfl⟩
        rw [← hxx] at hc1 hsx
        rw [← hyy] at hc2 hsy
        have HSX := Lib.hid hsx
        have HSY := Lib.hid hsy
        clear hsx hsy hxx hyy
        by_cases hxy : x = y
        · have hb : (x != y) = false := by simpa using hxy
          have HXY := Lib.hid hxy
          clear hxy
          go_wp2
          go_quiet (fail)
          go_wp2
          go_roundw
          case rel => exact ⟨k + 1, by omega, by go_num, by rw [HSX.out, HSY.out, HP.out, HXY.out], _, rfl⟩
          case measure => simp [intOf]; omega
        · have hb : (x != y) = true := by simpa using hxy
          have hd : decide (xs = ys) = false := by
            rw [decide_eq_false_iff_not]
            rintro rfl
            have := HSX.out
            rw [HSY.out] at this
            have := List.append_cancel_left this
            injection this with this
            exact hxy this.symm
          have HD := Lib.hid hd
          clear hd hxy
          go_wp2
          go_quiet (fail)
          go_wp2
          go_ret
          exact ⟨ret_bool HD.out.symm, q + nq, by simp⟩
      · have hkn : k = n := by omega
        subst hkn
        have hd : decide (xs = ys) = true := by
          rw [decide_eq_true_iff]
          have h1 := HP.out
          rw [List.take_of_length_le (by have := HX.out; omega), List.take_of_length_le (by have := HY.out; omega)] at h1
          exact h1
        have HD := Lib.hid hd
        clear hd
        go_wp2
        go_ret
        exact ⟨ret_bool HD.out.symm, _, rfl⟩
  · have hd : decide (xs = ys) = false := by
      rw [decide_eq_false_iff_not]
      rintro rfl
      omega
    have HD := Lib.hid hd
    clear hd
    have hne : ((n : Int) != (m : Int)) = true := by simp; omega
    go_enter Tryd.func72, Tryd.ntmps72
    go_wp2
    go_ret
    exact ⟨ret_bool HD.out.symm, 0, rfl⟩

theorem rsame_any (A C : Option Addr) (n m c d : Nat) (xs ys : List Int) (w : World) (hn : xs.length = n) (hm : ys.length = m) (hx : Row w A (w32 xs)) (hy : Row w C (w32 ys))
    (b1 : n ≤ 4294967296) (b2 : m ≤ 4294967296) :
    Calls Tryd.prog 32 #[.slice A n c, .slice C m d] w fun e w' => e = .returned (.bool (decide (xs = ys))) ∧ ∃ k, w' = w.drewN k := by
  by_cases hl : n = m
  · subst hl
    have HX := Lib.hid hn
    have HY := Lib.hid hm
    clear hn hm
    go_enter Tryd.func32, Tryd.ntmps32
    go_wp2
    go_loopw [5, 13] (fun _ i wr => ∃ k : Nat, k ≤ n ∧ i = .int .i64 k ∧ xs.take k = ys.take k ∧ ∃ q, wr = w.drewN q) (fun _ i _ => n - (intOf i).toNat)
    case atStart => exact ⟨0, Nat.zero_le _, rfl, by simp, 0, rfl⟩
    case round =>
      obtain ⟨k, hk, rfl, hp, q, rfl⟩ := hrel
      have HP := Lib.hid hp
      clear hp
      by_cases hlt : k < n
      · obtain ⟨b, o, rfl, hc1⟩ := hx.at_ (k := k) (by have := HX.out; rw [w32_len]; omega)
        obtain ⟨b', o', rfl, hc2⟩ := hy.at_ (k := k) (by have := HY.out; rw [w32_len]; omega)
        simp only [w32, List.getElem_map] at hc1 hc2
        have hkx : k < xs.length := by have := HX.out; omega
        have hky : k < ys.length := by have := HY.out; omega
        have hsx : xs.take (k + 1) = xs.take k ++ [xs[k]] := by rw [List.take_succ_eq_append_getElem hkx]
        have hsy : ys.take (k + 1) = ys.take k ++ [ys[k]] := by rw [List.take_succ_eq_append_getElem hky]
        obtain ⟨x, hxx⟩ : ∃ x, x = xs[k] := ⟨_, rfl⟩
        obtain ⟨y, hyy⟩ : ∃ y, y = ys[k] := ⟨_, rfl⟩
        rw [← hxx] at hc1 hsx
        rw [← hyy] at hc2 hsy
        have HSX := Lib.hid hsx
        have HSY := Lib.hid hsy
        clear hsx hsy hxx hyy
        by_cases hxy : x = y
        · have hb : (x != y) = false := by simpa using hxy
          have HXY := Lib.hid hxy
          clear hxy
          go_wp2
          go_quiet (fail)
          go_wp2
          go_roundw
          case rel => exact ⟨k + 1, by omega, by go_num, by rw [HSX.out, HSY.out, HP.out, HXY.out], _, rfl⟩
          case measure => simp [intOf]; omega
        · have hb : (x != y) = true := by simpa using hxy
          have hd : decide (xs = ys) = false := by
            rw [decide_eq_false_iff_not]
            rintro rfl
            have := HSX.out
            rw [HSY.out] at this
            have := List.append_cancel_left this
            injection this with this
            exact hxy this.symm
          have HD := Lib.hid hd
          clear hd hxy
          go_wp2
          go_quiet (fail)
          go_wp2
          go_ret
          exact ⟨ret_bool HD.out.symm, q + nq, by simp⟩
      · have hkn : k = n := by omega
        subst hkn
        have hd : decide (xs = ys) = true := by
          rw [decide_eq_true_iff]
          have h1 := HP.out
          rw [List.take_of_length_le (by have := HX.out; omega), List.take_of_length_le (by have := HY.out; omega)] at h1
          exact h1
        have HD := Lib.hid hd
        clear hd
        go_wp2
        go_ret
        exact ⟨ret_bool HD.out.symm, _, rfl⟩
  · have hd : decide (xs = ys) = false := by
      rw [decide_eq_false_iff_not]
      rintro rfl
      omega
    have HD := Lib.hid hd
    clear hd
    have hne : ((n : Int) != (m : Int)) = true := by simp; omega
    go_enter Tryd.func32, Tryd.ntmps32
    go_wp2
    go_ret
    exact ⟨ret_bool HD.out.symm, 0, rfl⟩

theorem same_any (A C : Option Addr) (n m c d : Nat) (xs ys : List Int) (w : World) (hn : xs.length = n) (hm : ys.length = m) (hx : Row w A (w32 xs)) (hy : Row w C (w32 ys))
    (b1 : n ≤ 4294967296) (b2 : m ≤ 4294967296) :
    Calls Tryd.prog 31 #[.slice A n c, .slice C m d] w fun e w' => e = .returned (.bool (decide (xs = ys))) ∧ ∃ k, w' = w.drewN k := by
  have HX := Lib.hid hn
  have HY := Lib.hid hm
  clear hn hm
  go_enter Tryd.func31, Tryd.ntmps31
  go_wp2_with fail
  refine (equal_any A C n m c d xs ys w HX.out HY.out hx hy b1 b2).mono ?_
  rintro e w' ⟨rfl, k, rfl⟩
  go_wp2
  go_ret
  exact ⟨rfl, k, rfl⟩

/-! ### stamps -/
def word (k : Int) (i : Nat) : Int := (k * (2 * i + 1) + i) % 4294967296
def stamp (k : Int) (n : Nat) : List Int := (List.range n).map (word k)
theorem stamp_len (k : Int) (n : Nat) : (stamp k n).length = n := by simp [stamp]
theorem stamp_succ (k : Int) (n : Nat) : stamp k (n + 1) = stamp k n ++ [word k n] := by unfold stamp; rw [List.range_succ, List.map_append]; rfl

theorem u32_info : (Tryd.prog.info? 62).map (fun i => (i.zero, i.size, i.bytes)) = some (some (.int .u32 0), 1, 4) := by kernel_rfl
def zeros (n : Nat) : Array Value := madeCells (Value.int .u32 0).cells (n * 1)
theorem zeros_list (n : Nat) : (zeros n).toList = w32 (List.replicate n 0) := by
  unfold zeros madeCells w32
  apply List.ext_getElem
  · simp
  · intro i h1 h2
    simp [Value.cells]
    show [Value.int IntKind.u32 0][i % 1]?.getD default = _
    rw [Nat.mod_one]
    rfl
theorem zeros_size (n : Nat) : (zeros n).size = n := by unfold zeros; rw [size_madeCells, Nat.mul_one]
theorem make_any (n : Nat) (hn : n ≤ 4096) (W : World) : (Instr.makeSlice 37 (.int .i64 (n : Int)) (.int .i64 (n : Int))).run Tryd.prog W = .ok (.slice (some ⟨W.heap.size, 0, none⟩) n n) (W.alloc (.cells (zeros n) 62)) := by
  obtain ⟨i0, hi, hz0, hz1, hz2⟩ := info_parts u32_info
  have h := run_make (P := Tryd.prog) W 37 62 i0 _ Tryd.underlying37 hi hz0 .i64 .i64 n n (by omega) (by omega) (by rw [hz2]; omega) (by omega)
  rw [hz1, Int.toNat_natCast] at h
  exact h
theorem made_own (n : Nat) (hn : n ≤ 4096) (w : World) : Own (w.alloc (.cells (zeros n) 62)) w.heap.size 62 (some ⟨w.heap.size, 0, none⟩) n (w32 (List.replicate n 0)) := by
  refine ⟨by rw [Nat.mul_one], .inr ⟨w.heap.size, n, zeros n, rfl, Nat.le_refl _, heap_alloc_new w _, by rw [w32_len, List.length_replicate]; exact Nat.le_refl _, by unfold maxLen; omega, by rw [zeros_size, Nat.mul_one], ?_⟩⟩
  rw [zeros_list, w32_len, List.length_replicate, Nat.mul_one]
  exact List.take_of_length_le (by rw [w32_len, List.length_replicate]; exact Nat.le_refl _)

/-- how wide a stamp is -/
def wide (a : Int) : Nat := (min (max a 0) 8).toNat
theorem wide_is (a : Int) : ((wide a : Nat) : Int) = min (max a 0) 8 := by unfold wide; omega
theorem wide_le (a : Int) : wide a ≤ 8 := by unfold wide; omega

def StampRel (w : World) (k : Int) (n g : Nat) (i : Value) (wr : World) : Prop :=
  ∃ q : Nat, q ≤ n ∧ i = .int .i64 q ∧ Own wr w.heap.size 62 (some ⟨g, 0, none⟩) n (w32 (stamp k q ++ List.replicate (n - q) 0)) ∧ Same w wr

theorem word_is (k : Int) (q : Nat) : (k * (2 * (q : Int) + 1) % 4294967296 + q) % 4294967296 = word k q := by
  unfold word
  generalize k * (2 * (q : Int) + 1) = t
  omega
theorem stamp_put (k : Int) (n q : Nat) (hq : q < n) : (stamp k q ++ List.replicate (n - q) 0).set q (word k q) = stamp k (q + 1) ++ List.replicate (n - (q + 1)) 0 := by
  rw [stamp_succ, List.append_assoc, List.set_append_right _ _ (by rw [stamp_len]; exact Nat.le_refl _), stamp_len, Nat.sub_self]
  congr 1
  have e : n - q = (n - (q + 1)) + 1 := by omega
  rw [e, List.replicate_succ]
  rfl

theorem own_cell {w : World} {B g c : Nat} {l : List Int} (h : Own w B 62 (some ⟨g, 0, none⟩) c (w32 l)) (k : Nat) (hk : k < l.length) :
    w.cell? ⟨g, k, none⟩ = some (.int .u32 l[k]) ∧ w.frozen? ⟨g, k, none⟩ = false ∧ B ≤ g := by
  obtain ⟨g', hg', hB, _, hf⟩ := h.thaw (by rw [w32_len]; omega)
  injection hg' with hg'
  injection hg' with hg'
  subst hg'
  obtain ⟨b, o, hA, hc⟩ := h.row.at_ (k := k) (by rw [w32_len]; exact hk)
  injection hA with hA
  injection hA with h1 h2
  subst h1
  subst h2
  refine ⟨?_, hf k, hB⟩
  rw [Nat.zero_add] at hc
  simpa [w32] using hc

def StampPost (w : World) (k : Int) (n : Nat) (e : Ending) (w' : World) : Prop :=
  e = .returned (.slice (some ⟨w.heap.size, 0, none⟩) n n) ∧ Own w' w.heap.size 62 (some ⟨w.heap.size, 0, none⟩) n (w32 (stamp k n)) ∧ Same w w'
theorem stamp_mid (n : Nat) (hn : n ≤ 8) (k : Int) (w : World) :
    Calls Tryd.prog 68 #[.int .i64 n, .int .u32 k] w (StampPost w k n) := by
  have hmk := make_any n (by omega)
  have ho := made_own n (by omega) w
  have hs := (Same.refl w).alloc (.cells (zeros n) 62)
  have hn0 : (0 : Int) ≤ n := by omega
  have hn8 : (n : Int) ≤ 8 := by omega
  go_enter Tryd.func68, Tryd.ntmps68
  go_wp2_with fail
  go_loopw [6, 7, 14] (fun _ _ i wr => StampRel w k n w.heap.size i wr) (fun _ _ i _ => n - (intOf i).toNat)
  case atStart => exact ⟨0, Nat.zero_le _, rfl, ho, hs⟩
  case round =>
    obtain ⟨q, hq, rfl, hoq, hsq⟩ := hrel
    clear ho hs
    by_cases hlt : q < n
    · obtain ⟨e1, f1, _⟩ := own_cell hoq q (by rw [List.length_append, stamp_len, List.length_replicate]; omega)
      generalize (stamp k q ++ List.replicate (n - q) 0)[q]'_ = old at e1
      have hw := word_is k q
      have HS := Lib.hid (stamp_put k n q hlt)
      have HP := Lib.hid (hoq.put q (.int .u32 (word k q)))
      have hqn : (q : Int) < (n : Nat) := by omega
      have q8 : (q : Int) < 8 := by omega
      clear hoq
      go_wp2
      go_roundw
      case rel => exact ⟨q + 1, by omega, by go_num, by rw [← HS.out, ← w32_set]; exact HP.out, Chg.set hsq (.inr (Nat.le_refl _)) _⟩
      case measure => simp [intOf]; omega
    · have hqn : q = n := by omega
      subst hqn
      rw [Nat.sub_self, List.replicate_zero, List.append_nil] at hoq
      go_wp2
      go_ret
      exact ⟨rfl, hoq, hsq⟩
theorem stamp_low (a : Int) (ha : a < 0) (k : Int) (w : World) :
    Calls Tryd.prog 68 #[.int .i64 a, .int .u32 k] w (StampPost w k 0) := by
  have hmk : ∀ W, (Instr.makeSlice 37 (.int .i64 0) (.int .i64 0)).run Tryd.prog W = .ok (.slice (some ⟨W.heap.size, 0, none⟩) 0 0) (W.alloc (.cells (zeros 0) 62)) := make_any 0 (by omega)
  have ho := made_own 0 (by omega) w
  have hs := (Same.refl w).alloc (.cells (zeros 0) 62)
  go_enter Tryd.func68, Tryd.ntmps68
  go_wp2_with fail
  go_loopw [6, 7, 14] (fun _ _ i wr => StampRel w k 0 w.heap.size i wr) (fun _ _ i _ => 0 - (intOf i).toNat)
  case atStart => exact ⟨0, Nat.zero_le _, rfl, ho, hs⟩
  case round =>
    obtain ⟨q, hq, rfl, hoq, hsq⟩ := hrel
    clear ho hs
    by_cases hlt : q < 0
    · exact absurd hlt (by omega)
    · have hqn : q = 0 := by omega
      subst hqn
      rw [Nat.sub_self, List.replicate_zero, List.append_nil] at hoq
      go_wp2
      go_ret
      exact ⟨rfl, hoq, hsq⟩
theorem stamp_high (a : Int) (ha : 8 < a) (k : Int) (w : World) :
    Calls Tryd.prog 68 #[.int .i64 a, .int .u32 k] w (StampPost w k 8) := by
  have hmk : ∀ W, (Instr.makeSlice 37 (.int .i64 8) (.int .i64 8)).run Tryd.prog W = .ok (.slice (some ⟨W.heap.size, 0, none⟩) 8 8) (W.alloc (.cells (zeros 8) 62)) := make_any 8 (by omega)
  have ho := made_own 8 (by omega) w
  have hs := (Same.refl w).alloc (.cells (zeros 8) 62)
  go_enter Tryd.func68, Tryd.ntmps68
  go_wp2_with fail
  go_loopw [6, 7, 14] (fun _ _ i wr => StampRel w k 8 w.heap.size i wr) (fun _ _ i _ => 8 - (intOf i).toNat)
  case atStart => exact ⟨0, Nat.zero_le _, rfl, ho, hs⟩
  case round =>
    obtain ⟨q, hq, rfl, hoq, hsq⟩ := hrel
    clear ho hs
    by_cases hlt : q < 8
    · obtain ⟨e1, f1, _⟩ := own_cell hoq q (by rw [List.length_append, stamp_len, List.length_replicate]; omega)
      generalize (stamp k q ++ List.replicate (8 - q) 0)[q]'_ = old at e1
      have hw := word_is k q
      have HS := Lib.hid (stamp_put k 8 q hlt)
      have HP := Lib.hid (hoq.put q (.int .u32 (word k q)))
      have hqn : (q : Int) < 8 := by omega
      have q8 : (q : Int) < 8 := by omega
      clear hoq
      go_wp2
      go_roundw
      case rel => exact ⟨q + 1, by omega, by go_num, by rw [← HS.out, ← w32_set]; exact HP.out, Chg.set hsq (.inr (Nat.le_refl _)) _⟩
      case measure => simp [intOf]; omega
    · have hqn : q = 8 := by omega
      subst hqn
      rw [Nat.sub_self, List.replicate_zero, List.append_nil] at hoq
      go_wp2
      go_ret
      exact ⟨rfl, hoq, hsq⟩

theorem stamp_any (a : Int) (k : Int) (w : World) :
    Calls Tryd.prog 68 #[.int .i64 a, .int .u32 k] w (StampPost w k (wide a)) := by
  by_cases h1 : a < 0
  · rw [show wide a = 0 by unfold wide; omega]
    exact stamp_low a h1 k w
  · by_cases h2 : 8 < a
    · rw [show wide a = 8 by unfold wide; omega]
      exact stamp_high a h2 k w
    · obtain ⟨n, rfl⟩ := Int.eq_ofNat_of_zero_le (show 0 ≤ a by omega)
      rw [show wide (n : Int) = n by unfold wide; omega]
      exact stamp_mid n (by omega) k w

/-! ### the document's stamp -/
theorem word_up (k : Int) (q : Nat) : ((word k q + k + k) % 4294967296 + 1) % 4294967296 = word k (q + 1) := by
  unfold word
  have e : k * (2 * ((q + 1 : Nat) : Int) + 1) = k * (2 * (q : Int) + 1) + 2 * k := by
    rw [show (2 * ((q + 1 : Nat) : Int) + 1) = (2 * (q : Int) + 1) + 2 from by omega, Int.mul_add, Int.mul_comm k 2]
  rw [e]
  generalize k * (2 * (q : Int) + 1) = t
  omega
theorem word_bd (k : Int) (q : Nat) : 0 ≤ word k q ∧ word k q < 4294967296 := by unfold word; omega
theorem word_zero (k : Int) (hk : 0 ≤ k ∧ k < 4294967296) : word k 0 = k := by unfold word; simp; omega

theorem row_one (w : World) (u : Value) (t : TypeId) : Row (w.alloc (.cells #[u] t)) (some ⟨w.heap.size, 0, none⟩) [u] := by
  intro j v hj
  cases j with
  | zero =>
    refine ⟨_, _, rfl, ?_⟩
    simp at hj
    subst hj
    exact (Same.refl _).new rfl
  | succ j => simp at hj
theorem own_at {w : World} {B : Nat} {e : TypeId} {A : Option Addr} {c : Nat} {l : List Value} (h : Own w B e A c l) : ∀ g, A = some ⟨g, 0, none⟩ → B ≤ g := by
  intro g hA
  rcases h.2 with ⟨h2, _⟩ | ⟨g', cap, cur, hv, hB, _⟩
  · injection h2 with h2
    rw [hA] at h2
    cases h2
  · injection hv with hv
    rw [hA] at hv
    injection hv with hv
    injection hv with hv
    omega

def RStampRel (w : World) (k : Int) (n : Nat) (v y i : Value) (wr : World) : Prop :=
  ∃ (q : Nat) (A : Option Addr) (c : Nat), q ≤ n ∧ i = .int .i64 q ∧ y = .int .u32 (word k q) ∧ v = .slice A q c ∧ Own wr w.heap.size 62 A c (w32 (stamp k q)) ∧ Same w wr
def RStampPost (w : World) (k : Int) (n : Nat) (e : Ending) (w' : World) : Prop :=
  ∃ A c, e = .returned (.slice A n c) ∧ Own w' w.heap.size 62 A c (w32 (stamp k n)) ∧ Same w w'

/-! ### of which number a record is the stamp -/
def isStamp (l : List Int) : Bool := decide (l = stamp (l.headD 0) (wide l.length)) && decide (l ≠ [])
theorem unstamp_any (A : Option Addr) (n c : Nat) (l : List Int) (w : World) (hn : l.length = n) (hb : n ≤ 4294967296) (hr : Row w A (w32 l)) (hk : ∀ x ∈ l, 0 ≤ x ∧ x < 4294967296) :
    Calls Tryd.prog 69 #[.slice A n c] w fun e w' => e = .returned (.tuple #[.int .u32 (if isStamp l then l.headD 0 else 0), .bool (isStamp l)]) ∧ Same w w' := by
  cases l with
  | nil =>
    subst hn
    go_enter Tryd.func69, Tryd.ntmps69
    go_wp2_with fail
    go_ret2
    exact ⟨rfl, Same.refl _⟩
  | cons x r =>
    obtain ⟨b, o, rfl, hc⟩ := hr.at_ (k := 0) (by rw [w32_len]; simp)
    have hc : w.cell? ⟨b, o, none⟩ = some (.int .u32 x) := by simpa [w32] using hc
    have hx := hk x (by simp)
    have hp : (0 : Int) < (n : Int) := by rw [← hn]; simp
    have hne : ((n : Int) == 0) = false := by simp; omega
    have HN := Lib.hid hn
    clear hn
    obtain ⟨v, hv⟩ : ∃ v, v = decide (x :: r = stamp x (wide (n : Int))) := ⟨_, rfl⟩
    have hi : isStamp (x :: r) = v := by
      unfold isStamp
      rw [HN.out, hv]
      simp
    rw [hi]
    have HV := Lib.hid hv
    clear hv hi
    go_enter Tryd.func69, Tryd.ntmps69
    go_wp2_with fail
    refine (stamp_any (n : Int) x w).mono ?_
    rintro e w1 ⟨rfl, ho, s1⟩
    have hc1 := s1.cell hc
    go_wp2_with fail
    refine (same_any _ _ n (wide (n : Int)) c _ (x :: r) (stamp x (wide (n : Int))) w1 HN.out (stamp_len _ _) (hr.same s1) ho.row hb (by have := wide_le (n : Int); omega)).mono ?_
    rintro e w2 ⟨rfl, q, rfl⟩
    rw [← HV.out]
    have s2 := s1.drewN q
    cases v
    all_goals
      go_wp2_with fail
      go_ret2
      exact ⟨rfl, s2⟩

end Go.Proofs.YtejajmdmfipplaaDoor.Rc
