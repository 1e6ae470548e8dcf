/-

  slices.Backward of spans: its inner function, with whatever yield.
-/
import Derived.Test.YtnlndkpjfgpodaaDoorFlow
import Derived.RangeFuncNested
import Derived.RangeFuncBound
import Derived.RangeFuncCalls
import Derived.RangeFuncLeaves
import Derived.RangeFuncKeeps
import Derived.RangeFuncFrom
import Derived.Shelf.Abstract
import Derived.Shelf.RegionOpen
import Derived.OwnWalkIn
import Derived.TacticsInMore
import Derived.LoopNIn
import Derived.LoopIn
import Derived.BigQuiet
import Derived.WalkKit
set_option linter.unusedVariables false
set_option linter.unusedSimpArgs false
namespace Go.Proofs.YtnlndkpjfgpodaaDoor.Cs
open Go.ChangeShapes Go.WideShapes Go.ChangeAt Go.RowKit Ws
open Go.Shelf
open Go.Proofs.YtnlndkpjfgpodaaDoor.Fw (Spn)
open Go.Proofs.YtnlndkpjfgpodaaDoor.Fp (lp)

/-- the places of a row, the last one first -/
def downL : Nat → List Nat
  | 0 => []
  | n + 1 => n :: downL n
theorem downL_len : ∀ n, (downL n).length = n
  | 0 => rfl
  | n + 1 => by simp [downL, downL_len n]
theorem downL_app : ∀ (n k : Nat), k ≤ n → ∃ pre, downL n = pre ++ downL k ∧ pre.length = n - k
  | 0, k, h => ⟨[], by rw [show k = 0 by omega]; rfl, by simp⟩
  | n + 1, k, h => by
    by_cases hk : k = n + 1
    · subst hk; exact ⟨[], rfl, by simp⟩
    · obtain ⟨pre, h1, h2⟩ := downL_app n k (by omega)
      exact ⟨n :: pre, by simp [downL, h1], by simp [h2]; omega⟩
theorem back_any (A : Option Addr) (m c : Nat) (w : World) :
    Calls Tryd.prog 92 #[.slice A m c] w fun e w' => e = .returned (.func (.func 114) #[] #[.pointer (some ⟨w.heap.size, 0, none⟩)]) ∧ w' = w.alloc (.cells #[.slice A m c] 70) := by
  go_enter Tryd.func92, Tryd.ntmps92
  go_wp2_with fail
  go_ret
  exact ⟨rfl, rfl⟩
def encSp (ls : List (Int × Int)) {m : Nat} (k : Fin m) : Array Value := #[.int .i64 ((k : Nat) : Int), .agg #[.int .i64 (lp ls k).1, .int .i64 (lp ls k).2]]
set_option maxRecDepth 100000 in
set_option maxHeartbeats 2000000 in
theorem back_in (n : Nat) (hn : 1 ≤ n) (l Bm n₀ m c : Nat) (A : Option Addr) (ls : List (Int × Int)) (hm : ls.length = m) (hmb : m ≤ 5000) (hBn : Bm < n₀) (hAn : ∀ b o, A = some ⟨b, o, none⟩ → b < n₀) (J Jx : List (Fin m) → World → Prop)
    (hY : ∀ (pre : List (Fin m)) (x : Fin m) (W : World), J pre W → pre.length < m → YieldAt Fence.wide (n - 1) Tryd.prog l (encSp ls x) W fun e W' =>
      (e = .returned (.bool true) ∧ J (pre ++ [x]) W' ∧ Below n₀ W W') ∨ (e = .returned (.bool false) ∧ Jx (pre ++ [x]) W'))
    (W : World) (hB : W.cell? ⟨Bm, 0, none⟩ = some (.slice A m c)) (hS : Spn W A ls) (h0 : J [] W) :
    CallsIn Fence.wide n Tryd.prog 114 #[.func (.yield l) #[] #[], .pointer (some ⟨Bm, 0, none⟩)] W fun e W' => (∃ v, e = .returned v) ∧
      ((∃ xs, xs.map Fin.val = downL m ∧ J xs W') ∨ (∃ pre, pre.map Fin.val <+: downL m ∧ Jx pre W')) := by
  have HM := Lib.hid hm
  clear hm
  refine callsIn_of_wp Tryd.func114 rfl trivial ?_ rfl
  simp only [Tryd.ntmps114, List.size_toArray, List.length_cons, List.length_nil, Nat.reduceAdd, Nat.reduceSub, Array.replicate_succ, Array.replicate_zero, List.push_toArray, List.append_toArray, List.nil_append, List.cons_append]
  gi_wp2
  gi_loopw [3] (fun p wr => ∃ (pre : List (Fin m)) (k : Nat) (i : Int), p = .int .i64 i ∧ i + 1 = (k : Int) ∧ k ≤ m ∧ downL m = pre.map Fin.val ++ downL k ∧ J pre wr ∧ Below n₀ W wr)
    (fun p wr => (intOf p + 1).toNat)
  case atStart => exact ⟨[], m, _, rfl, by omega, Nat.le_refl _, rfl, h0, Below.refl _ _⟩
  case round =>
    obtain ⟨pre, k, i, rfl, hi, hk, hp, hJs, hbw⟩ := hrel
    cases k with
    | zero =>
      obtain rfl : i = -1 := by omega
      rw [show downL 0 = [] from rfl, List.append_nil] at hp
      gi_wp2
      refine bodyPost_end (results_none rfl _ _ _) rfl ?_
      exact ⟨⟨_, rfl⟩, .inl ⟨pre, hp.symm, hJs⟩⟩
    | succ k =>
      obtain rfl : i = (k : Int) := by omega
      have hk1 : (0 : Int) ≤ (k : Int) := by omega
      have hk2 : (k : Int) < m := by omega
      obtain ⟨b, o, rfl, c0, c1⟩ := hS.at_ (k := k) (by rw [HM.out]; omega)
      have hbn := hAn b o rfl
      have z0 := (hbw.cell (p := ⟨b, o + k * 2, none⟩) hbn).trans c0
      have z1 := (hbw.cell (p := ⟨b, o + k * 2 + 1, none⟩) hbn).trans c1
      have zb := (hbw.cell (p := ⟨Bm, 0, none⟩) hBn).trans hB
      have HP := Lib.hid hp
      obtain ⟨fn, tmps, assign, body, hy, hR⟩ := hY pre ⟨k, by omega⟩ wr hJs (by have h := congrArg List.length hp; rw [downL_len, List.length_append, List.length_map, downL_len] at h; omega)
      clear hp c0 c1 hB
      unfold encSp at hy
      gi_wp2
      refine hR.mono ?_
      rintro e W3 (⟨rfl, hJ3, hk3⟩ | ⟨rfl, hJx3⟩)
      · gi_wp2
        go_roundw
        case rel => exact ⟨pre ++ [⟨k, by omega⟩], k, _, rfl, by omega, by omega, by rw [HP.out, List.map_append, List.append_assoc]; rfl, hJ3, hbw.trans hk3⟩
        case measure => simp only [intOf]; omega
      · gi_wp2
        refine bodyPost_ret (results_none rfl _ _ _) rfl ?_
        exact ⟨⟨_, rfl⟩, .inr ⟨pre ++ [⟨k, by omega⟩], ⟨downL k, by rw [HP.out]; simp [downL]⟩, hJx3⟩⟩
theorem back_stops (n : Nat) (hn : 1 ≤ n) (Bm n₀ m c : Nat) (A : Option Addr) (ls : List (Int × Int)) (w : World) (hm : ls.length = m) (hmb : m ≤ 5000) (hBn : Bm < n₀) (hAn : ∀ b o, A = some ⟨b, o, none⟩ → b < n₀) (hle : n₀ ≤ w.heap.size)
    (hB : w.cell? ⟨Bm, 0, none⟩ = some (.slice A m c)) (hS : Spn w A ls) :
    SeqStopsK Fence.wide n Tryd.prog 114 #[.pointer (some ⟨Bm, 0, none⟩)] (encSp ls (m := m)) (Below n₀) (fun xs => xs.map Fin.val = downL m) (fun pre => pre.map Fin.val <+: downL m) m w := by
  intro l J Jx W hW _ _ hY h0
  have hb := hW.mono hle
  exact back_in n hn l Bm n₀ m c A ls hm hmb hBn hAn J Jx hY W ((hb.cell (p := ⟨Bm, 0, none⟩) hBn).trans hB) (fun k s hk => by
    obtain ⟨b, o, h1, h2, h3⟩ := hS k s hk
    exact ⟨b, o, h1, (hb.cell (p := ⟨b, o + k * 2, none⟩) (hAn b o h1)).trans h2, (hb.cell (p := ⟨b, o + k * 2 + 1, none⟩) (hAn b o h1)).trans h3⟩) h0
end Go.Proofs.YtnlndkpjfgpodaaDoor.Cs
