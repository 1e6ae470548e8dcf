/-

 What demand (layer 36) asks of packages row and slices: row.At of tasks and of objects, slices.Contains of two numbers.
-/
import Derived.Test.YthhbhbfkbncegaaGreatDoorWordsK
import Derived.Test.YthhbhbfkbncegaaGreatDoorWordBase
import Derived.Laws.OwnMore
import Derived.Deep.Cut
set_option linter.unusedVariables false
set_option linter.unusedSimpArgs false
namespace Go.Proofs.YthhbhbfkbncegaaGreatDoor.Dm
open Go.ChangeShapes Go.WideShapes Go.ChangeAt Go.RowKit Ws

theorem res_cell_tmp {P : Program} {fn : Func} {p t : Tmp} {ty : TypeId} (h : fn.results = #[.cell p ty, .tmp t]) (tmps : Array Value) (w : World) (g : Nat) (T : TypeId) (cs : Array Value) (fr : Nat × Nat) (d : TypeDesc)
 (hp : tmps.getD p undef = .pointer (some ⟨g, 0, none⟩)) (hg : w.heap[g]? = some (.cells cs T fr))
 (hu : P.underlying ty = some d) (hd : (match d with | .struct _ | .array _ _ => true | _ => false) = true) (hi : (P.info? ty).map (·.size) = some cs.size) :
 (results fn tmps).run P w = .ok (.tuple #[.agg cs, tmps.getD t undef]) w := by
 have hp' : tmps[p]?.getD undef = .pointer (some ⟨g, 0, none⟩) := by simpa using hp
 simp [results, h, hp', asAddr, run_loadVar_row w g T ty cs fr d hg hu hd hi]
set_option maxRecDepth 100000 in
set_option maxHeartbeats 2000000 in
theorem rowt_in (b o n c k : Nat) (x0 : Int) (x1 : Int) (x2 : Int) (x3 : Int) (x4 : Int) (x5 : Int) (X6 : Option Addr) (l6 c6 : Nat) (w : World) (hk : k < n) (h0 : w.cell? ⟨b, o + k * 7, none⟩ = some (.int .i64 x0)) (h1 : w.cell? ⟨b, o + k * 7 + 1, none⟩ = some (.int .i64 x1)) (h2 : w.cell? ⟨b, o + k * 7 + 2, none⟩ = some (.int .i64 x2)) (h3 : w.cell? ⟨b, o + k * 7 + 3, none⟩ = some (.int .i64 x3)) (h4 : w.cell? ⟨b, o + k * 7 + 4, none⟩ = some (.int .i64 x4)) (h5 : w.cell? ⟨b, o + k * 7 + 5, none⟩ = some (.int .i64 x5)) (h6 : w.cell? ⟨b, o + k * 7 + 6, none⟩ = some (.slice X6 l6 c6)) :
 Calls Tryz.prog 48 #[.slice (some ⟨b, o, none⟩) n c, .int .i64 (k : Int)] w fun e w' => e = .returned (.tuple #[.agg #[.int .i64 x0, .int .i64 x1, .int .i64 x2, .int .i64 x3, .int .i64 x4, .int .i64 x5, .slice X6 l6 c6], .bool true]) ∧ Same w w' := by
 have k0 : ¬ (k : Int) < 0 := by omega
 have k1 : ¬ (n : Int) ≤ (k : Int) := by omega
 have k2 : (k : Int) < (n : Int) := by omega
 have k3 : (0 : Int) ≤ (k : Int) := by omega
 have d0 : decide ((k : Int) < 0) = false := decide_eq_false k0
 have d1 : decide ((n : Int) ≤ (k : Int)) = false := decide_eq_false k1
 go_enter Tryz.func48, Tryz.ntmps48
 go_upto_region 1 with fail
 have s0 := (Same.refl w).alloc (.cells #[.int .i64 0, .int .i64 0, .int .i64 0, .int .i64 0, .int .i64 0, .int .i64 0, .slice none 0 0] 47)
 have B0 := Lib.hid (Blk.new w 47 #[.int .i64 0, .int .i64 0, .int .i64 0, .int .i64 0, .int .i64 0, .int .i64 0, .slice none 0 0])
 have e0 := s0.cell h0
 have e1 := s0.cell h1
 have e2 := s0.cell h2
 have e3 := s0.cell h3
 have e4 := s0.cell h4
 have e5 := s0.cell h5
 have e6 := s0.cell h6
 have S0 := Lib.hid s0
 have hq : w.heap.size = w.heap.size := rfl
 generalize w.alloc (.cells #[.int .i64 0, .int .i64 0, .int .i64 0, .int .i64 0, .int .i64 0, .int .i64 0, .slice none 0 0] 47) = w0 at *
 obtain ⟨q, hqq⟩ : ∃ q, q = w.heap.size := ⟨_, rfl⟩
 have HQ := Lib.hid hqq
 rw [← hqq] at B0
 rw [← hqq]
 clear hq hqq s0
 have t0 := B0.out.thaw 0
 have z0 : w0.cell? ⟨q, 0, none⟩ = some (.int .i64 0) := B0.out.cell 0
 have t1 := B0.out.thaw 1
 have z1 : w0.cell? ⟨q, 1, none⟩ = some (.int .i64 0) := B0.out.cell 1
 have t2 := B0.out.thaw 2
 have z2 : w0.cell? ⟨q, 2, none⟩ = some (.int .i64 0) := B0.out.cell 2
 have t3 := B0.out.thaw 3
 have z3 : w0.cell? ⟨q, 3, none⟩ = some (.int .i64 0) := B0.out.cell 3
 have t4 := B0.out.thaw 4
 have z4 : w0.cell? ⟨q, 4, none⟩ = some (.int .i64 0) := B0.out.cell 4
 have t5 := B0.out.thaw 5
 have z5 : w0.cell? ⟨q, 5, none⟩ = some (.int .i64 0) := B0.out.cell 5
 have t6 := B0.out.thaw 6
 have z6 : w0.cell? ⟨q, 6, none⟩ = some (.slice none 0 0) := B0.out.cell 6
 have RB := Lib.hid (((((((B0.out.put 0 (.int .i64 x0)).put 1 (.int .i64 x1)).put 2 (.int .i64 x2)).put 3 (.int .i64 x3)).put 4 (.int .i64 x4)).put 5 (.int .i64 x5)).put 6 (.slice X6 l6 c6))
 have SS := Lib.hid (Same.more S0.out ((((((((Chg.refl (fun i => i = q) w0).set (p := ⟨q, 0, none⟩) (.inl rfl) (.int .i64 x0)).set (p := ⟨q, 1, none⟩) (.inl rfl) (.int .i64 x1)).set (p := ⟨q, 2, none⟩) (.inl rfl) (.int .i64 x2)).set (p := ⟨q, 3, none⟩) (.inl rfl) (.int .i64 x3)).set (p := ⟨q, 4, none⟩) (.inl rfl) (.int .i64 x4)).set (p := ⟨q, 5, none⟩) (.inl rfl) (.int .i64 x5)).set (p := ⟨q, 6, none⟩) (.inl rfl) (.slice X6 l6 c6)) (fun i hi => by have := HQ.out; omega))
 go_wp2_with fail
 refine bodyPost_ret (res_cell_tmp Tryz.results48 _ _ q 47 #[.int .i64 x0, .int .i64 x1, .int .i64 x2, .int .i64 x3, .int .i64 x4, .int .i64 x5, .slice X6 l6 c6] (0, 0) _ rfl RB.out Tryz.underlying47 rfl (by kernel_rfl)) rfl ?_
 exact ⟨rfl, SS.out⟩
set_option maxRecDepth 100000 in
set_option maxHeartbeats 2000000 in
theorem rowo_in (b o n c k : Nat) (x0 : Int) (x1 : Int) (x2 : Int) (x3 : Int) (x4 : Int) (X5 : Option Addr) (l5 c5 : Nat) (x6 : Int) (X7 : Option Addr) (l7 c7 : Nat) (w : World) (hk : k < n) (h0 : w.cell? ⟨b, o + k * 8, none⟩ = some (.int .i64 x0)) (h1 : w.cell? ⟨b, o + k * 8 + 1, none⟩ = some (.int .i64 x1)) (h2 : w.cell? ⟨b, o + k * 8 + 2, none⟩ = some (.int .i64 x2)) (h3 : w.cell? ⟨b, o + k * 8 + 3, none⟩ = some (.int .i64 x3)) (h4 : w.cell? ⟨b, o + k * 8 + 4, none⟩ = some (.int .u32 x4)) (h5 : w.cell? ⟨b, o + k * 8 + 5, none⟩ = some (.slice X5 l5 c5)) (h6 : w.cell? ⟨b, o + k * 8 + 6, none⟩ = some (.int .i64 x6)) (h7 : w.cell? ⟨b, o + k * 8 + 7, none⟩ = some (.slice X7 l7 c7)) :
 Calls Tryz.prog 104 #[.slice (some ⟨b, o, none⟩) n c, .int .i64 (k : Int)] w fun e w' => e = .returned (.tuple #[.agg #[.int .i64 x0, .int .i64 x1, .int .i64 x2, .int .i64 x3, .int .u32 x4, .slice X5 l5 c5, .int .i64 x6, .slice X7 l7 c7], .bool true]) ∧ Same w w' := by
 have k0 : ¬ (k : Int) < 0 := by omega
 have k1 : ¬ (n : Int) ≤ (k : Int) := by omega
 have k2 : (k : Int) < (n : Int) := by omega
 have k3 : (0 : Int) ≤ (k : Int) := by omega
 have d0 : decide ((k : Int) < 0) = false := decide_eq_false k0
 have d1 : decide ((n : Int) ≤ (k : Int)) = false := decide_eq_false k1
 go_enter Tryz.func104, Tryz.ntmps104
 go_upto_region 1 with fail
 have s0 := (Same.refl w).alloc (.cells #[.int .i64 0, .int .i64 0, .int .i64 0, .int .i64 0, .int .u32 0, .slice none 0 0, .int .i64 0, .slice none 0 0] 34)
 have B0 := Lib.hid (Blk.new w 34 #[.int .i64 0, .int .i64 0, .int .i64 0, .int .i64 0, .int .u32 0, .slice none 0 0, .int .i64 0, .slice none 0 0])
 have e0 := s0.cell h0
 have e1 := s0.cell h1
 have e2 := s0.cell h2
 have e3 := s0.cell h3
 have e4 := s0.cell h4
 have e5 := s0.cell h5
 have e6 := s0.cell h6
 have e7 := s0.cell h7
 have S0 := Lib.hid s0
 have hq : w.heap.size = w.heap.size := rfl
 generalize w.alloc (.cells #[.int .i64 0, .int .i64 0, .int .i64 0, .int .i64 0, .int .u32 0, .slice none 0 0, .int .i64 0, .slice none 0 0] 34) = w0 at *
 obtain ⟨q, hqq⟩ : ∃ q, q = w.heap.size := ⟨_, rfl⟩
 have HQ := Lib.hid hqq
 rw [← hqq] at B0
 rw [← hqq]
 clear hq hqq s0
 have t0 := B0.out.thaw 0
 have z0 : w0.cell? ⟨q, 0, none⟩ = some (.int .i64 0) := B0.out.cell 0
 have t1 := B0.out.thaw 1
 have z1 : w0.cell? ⟨q, 1, none⟩ = some (.int .i64 0) := B0.out.cell 1
 have t2 := B0.out.thaw 2
 have z2 : w0.cell? ⟨q, 2, none⟩ = some (.int .i64 0) := B0.out.cell 2
 have t3 := B0.out.thaw 3
 have z3 : w0.cell? ⟨q, 3, none⟩ = some (.int .i64 0) := B0.out.cell 3
 have t4 := B0.out.thaw 4
 have z4 : w0.cell? ⟨q, 4, none⟩ = some (.int .u32 0) := B0.out.cell 4
 have t5 := B0.out.thaw 5
 have z5 : w0.cell? ⟨q, 5, none⟩ = some (.slice none 0 0) := B0.out.cell 5
 have t6 := B0.out.thaw 6
 have z6 : w0.cell? ⟨q, 6, none⟩ = some (.int .i64 0) := B0.out.cell 6
 have t7 := B0.out.thaw 7
 have z7 : w0.cell? ⟨q, 7, none⟩ = some (.slice none 0 0) := B0.out.cell 7
 have RB := Lib.hid ((((((((B0.out.put 0 (.int .i64 x0)).put 1 (.int .i64 x1)).put 2 (.int .i64 x2)).put 3 (.int .i64 x3)).put 4 (.int .u32 x4)).put 5 (.slice X5 l5 c5)).put 6 (.int .i64 x6)).put 7 (.slice X7 l7 c7))
 have SS := Lib.hid (Same.more S0.out (((((((((Chg.refl (fun i => i = q) w0).set (p := ⟨q, 0, none⟩) (.inl rfl) (.int .i64 x0)).set (p := ⟨q, 1, none⟩) (.inl rfl) (.int .i64 x1)).set (p := ⟨q, 2, none⟩) (.inl rfl) (.int .i64 x2)).set (p := ⟨q, 3, none⟩) (.inl rfl) (.int .i64 x3)).set (p := ⟨q, 4, none⟩) (.inl rfl) (.int .u32 x4)).set (p := ⟨q, 5, none⟩) (.inl rfl) (.slice X5 l5 c5)).set (p := ⟨q, 6, none⟩) (.inl rfl) (.int .i64 x6)).set (p := ⟨q, 7, none⟩) (.inl rfl) (.slice X7 l7 c7)) (fun i hi => by have := HQ.out; omega))
 go_wp2_with fail
 refine bodyPost_ret (res_cell_tmp Tryz.results104 _ _ q 34 #[.int .i64 x0, .int .i64 x1, .int .i64 x2, .int .i64 x3, .int .u32 x4, .slice X5 l5 c5, .int .i64 x6, .slice X7 l7 c7] (0, 0) _ rfl RB.out Tryz.underlying34 rfl (by kernel_rfl)) rfl ?_
 exact ⟨rfl, SS.out⟩
def idx2 (x y v : Int) : Int := if v = x then 0 else if v = y then 1 else -1
set_option maxRecDepth 100000 in
theorem index_two (g : Nat) (x y v : Int) (w : World) (h0 : w.cell? ⟨g, 0, none⟩ = some (.int .i64 x)) (h1 : w.cell? ⟨g, 1, none⟩ = some (.int .i64 y)) :
 Calls Tryz.prog 103 #[.slice (some ⟨g, 0, none⟩) 2 2, .int .i64 v] w fun e w' => e = .returned (.int .i64 (idx2 x y v)) ∧ w = w' := by
 go_enter Tryz.func103, Tryz.ntmps103
 go_wp2_with fail
 go_loopg [8] 2 (fun gk iv wx => ∃ k : Nat, k + gk = 2 ∧ iv = .int .i64 (k : Int) ∧ Hid (1 ≤ k → v ≠ x) ∧ Hid (2 ≤ k → v ≠ y) ∧ wx = w)
 case atStart => exact ⟨0, by omega, rfl, Lib.hid (fun h => by omega), Lib.hid (fun h => by omega), rfl⟩
 case round =>
  obtain ⟨k, hk, rfl, H1, H2, rfl⟩ := hrel
  have HK := Lib.hid hk
  have hk3 : k = 0 ∨ k = 1 ∨ k = 2 := by omega
  rcases hk3 with rfl | rfl | rfl
  ·obtain rfl : gk = 2 := by omega
   by_cases hv : v = x
   ·have bv : (v == x) = true := by simpa using hv
    have e : idx2 x y v = 0 := if_pos hv
    clear hv hk
    go_wp2_with fail
    go_ret
    exact ⟨by first | rfl | (rw [e]; rfl), rfl⟩
   ·have bv : (v == x) = false := by simpa using hv
    have HV := Lib.hid hv
    clear hv hk
    go_wp2_with fail
    go_roundg 1
    case rel => exact ⟨1, by omega, rfl, Lib.hid (fun _ => HV.out), Lib.hid (fun h => by omega), rfl⟩
    case measure => omega
  ·obtain rfl : gk = 1 := by omega
   by_cases hv : v = y
   ·have bv : (v == y) = true := by simpa using hv
    have e : idx2 x y v = 1 := by unfold idx2; rw [if_neg (H1.out (by omega)), if_pos hv]
    clear hv hk
    go_wp2_with fail
    go_ret
    exact ⟨by first | rfl | (rw [e]; rfl), rfl⟩
   ·have bv : (v == y) = false := by simpa using hv
    have HV := Lib.hid hv
    clear hv hk
    go_wp2_with fail
    go_roundg 0
    case rel => exact ⟨2, by omega, rfl, Lib.hid (fun _ => H1.out (by omega)), Lib.hid (fun h => HV.out), rfl⟩
    case measure => omega
  ·have e : idx2 x y v = -1 := by unfold idx2; rw [if_neg (H1.out (by omega)), if_neg (H2.out (by omega))]
   clear hk
   go_wp2_with fail
   go_ret
   exact ⟨by first | rfl | (rw [e]; rfl), rfl⟩
theorem has_two (g : Nat) (x y v : Int) (w : World) (h0 : w.cell? ⟨g, 0, none⟩ = some (.int .i64 x)) (h1 : w.cell? ⟨g, 1, none⟩ = some (.int .i64 y)) :
 Calls Tryz.prog 106 #[.slice (some ⟨g, 0, none⟩) 2 2, .int .i64 v] w fun e w' => e = .returned (.bool (decide (v = x ∨ v = y))) ∧ w = w' := by
 have IT := Lib.hid (index_two g x y v w h0 h1)
 have hb : decide (v = x ∨ v = y) = decide (0 ≤ idx2 x y v) := by
  rw [decide_eq_decide]
  unfold idx2
  split <;> rename_i hx
  ·exact ⟨fun _ => by omega, fun _ => .inl hx⟩
  ·split <;> rename_i hy
   ·exact ⟨fun _ => by omega, fun _ => .inr hy⟩
   ·exact ⟨fun h => absurd h (by omega), fun h => by omega⟩
 rw [hb]
 clear hb
 generalize idx2 x y v = r at *
 go_enter Tryz.func106, Tryz.ntmps106
 go_wp2_with fail
 refine IT.out.mono ?_
 rintro e w1 ⟨rfl, rfl⟩
 go_wp2_with fail
 go_ret
 exact ⟨rfl, rfl⟩
end Go.Proofs.YthhbhbfkbncegaaGreatDoor.Dm
