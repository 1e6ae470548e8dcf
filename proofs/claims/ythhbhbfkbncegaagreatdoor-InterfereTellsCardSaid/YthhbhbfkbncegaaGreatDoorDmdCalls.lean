/-

  Package demand (layer 36): how often a job of a task calls an object (calls, Writes, Reads).
-/
import Derived.Test.YthhbhbfkbncegaaGreatDoorWordsK
import Derived.Test.YthhbhbfkbncegaaGreatDoorWordBase
import Derived.Laws.OwnMore
import Derived.Deep.Cut
import Derived.Test.YthhbhbfkbncegaaGreatDoorImgIn
import Derived.Deep.CutBlock
import Derived.Test.YthhbhbfkbncegaaGreatDoorCstMost
import Derived.Deep.LoopGhost
section
section
set_option linter.unusedVariables false
set_option linter.unusedSimpArgs false
namespace Go.Proofs.YthhbhbfkbncegaaGreatDoor.Dm
open Go.ChangeShapes Go.WideShapes Go.ChangeAt Go.RowKit Ws

theorem res_cell_tmp {P : Program} {fn : Func} {p t : Tmp} {ty : TypeId} (h : fn.results = #[.cell p ty, .tmp t]) (tmps : Array Value) (w : World) (g : Nat) (T : TypeId) (cs : Array Value) (fr : Nat × Nat) (d : TypeDesc)
    (hp : tmps.getD p undef = .pointer (some ⟨g, 0, none⟩)) (hg : w.heap[g]? = some (.cells cs T fr))
    (hu : P.underlying ty = some d) (hd : (match d with | .struct _ | .array _ _ => true | _ => false) = true) (hi : (P.info? ty).map (·.size) = some cs.size) :
    (results fn tmps).run P w = .ok (.tuple #[.agg cs, tmps.getD t undef]) w := by
  have hp' : tmps[p]?.getD undef = .pointer (some ⟨g, 0, none⟩) := by simpa using hp
  simp [results, h, hp', asAddr, run_loadVar_row w g T ty cs fr d hg hu hd hi]
set_option maxRecDepth 100000 in
set_option maxHeartbeats 2000000 in
theorem rowt_in (b o n c k : Nat) (x0 : Int) (x1 : Int) (x2 : Int) (x3 : Int) (x4 : Int) (x5 : Int) (X6 : Option Addr) (l6 c6 : Nat) (w : World) (hk : k < n) (h0 : w.cell? ⟨b, o + k * 7, none⟩ = some (.int .i64 x0)) (h1 : w.cell? ⟨b, o + k * 7 + 1, none⟩ = some (.int .i64 x1)) (h2 : w.cell? ⟨b, o + k * 7 + 2, none⟩ = some (.int .i64 x2)) (h3 : w.cell? ⟨b, o + k * 7 + 3, none⟩ = some (.int .i64 x3)) (h4 : w.cell? ⟨b, o + k * 7 + 4, none⟩ = some (.int .i64 x4)) (h5 : w.cell? ⟨b, o + k * 7 + 5, none⟩ = some (.int .i64 x5)) (h6 : w.cell? ⟨b, o + k * 7 + 6, none⟩ = some (.slice X6 l6 c6)) :
    Calls Tryz.prog 48 #[.slice (some ⟨b, o, none⟩) n c, .int .i64 (k : Int)] w fun e w' => e = .returned (.tuple #[.agg #[.int .i64 x0, .int .i64 x1, .int .i64 x2, .int .i64 x3, .int .i64 x4, .int .i64 x5, .slice X6 l6 c6], .bool true]) ∧ Same w w' := by
  have k0 : ¬ (k : Int) < 0 := by omega
  have k1 : ¬ (n : Int) ≤ (k : Int) := by omega
  have k2 : (k : Int) < (n : Int) := by omega
  have k3 : (0 : Int) ≤ (k : Int) := by omega
  have d0 : decide ((k : Int) < 0) = false := decide_eq_false k0
  have d1 : decide ((n : Int) ≤ (k : Int)) = false := decide_eq_false k1
  go_enter Tryz.func48, Tryz.ntmps48
  go_upto_region 1 with fail
  have s0 := (Same.refl w).alloc (.cells #[.int .i64 0, .int .i64 0, .int .i64 0, .int .i64 0, .int .i64 0, .int .i64 0, .slice none 0 0] 47)
  have B0 := Lib.hid (Blk.new w 47 #[.int .i64 0, .int .i64 0, .int .i64 0, .int .i64 0, .int .i64 0, .int .i64 0, .slice none 0 0])
  have e0 := s0.cell h0
  have e1 := s0.cell h1
  have e2 := s0.cell h2
  have e3 := s0.cell h3
  have e4 := s0.cell h4
  have e5 := s0.cell h5
  have e6 := s0.cell h6
  have S0 := Lib.hid s0
  have hq : w.heap.size = w.heap.size := rfl
  generalize w.alloc (.cells #[.int .i64 0, .int .i64 0, .int .i64 0, .int .i64 0, .int .i64 0, .int .i64 0, .slice none 0 0] 47) = w0 at *
  obtain ⟨q, hqq⟩ : ∃ q, q = w.heap.size := ⟨_, rfl⟩
  have HQ := Lib.hid hqq
  rw [← hqq] at B0
  rw [← hqq]
  clear hq hqq s0
  have t0 := B0.out.thaw 0
  have z0 : w0.cell? ⟨q, 0, none⟩ = some (.int .i64 0) := B0.out.cell 0
  have t1 := B0.out.thaw 1
  have z1 : w0.cell? ⟨q, 1, none⟩ = some (.int .i64 0) := B0.out.cell 1
  have t2 := B0.out.thaw 2
  have z2 : w0.cell? ⟨q, 2, none⟩ = some (.int .i64 0) := B0.out.cell 2
  have t3 := B0.out.thaw 3
  have z3 : w0.cell? ⟨q, 3, none⟩ = some (.int .i64 0) := B0.out.cell 3
  have t4 := B0.out.thaw 4
  have z4 : w0.cell? ⟨q, 4, none⟩ = some (.int .i64 0) := B0.out.cell 4
  have t5 := B0.out.thaw 5
  have z5 : w0.cell? ⟨q, 5, none⟩ = some (.int .i64 0) := B0.out.cell 5
  have t6 := B0.out.thaw 6
  have z6 : w0.cell? ⟨q, 6, none⟩ = some (.slice none 0 0) := B0.out.cell 6
  have RB := Lib.hid (((((((B0.out.put 0 (.int .i64 x0)).put 1 (.int .i64 x1)).put 2 (.int .i64 x2)).put 3 (.int .i64 x3)).put 4 (.int .i64 x4)).put 5 (.int .i64 x5)).put 6 (.slice X6 l6 c6))
  have SS := Lib.hid (Same.more S0.out ((((((((Chg.refl (fun i => i = q) w0).set (p := ⟨q, 0, none⟩) (.inl rfl) (.int .i64 x0)).set (p := ⟨q, 1, none⟩) (.inl rfl) (.int .i64 x1)).set (p := ⟨q, 2, none⟩) (.inl rfl) (.int .i64 x2)).set (p := ⟨q, 3, none⟩) (.inl rfl) (.int .i64 x3)).set (p := ⟨q, 4, none⟩) (.inl rfl) (.int .i64 x4)).set (p := ⟨q, 5, none⟩) (.inl rfl) (.int .i64 x5)).set (p := ⟨q, 6, none⟩) (.inl rfl) (.slice X6 l6 c6)) (fun i hi => by have := HQ.out; omega))
  go_wp2_with fail
  refine bodyPost_ret (res_cell_tmp Tryz.results48 _ _ q 47 #[.int .i64 x0, .int .i64 x1, .int .i64 x2, .int .i64 x3, .int .i64 x4, .int .i64 x5, .slice X6 l6 c6] (0, 0) _ rfl RB.out Tryz.underlying47 rfl (by kernel_rfl)) rfl ?_
  exact ⟨rfl, SS.out⟩
set_option maxRecDepth 100000 in
set_option maxHeartbeats 2000000 in
theorem rowo_in (b o n c k : Nat) (x0 : Int) (x1 : Int) (x2 : Int) (x3 : Int) (x4 : Int) (X5 : Option Addr) (l5 c5 : Nat) (x6 : Int) (X7 : Option Addr) (l7 c7 : Nat) (w : World) (hk : k < n) (h0 : w.cell? ⟨b, o + k * 8, none⟩ = some (.int .i64 x0)) (h1 : w.cell? ⟨b, o + k * 8 + 1, none⟩ = some (.int .i64 x1)) (h2 : w.cell? ⟨b, o + k * 8 + 2, none⟩ = some (.int .i64 x2)) (h3 : w.cell? ⟨b, o + k * 8 + 3, none⟩ = some (.int .i64 x3)) (h4 : w.cell? ⟨b, o + k * 8 + 4, none⟩ = some (.int .u32 x4)) (h5 : w.cell? ⟨b, o + k * 8 + 5, none⟩ = some (.slice X5 l5 c5)) (h6 : w.cell? ⟨b, o + k * 8 + 6, none⟩ = some (.int .i64 x6)) (h7 : w.cell? ⟨b, o + k * 8 + 7, none⟩ = some (.slice X7 l7 c7)) :
    Calls Tryz.prog 104 #[.slice (some ⟨b, o, none⟩) n c, .int .i64 (k : Int)] w fun e w' => e = .returned (.tuple #[.agg #[.int .i64 x0, .int .i64 x1, .int .i64 x2, .int .i64 x3, .int .u32 x4, .slice X5 l5 c5, .int .i64 x6, .slice X7 l7 c7], .bool true]) ∧ Same w w' := by
  have k0 : ¬ (k : Int) < 0 := by omega
  have k1 : ¬ (n : Int) ≤ (k : Int) := by omega
  have k2 : (k : Int) < (n : Int) := by omega
  have k3 : (0 : Int) ≤ (k : Int) := by omega
  have d0 : decide ((k : Int) < 0) = false := decide_eq_false k0
  have d1 : decide ((n : Int) ≤ (k : Int)) = false := decide_eq_false k1
  go_enter Tryz.func104, Tryz.ntmps104
  go_upto_region 1 with fail
  have s0 := (Same.refl w).alloc (.cells #[.int .i64 0, .int .i64 0, .int .i64 0, .int .i64 0, .int .u32 0, .slice none 0 0, .int .i64 0, .slice none 0 0] 34)
  have B0 := Lib.hid (Blk.new w 34 #[.int .i64 0, .int .i64 0, .int .i64 0, .int .i64 0, .int .u32 0, .slice none 0 0, .int .i64 0, .slice none 0 0])
  have e0 := s0.cell h0
  have e1 := s0.cell h1
  have e2 := s0.cell h2
  have e3 := s0.cell h3
  have e4 := s0.cell h4
  have e5 := s0.cell h5
  have e6 := s0.cell h6
  have e7 := s0.cell h7
  have S0 := Lib.hid s0
  have hq : w.heap.size = w.heap.size := rfl
  generalize w.alloc (.cells #[.int .i64 0, .int .i64 0, .int .i64 0, .int .i64 0, .int .u32 0, .slice none 0 0, .int .i64 0, .slice none 0 0] 34) = w0 at *
  obtain ⟨q, hqq⟩ : ∃ q, q = w.heap.size := ⟨_, rfl⟩
  have HQ := Lib.hid hqq
  rw [← hqq] at B0
  rw [← hqq]
  clear hq hqq s0
  have t0 := B0.out.thaw 0
  have z0 : w0.cell? ⟨q, 0, none⟩ = some (.int .i64 0) := B0.out.cell 0
  have t1 := B0.out.thaw 1
  have z1 : w0.cell? ⟨q, 1, none⟩ = some (.int .i64 0) := B0.out.cell 1
  have t2 := B0.out.thaw 2
  have z2 : w0.cell? ⟨q, 2, none⟩ = some (.int .i64 0) := B0.out.cell 2
  have t3 := B0.out.thaw 3
  have z3 : w0.cell? ⟨q, 3, none⟩ = some (.int .i64 0) := B0.out.cell 3
  have t4 := B0.out.thaw 4
  have z4 : w0.cell? ⟨q, 4, none⟩ = some (.int .u32 0) := B0.out.cell 4
  have t5 := B0.out.thaw 5
  have z5 : w0.cell? ⟨q, 5, none⟩ = some (.slice none 0 0) := B0.out.cell 5
  have t6 := B0.out.thaw 6
  have z6 : w0.cell? ⟨q, 6, none⟩ = some (.int .i64 0) := B0.out.cell 6
  have t7 := B0.out.thaw 7
  have z7 : w0.cell? ⟨q, 7, none⟩ = some (.slice none 0 0) := B0.out.cell 7
  have RB := Lib.hid ((((((((B0.out.put 0 (.int .i64 x0)).put 1 (.int .i64 x1)).put 2 (.int .i64 x2)).put 3 (.int .i64 x3)).put 4 (.int .u32 x4)).put 5 (.slice X5 l5 c5)).put 6 (.int .i64 x6)).put 7 (.slice X7 l7 c7))
  have SS := Lib.hid (Same.more S0.out (((((((((Chg.refl (fun i => i = q) w0).set (p := ⟨q, 0, none⟩) (.inl rfl) (.int .i64 x0)).set (p := ⟨q, 1, none⟩) (.inl rfl) (.int .i64 x1)).set (p := ⟨q, 2, none⟩) (.inl rfl) (.int .i64 x2)).set (p := ⟨q, 3, none⟩) (.inl rfl) (.int .i64 x3)).set (p := ⟨q, 4, none⟩) (.inl rfl) (.int .u32 x4)).set (p := ⟨q, 5, none⟩) (.inl rfl) (.slice X5 l5 c5)).set (p := ⟨q, 6, none⟩) (.inl rfl) (.int .i64 x6)).set (p := ⟨q, 7, none⟩) (.inl rfl) (.slice X7 l7 c7)) (fun i hi => by have := HQ.out; omega))
  go_wp2_with fail
  refine bodyPost_ret (res_cell_tmp Tryz.results104 _ _ q 34 #[.int .i64 x0, .int .i64 x1, .int .i64 x2, .int .i64 x3, .int .u32 x4, .slice X5 l5 c5, .int .i64 x6, .slice X7 l7 c7] (0, 0) _ rfl RB.out Tryz.underlying34 rfl (by kernel_rfl)) rfl ?_
  exact ⟨rfl, SS.out⟩
def idx2 (x y v : Int) : Int := if v = x then 0 else if v = y then 1 else -1
set_option maxRecDepth 100000 in
theorem index_two (g : Nat) (x y v : Int) (w : World) (h0 : w.cell? ⟨g, 0, none⟩ = some (.int .i64 x)) (h1 : w.cell? ⟨g, 1, none⟩ = some (.int .i64 y)) :
    Calls Tryz.prog 103 #[.slice (some ⟨g, 0, none⟩) 2 2, .int .i64 v] w fun e w' => e = .returned (.int .i64 (idx2 x y v)) ∧ w = w' := by
  go_enter Tryz.func103, Tryz.ntmps103
  go_wp2_with fail
  go_loopg [8] 2 (fun gk iv wx => ∃ k : Nat, k + gk = 2 ∧ iv = .int .i64 (k : Int) ∧ Hid (1 ≤ k → v ≠ x) ∧ Hid (2 ≤ k → v ≠ y) ∧ wx = w)
  case atStart => exact ⟨0, by omega, rfl, Lib.hid (fun h => by omega), Lib.hid (fun h => by omega), rfl⟩
  case round =>
    obtain ⟨k, hk, rfl, H1, H2, rfl⟩ := hrel
    have HK := Lib.hid hk
    have hk3 : k = 0 ∨ k = 1 ∨ k = 2 := by omega
    rcases hk3 with rfl | rfl | rfl
    · obtain rfl : gk = 2 := by omega
      by_cases hv : v = x
      · have bv : (v == x) = true := by simpa using hv
        have e : idx2 x y v = 0 := if_pos hv
        clear hv hk
        go_wp2_with fail
        go_ret
        exact ⟨by first | rfl | (rw [e]; rfl), rfl⟩
      · have bv : (v == x) = false := by simpa using hv
        have HV := Lib.hid hv
        clear hv hk
        go_wp2_with fail
        go_roundg 1
        case rel => exact ⟨1, by omega, rfl, Lib.hid (fun _ => HV.out), Lib.hid (fun h => by omega), rfl⟩
        case measure => omega
    · obtain rfl : gk = 1 := by omega
      by_cases hv : v = y
      · have bv : (v == y) = true := by simpa using hv
        have e : idx2 x y v = 1 := by unfold idx2; rw [if_neg (H1.out (by omega)), if_pos hv]
        clear hv hk
        go_wp2_with fail
        go_ret
        exact ⟨by first | rfl | (rw [e]; rfl), rfl⟩
      · have bv : (v == y) = false := by simpa using hv
        have HV := Lib.hid hv
        clear hv hk
        go_wp2_with fail
        go_roundg 0
        case rel => exact ⟨2, by omega, rfl, Lib.hid (fun _ => H1.out (by omega)), Lib.hid (fun h => HV.out), rfl⟩
        case measure => omega
    · have e : idx2 x y v = -1 := by unfold idx2; rw [if_neg (H1.out (by omega)), if_neg (H2.out (by omega))]
      clear hk
      go_wp2_with fail
      go_ret
      exact ⟨by first | rfl | (rw [e]; rfl), rfl⟩
theorem has_two (g : Nat) (x y v : Int) (w : World) (h0 : w.cell? ⟨g, 0, none⟩ = some (.int .i64 x)) (h1 : w.cell? ⟨g, 1, none⟩ = some (.int .i64 y)) :
    Calls Tryz.prog 106 #[.slice (some ⟨g, 0, none⟩) 2 2, .int .i64 v] w fun e w' => e = .returned (.bool (decide (v = x ∨ v = y))) ∧ w = w' := by
  have IT := Lib.hid (index_two g x y v w h0 h1)
  have hb : decide (v = x ∨ v = y) = decide (0 ≤ idx2 x y v) := by
    rw [decide_eq_decide]
    unfold idx2
    split <;> rename_i hx
    · exact ⟨fun _ => by omega, fun _ => .inl hx⟩
    · split <;> rename_i hy
      · exact ⟨fun _ => by omega, fun _ => .inr hy⟩
      · exact ⟨fun h => absurd h (by omega), fun h => by omega⟩
  rw [hb]
  clear hb
  generalize idx2 x y v = r at *
  go_enter Tryz.func106, Tryz.ntmps106
  go_wp2_with fail
  refine IT.out.mono ?_
  rintro e w1 ⟨rfl, rfl⟩
  go_wp2_with fail
  go_ret
  exact ⟨rfl, rfl⟩
end Go.Proofs.YthhbhbfkbncegaaGreatDoor.Dm
end
section
set_option linter.unusedVariables false
set_option linter.unusedSimpArgs false
namespace Go.Proofs.YthhbhbfkbncegaaGreatDoor.Dm
open Go.ChangeShapes Go.WideShapes Go.ChangeAt Go.RowKit Ws
open Im (PT PO PS TsAt OsAt SysAt tcells ocells)

theorem chgRow {S : Nat → Prop} {a b : World} (h : Chg S a b) {g : Nat} (hg : S g ∨ a.heap.size ≤ g) (cs : Array Value) : Chg S a (b.setRow g cs) := by
  refine ⟨h.os, h.tape, h.output, by simpa [World.setRow] using h.size, fun i hi hn => ?_⟩
  rw [← h.block i hi hn]
  unfold World.setRow
  simp only [Array.getElem?_modify]
  rw [if_neg]
  rintro rfl
  rcases hg with hg | hg
  · exact hn hg
  · omega
theorem rowb {w : World} {g : Nat} {T : TypeId} {old cs : Array Value} (h : Blk w g T old) : Blk (w.setRow g cs) g T cs := setRow_heap w g old cs T (0, 0) h

set_option maxRecDepth 100000 in
set_option maxHeartbeats 2000000 in
theorem rowt_out (A : Option Addr) (n c : Nat) (i : Int) (w : World) (h : i < 0 ∨ (n : Int) ≤ i) :
    Calls Tryz.prog 48 #[.slice A n c, .int .i64 i] w fun e w' => e = .returned (.tuple #[.agg #[.int .i64 0, .int .i64 0, .int .i64 0, .int .i64 0, .int .i64 0, .int .i64 0, .slice none 0 0], .bool false]) ∧ Same w w' := by
  rcases (show i < 0 ∨ (¬ i < 0 ∧ (n : Int) ≤ i) by omega) with h0 | ⟨h1, h2⟩
  · have d0 : decide (i < 0) = true := decide_eq_true h0
    clear h
    have B0 := Lib.hid (Blk.new w 47 #[.int .i64 0, .int .i64 0, .int .i64 0, .int .i64 0, .int .i64 0, .int .i64 0, .slice none 0 0])
    have s0 := (Same.refl w).alloc (.cells #[.int .i64 0, .int .i64 0, .int .i64 0, .int .i64 0, .int .i64 0, .int .i64 0, .slice none 0 0] 47)
    have S0 := Lib.hid s0
    go_enter Tryz.func48, Tryz.ntmps48
    go_upto_region 2 with fail
    generalize hw0 : w.alloc (.cells #[.int .i64 0, .int .i64 0, .int .i64 0, .int .i64 0, .int .i64 0, .int .i64 0, .slice none 0 0] 47) = w0 at *
    obtain ⟨q, hqq⟩ : ∃ q, q = w.heap.size := ⟨_, rfl⟩
    have HQ := Lib.hid hqq
    rw [← hqq] at B0
    rw [← hqq]
    clear hqq s0 hw0
    have B1 := Lib.hid (B0.out.same ((Same.refl w0).alloc (.cells #[.int .i64 0, .int .i64 0, .int .i64 0, .int .i64 0, .int .i64 0, .int .i64 0, .slice none 0 0] 47)))
    have B2 := Lib.hid (Blk.new w0 47 #[.int .i64 0, .int .i64 0, .int .i64 0, .int .i64 0, .int .i64 0, .int .i64 0, .slice none 0 0])
    have S1 := Lib.hid (S0.out.alloc (.cells #[.int .i64 0, .int .i64 0, .int .i64 0, .int .i64 0, .int .i64 0, .int .i64 0, .slice none 0 0] 47))
    go_upto_region 3 with fail
    generalize w0.alloc (.cells #[.int .i64 0, .int .i64 0, .int .i64 0, .int .i64 0, .int .i64 0, .int .i64 0, .slice none 0 0] 47) = w1 at *
    generalize w0.heap.size = q2 at *
    clear B0 S0
    have HIF := Lib.hid (show (Tryz.prog.info? 47).map (·.size) = some (#[.int .i64 0, .int .i64 0, .int .i64 0, .int .i64 0, .int .i64 0, .int .i64 0, .slice none 0 0] : Array Value).size by kernel_rfl)
    go_wp2_with (first | (refine wpList_load_row rfl 47 (.tmp 6) rfl q2 rfl 47 #[.int .i64 0, .int .i64 0, .int .i64 0, .int .i64 0, .int .i64 0, .int .i64 0, .slice none 0 0] (0, 0) _ B2.out Tryz.underlying47 rfl HIF.out ?_) | (refine wpList_store_row rfl 47 (.tmp 4) (.tmp 15) rfl q #[.int .i64 0, .int .i64 0, .int .i64 0, .int .i64 0, .int .i64 0, .int .i64 0, .slice none 0 0] rfl rfl 47 #[.int .i64 0, .int .i64 0, .int .i64 0, .int .i64 0, .int .i64 0, .int .i64 0, .slice none 0 0] B1.out HIF.out rfl (by simp [Value.oneCell']) ?_))
    refine bodyPost_ret (v := .tuple #[.agg #[.int .i64 0, .int .i64 0, .int .i64 0, .int .i64 0, .int .i64 0, .int .i64 0, .slice none 0 0], .bool false]) (res_cell_tmp Tryz.results48 _ _ q 47 #[.int .i64 0, .int .i64 0, .int .i64 0, .int .i64 0, .int .i64 0, .int .i64 0, .slice none 0 0] (0, 0) _ rfl (rowb B1.out) Tryz.underlying47 rfl HIF.out) rfl ?_
    exact ⟨rfl, chgRow S1.out (.inr (by have := HQ.out; omega)) _⟩
  · have d0 : decide (i < 0) = false := decide_eq_false h1
    have d1 : decide ((n : Int) ≤ i) = true := decide_eq_true h2
    clear h
    have B0 := Lib.hid (Blk.new w 47 #[.int .i64 0, .int .i64 0, .int .i64 0, .int .i64 0, .int .i64 0, .int .i64 0, .slice none 0 0])
    have s0 := (Same.refl w).alloc (.cells #[.int .i64 0, .int .i64 0, .int .i64 0, .int .i64 0, .int .i64 0, .int .i64 0, .slice none 0 0] 47)
    have S0 := Lib.hid s0
    go_enter Tryz.func48, Tryz.ntmps48
    go_upto_region 2 with fail
    generalize hw0 : w.alloc (.cells #[.int .i64 0, .int .i64 0, .int .i64 0, .int .i64 0, .int .i64 0, .int .i64 0, .slice none 0 0] 47) = w0 at *
    obtain ⟨q, hqq⟩ : ∃ q, q = w.heap.size := ⟨_, rfl⟩
    have HQ := Lib.hid hqq
    rw [← hqq] at B0
    rw [← hqq]
    clear hqq s0 hw0
    have B1 := Lib.hid (B0.out.same ((Same.refl w0).alloc (.cells #[.int .i64 0, .int .i64 0, .int .i64 0, .int .i64 0, .int .i64 0, .int .i64 0, .slice none 0 0] 47)))
    have B2 := Lib.hid (Blk.new w0 47 #[.int .i64 0, .int .i64 0, .int .i64 0, .int .i64 0, .int .i64 0, .int .i64 0, .slice none 0 0])
    have S1 := Lib.hid (S0.out.alloc (.cells #[.int .i64 0, .int .i64 0, .int .i64 0, .int .i64 0, .int .i64 0, .int .i64 0, .slice none 0 0] 47))
    go_upto_region 3 with fail
    generalize w0.alloc (.cells #[.int .i64 0, .int .i64 0, .int .i64 0, .int .i64 0, .int .i64 0, .int .i64 0, .slice none 0 0] 47) = w1 at *
    generalize w0.heap.size = q2 at *
    clear B0 S0
    have HIF := Lib.hid (show (Tryz.prog.info? 47).map (·.size) = some (#[.int .i64 0, .int .i64 0, .int .i64 0, .int .i64 0, .int .i64 0, .int .i64 0, .slice none 0 0] : Array Value).size by kernel_rfl)
    go_wp2_with (first | (refine wpList_load_row rfl 47 (.tmp 6) rfl q2 rfl 47 #[.int .i64 0, .int .i64 0, .int .i64 0, .int .i64 0, .int .i64 0, .int .i64 0, .slice none 0 0] (0, 0) _ B2.out Tryz.underlying47 rfl HIF.out ?_) | (refine wpList_store_row rfl 47 (.tmp 4) (.tmp 15) rfl q #[.int .i64 0, .int .i64 0, .int .i64 0, .int .i64 0, .int .i64 0, .int .i64 0, .slice none 0 0] rfl rfl 47 #[.int .i64 0, .int .i64 0, .int .i64 0, .int .i64 0, .int .i64 0, .int .i64 0, .slice none 0 0] B1.out HIF.out rfl (by simp [Value.oneCell']) ?_))
    refine bodyPost_ret (v := .tuple #[.agg #[.int .i64 0, .int .i64 0, .int .i64 0, .int .i64 0, .int .i64 0, .int .i64 0, .slice none 0 0], .bool false]) (res_cell_tmp Tryz.results48 _ _ q 47 #[.int .i64 0, .int .i64 0, .int .i64 0, .int .i64 0, .int .i64 0, .int .i64 0, .slice none 0 0] (0, 0) _ rfl (rowb B1.out) Tryz.underlying47 rfl HIF.out) rfl ?_
    exact ⟨rfl, chgRow S1.out (.inr (by have := HQ.out; omega)) _⟩
set_option maxRecDepth 100000 in
set_option maxHeartbeats 2000000 in
theorem rowo_out (A : Option Addr) (n c : Nat) (i : Int) (w : World) (h : i < 0 ∨ (n : Int) ≤ i) :
    Calls Tryz.prog 104 #[.slice A n c, .int .i64 i] w fun e w' => e = .returned (.tuple #[.agg #[.int .i64 0, .int .i64 0, .int .i64 0, .int .i64 0, .int .u32 0, .slice none 0 0, .int .i64 0, .slice none 0 0], .bool false]) ∧ Same w w' := by
  rcases (show i < 0 ∨ (¬ i < 0 ∧ (n : Int) ≤ i) by omega) with h0 | ⟨h1, h2⟩
  · have d0 : decide (i < 0) = true := decide_eq_true h0
    clear h
    have B0 := Lib.hid (Blk.new w 34 #[.int .i64 0, .int .i64 0, .int .i64 0, .int .i64 0, .int .u32 0, .slice none 0 0, .int .i64 0, .slice none 0 0])
    have s0 := (Same.refl w).alloc (.cells #[.int .i64 0, .int .i64 0, .int .i64 0, .int .i64 0, .int .u32 0, .slice none 0 0, .int .i64 0, .slice none 0 0] 34)
    have S0 := Lib.hid s0
    go_enter Tryz.func104, Tryz.ntmps104
    go_upto_region 2 with fail
    generalize hw0 : w.alloc (.cells #[.int .i64 0, .int .i64 0, .int .i64 0, .int .i64 0, .int .u32 0, .slice none 0 0, .int .i64 0, .slice none 0 0] 34) = w0 at *
    obtain ⟨q, hqq⟩ : ∃ q, q = w.heap.size := ⟨_, rfl⟩
    have HQ := Lib.hid hqq
    rw [← hqq] at B0
    rw [← hqq]
    clear hqq s0 hw0
    have B1 := Lib.hid (B0.out.same ((Same.refl w0).alloc (.cells #[.int .i64 0, .int .i64 0, .int .i64 0, .int .i64 0, .int .u32 0, .slice none 0 0, .int .i64 0, .slice none 0 0] 34)))
    have B2 := Lib.hid (Blk.new w0 34 #[.int .i64 0, .int .i64 0, .int .i64 0, .int .i64 0, .int .u32 0, .slice none 0 0, .int .i64 0, .slice none 0 0])
    have S1 := Lib.hid (S0.out.alloc (.cells #[.int .i64 0, .int .i64 0, .int .i64 0, .int .i64 0, .int .u32 0, .slice none 0 0, .int .i64 0, .slice none 0 0] 34))
    go_upto_region 3 with fail
    generalize w0.alloc (.cells #[.int .i64 0, .int .i64 0, .int .i64 0, .int .i64 0, .int .u32 0, .slice none 0 0, .int .i64 0, .slice none 0 0] 34) = w1 at *
    generalize w0.heap.size = q2 at *
    clear B0 S0
    have HIF := Lib.hid (show (Tryz.prog.info? 34).map (·.size) = some (#[.int .i64 0, .int .i64 0, .int .i64 0, .int .i64 0, .int .u32 0, .slice none 0 0, .int .i64 0, .slice none 0 0] : Array Value).size by kernel_rfl)
    go_wp2_with (first | (refine wpList_load_row rfl 34 (.tmp 6) rfl q2 rfl 34 #[.int .i64 0, .int .i64 0, .int .i64 0, .int .i64 0, .int .u32 0, .slice none 0 0, .int .i64 0, .slice none 0 0] (0, 0) _ B2.out Tryz.underlying34 rfl HIF.out ?_) | (refine wpList_store_row rfl 34 (.tmp 4) (.tmp 15) rfl q #[.int .i64 0, .int .i64 0, .int .i64 0, .int .i64 0, .int .u32 0, .slice none 0 0, .int .i64 0, .slice none 0 0] rfl rfl 34 #[.int .i64 0, .int .i64 0, .int .i64 0, .int .i64 0, .int .u32 0, .slice none 0 0, .int .i64 0, .slice none 0 0] B1.out HIF.out rfl (by simp [Value.oneCell']) ?_))
    refine bodyPost_ret (v := .tuple #[.agg #[.int .i64 0, .int .i64 0, .int .i64 0, .int .i64 0, .int .u32 0, .slice none 0 0, .int .i64 0, .slice none 0 0], .bool false]) (res_cell_tmp Tryz.results104 _ _ q 34 #[.int .i64 0, .int .i64 0, .int .i64 0, .int .i64 0, .int .u32 0, .slice none 0 0, .int .i64 0, .slice none 0 0] (0, 0) _ rfl (rowb B1.out) Tryz.underlying34 rfl HIF.out) rfl ?_
    exact ⟨rfl, chgRow S1.out (.inr (by have := HQ.out; omega)) _⟩
  · have d0 : decide (i < 0) = false := decide_eq_false h1
    have d1 : decide ((n : Int) ≤ i) = true := decide_eq_true h2
    clear h
    have B0 := Lib.hid (Blk.new w 34 #[.int .i64 0, .int .i64 0, .int .i64 0, .int .i64 0, .int .u32 0, .slice none 0 0, .int .i64 0, .slice none 0 0])
    have s0 := (Same.refl w).alloc (.cells #[.int .i64 0, .int .i64 0, .int .i64 0, .int .i64 0, .int .u32 0, .slice none 0 0, .int .i64 0, .slice none 0 0] 34)
    have S0 := Lib.hid s0
    go_enter Tryz.func104, Tryz.ntmps104
    go_upto_region 2 with fail
    generalize hw0 : w.alloc (.cells #[.int .i64 0, .int .i64 0, .int .i64 0, .int .i64 0, .int .u32 0, .slice none 0 0, .int .i64 0, .slice none 0 0] 34) = w0 at *
    obtain ⟨q, hqq⟩ : ∃ q, q = w.heap.size := ⟨_, rfl⟩
    have HQ := Lib.hid hqq
    rw [← hqq] at B0
    rw [← hqq]
    clear hqq s0 hw0
    have B1 := Lib.hid (B0.out.same ((Same.refl w0).alloc (.cells #[.int .i64 0, .int .i64 0, .int .i64 0, .int .i64 0, .int .u32 0, .slice none 0 0, .int .i64 0, .slice none 0 0] 34)))
    have B2 := Lib.hid (Blk.new w0 34 #[.int .i64 0, .int .i64 0, .int .i64 0, .int .i64 0, .int .u32 0, .slice none 0 0, .int .i64 0, .slice none 0 0])
    have S1 := Lib.hid (S0.out.alloc (.cells #[.int .i64 0, .int .i64 0, .int .i64 0, .int .i64 0, .int .u32 0, .slice none 0 0, .int .i64 0, .slice none 0 0] 34))
    go_upto_region 3 with fail
    generalize w0.alloc (.cells #[.int .i64 0, .int .i64 0, .int .i64 0, .int .i64 0, .int .u32 0, .slice none 0 0, .int .i64 0, .slice none 0 0] 34) = w1 at *
    generalize w0.heap.size = q2 at *
    clear B0 S0
    have HIF := Lib.hid (show (Tryz.prog.info? 34).map (·.size) = some (#[.int .i64 0, .int .i64 0, .int .i64 0, .int .i64 0, .int .u32 0, .slice none 0 0, .int .i64 0, .slice none 0 0] : Array Value).size by kernel_rfl)
    go_wp2_with (first | (refine wpList_load_row rfl 34 (.tmp 6) rfl q2 rfl 34 #[.int .i64 0, .int .i64 0, .int .i64 0, .int .i64 0, .int .u32 0, .slice none 0 0, .int .i64 0, .slice none 0 0] (0, 0) _ B2.out Tryz.underlying34 rfl HIF.out ?_) | (refine wpList_store_row rfl 34 (.tmp 4) (.tmp 15) rfl q #[.int .i64 0, .int .i64 0, .int .i64 0, .int .i64 0, .int .u32 0, .slice none 0 0, .int .i64 0, .slice none 0 0] rfl rfl 34 #[.int .i64 0, .int .i64 0, .int .i64 0, .int .i64 0, .int .u32 0, .slice none 0 0, .int .i64 0, .slice none 0 0] B1.out HIF.out rfl (by simp [Value.oneCell']) ?_))
    refine bodyPost_ret (v := .tuple #[.agg #[.int .i64 0, .int .i64 0, .int .i64 0, .int .i64 0, .int .u32 0, .slice none 0 0, .int .i64 0, .slice none 0 0], .bool false]) (res_cell_tmp Tryz.results104 _ _ q 34 #[.int .i64 0, .int .i64 0, .int .i64 0, .int .i64 0, .int .u32 0, .slice none 0 0, .int .i64 0, .slice none 0 0] (0, 0) _ rfl (rowb B1.out) Tryz.underlying34 rfl HIF.out) rfl ?_
    exact ⟨rfl, chgRow S1.out (.inr (by have := HQ.out; omega)) _⟩
/-- what row.At tells of a list of tasks -/
def RowT (w : World) (ts : List PT) (i : Int) (e : Ending) (w' : World) : Prop :=
  Same w w' ∧ ((∃ (k : Nat) (p : PT) (X : Option Addr) (cX : Nat), i = k ∧ ts[k]? = some p ∧ Im.Code w X p.code ∧ p.code.length ≤ maxLen ∧ e = .returned (.tuple #[.agg #[.int .i64 p.kind, .int .i64 p.prio, .int .i64 p.per, .int .i64 p.off, .int .i64 p.dl, .int .i64 p.own, .slice X p.code.length cX], .bool true])) ∨
    ((i < 0 ∨ (ts.length : Int) ≤ i) ∧ e = .returned (.tuple #[.agg #[.int .i64 0, .int .i64 0, .int .i64 0, .int .i64 0, .int .i64 0, .int .i64 0, .slice none 0 0], .bool false])))
theorem rowt_any (A : Option Addr) (n c : Nat) (ts : List PT) (i : Int) (w : World) (h : TsAt w A ts) (hn : ts.length = n) : Calls Tryz.prog 48 #[.slice A n c, .int .i64 i] w (RowT w ts i) := by
  by_cases hi : i < 0 ∨ (n : Int) ≤ i
  · refine (rowt_out A n c i w hi).mono ?_
    rintro e w' ⟨rfl, s⟩
    exact ⟨s, .inr ⟨by rw [hn]; exact hi, rfl⟩⟩
  · obtain ⟨k, rfl⟩ : ∃ k : Nat, i = k := ⟨i.toNat, by omega⟩
    have hk : k < ts.length := by omega
    have hp : ts[k]? = some ts[k] := List.getElem?_eq_getElem hk
    obtain ⟨b, o, rfl, X, cX, h0, h1, h2, h3, h4, h5, h6, h7, h8⟩ := h.at_ hp
    refine (rowt_in b o n c k _ _ _ _ _ _ X _ cX w (by omega) h0 h1 h2 h3 h4 h5 h6).mono ?_
    rintro e w' ⟨rfl, s⟩
    exact ⟨s, .inl ⟨k, ts[k], X, cX, rfl, hp, h7, h8, rfl⟩⟩
/-- .. of objects -/
def RowO (w : World) (os : List PO) (i : Int) (e : Ending) (w' : World) : Prop :=
  Same w w' ∧ ((∃ (k : Nat) (p : PO) (X : Option Addr) (cX : Nat) (Y : Option Addr) (cY : Nat), i = k ∧ os[k]? = some p ∧ (0 ≤ p.sa ∧ p.sa < 4294967296) ∧ e = .returned (.tuple #[.agg #[.int .i64 p.k, .int .i64 p.wd, .int .i64 p.sl, .int .i64 p.cp, .int .u32 p.sa, .slice X p.ini.length cX, .int .i64 p.ow, .slice Y p.rd.length cY], .bool true])) ∨
    ((i < 0 ∨ (os.length : Int) ≤ i) ∧ e = .returned (.tuple #[.agg #[.int .i64 0, .int .i64 0, .int .i64 0, .int .i64 0, .int .u32 0, .slice none 0 0, .int .i64 0, .slice none 0 0], .bool false])))
theorem rowo_any (A : Option Addr) (n c : Nat) (os : List PO) (i : Int) (w : World) (h : OsAt w A os) (hn : os.length = n) : Calls Tryz.prog 104 #[.slice A n c, .int .i64 i] w (RowO w os i) := by
  by_cases hi : i < 0 ∨ (n : Int) ≤ i
  · refine (rowo_out A n c i w hi).mono ?_
    rintro e w' ⟨rfl, s⟩
    exact ⟨s, .inr ⟨by rw [hn]; exact hi, rfl⟩⟩
  · obtain ⟨k, rfl⟩ : ∃ k : Nat, i = k := ⟨i.toNat, by omega⟩
    have hk : k < os.length := by omega
    have hp : os[k]? = some os[k] := List.getElem?_eq_getElem hk
    obtain ⟨b, o, rfl, X, cX, Y, cY, h0, h1, h2, h3, h4, h5, h6, h7, h8, h9⟩ := h.at_ hp
    refine (rowo_in b o n c k _ _ _ _ _ X _ cX _ Y _ cY w (by omega) h0 h1 h2 h3 h4 h5 h6 h7).mono ?_
    rintro e w' ⟨rfl, s⟩
    exact ⟨s, .inl ⟨k, os[k], X, cX, Y, cY, rfl, hp, h8, rfl⟩⟩
end Go.Proofs.YthhbhbfkbncegaaGreatDoor.Dm
end
end
section
set_option linter.unusedVariables false
set_option linter.unusedSimpArgs false
namespace Go.Proofs.YthhbhbfkbncegaaGreatDoor.Dm
open Go.ChangeShapes Go.WideShapes Go.ChangeAt Go.RowKit Ws
open Im (PT PO PS TsAt OsAt SysAt tcells ocells)
open Go.Proofs.YthhbhbfkbncegaaGreatDoor.Is (callB callV rightB)

def fpI (x : Im.Ins) : Fp.Ins := ⟨x.op, x.a, x.b, x.c, x.n⟩
def pI (p : PT) : List Fp.Ins := p.code.map fpI
theorem prgI {w : World} {A : Option Addr} {l : List Im.Ins} (h : Im.Code w A l) : Fw.Prg w A (l.map fpI) := by
  intro i x hx
  rw [List.getElem?_map] at hx
  cases hl : l[i]? with
  | none => rw [hl] at hx; cases hx
  | some y =>
    rw [hl] at hx
    simp only [Option.map_some, Option.some.injEq] at hx
    subst hx
    obtain ⟨h1, b, o, h2, h3⟩ := h i y hl
    exact ⟨h1, b, o, h2, h3⟩
/-- is it a call of the object k, of one of two kinds? -/
def cntI (k x y : Int) (i : Fp.Ins) : Int := if (rightB i.op i.a i.b i.c i.n && callB i.op) = true ∧ i.b = k ∧ (i.op = x ∨ i.op = y) then 1 else 0
def demI (s : PS) (i k x y : Int) : Int := if (0 ≤ i ∧ i < s.ts.length) ∧ (0 ≤ k ∧ k < s.os.length) then Cs.weI true (pI (s.ts.getD i.toNat default)) ((pI (s.ts.getD i.toNat default)).map (cntI k x y)) else 0
theorem dem_out {s : PS} {i k x y : Int} (h : (i < 0 ∨ (s.ts.length : Int) ≤ i) ∨ (k < 0 ∨ (s.os.length : Int) ≤ k)) : demI s i k x y = 0 := if_neg (by omega)
theorem dem_in {s : PS} {i k : Nat} {x y : Int} {p : PT} (h : s.ts[i]? = some p) (hk : k < s.os.length) : demI s i k x y = Cs.weI true (pI p) ((pI p).map (cntI k x y)) := by
  have hi : i < s.ts.length := (List.getElem?_eq_some_iff.1 h).1
  unfold demI
  rw [if_pos (by omega), Int.toNat_natCast, List.getD_eq_getElem?_getD, h]
  rfl
theorem own_nil (w : World) (B : Nat) (e : TypeId) : Ws.Own w B e none 0 [] := ⟨by simp, .inl ⟨rfl, rfl⟩⟩
theorem int_inf : (Tryz.prog.info? 3).map (fun i => (i.zero, i.size, i.bytes)) = some (some (.int .i64 0), 1, 8) := by kernel_rfl
theorem own_low {w : World} {B : Nat} {e : TypeId} {A : Option Addr} {c : Nat} {l : List Value} (h : Ws.Own w B e A c l) {g : Nat} (hA : A = some ⟨g, 0, none⟩) : B ≤ g := by
  subst hA
  rcases h.2 with ⟨h2, _⟩ | ⟨g2, cap, cur, hv, hb2, _⟩
  · cases h2
  · injection hv with hv
    injection hv with hv
    injection hv with hv
    omega
theorem take_snoc {α : Type} (l : List α) {j : Nat} {v : α} (h : l[j]? = some v) : l.take (j + 1) = l.take j ++ [v] := by
  rw [List.take_add_one, h]
  rfl
set_option maxRecDepth 100000 in
set_option maxHeartbeats 8000000 in
theorem calls_dem (A B : Option Addr) (n c m d : Nat) (s : PS) (i k x y : Int) (g : Nat) (w : World) (hs : SysAt w A n B m s) (hnm : n ≤ maxLen ∧ m ≤ maxLen) (hf : ∀ p ∈ s.ts, p.code.length ≤ 200) (hg0 : w.cell? ⟨g, 0, none⟩ = some (.int .i64 x)) (hg1 : w.cell? ⟨g, 1, none⟩ = some (.int .i64 y)) (hT : Is.Tabs w) :
    Calls Tryz.prog 84 #[.agg #[.slice A n c, .slice B m d], .int .i64 i, .int .i64 k, .slice (some ⟨g, 0, none⟩) 2 2] w fun e w' => e = .returned (.int .i64 (demI s i k x y)) ∧ Same w w' := by
  obtain ⟨i0, hi, hz0, hz1, hz2⟩ := info_parts int_inf
  obtain ⟨w0, hw0⟩ : ∃ w0, w0 = w.alloc (.cells #[.slice A n c, .slice B m d] 25) := ⟨_, rfl⟩
  have s0 : Same w w0 := hw0 ▸ (Same.refl w).alloc _
  have b0 : Blk w0 w.heap.size 25 #[.slice A n c, .slice B m d] := hw0 ▸ Blk.new w _ _
  have HE0 := Lib.hid hw0
  have HS := Lib.hid hs
  have HF := Lib.hid hf
  have HT := Lib.hid hT
  have HG0 := Lib.hid hg0
  have HG1 := Lib.hid hg1
  have c0 := b0.cell 0
  have c1 := b0.cell 1
  simp only [List.getElem?_toArray, List.getElem?_cons_zero, List.getElem?_cons_succ] at c0 c1
  have S0 := Lib.hid s0
  have B0 := Lib.hid b0
  have RT := Lib.hid (rowt_any A n c s.ts i w0 (hs.ht.same s0) hs.hn)
  have RO := Lib.hid (fun W (h : Same w W) => rowo_any B m d s.os k W (hs.ho.same h) hs.hm)
  clear hw0 s0 b0 hs hf hT hg0 hg1
  go_enter Tryz.func84, Tryz.ntmps84
  go_wp2_with fail
  rw [← HE0.out]
  clear HE0
  refine RT.out.mono ?_
  rintro e w1 ⟨s1, ht⟩
  have S1 := Lib.hid s1
  have B1 := Lib.hid (B0.out.same s1)
  clear s1 RT B0 c0 c1
  rcases ht with ⟨ki, p, X, cX, rfl, hp, hcode, hlen, rfl⟩ | ⟨hout, rfl⟩
  · have HCW := Lib.hid hcode
    have HP := Lib.hid hp
    have HLE := Lib.hid (HF.out p (List.mem_of_getElem? hp))
    clear hcode hp hlen
    have HS2 := Lib.hid (S1.out.alloc (.cells #[.int .i64 p.kind, .int .i64 p.prio, .int .i64 p.per, .int .i64 p.off, .int .i64 p.dl, .int .i64 p.own, .slice X p.code.length cX] 47))
    have HQ2 := Lib.hid (Blk.new w1 47 #[.int .i64 p.kind, .int .i64 p.prio, .int .i64 p.per, .int .i64 p.off, .int .i64 p.dl, .int .i64 p.own, .slice X p.code.length cX])
    have HB2 := Lib.hid (B1.out.same ((Same.refl w1).alloc (.cells #[.int .i64 p.kind, .int .i64 p.prio, .int .i64 p.per, .int .i64 p.off, .int .i64 p.dl, .int .i64 p.own, .slice X p.code.length cX] 47)))
    go_upto_region 2 with fail
    generalize w1.alloc (.cells #[.int .i64 p.kind, .int .i64 p.prio, .int .i64 p.per, .int .i64 p.off, .int .i64 p.dl, .int .i64 p.own, .slice X p.code.length cX] 47) = w2 at *
    generalize w1.heap.size = q1 at *
    have c1 := HB2.out.cell 1
    simp only [List.getElem?_toArray, List.getElem?_cons_zero, List.getElem?_cons_succ] at c1
    have RO2 := Lib.hid (RO.out w2 (S0.out.trans HS2.out))
    clear RO
    go_wp2_with fail
    refine RO2.out.mono ?_
    rintro e w3 ⟨s3, ho⟩
    have HS3 := Lib.hid (HS2.out.trans s3)
    have HQ3 := Lib.hid (HQ2.out.same s3)
    clear s3 RO2 HB2 c1 HS2 HQ2 S1 B1
    rcases ho with ⟨kk, o, Xo, co, Yo, do_, rfl, hok, _, rfl⟩ | ⟨hout, rfl⟩
    · have HD := Lib.hid (dem_in (x := x) (y := y) HP.out (List.getElem?_eq_some_iff.1 hok).1)
      clear hok
      have HS4 := Lib.hid (HS3.out.alloc (.cells #[.int .i64 o.k, .int .i64 o.wd, .int .i64 o.sl, .int .i64 o.cp, .int .u32 o.sa, .slice Xo o.ini.length co, .int .i64 o.ow, .slice Yo o.rd.length do_] 34))
      have HQ4 := Lib.hid (HQ3.out.same ((Same.refl w3).alloc (.cells #[.int .i64 o.k, .int .i64 o.wd, .int .i64 o.sl, .int .i64 o.cp, .int .u32 o.sa, .slice Xo o.ini.length co, .int .i64 o.ow, .slice Yo o.rd.length do_] 34)))
      go_upto_region 3 with fail
      generalize w3.alloc (.cells #[.int .i64 o.k, .int .i64 o.wd, .int .i64 o.sl, .int .i64 o.cp, .int .u32 o.sa, .slice Xo o.ini.length co, .int .i64 o.ow, .slice Yo o.rd.length do_] 34) = w4 at *
      clear HQ3 HS3
      have HLE2 := HLE.out
      have z6 := HQ4.out.cell 6
      simp only [List.getElem?_toArray, List.getElem?_cons_zero, List.getElem?_cons_succ] at z6
      obtain ⟨CN, hCN⟩ : ∃ CN : Im.Ins → Value, CN = fun i => Value.int .i64 (cntI kk x y (fpI i)) := ⟨_, rfl⟩
      have HCN := Lib.hid (fun i => (show Value.int .i64 (cntI kk x y (fpI i)) = CN i by rw [hCN]))
      obtain ⟨b4, hb4⟩ : ∃ b4, b4 = w4.heap.size := ⟨_, rfl⟩
      have HB4 := Lib.hid hb4
      clear hb4
      have HLN := Lib.hid (show (p.code.map CN) = ((pI p).map (cntI kk x y)).map (Value.int .i64) by rw [hCN]; unfold pI; rw [List.map_map, List.map_map]; rfl)
      clear hCN
      go_wp2_with fail
      go_loopg [13, 45] p.code.length (fun gk lv iv wx => ∃ (j : Nat) (A' : Option Addr) (c' : Nat), j + gk = p.code.length ∧ iv = .int .i64 j ∧ lv = .slice A' j c' ∧ Ws.Own wx b4 3 A' c' ((p.code.map CN).take j) ∧ Same w4 wx)
      case atStart => exact ⟨0, none, 0, by omega, rfl, rfl, own_nil _ _ _, Same.refl _⟩
      case round =>
        obtain ⟨j, A', c', hk, rfl, rfl, ho, sx⟩ := hrel
        have HO := Lib.hid ho
        have HSX := Lib.hid sx
        have HSW := Lib.hid (HS4.out.trans sx)
        clear ho sx
        cases gk with
        | zero =>
          obtain rfl : j = p.code.length := by omega
          have hge : ¬ (p.code.length : Int) < (p.code.length : Int) := by omega
          have z6' := HSX.out.cell z6
          have HR := Lib.hid (show Row wr A' (((pI p).map (cntI kk x y)).map (Value.int .i64)) from by rw [← HLN.out]; have := HO.out.row; rwa [show p.code.length = (p.code.map CN).length from (List.length_map ..).symm, List.take_length] at this)
          have MO := Lib.hid (Cs.most_any X p.code.length cX (pI p) A' p.code.length c' ((pI p).map (cntI kk x y)) wr (by unfold pI; rw [List.length_map]) (by omega) (prgI (HCW.out.same HSW.out)) HR.out (by unfold pI; rw [List.length_map, List.length_map]) (HT.out.same (S0.out.trans HSW.out)))
          clear z6
          have HDD := Lib.hid HD.out.symm
          clear HD
          generalize Cs.weI true (pI p) ((pI p).map (cntI kk x y)) = wv at *
          generalize Cs.weE (pI p) ((pI p).map (cntI kk x y)).length = we at *
          go_wp2_with fail
          refine MO.out.mono ?_
          rintro e w5 ⟨rfl, s5⟩
          go_wp2_with fail
          go_ret
          exact ⟨by rw [← HDD.out]; rfl, S0.out.trans (HSW.out.trans s5)⟩
        | succ GK =>
          have hlt : (j : Int) < p.code.length := by omega
          have hj0 : (0 : Int) ≤ j := by omega
          have HJL := Lib.hid (show j < p.code.length by omega)
          have HJK := Lib.hid hk
          clear hk
          obtain ⟨xj, hxj⟩ : ∃ xj, p.code[j]? = some xj := ⟨p.code[j], List.getElem?_eq_getElem HJL.out⟩
          have HJ := Lib.hid hxj
          clear hxj
          obtain ⟨hxn, bX, oX, rfl, y0, y1, y2, y3, y4⟩ := (HCW.out.same HSW.out).at_ HJ.out
          have CAL := Lib.hid (fun W (h : Same w0 W) => (show Calls Tryz.prog 105 #[.agg #[.int .i64 xj.op, .int .i64 xj.a, .int .i64 xj.b, .int .i64 xj.c, .int .u32 xj.n]] W fun e w' => e = (if rightB xj.op xj.a xj.b xj.c xj.n && callB xj.op then Is.ret3b xj.b (callV xj.op) true else Is.ret3b 0 0 false) ∧ Same W w' from Is.calls_any xj.op xj.a xj.b xj.c xj.n hxn W (HT.out.same (S0.out.trans h))))
          have HW5 := Lib.hid (HSW.out.alloc (.cells #[.int .i64 xj.op, .int .i64 xj.a, .int .i64 xj.b, .int .i64 xj.c, .int .u32 xj.n] 70))
          have HQ5 := Lib.hid (Blk.new wr 70 #[.int .i64 xj.op, .int .i64 xj.a, .int .i64 xj.b, .int .i64 xj.c, .int .u32 xj.n])
          have HO5 := Lib.hid (HO.out.same ((Same.refl wr).alloc (.cells #[.int .i64 xj.op, .int .i64 xj.a, .int .i64 xj.b, .int .i64 xj.c, .int .u32 xj.n] 70)))
          have HX5 := Lib.hid (HSX.out.alloc (.cells #[.int .i64 xj.op, .int .i64 xj.a, .int .i64 xj.b, .int .i64 xj.c, .int .u32 xj.n] 70))
          go_upto_region 10 with fail
          generalize wr.alloc (.cells #[.int .i64 xj.op, .int .i64 xj.a, .int .i64 xj.b, .int .i64 xj.c, .int .u32 xj.n] 70) = w5 at *
          generalize wr.heap.size = q5 at *
          obtain ⟨v0, v1, v2, v3, v4⟩ := (⟨HQ5.out.cell 0, HQ5.out.cell 1, HQ5.out.cell 2, HQ5.out.cell 3, HQ5.out.cell 4⟩ : _ ∧ _ ∧ _ ∧ _ ∧ _)
          simp only [List.getElem?_toArray, List.getElem?_cons_zero, List.getElem?_cons_succ] at v0 v1 v2 v3 v4
          have CAL5 := Lib.hid (CAL.out w5 HW5.out)
          clear CAL y0 y1 y2 y3 y4 z6 HSX HSW
          generalize hR : (rightB xj.op xj.a xj.b xj.c xj.n && callB xj.op) = R at *
          have HRR := Lib.hid hR
          clear hR
          go_wp2_with fail
          refine CAL5.out.mono ?_
          rintro e w7 ⟨he, s7⟩
          have HO7 := Lib.hid (HO5.out.same s7)
          have HS7 := Lib.hid (HX5.out.trans s7)
          have HSG := Lib.hid (HW5.out.trans s7)
          have u0 := s7.cell v0
          clear s7 v0 v1 v2 v3 v4 CAL5 HX5 HW5 HO5
          cases R with
          | false =>
            rw [if_neg Bool.false_ne_true] at he
            unfold Is.ret3b at he
            subst he
            have HV := Lib.hid (show cntI kk x y (fpI xj) = 0 from by unfold cntI fpI; simp only; rw [HRR.out]; simp)
            go_wp2_with (at_builtin; go_loud (refine wpList_app rfl (.tmp 67) (.tmp 69) 32 rfl b4 3 i0 _ 8 Tryz.underlying32 hi hz0 hz1 hz2 rfl A' j c' ((p.code.map CN).take j) rfl ?c1 (HO7.out.same ((Same.refl _).alloc _)) _ 1 1 [.int .i64 0] rfl rfl (row_new _ _ _) ?c2 ?c3 (by omega) ?c4 ?_))
            case c1 => rw [List.length_take, List.length_map]; have := HJL.out; omega
            case c2 => intro u hu; simp at hu; subst hu; rfl
            case c3 => rw [List.length_take, List.length_map]; simp; omega
            case c4 => have := HB4.out; have := HS7.out.size; simp; omega
            intro A2 c2' w8 ho2 hc2 _
            have HS8 := Lib.hid (Same.more (HS7.out.alloc _) hc2 (fun g hg => by have := own_low HO.out hg; have := HB4.out; omega))
            rw [show (p.code.map CN).take j ++ [.int .i64 0] = (p.code.map CN).take (j + 1) from by rw [take_snoc (p.code.map CN) (v := CN xj) (by rw [List.getElem?_map, HJ.out]; rfl), ← HCN.out, HV.out]] at ho2
            have HO8 := Lib.hid ho2
            clear ho2 hc2
            go_wp2_with fail
            go_roundg GK
            case rel => exact ⟨j + 1, A2, c2', by have := HJK.out; omega, by go_num, rfl, HO8.out, HS8.out⟩
            case measure => omega
          | true =>
            rw [if_pos rfl] at he
            unfold Is.ret3b at he
            subst he
            by_cases hbk : xj.b = (kk : Int)
            · have ebk : (xj.b == (kk : Int)) = true := by simpa using hbk
              have HBK := Lib.hid hbk
              clear hbk
              have HAS := Lib.hid (has_two g x y xj.op w7 ((S0.out.trans HSG.out).cell HG0.out) ((S0.out.trans HSG.out).cell HG1.out))
              go_wp2_with fail
              refine HAS.out.mono ?_
              rintro e w7 ⟨rfl, rfl⟩
              by_cases hxy : xj.op = x ∨ xj.op = y
              · rw [decide_eq_true hxy]
                have HXY := Lib.hid hxy
                clear hxy
                have HV := Lib.hid (show cntI kk x y (fpI xj) = 1 from by unfold cntI fpI; simp only; rw [HRR.out, if_pos ⟨rfl, HBK.out, HXY.out⟩])
                go_wp2_with (at_builtin; go_loud (refine wpList_app rfl (.tmp 67) (.tmp 69) 32 rfl b4 3 i0 _ 8 Tryz.underlying32 hi hz0 hz1 hz2 rfl A' j c' ((p.code.map CN).take j) rfl ?c1 (HO7.out.same ((Same.refl _).alloc _)) _ 1 1 [.int .i64 1] rfl rfl (row_new _ _ _) ?c2 ?c3 (by omega) ?c4 ?_))
                case c1 => rw [List.length_take, List.length_map]; have := HJL.out; omega
                case c2 => intro u hu; simp at hu; subst hu; rfl
                case c3 => rw [List.length_take, List.length_map]; simp; omega
                case c4 => have := HB4.out; have := HS7.out.size; simp; omega
                intro A2 c2' w8 ho2 hc2 _
                have HS8 := Lib.hid (Same.more (HS7.out.alloc _) hc2 (fun g hg => by have := own_low HO.out hg; have := HB4.out; omega))
                rw [show (p.code.map CN).take j ++ [.int .i64 1] = (p.code.map CN).take (j + 1) from by rw [take_snoc (p.code.map CN) (v := CN xj) (by rw [List.getElem?_map, HJ.out]; rfl), ← HCN.out, HV.out]] at ho2
                have HO8 := Lib.hid ho2
                clear ho2 hc2
                go_wp2_with fail
                go_roundg GK
                case rel => exact ⟨j + 1, A2, c2', by have := HJK.out; omega, by go_num, rfl, HO8.out, HS8.out⟩
                case measure => omega
              · rw [decide_eq_false hxy]
                have HXY := Lib.hid hxy
                clear hxy
                have HV := Lib.hid (show cntI kk x y (fpI xj) = 0 from by unfold cntI fpI; simp only; rw [if_neg (fun h => HXY.out h.2.2)])
                go_wp2_with (at_builtin; go_loud (refine wpList_app rfl (.tmp 67) (.tmp 69) 32 rfl b4 3 i0 _ 8 Tryz.underlying32 hi hz0 hz1 hz2 rfl A' j c' ((p.code.map CN).take j) rfl ?c1 (HO7.out.same ((Same.refl _).alloc _)) _ 1 1 [.int .i64 0] rfl rfl (row_new _ _ _) ?c2 ?c3 (by omega) ?c4 ?_))
                case c1 => rw [List.length_take, List.length_map]; have := HJL.out; omega
                case c2 => intro u hu; simp at hu; subst hu; rfl
                case c3 => rw [List.length_take, List.length_map]; simp; omega
                case c4 => have := HB4.out; have := HS7.out.size; simp; omega
                intro A2 c2' w8 ho2 hc2 _
                have HS8 := Lib.hid (Same.more (HS7.out.alloc _) hc2 (fun g hg => by have := own_low HO.out hg; have := HB4.out; omega))
                rw [show (p.code.map CN).take j ++ [.int .i64 0] = (p.code.map CN).take (j + 1) from by rw [take_snoc (p.code.map CN) (v := CN xj) (by rw [List.getElem?_map, HJ.out]; rfl), ← HCN.out, HV.out]] at ho2
                have HO8 := Lib.hid ho2
                clear ho2 hc2
                go_wp2_with fail
                go_roundg GK
                case rel => exact ⟨j + 1, A2, c2', by have := HJK.out; omega, by go_num, rfl, HO8.out, HS8.out⟩
                case measure => omega
            · have ebk : (xj.b == (kk : Int)) = false := by simpa using hbk
              have HBK := Lib.hid hbk
              clear hbk
              have HV := Lib.hid (show cntI kk x y (fpI xj) = 0 from by unfold cntI fpI; simp only; rw [if_neg (fun h => HBK.out h.2.1)])
              go_wp2_with (at_builtin; go_loud (refine wpList_app rfl (.tmp 67) (.tmp 69) 32 rfl b4 3 i0 _ 8 Tryz.underlying32 hi hz0 hz1 hz2 rfl A' j c' ((p.code.map CN).take j) rfl ?c1 (HO7.out.same ((Same.refl _).alloc _)) _ 1 1 [.int .i64 0] rfl rfl (row_new _ _ _) ?c2 ?c3 (by omega) ?c4 ?_))
              case c1 => rw [List.length_take, List.length_map]; have := HJL.out; omega
              case c2 => intro u hu; simp at hu; subst hu; rfl
              case c3 => rw [List.length_take, List.length_map]; simp; omega
              case c4 => have := HB4.out; have := HS7.out.size; simp; omega
              intro A2 c2' w8 ho2 hc2 _
              have HS8 := Lib.hid (Same.more (HS7.out.alloc _) hc2 (fun g hg => by have := own_low HO.out hg; have := HB4.out; omega))
              rw [show (p.code.map CN).take j ++ [.int .i64 0] = (p.code.map CN).take (j + 1) from by rw [take_snoc (p.code.map CN) (v := CN xj) (by rw [List.getElem?_map, HJ.out]; rfl), ← HCN.out, HV.out]] at ho2
              have HO8 := Lib.hid ho2
              clear ho2 hc2
              go_wp2_with fail
              go_roundg GK
              case rel => exact ⟨j + 1, A2, c2', by have := HJK.out; omega, by go_num, rfl, HO8.out, HS8.out⟩
              case measure => omega
    · have HD := Lib.hid (show demI s (ki : Int) k x y = 0 from dem_out (.inr hout))
      clear hout
      have HS4 := Lib.hid (HS3.out.alloc (.cells #[.int .i64 0, .int .i64 0, .int .i64 0, .int .i64 0, .int .u32 0, .slice none 0 0, .int .i64 0, .slice none 0 0] 34))
      have HQ4 := Lib.hid (HQ3.out.same ((Same.refl w3).alloc (.cells #[.int .i64 0, .int .i64 0, .int .i64 0, .int .i64 0, .int .u32 0, .slice none 0 0, .int .i64 0, .slice none 0 0] 34)))
      go_upto_region 3 with fail
      generalize w3.alloc (.cells #[.int .i64 0, .int .i64 0, .int .i64 0, .int .i64 0, .int .u32 0, .slice none 0 0, .int .i64 0, .slice none 0 0] 34) = w4 at *
      clear HQ3 HS3
      go_wp2_with fail
      go_ret
      exact ⟨by rw [HD.out]; rfl, S0.out.trans HS4.out⟩
  · have HD := Lib.hid (show demI s i k x y = 0 from dem_out (.inl hout))
    clear hout
    have HS2 := Lib.hid (S1.out.alloc (.cells #[.int .i64 0, .int .i64 0, .int .i64 0, .int .i64 0, .int .i64 0, .int .i64 0, .slice none 0 0] 47))
    have HQ2 := Lib.hid (Blk.new w1 47 #[.int .i64 0, .int .i64 0, .int .i64 0, .int .i64 0, .int .i64 0, .int .i64 0, .slice none 0 0])
    have HB2 := Lib.hid (B1.out.same ((Same.refl w1).alloc (.cells #[.int .i64 0, .int .i64 0, .int .i64 0, .int .i64 0, .int .i64 0, .int .i64 0, .slice none 0 0] 47)))
    go_upto_region 2 with fail
    generalize w1.alloc (.cells #[.int .i64 0, .int .i64 0, .int .i64 0, .int .i64 0, .int .i64 0, .int .i64 0, .slice none 0 0] 47) = w2 at *
    generalize w1.heap.size = q1 at *
    have c1 := HB2.out.cell 1
    simp only [List.getElem?_toArray, List.getElem?_cons_zero, List.getElem?_cons_succ] at c1
    have RO2 := Lib.hid (RO.out w2 (S0.out.trans HS2.out))
    clear RO
    go_wp2_with fail
    refine RO2.out.mono ?_
    rintro e w3 ⟨s3, ho⟩
    have HS3 := Lib.hid (HS2.out.trans s3)
    have HQ3 := Lib.hid (HQ2.out.same s3)
    clear s3 RO2 HB2 c1 HS2 HQ2 S1 B1
    rcases ho with ⟨kk, o, Xo, co, Yo, do_, rfl, hok, _, rfl⟩ | ⟨hout, rfl⟩
    · clear hok
      have HS4 := Lib.hid (HS3.out.alloc (.cells #[.int .i64 o.k, .int .i64 o.wd, .int .i64 o.sl, .int .i64 o.cp, .int .u32 o.sa, .slice Xo o.ini.length co, .int .i64 o.ow, .slice Yo o.rd.length do_] 34))
      have HQ4 := Lib.hid (HQ3.out.same ((Same.refl w3).alloc (.cells #[.int .i64 o.k, .int .i64 o.wd, .int .i64 o.sl, .int .i64 o.cp, .int .u32 o.sa, .slice Xo o.ini.length co, .int .i64 o.ow, .slice Yo o.rd.length do_] 34)))
      go_upto_region 3 with fail
      generalize w3.alloc (.cells #[.int .i64 o.k, .int .i64 o.wd, .int .i64 o.sl, .int .i64 o.cp, .int .u32 o.sa, .slice Xo o.ini.length co, .int .i64 o.ow, .slice Yo o.rd.length do_] 34) = w4 at *
      clear HQ3 HS3
      go_wp2_with fail
      go_ret
      exact ⟨by rw [HD.out]; rfl, S0.out.trans HS4.out⟩
    · clear hout
      have HS4 := Lib.hid (HS3.out.alloc (.cells #[.int .i64 0, .int .i64 0, .int .i64 0, .int .i64 0, .int .u32 0, .slice none 0 0, .int .i64 0, .slice none 0 0] 34))
      have HQ4 := Lib.hid (HQ3.out.same ((Same.refl w3).alloc (.cells #[.int .i64 0, .int .i64 0, .int .i64 0, .int .i64 0, .int .u32 0, .slice none 0 0, .int .i64 0, .slice none 0 0] 34)))
      go_upto_region 3 with fail
      generalize w3.alloc (.cells #[.int .i64 0, .int .i64 0, .int .i64 0, .int .i64 0, .int .u32 0, .slice none 0 0, .int .i64 0, .slice none 0 0] 34) = w4 at *
      clear HQ3 HS3
      go_wp2_with fail
      go_ret
      exact ⟨by rw [HD.out]; rfl, S0.out.trans HS4.out⟩
end Go.Proofs.YthhbhbfkbncegaaGreatDoor.Dm
end
