/-
  Contracts of package isa, and of the document's own answers on layer 8: bytes as instructions.
-/
import Derived.Test.YtgpipfmgjbecjacDoorIsaCode
import Derived.Test.YtgpipfmgjbecjacDoorWordsK
import Derived.StillTailTactics
set_option linter.unusedVariables false
namespace Go.Proofs.YtgpipfmgjbecjacDoor.Is
open Go.ChangeShapes Go.WideShapes Go.ChangeAt Go.RowKit Ws Cd

/-- what eight bytes are, from the head of a list on -/
def ofB (l : List Int) : Ins := ⟨l.getD 0 0, l.getD 1 0, l.getD 2 0, l.getD 3 0, num ((l.drop 4).take 4)⟩
theorem ofB_eq (b0 b1 b2 b3 b4 b5 b6 b7 : Int) (r : List Int) : ofB (b0 :: b1 :: b2 :: b3 :: b4 :: b5 :: b6 :: b7 :: r) = ⟨b0, b1, b2, b3, b4 + 256 * b5 + 65536 * b6 + 16777216 * b7⟩ := by
  unfold ofB
  simp [num]
  omega

theorem eight {l : List Int} (h : 8 ≤ l.length) : ∃ b0 b1 b2 b3 b4 b5 b6 b7 r, l = b0 :: b1 :: b2 :: b3 :: b4 :: b5 :: b6 :: b7 :: r := by
  match l, h with
  | b0 :: b1 :: b2 :: b3 :: b4 :: b5 :: b6 :: b7 :: r, _ => exact ⟨_, _, _, _, _, _, _, _, _, rfl⟩

theorem u32w (x : Int) (h : 0 ≤ x ∧ x < 4294967296) : IntKind.u32.wrap x = x := by simp [IntKind.wrap, IntKind.bits, IntKind.signed]; omega
theorem i64w (x : Int) (h : -9223372036854775808 ≤ x ∧ x < 9223372036854775808) : IntKind.i64.wrap x = x := IntWalk.i64_in _ (by omega)

def OfPost (w : World) (l : List Int) (e : Ending) (w' : World) : Prop := e = .returned (ofB l).val ∧ Same w w'

set_option maxRecDepth 100000 in
set_option maxHeartbeats 1000000 in
theorem rof_any (A : Option Addr) (m c : Nat) (l : List Int) (w : World) (hl : l.length = m) (hm : 8 ≤ m) (hb : By l) (hr : Row w A (by8 l)) :
    Calls Tryd.prog 49 #[.slice A m c] w (OfPost w l) := by
  obtain ⟨b0, b1, b2, b3, b4, b5, b6, b7, r, rfl⟩ := eight (l := l) (by omega)
  rw [show OfPost w (b0 :: b1 :: b2 :: b3 :: b4 :: b5 :: b6 :: b7 :: r) = fun e w' => e = .returned (.agg #[.int .i64 b0, .int .i64 b1, .int .i64 b2, .int .i64 b3, .int .u32 (b4 + 256 * b5 + 65536 * b6 + 16777216 * b7)]) ∧ Same w w' by funext e w'; unfold OfPost; rw [ofB_eq]; rfl]
  obtain ⟨g, o, rfl⟩ := hr.addr (by simp [by8])
  have h0 := hb b0 (by simp)
  have h1 := hb b1 (by simp)
  have h2 := hb b2 (by simp)
  have h3 := hb b3 (by simp)
  have h4 := hb b4 (by simp)
  have h5 := hb b5 (by simp)
  have h6 := hb b6 (by simp)
  have h7 := hb b7 (by simp)
  have n0 : 0 < m := by omega
  have n1 : 1 < m := by omega
  have n2 : 2 < m := by omega
  have n3 : 3 < m := by omega
  have n4 : 4 < m := by omega
  have n5 : 5 < m := by omega
  have n6 : 6 < m := by omega
  have n7 : 7 < m := by omega
  have i0 : (0 : Int) < (m : Int) := by omega
  have i1 : (1 : Int) < (m : Int) := by omega
  have i2 : (2 : Int) < (m : Int) := by omega
  have i3 : (3 : Int) < (m : Int) := by omega
  have i4 : (4 : Int) < (m : Int) := by omega
  have i5 : (5 : Int) < (m : Int) := by omega
  have i6 : (6 : Int) < (m : Int) := by omega
  have i7 : (7 : Int) < (m : Int) := by omega
  have e0 := i64w b0 (by omega)
  have e1 := i64w b1 (by omega)
  have e2 := i64w b2 (by omega)
  have e3 := i64w b3 (by omega)
  have e4 := u32w b4 (by omega)
  have e5 := u32w b5 (by omega)
  have e6 := u32w b6 (by omega)
  have e7 := u32w b7 (by omega)
  have f5 := u32w (256 * b5) (by omega)
  have f6 := u32w (65536 * b6) (by omega)
  have f7 := u32w (16777216 * b7) (by omega)
  have g5 := u32w (b4 + 256 * b5) (by omega)
  have g6 := u32w (b4 + 256 * b5 + 65536 * b6) (by omega)
  have g7 := u32w (b4 + 256 * b5 + 65536 * b6 + 16777216 * b7) (by omega)
  clear hl hm hb
  go_enter Tryd.func49, Tryd.ntmps49
  go_wp2_with fail
  obtain ⟨w1, hw1⟩ : ∃ w1, w1 = w.alloc (.cells #[.int .i64 0, .int .i64 0, .int .i64 0, .int .i64 0, .int .u32 0] 24) := ⟨_, rfl⟩
  rw [← hw1]
  have s1 : Same w w1 := by rw [hw1]; exact (Same.refl _).alloc _
  have hb1 : Blk w1 w.heap.size 24 #[.int .i64 0, .int .i64 0, .int .i64 0, .int .i64 0, .int .u32 0] := by rw [hw1]; exact Blk.new _ _ _
  have r1 := hr.same s1
  have c0 : w1.cell? ⟨g, o, none⟩ = some (.int .u8 b0) := r1.get (j := 0) rfl
  have c1 := r1.get (j := 1) rfl
  have c2 := r1.get (j := 2) rfl
  have c3 := r1.get (j := 3) rfl
  have c4 := r1.get (j := 4) rfl
  have c5 := r1.get (j := 5) rfl
  have c6 := r1.get (j := 6) rfl
  have c7 := r1.get (j := 7) rfl
  have S1 := Lib.hid s1
  have B1 := Lib.hid hb1
  clear hw1 s1 hb1 r1 hr
  obtain ⟨q, hq⟩ : ∃ q, q = w.heap.size := ⟨_, rfl⟩
  rw [← hq] at B1 ⊢
  have HQ := Lib.hid hq
  clear hq
  go_still_tail 39, (by kernel_rfl)
  change wpList _ _ _ _ _ w1.drew
  have hb2 : Blk w1.drew q 24 #[.int .i64 0, .int .i64 0, .int .i64 0, .int .i64 0, .int .u32 0] := B1.out
  have S2 := Lib.hid (Same.drew S1.out)
  clear S1 B1 c0 c1 c2 c3 c4 c5 c6 c7 e0 e1 e2 e3 e4 e5 e6 e7 f5 f6 f7 g5 g6 g7
  generalize w1.drew = w2 at *
  have HB := Lib.hid hb2
  have z0 : w2.cell? ⟨q, 0, none⟩ = some (.int .i64 0) := hb2.cell 0
  have z1 : w2.cell? ⟨q, 1, none⟩ = some (.int .i64 0) := hb2.cell 1
  have z2 : w2.cell? ⟨q, 2, none⟩ = some (.int .i64 0) := hb2.cell 2
  have z3 : w2.cell? ⟨q, 3, none⟩ = some (.int .i64 0) := hb2.cell 3
  have z4 : w2.cell? ⟨q, 4, none⟩ = some (.int .u32 0) := hb2.cell 4
  have t0 := hb2.thaw 0
  have t1 := hb2.thaw 1
  have t2 := hb2.thaw 2
  have t3 := hb2.thaw 3
  have t4 := hb2.thaw 4
  clear hb2
  go_wp2
  have hb3 := ((((HB.out.put 0 (.int .i64 b0)).put 1 (.int .i64 b1)).put 2 (.int .i64 b2)).put 3 (.int .i64 b3)).put 4 (.int .u32 (b4 + 256 * b5 + 65536 * b6 + 16777216 * b7))
  have s3 : Same w (((((w2.setCell ⟨q, 0, none⟩ (.int .i64 b0)).setCell ⟨q, 1, none⟩ (.int .i64 b1)).setCell ⟨q, 2, none⟩ (.int .i64 b2)).setCell ⟨q, 3, none⟩ (.int .i64 b3)).setCell ⟨q, 4, none⟩ (.int .u32 (b4 + 256 * b5 + 65536 * b6 + 16777216 * b7))) := by
    have hq := HQ.out
    refine Chg.set (Chg.set (Chg.set (Chg.set (Chg.set S2.out ?_ _) ?_ _) ?_ _) ?_ _) ?_ _
    all_goals exact .inr (Nat.le_of_eq hq.symm)
  clear z0 z1 z2 z3 z4 t0 t1 t2 t3 t4
  generalize (((((w2.setCell ⟨q, 0, none⟩ (.int .i64 b0)).setCell ⟨q, 1, none⟩ (.int .i64 b1)).setCell ⟨q, 2, none⟩ (.int .i64 b2)).setCell ⟨q, 3, none⟩ (.int .i64 b3)).setCell ⟨q, 4, none⟩ (.int .u32 (b4 + 256 * b5 + 65536 * b6 + 16777216 * b7))) = w3 at *
  have z0 : w3.cell? ⟨q, 0, none⟩ = some (.int .i64 b0) := hb3.cell 0
  have z1 : w3.cell? ⟨q, 1, none⟩ = some (.int .i64 b1) := hb3.cell 1
  have z2 : w3.cell? ⟨q, 2, none⟩ = some (.int .i64 b2) := hb3.cell 2
  have z3 : w3.cell? ⟨q, 3, none⟩ = some (.int .i64 b3) := hb3.cell 3
  have z4 : w3.cell? ⟨q, 4, none⟩ = some (.int .u32 (b4 + 256 * b5 + 65536 * b6 + 16777216 * b7)) := hb3.cell 4
  exact bodyPost_ret (v := .agg #[.int .i64 b0, .int .i64 b1, .int .i64 b2, .int .i64 b3, .int .u32 (b4 + 256 * b5 + 65536 * b6 + 16777216 * b7)]) (by simp [results, Tryd.results49, go_sem, z0, z1, z2, z3, z4]) rfl ⟨rfl, s3⟩

end Go.Proofs.YtgpipfmgjbecjacDoor.Is
