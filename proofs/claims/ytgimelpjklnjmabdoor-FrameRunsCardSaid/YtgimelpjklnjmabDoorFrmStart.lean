/-

  Layer 13: where a job begins (frame.Start).
-/
import Derived.Test.YtgimelpjklnjmabDoorFrmRunF
set_option linter.unusedVariables false
set_option linter.unusedSimpArgs false
namespace Go.Proofs.YtgimelpjklnjmabDoor.Fr
open Go.ChangeShapes Go.WideShapes Go.ChangeAt Go.RowKit Ws
open Go.Proofs.YtgimelpjklnjmabDoor.Fp (Ins at_ Fine at_some)
open Go.Proofs.YtgimelpjklnjmabDoor.Fw (Prg okB ckE check_any okB_fine rightI)
open Go.Proofs.YtgimelpjklnjmabDoor.Is (Tabs)

def startF (n : Nat) : FS := ⟨0, List.replicate 8 0, List.replicate n 0⟩
def izeros (n : Nat) : Array Value := madeCells (Value.int .i64 0).cells (n * 1)
theorem izeros_list (n : Nat) : (izeros n).toList = (List.replicate n (0 : Int)).map (Value.int .i64) := by
  unfold izeros madeCells
  apply List.ext_getElem
  · simp
  · intro i h1 h2
    simp [Value.cells]
    show [Value.int IntKind.i64 0][i % 1]?.getD default = _
    rw [Nat.mod_one]
    rfl
theorem izeros_size (n : Nat) : (izeros n).size = n := by unfold izeros; rw [size_madeCells, Nat.mul_one]
theorem imake_any (n : Nat) (hn : n ≤ 5000) (W : World) : (Instr.makeSlice 24 (.int .i64 (n : Int)) (.int .i64 (n : Int))).run Tryd.prog W = .ok (.slice (some ⟨W.heap.size, 0, none⟩) n n) (W.alloc (.cells (izeros n) 3)) := by
  obtain ⟨i0, hi, hz0, hz1, hz2⟩ := info_parts int_info
  have h := run_make (P := Tryd.prog) W 24 3 i0 _ Tryd.underlying24 hi hz0 .i64 .i64 n n (by omega) (by omega) (by rw [hz2]; omega) (by omega)
  rw [hz1, Int.toNat_natCast] at h
  exact h
theorem iown_zeros (n : Nat) (hn : n ≤ 5000) (w : World) : Own (w.alloc (.cells (izeros n) 3)) w.heap.size 3 (some ⟨w.heap.size, 0, none⟩) n ((List.replicate n (0 : Int)).map (Value.int .i64)) := by
  have h := World.ownsRow_lit (base := w.heap.size) (e := 3) (size := 1) w (izeros n) n (Nat.le_refl _) (by unfold maxLen; omega) (by rw [izeros_size, Nat.mul_one])
  rw [izeros_list] at h
  unfold Own
  simpa using h
set_option maxRecDepth 100000 in
theorem fstart_any (A : Option Addr) (n c : Nat) (w : World) (hn : n ≤ 5000) :
    Calls Tryd.prog 26 #[.slice A n c] w fun e w' => ∃ T, e = .returned (.agg #[.int .i64 (startF n).pc, .int .u32 (rk (startF n) 0), .int .u32 (rk (startF n) 1), .int .u32 (rk (startF n) 2), .int .u32 (rk (startF n) 3), .int .u32 (rk (startF n) 4), .int .u32 (rk (startF n) 5), .int .u32 (rk (startF n) 6), .int .u32 (rk (startF n) 7), .slice T n n]) ∧ Own w' w.heap.size 3 T n ((startF n).tn.map (Value.int .i64)) ∧ Same w w' := by
  have hmk := imake_any n hn
  obtain ⟨w1, hw1⟩ : ∃ w1, w1 = w.alloc (.cells #[.int .i64 0, .int .u32 0, .int .u32 0, .int .u32 0, .int .u32 0, .int .u32 0, .int .u32 0, .int .u32 0, .int .u32 0, .slice (some ⟨w.heap.size + 1, 0, none⟩) n n] 26) := ⟨_, rfl⟩
  have ho := iown_zeros n hn w1
  have hz : w1.heap.size = w.heap.size + 1 := by rw [hw1]; simp
  have hb : Blk (w1.alloc (.cells (izeros n) 3)) w.heap.size 26 #[.int .i64 0, .int .u32 0, .int .u32 0, .int .u32 0, .int .u32 0, .int .u32 0, .int .u32 0, .int .u32 0, .int .u32 0, .slice (some ⟨w.heap.size + 1, 0, none⟩) n n] := by
    rw [hw1]
    exact (Blk.new w _ _).same ((Same.refl _).alloc _)
  have hs : Same w (w1.alloc (.cells (izeros n) 3)) := hw1 ▸ ((Same.refl w).alloc _).alloc _
  rw [hz] at ho
  have HO := Lib.hid ho
  have HB := Lib.hid hb
  have HS := Lib.hid hs
  have E1 := Lib.hid hw1
  clear ho hz hb hs hw1
  go_enter Tryd.func26, Tryd.ntmps26
  go_wp2_with fail
  rw [← E1.out]
  exact bodyPost_ret (v := .agg #[.int .i64 0, .int .u32 0, .int .u32 0, .int .u32 0, .int .u32 0, .int .u32 0, .int .u32 0, .int .u32 0, .int .u32 0, .slice (some ⟨w.heap.size + 1, 0, none⟩) n n]) (results_cell_row Tryd.results26 _ _ w.heap.size 26 #[.int .i64 0, .int .u32 0, .int .u32 0, .int .u32 0, .int .u32 0, .int .u32 0, .int .u32 0, .int .u32 0, .int .u32 0, .slice (some ⟨w.heap.size + 1, 0, none⟩) n n] (0, 0) _ rfl HB.out Tryd.underlying26 rfl frm_size) rfl ⟨some ⟨w.heap.size + 1, 0, none⟩, rfl, HO.out.base (Nat.le_succ _), HS.out⟩
end Go.Proofs.YtgimelpjklnjmabDoor.Fr
