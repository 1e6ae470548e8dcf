/-

 Package demand (layer 36): Writes and Reads of any system's task and object.
-/
import Derived.Test.YthhbhbfkbncegabGreatDoorDmdCalls
set_option linter.unusedVariables false
set_option linter.unusedSimpArgs false
namespace Go.Proofs.YthhbhbfkbncegabGreatDoor.Dm
open Go.ChangeShapes Go.WideShapes Go.ChangeAt Go.RowKit Ws
open Im (PT PO PS TsAt OsAt SysAt tcells ocells)
open Go.Proofs.YthhbhbfkbncegabGreatDoor.Is (callB callV rightB)

set_option maxRecDepth 100000 in
theorem writes_any (A B : Option Addr) (n c m d : Nat) (s : PS) (i k : Int) (w : World) (hs : SysAt w A n B m s) (hnm : n ≤ maxLen ∧ m ≤ maxLen) (hf : ∀ p ∈ s.ts, p.code.length ≤ 200) (hT : Is.Tabs w) :
 Calls Tryz.prog 58 #[.agg #[.slice A n c, .slice B m d], .int .i64 i, .int .i64 k] w fun e w' => e = .returned (.int .i64 (demI s i k 18 19)) ∧ Same w w' := by
 have s0 := (Same.refl w).alloc (.cells #[.slice A n c, .slice B m d] 25)
 have b0 := Blk.new w 25 #[.slice A n c, .slice B m d]
 obtain ⟨w0, hw0⟩ : ∃ w0, w0 = w.alloc (.cells #[.slice A n c, .slice B m d] 25) := ⟨_, rfl⟩
 rw [← hw0] at s0 b0
 have HE := Lib.hid hw0
 have c0 := b0.cell 0
 have c1 := b0.cell 1
 simp only [Ws.q_] at c0 c1
 obtain ⟨w1, hw1⟩ : ∃ w1, w1 = w0.alloc (.cells #[.int .i64 18, .int .i64 19] 3) := ⟨_, rfl⟩
 have s1 : Same w0 w1 := hw1 ▸ (Same.refl w0).alloc _
 have b1 : Blk w1 w0.heap.size 3 #[.int .i64 18, .int .i64 19] := hw1 ▸ Blk.new w0 _ _
 have HE1 := Lib.hid hw1
 have CD := Lib.hid (calls_dem A B n c m d s i k 18 19 w0.heap.size w1 (hs.same (s0.trans s1)) hnm hf ((b1.cell 0).trans rfl) ((b1.cell 1).trans rfl) (hT.same (s0.trans s1)))
 have S01 := Lib.hid (s0.trans s1)
 clear hs hf hT hw0 hw1 s0 s1 b0 b1
 go_enter Tryz.func58, Tryz.ntmps58
 go_upto_region 1 with fail
 rw [← HE.out]
 go_wp2_with fail
 rw [← HE1.out]
 refine CD.out.mono ?_
 rintro e w2 ⟨rfl, s2⟩
 go_wp2_with fail
 go_ret
 exact ⟨rfl, S01.out.trans s2⟩

set_option maxRecDepth 100000 in
theorem reads_any (A B : Option Addr) (n c m d : Nat) (s : PS) (i k : Int) (w : World) (hs : SysAt w A n B m s) (hnm : n ≤ maxLen ∧ m ≤ maxLen) (hf : ∀ p ∈ s.ts, p.code.length ≤ 200) (hT : Is.Tabs w) :
 Calls Tryz.prog 55 #[.agg #[.slice A n c, .slice B m d], .int .i64 i, .int .i64 k] w fun e w' => e = .returned (.int .i64 (demI s i k 17 20)) ∧ Same w w' := by
 have s0 := (Same.refl w).alloc (.cells #[.slice A n c, .slice B m d] 25)
 have b0 := Blk.new w 25 #[.slice A n c, .slice B m d]
 obtain ⟨w0, hw0⟩ : ∃ w0, w0 = w.alloc (.cells #[.slice A n c, .slice B m d] 25) := ⟨_, rfl⟩
 rw [← hw0] at s0 b0
 have HE := Lib.hid hw0
 have c0 := b0.cell 0
 have c1 := b0.cell 1
 simp only [Ws.q_] at c0 c1
 obtain ⟨w1, hw1⟩ : ∃ w1, w1 = w0.alloc (.cells #[.int .i64 17, .int .i64 20] 3) := ⟨_, rfl⟩
 have s1 : Same w0 w1 := hw1 ▸ (Same.refl w0).alloc _
 have b1 : Blk w1 w0.heap.size 3 #[.int .i64 17, .int .i64 20] := hw1 ▸ Blk.new w0 _ _
 have HE1 := Lib.hid hw1
 have CD := Lib.hid (calls_dem A B n c m d s i k 17 20 w0.heap.size w1 (hs.same (s0.trans s1)) hnm hf ((b1.cell 0).trans rfl) ((b1.cell 1).trans rfl) (hT.same (s0.trans s1)))
 have S01 := Lib.hid (s0.trans s1)
 clear hs hf hT hw0 hw1 s0 s1 b0 b1
 go_enter Tryz.func55, Tryz.ntmps55
 go_upto_region 1 with fail
 rw [← HE.out]
 go_wp2_with fail
 rw [← HE1.out]
 refine CD.out.mono ?_
 rintro e w2 ⟨rfl, s2⟩
 go_wp2_with fail
 go_ret
 exact ⟨rfl, S01.out.trans s2⟩
end Go.Proofs.YthhbhbfkbncegabGreatDoor.Dm
