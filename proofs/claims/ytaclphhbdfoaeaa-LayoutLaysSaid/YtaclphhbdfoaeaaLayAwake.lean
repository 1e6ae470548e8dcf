/-

  Chapter 31's example.
-/
import Derived.Test.YtaclphhbdfoaeaaLayOf2
set_option linter.unusedVariables false
set_option linter.unusedSimpArgs false
namespace Go.Proofs.Ytaclphhbdfoaeaa.Ly
open Go.ChangeShapes Go.WideShapes Go.ChangeAt Go.RowKit Ws

def t31 : List Tk.Task := [⟨0, 0, 0, 0, 0, 3, none, 0, 0⟩]
def o31 (a b : Option Addr) : List Objt := [⟨3, 2, 0, 1, 0, a, 2, 2, 0, b, 1, 1⟩]
theorem lens31 (a b : Option Addr) : lensF t31 (o31 a b) = some [3, 3] := by rfl
theorem sum31 : sumL [3, 3] = 6 := by rfl
theorem take31 : (cutL [3, 3]).take 1 = [(0, 3)] := by rfl
theorem drop31 : (cutL [3, 3]).drop 1 = [(3, 3)] := by rfl
theorem tasks31 {w : World} {g : Nat} (h : Blk w g 51 #[.int .i64 0, .int .i64 0, .int .i64 0, .int .i64 0, .int .i64 0, .int .i64 3, .slice none 0 0]) : Tk.Tasks w (some ⟨g, 0, none⟩) t31 := by
  intro i t ht
  match i, ht with
  | 0, ht =>
    have : t = ⟨0, 0, 0, 0, 0, 3, none, 0, 0⟩ := by simpa [t31] using ht.symm
    subst this
    refine ⟨⟨by unfold Tk.In; simp, by unfold Tk.In; simp, by unfold Tk.In; simp, by unfold Tk.In; simp, by unfold Tk.In; simp, by unfold Tk.In; simp⟩, g, 0, rfl, fun j v hv => ?_⟩
    rw [Nat.zero_mul, Nat.add_zero, Nat.zero_add, h.cell j, ← hv]
    simp [Tk.cells]
  | i + 1, ht => simp [t31] at ht
theorem objs31 {w : World} {g : Nat} {a b : Option Addr} (h : Blk w g 47 #[.int .i64 3, .int .i64 2, .int .i64 0, .int .i64 1, .int .u32 0, .slice a 2 2, .int .i64 0, .slice b 1 1]) : Objs w (some ⟨g, 0, none⟩) (o31 a b) := by
  intro i t ht
  match i, ht with
  | 0, ht =>
    have : t = ⟨3, 2, 0, 1, 0, a, 2, 2, 0, b, 1, 1⟩ := by simpa [o31] using ht.symm
    subst this
    refine ⟨⟨by simp, by simp⟩, g, 0, rfl, fun j v hv => ?_⟩
    rw [Nat.zero_mul, Nat.add_zero, Nat.zero_add, h.cell j, ← hv]
    simp [ocells]
  | i + 1, ht => simp [o31] at ht
theorem of31 (A B a b : Option Addr) (w : World) (ht : Tk.Tasks w A t31) (ho : Objs w B (o31 a b)) :
    Calls Try.prog 6 #[.agg #[.slice A 1 1, .slice B 1 1]] w fun e w' => ∃ A' c B' d, e = .returned (.tuple #[.agg #[.slice A' 1 c, .slice B' 1 d, .int .i64 6], .int .i64 0]) ∧ Regs w' A' [(0, 3)] ∧ Regs w' B' [(3, 3)] ∧ Same w w' := by
  have h := of_any A B 1 1 1 1 t31 (o31 a b) w rfl rfl (by omega) (by omega) ht ho (by
    intro L hL
    rw [lens31] at hL
    injection hL with hL
    subst hL
    refine ⟨rfl, fun x hx => ?_⟩
    simp at hx
    subst hx
    omega)
  rw [lens31] at h
  unfold OfP at h
  dsimp only at h
  refine h.mono fun e w' he => ?_
  rw [if_pos (by rw [sum31]; omega), sum31, take31, drop31] at he
  exact he
set_option maxRecDepth 100000 in
theorem awake31 (w : World) : Calls Try.prog 5 #[] w fun e w' => e = .returned (.bool true) ∧ Same w w' := by
  obtain ⟨g, hg⟩ : ∃ g, g = w.heap.size := ⟨_, rfl⟩
  obtain ⟨w1, h1⟩ : ∃ w1, w1 = w.alloc (.cells #[.int .i64 0, .int .i64 0, .int .i64 0, .int .i64 0, .int .i64 0, .int .i64 3, .slice none 0 0] 51) := ⟨_, rfl⟩
  have s1 : Same w w1 := by rw [h1]; exact (Same.refl _).alloc _
  have b1 := Blk.new w 51 #[.int .i64 0, .int .i64 0, .int .i64 0, .int .i64 0, .int .i64 0, .int .i64 3, .slice none 0 0]
  have z1 : w1.heap.size = g + 1 := by rw [h1, World.size_alloc, hg]
  rw [← h1, ← hg] at b1
  obtain ⟨w2, h2⟩ : ∃ w2, w2 = w1.alloc (.cells #[.int .u32 1, .int .u32 2] 44) := ⟨_, rfl⟩
  have s2 : Same w1 w2 := by rw [h2]; exact (Same.refl _).alloc _
  have z2 : w2.heap.size = g + 1 + 1 := by rw [h2, World.size_alloc, z1]
  obtain ⟨w3, h3⟩ : ∃ w3, w3 = w2.alloc (.cells #[.int .i64 0] 3) := ⟨_, rfl⟩
  have s3 : Same w2 w3 := by rw [h3]; exact (Same.refl _).alloc _
  have z3 : w3.heap.size = g + 1 + 1 + 1 := by rw [h3, World.size_alloc, z2]
  obtain ⟨w4, h4⟩ : ∃ w4, w4 = w3.alloc (.cells #[.int .i64 3, .int .i64 2, .int .i64 0, .int .i64 1, .int .u32 0, .slice (some ⟨g + 1, 0, none⟩) 2 2, .int .i64 0, .slice (some ⟨g + 1 + 1, 0, none⟩) 1 1] 47) := ⟨_, rfl⟩
  have s4 : Same w3 w4 := by rw [h4]; exact (Same.refl _).alloc _
  have b4 := Blk.new w3 47 #[.int .i64 3, .int .i64 2, .int .i64 0, .int .i64 1, .int .u32 0, .slice (some ⟨g + 1, 0, none⟩) 2 2, .int .i64 0, .slice (some ⟨g + 1 + 1, 0, none⟩) 1 1]
  rw [← h4, z3] at b4
  obtain ⟨w5, h5⟩ : ∃ w5, w5 = w4.alloc (.cells #[.slice (some ⟨g, 0, none⟩) 1 1, .slice (some ⟨g + 1 + 1 + 1, 0, none⟩) 1 1] 25) := ⟨_, rfl⟩
  have s5 : Same w4 w5 := by rw [h5]; exact (Same.refl _).alloc _
  have HS5 := Lib.hid ((((s1.trans s2).trans s3).trans s4).trans s5)
  have OF := Lib.hid (of31 (some ⟨g, 0, none⟩) (some ⟨g + 1 + 1 + 1, 0, none⟩) (some ⟨g + 1, 0, none⟩) (some ⟨g + 1 + 1, 0, none⟩) w5 (tasks31 ((((b1.same s2).same s3).same s4).same s5)) (objs31 (b4.same s5)))
  clear s1 s2 s3 s4 s5 z1 z2 z3 b1 b4
  have HH : Hid (w5 = ((((w.alloc (.cells #[.int .i64 0, .int .i64 0, .int .i64 0, .int .i64 0, .int .i64 0, .int .i64 3, .slice none 0 0] 51)).alloc (.cells #[.int .u32 1, .int .u32 2] 44)).alloc (.cells #[.int .i64 0] 3)).alloc (.cells #[.int .i64 3, .int .i64 2, .int .i64 0, .int .i64 1, .int .u32 0, .slice (some ⟨g + 1, 0, none⟩) 2 2, .int .i64 0, .slice (some ⟨g + 1 + 1, 0, none⟩) 1 1] 47)).alloc (.cells #[.slice (some ⟨g, 0, none⟩) 1 1, .slice (some ⟨g + 1 + 1 + 1, 0, none⟩) 1 1] 25)) := Lib.hid (by rw [h5, h4, h3, h2, h1])
  have HG := Lib.hid hg
  clear h1 h2 h3 h4 h5 hg
  go_enter Try.func5, Try.ntmps5
  go_wp2_with fail
  rw [← HG.out, ← HH.out]
  refine OF.out.mono ?_
  rintro e w6 ⟨A, c, B, d, rfl, r1, r2, s6⟩
  obtain ⟨b, o, hB, c0, c1⟩ := r2 0 _ rfl
  subst hB
  have HS6 := Lib.hid (HS5.out.trans s6)
  clear r1 r2 s6 OF HS5 HH
  dsimp only at c0 c1
  rw [Nat.zero_mul, Nat.add_zero] at c0 c1
  have hs7 := (Same.refl w6).alloc (.cells #[.slice A 1 c, .slice (some ⟨b, o, none⟩) 1 d, .int .i64 6] 30)
  have b7 := Blk.new w6 30 #[.slice A 1 c, .slice (some ⟨b, o, none⟩) 1 d, .int .i64 6]
  obtain ⟨d0, d1, d2⟩ := layout_cells b7
  replace c0 := hs7.cell c0
  replace c1 := hs7.cell c1
  have HS7 := Lib.hid (HS6.out.trans hs7)
  clear hs7 b7 HS6
  go_wp2_with fail
  go_ret
  exact ⟨rfl, HS7.out⟩

end Go.Proofs.Ytaclphhbdfoaeaa.Ly
