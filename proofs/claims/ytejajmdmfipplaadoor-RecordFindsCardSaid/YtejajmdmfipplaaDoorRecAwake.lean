/-

  The chapter's examples on layer 4, as the statements call them: they hold.
-/
import Derived.Test.YtejajmdmfipplaaDoorRecFind
import Derived.Test.YtejajmdmfipplaaDoorRecText
set_option linter.unusedSimpArgs false
set_option linter.unusedVariables false
namespace Go.Proofs.YtejajmdmfipplaaDoor.Rc
open Go.ChangeShapes Go.WideShapes Go.ChangeAt Go.RowKit Ws

theorem row_lit (w : World) (cs : List Int) : Row (w.alloc (.cells (w32 cs).toArray 62)) (some ⟨w.heap.size, 0, none⟩) (w32 cs) := by
  intro j u hj
  refine ⟨_, _, rfl, ?_⟩
  rw [Nat.zero_add]
  exact (Same.refl _).new (by simpa using hj)

def dgSmall (x : Int) : List UInt8 := if x = 5 then [53] else [49, 54]

set_option maxRecDepth 100000 in
set_option maxHeartbeats 1000000 in
theorem rawake (w : World) : Calls Tryd.prog 24 #[] w fun e w' => e = .returned (.bool true) ∧ Same w w' := by
  go_enter Tryd.func24, Tryd.ntmps24
  go_wp2_with fail
  refine (stamp_any 2 2 w).mono ?_
  rintro e w1 ⟨rfl, o1, s1⟩
  rw [show wide 2 = 2 from rfl] at o1
  rw [show wide 2 = 2 from rfl]
  go_wp2_with fail
  refine (stamp_any 2 5 w1).mono ?_
  rintro e w2 ⟨rfl, o2, s2⟩
  rw [show wide 2 = 2 from rfl] at o2
  rw [show wide 2 = 2 from rfl]
  have r1 : Row w2 (some ⟨w.heap.size, 0, none⟩) (w32 [2, 7]) := o1.row.same s2
  have r2 : Row w2 (some ⟨w1.heap.size, 0, none⟩) (w32 [5, 16]) := o2.row
  have t2 := s1.trans s2
  clear o1 o2 s1 s2
  generalize w.heap.size = g1 at *
  generalize w1.heap.size = g2 at *
  have hw3 : ∃ w3, w3 = w2.alloc (.cells #[.slice (some ⟨g1, 0, none⟩) 2 2, .slice (some ⟨g2, 0, none⟩) 2 2] 37) := ⟨_, rfl⟩
  obtain ⟨w3, hw3⟩ := hw3
  have a3 : Same w2 w3 := by rw [hw3]; exact (Same.refl _).alloc _
  have x0 : w3.cell? ⟨w2.heap.size, 0, none⟩ = some (.slice (some ⟨g1, 0, none⟩) 2 2) := by rw [hw3]; exact (Same.refl _).new rfl
  have x1 : w3.cell? ⟨w2.heap.size, 1, none⟩ = some (.slice (some ⟨g2, 0, none⟩) 2 2) := by rw [hw3]; exact (Same.refl _).new rfl
  have hsz : w3.heap.size = w2.heap.size + 1 := by rw [hw3]; simp
  have t3 := t2.trans a3
  have rec3 : Recs w3 (some ⟨w2.heap.size, 0, none⟩) [[2, 7], [5, 16]] := by
    intro j r hj
    match j, hj with
    | 0, hj =>
      simp at hj
      subst hj
      exact ⟨_, _, _, _, rfl, x0, r1.same a3⟩
    | 1, hj =>
      simp at hj
      subst hj
      exact ⟨_, _, _, _, rfl, x1, r2.same a3⟩
  clear r1
  have r2' := r2.same a3
  clear r2 a3 t2
  have HS3 := Lib.hid hsz
  have HW3 := Lib.hid hw3
  clear hsz hw3
  go_wp2_with fail
  rw [← HW3.out, ← HS3.out]
  refine (unstamp_any _ 3 3 [2, 7, 12] _ rfl (by omega) (row_lit w3 [2, 7, 12]) (fun x hx => by simp at hx; omega)).mono ?_
  rintro e w4 ⟨rfl, s4⟩
  rw [show isStamp [2, 7, 12] = true by decide]
  have t4 := (t3.alloc (.cells (w32 [2, 7, 12]).toArray 62)).trans s4
  have s34 := Same.trans ((Same.refl w3).alloc (.cells (w32 [2, 7, 12]).toArray 62)) s4
  have y0 := s34.cell x0
  have y1 := s34.cell x1
  have r4 := r2'.same s34
  have rec4 := rec3.same s34
  clear x0 x1 rec3 r2' s34 s4 t3
  generalize w2.heap.size = gl at *
  clear HS3 HW3
  go_wp2_with fail
  refine (words_any _ _ 2 2 _ _ [2, 7] [2, 7] _ rfl rfl ?r1 (row_lit w4 [2, 7]) (by omega) (by omega)).mono ?_
  case r1 =>
    obtain ⟨b, o, C, c, hA, hc, hr⟩ := rec4 0 [2, 7] rfl
    injection hA with hA
    injection hA with hA1 hA2
    subst hA1
    subst hA2
    rw [Nat.zero_add, y0] at hc
    injection hc with hc
    injection hc with hc1 hc2 hc3
    subst hc1
    exact hr.same ((Same.refl _).alloc _)
  rintro e w5 ⟨rfl, q5, rfl⟩
  rw [show decide (([2, 7] : List Int) = [2, 7]) = true from rfl]
  have s45 : Same w4 ((w4.alloc (.cells (w32 [2, 7]).toArray 62)).drewN q5) := ((Same.refl w4).alloc _).drewN _
  have t5 := t4.trans s45
  have z1 := s45.cell y1
  have r5 := r4.same s45
  have rec5 := rec4.same s45
  clear y0 y1 r4 rec4 s45 t4
  generalize (w4.alloc (.cells (w32 [2, 7]).toArray 62)).drewN q5 = w5 at *
  go_wp2_with fail
  refine (mixed_any _ _ 2 2 2 2 [[2, 7], [5, 16]] [2, 16] _ rfl rfl (by omega) (by omega) (fun x hx => by simp at hx; rcases hx with rfl | rfl <;> simp) (rec5.same ((Same.refl _).alloc _)) (row_lit w5 [2, 16])).mono ?_
  rintro e w6 ⟨rfl, q6, rfl⟩
  rw [show mixB [[2, 7], [5, 16]] [2, 16] = true from by decide]
  have s56 : Same w5 ((w5.alloc (.cells (w32 [2, 16]).toArray 62)).drewN q6) := ((Same.refl w5).alloc _).drewN _
  have t6 := t5.trans s56
  have z2 := s56.cell z1
  have r6 := r5.same s56
  clear z1 r5 rec5 s56 t5
  generalize (w5.alloc (.cells (w32 [2, 16]).toArray 62)).drewN q6 = w6 at *
  go_wp2_with fail
  refine (show_any dgSmall _ 2 2 [5, 16] _ rfl (by omega) r6 ?d).mono ?_
  case d =>
    intro x hx
    simp at hx
    rcases hx with rfl | rfl
    · exact ⟨by decide, fun w => digits_5 w⟩
    · exact ⟨by decide, fun w => digits_16 w⟩
  rintro e w7 ⟨rfl, s7⟩
  rw [show (txt dgSmall [5, 16]).toArray = #[53, 32, 49, 54] from by decide]
  go_wp2
  go_ret
  exact ⟨rfl, t6.trans s7⟩

end Go.Proofs.YtejajmdmfipplaaDoor.Rc
