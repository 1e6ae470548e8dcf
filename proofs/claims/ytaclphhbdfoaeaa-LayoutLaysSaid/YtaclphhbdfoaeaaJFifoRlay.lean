/-

  The document's words of an object of the kind fifo at the beginning.
-/
import Derived.Test.YtaclphhbdfoaeaaJFifoWords
set_option linter.unusedSimpArgs false
set_option linter.unusedVariables false
namespace Go.Proofs.Ytaclphhbdfoaeaa.Ff
open Go.ChangeShapes Go.WideShapes Go.ChangeAt Go.RowKit Ws Mm Pa
open Go.Proofs.Ytaclphhbdfoaeaa.Ob

theorem lay_no (k wd sl cp sa ow : Int) (ia ra : Option Addr) (il ic rl rc : Nat) (w : World) (hr : k ≠ 6 ∨ rightB wd sl cp sa il rl = false) (hsa : 0 ≤ sa ∧ sa < 4294967296 := by assumption) :
    Calls Try.prog 57 #[.agg #[.int .i64 k, .int .i64 wd, .int .i64 sl, .int .i64 cp, .int .u32 sa, .slice ia il ic, .int .i64 ow, .slice ra rl rc]] w fun e w' => e = .returned (.slice none 0 0) ∧ Same w w' := by
  have HR : ∀ w', Calls Try.prog 55 #[.agg #[.int .i64 k, .int .i64 wd, .int .i64 sl, .int .i64 cp, .int .u32 sa, .slice ia il ic, .int .i64 ow, .slice ra rl rc]] w' fun e w'' => e = .returned (.bool false) ∧ Same w' w'' := by
    intro w'
    by_cases hk : k = 6
    · subst hk
      have := right_any wd sl cp sa ow ia ra il ic rl rc w'
      rcases hr with hr | hr
      · exact absurd rfl hr
      · rw [hr] at this
        exact this
    · exact right_not k wd sl cp sa ow ia ra il ic rl rc hk w'
  clear hr
  go_enter Try.func57, Try.ntmps57
  go_wp2_with fail
  refine (HR _).mono ?_
  rintro e w1 ⟨rfl, s1⟩
  go_wp2_with fail
  go_ret
  exact ⟨rfl, Same.trans ((Same.refl _).alloc _) s1⟩

theorem own_cell {w : World} {B g c : Nat} {e : TypeId} {l : List Int} (h : Own w B e (some ⟨g, 0, none⟩) c (l.map (Value.int .u32))) (j : Nat) (hj : j < l.length) :
    w.cell? ⟨g, j, none⟩ = some (.int .u32 (Op.gd l j)) ∧ w.frozen? ⟨g, j, none⟩ = false := by
  obtain ⟨g', hg', _, _, hf⟩ := h.thaw (by simp; omega)
  injection hg' with hg'
  injection hg' with hg'
  subst hg'
  obtain ⟨b, o, hA, hc⟩ := h.row j (.int .u32 l[j]) (by simp [hj])
  injection hA with hA
  injection hA with e1 e2
  subst e1
  subst e2
  rw [Nat.zero_add] at hc
  refine ⟨?_, hf j⟩
  rw [hc]
  unfold Op.gd
  rw [List.getD_eq_getElem?_getD, List.getElem?_eq_getElem hj]
  rfl
set_option maxHeartbeats 1000000 in
set_option maxRecDepth 100000 in
theorem rlay_yes (W sl : Nat) (cp sa ow : Int) (ia ra : Option Addr) (il ic rl rc : Nat) (init : List Int) (w : World) (hr : rightB W sl cp sa il rl = true) (hi : Row w ia (init.map (Value.int .u32))) (hl : init.length = il) (hsa : 0 ≤ sa ∧ sa < 4294967296 := by assumption) :
    Calls Try.prog 26 #[.agg #[.int .i64 6, .int .i64 W, .int .i64 sl, .int .i64 cp, .int .u32 sa, .slice ia il ic, .int .i64 ow, .slice ra rl rc]] w fun e w' => ∃ g, e = .returned (.slice (some ⟨g, 0, none⟩) (2 + sl * W) (2 + sl * W)) ∧ Same w w' ∧ Own w' w.heap.size 44 (some ⟨g, 0, none⟩) (2 + sl * W) ((lay0 W sl sa init).map (Value.int .u32)) := by
  have hq := HQ hr
  obtain ⟨n, hn⟩ : ∃ n, n = 2 + sl * W := ⟨_, rfl⟩
  have hn128 : sl * W ≤ 16 * 8 := Nat.mul_le_mul (by omega) (by omega)
  have hnp : 0 < sl * W := Nat.mul_pos (by omega) (by omega)
  have hmk := make_any n (by omega)
  have HZ := fun w' => rsize_yes W sl cp sa ow ia ra il ic rl rc w' hr
  rw [show (2 : Int) + (sl : Int) * (W : Int) = (n : Int) by rw [← Int.natCast_mul]; omega] at HZ
  have hb := Blk.new w 47 #[.int .i64 6, .int .i64 W, .int .i64 sl, .int .i64 cp, .int .u32 sa, .slice ia il ic, .int .i64 ow, .slice ra rl rc]
  have s0 := (Same.refl w).alloc (.cells #[.int .i64 6, .int .i64 W, .int .i64 sl, .int .i64 cp, .int .u32 sa, .slice ia il ic, .int .i64 ow, .slice ra rl rc] 47)
  have HB := Lib.hid hb
  have HR := fun w' => rright_any W sl cp sa ow ia ra il ic rl rc w'
  rw [hr] at HR
  have HN := Lib.hid hn
  have HN1 := Lib.hid (And.intro hn128 hnp)
  have hil : (il : Int) = 0 := hq.2.2.2.2.1
  have HIL := Lib.hid hil
  rw [← hn]
  clear hb hq hr hn hn128 hnp hl hi hil
  go_enter Try.func26, Try.ntmps26
  go_wp2_with fail
  refine (HZ _).mono ?_
  rintro e w1 ⟨rfl, s1⟩
  have S1 := Lib.hid (s0.trans s1)
  have HB1 := Lib.hid (HB.out.same s1)
  clear s0 s1 HB HZ
  have hqs := HB1.out.lt
  have hqw := Nat.le_refl w.heap.size
  generalize hqe : w.heap.size = q at *
  have S2 := Lib.hid (S1.out.alloc (.cells (zeros n) 44))
  have HB2 := Lib.hid (HB1.out.same ((Same.refl w1).alloc (.cells (zeros n) 44)))
  have BN := Lib.hid (Blk.new w1 44 (zeros n))
  obtain ⟨d0, d1, d2, d3, d4, d5, d6, d7⟩ := obj_cells HB2.out
  clear S1 HB1
  go_wp2_with fail
  generalize w1.alloc (.cells (zeros n) 44) = w2 at *
  generalize w1.heap.size = g at *
  refine (HR _).mono ?_
  rintro e w3 ⟨rfl, s3⟩
  have S3 := Lib.hid (S2.out.trans s3)
  have HB3 := Lib.hid (HB2.out.same s3)
  have BN3 := Lib.hid (BN.out.same s3)
  obtain ⟨d0, d1, d2, d3, d4, d5, d6, d7⟩ := obj_cells HB3.out
  clear S2 HB2 BN HR
  have f2 : 2 < n := by have := HN.out; have := HN1.out; omega
  have g1 : (1 : Int) < n := by omega
  have g0 : (0 : Int) < n := by omega
  have g1' : 1 < n := by omega
  have g0' : 0 < n := by omega
  have z0 := zero_cell BN3.out 0 (by omega)
  have t0 := BN3.out.thaw 0
  have C4 : Chg (fun i => i = g) w3 (w3.setCell ⟨g, 0, none⟩ (.int .u32 sa)) := (Chg.refl (fun i => i = g) w3).set (p := ⟨g, 0, none⟩) (.inl rfl) _
  have C5 := C4.set (p := ⟨g, 1, none⟩) (.inl rfl) (.int .u32 sa)
  have HB4 := Lib.hid (HB3.out.chg C4 (by show ¬ q = g; omega))
  have HB5 := Lib.hid (HB3.out.chg C5 (by show ¬ q = g; omega))
  have e4 := obj_cells HB4.out
  have e5 := obj_cells HB5.out
  have BN4 := Lib.hid (BN3.out.put 0 (.int .u32 sa))
  have BN5 := Lib.hid (BN4.out.put 1 (.int .u32 sa))
  have HC5 := Lib.hid C5
  have z1 : (w3.setCell ⟨g, 0, none⟩ (.int .u32 sa)).cell? ⟨g, 1, none⟩ = some (.int .u32 0) := by
    rw [BN4.out.cell 1, ← Array.getElem?_toList, Array.toList_setIfInBounds, zeros_list, List.getElem?_set_ne (by omega), List.getElem?_map, List.getElem?_replicate, if_pos g1']
    rfl
  have t1 := BN4.out.thaw 1
  obtain ⟨p0, p1, p2, p3, p4, p5, p6, p7⟩ := e4
  obtain ⟨o0, o1, o2, o3, o4, o5, o6, o7⟩ := e5
  clear C4 C5
  go_wp2_with fail
  clear d0 d1 d2 d3 d4 d5 d6 d7 p0 p1 p2 p3 p4 p5 p6 p7 z0 z1 t0 t1
  generalize (w3.setCell ⟨g, 0, none⟩ (.int .u32 sa)).setCell ⟨g, 1, none⟩ (.int .u32 sa) = w5 at *
  go_loopg [37] 0 (fun gk i wx => gk = 0 ∧ i = .int .i64 0 ∧ w5 = wx)
  case atStart => exact ⟨rfl, rfl, rfl⟩
  case round =>
    obtain ⟨hk, rfl, rfl⟩ := hrel
    have hge : ¬ (0 : Int) < il := by have := HIL.out; omega
    go_wp2_with fail
    go_ret
    have hp := BN5.out
    rw [two_list] at hp
    refine ⟨g, rfl, S3.out.more HC5.out (fun i hi => by omega), own_blk (l := (lay0 W sl sa init).map (Value.int .u32)) (by unfold lay0; rw [← HN.out]; exact hp) ?_ (by unfold maxLen; have := HN1.out; have := HN.out; omega) (by omega)⟩
    have := lay_len W sl sa init
    rw [List.length_map, this]
    exact HN.out.symm

end Go.Proofs.Ytaclphhbdfoaeaa.Ff
