/-

  An object of the kind fifo by value: its words at the beginning.
-/
import Derived.Test.YtaclphhbdfoaeaaJFifoLay
import Derived.Deep.CutRange
set_option linter.unusedSimpArgs false
set_option linter.unusedVariables false
namespace Go.Proofs.Ytaclphhbdfoaeaa.Ff
open Go.ChangeShapes Go.WideShapes Go.ChangeAt Go.RowKit Ws Mm Pa
open Go.Proofs.Ytaclphhbdfoaeaa.Ob

theorem add_plain (b o j : Nat) : (⟨b, o, none⟩ : Addr).add j = ⟨b, o + j, none⟩ := by
  cases j with
  | zero => rfl
  | succ j => rfl
theorem own_blk {w : World} {g B c : Nat} {e : TypeId} {l : List Value} (h : w.heap[g]? = some (.cells l.toArray e (0, 0))) (hc : l.length = c) (hm : c ≤ maxLen) (hB : B ≤ g) : Own w B e (some ⟨g, 0, none⟩) c l := by
  refine ⟨by omega, .inr ⟨g, c, l.toArray, rfl, hB, h, by omega, hm, by simpa using hc, ?_⟩⟩
  simp
/-- the words at the beginning -/
def lay0 (W sl : Nat) (sa : Int) (init : List Int) : List Int := ((List.replicate (2 + sl * W) 0).set 0 sa).set 1 sa
theorem lay_len (W sl : Nat) (sa : Int) (init : List Int) : (lay0 W sl sa init).length = 2 + sl * W := by
  unfold lay0
  rw [List.length_set, List.length_set, List.length_replicate]
theorem two_list (n : Nat) (sa : Int) : (((zeros n).setIfInBounds 0 (.int .u32 sa)).setIfInBounds 1 (.int .u32 sa)) = ((((List.replicate n (0 : Int)).set 0 sa).set 1 sa).map (Value.int .u32)).toArray := by
  apply Array.ext'
  rw [Array.toList_setIfInBounds, Array.toList_setIfInBounds, zeros_list]
  show ((List.map (Value.int .u32) (List.replicate n 0)).set 0 (Value.int .u32 sa)).set 1 (Value.int .u32 sa) = List.map (Value.int .u32) (((List.replicate n 0).set 0 sa).set 1 sa)
  rw [List.map_set, List.map_set]
theorem objZ {w w' : World} {q : Nat} {T : TypeId} {W sl : Nat} {cp sa ow : Int} {ia ra : Option Addr} {il ic rl rc : Nat} {S : Nat → Prop} (h : Blk w q T #[.int .i64 6, .int .i64 W, .int .i64 sl, .int .i64 cp, .int .u32 sa, .slice ia il ic, .int .i64 ow, .slice ra rl rc]) (s : Chg S w w') (hn : ¬ S q) : w'.cell? ⟨q, 0, none⟩ = some (.int .i64 6) ∧ w'.cell? ⟨q, 1, none⟩ = some (.int .i64 W) ∧ w'.cell? ⟨q, 2, none⟩ = some (.int .i64 sl) ∧ w'.cell? ⟨q, 3, none⟩ = some (.int .i64 cp) ∧ w'.cell? ⟨q, 4, none⟩ = some (.int .u32 sa) ∧ w'.cell? ⟨q, 5, none⟩ = some (.slice ia il ic) ∧ w'.cell? ⟨q, 6, none⟩ = some (.int .i64 ow) ∧ w'.cell? ⟨q, 7, none⟩ = some (.slice ra rl rc) ∧ Chg S w w' := by
  obtain ⟨a, b, c, d, e, f, g, i⟩ := obj_cells (h.chg s hn)
  exact ⟨a, b, c, d, e, f, g, i, s⟩
theorem zero_cell {w : World} {g n : Nat} {T : TypeId} (h : Blk w g T (zeros n)) (j : Nat) (hj : j < n) : w.cell? ⟨g, j, none⟩ = some (.int .u32 0) := by
  rw [h.cell j, ← Array.getElem?_toList, zeros_list, List.getElem?_map, List.getElem?_replicate, if_pos hj]
  rfl

set_option maxHeartbeats 400000 in
set_option maxRecDepth 100000 in
theorem lay_yes (W sl : Nat) (cp sa ow : Int) (ia ra : Option Addr) (il ic rl rc : Nat) (init : List Int) (w : World) (hr : rightB W sl cp sa il rl = true) (hi : Row w ia (init.map (Value.int .u32))) (hl : init.length = il) (hsa : 0 ≤ sa ∧ sa < 4294967296 := by assumption) :
    Calls Try.prog 57 #[.agg #[.int .i64 6, .int .i64 W, .int .i64 sl, .int .i64 cp, .int .u32 sa, .slice ia il ic, .int .i64 ow, .slice ra rl rc]] w fun e w' => ∃ g, e = .returned (.slice (some ⟨g, 0, none⟩) (2 + sl * W) (2 + sl * W)) ∧ Same w w' ∧ Own w' w.heap.size 44 (some ⟨g, 0, none⟩) (2 + sl * W) ((lay0 W sl sa init).map (Value.int .u32)) := by
  have hq := HQ hr
  obtain ⟨n, hn⟩ : ∃ n, n = 2 + sl * W := ⟨_, rfl⟩
  have hn128 : sl * W ≤ 16 * 8 := Nat.mul_le_mul (by omega) (by omega)
  have hnp : 0 < sl * W := Nat.mul_pos (by omega) (by omega)
  have hmk := make_any n (by omega)
  have HZ := fun w' => size_yes W sl cp sa ow ia ra il ic rl rc w' hr
  rw [show (2 : Int) + (sl : Int) * (W : Int) = (n : Int) by rw [← Int.natCast_mul]; omega] at HZ
  have hb := Blk.new w 47 #[.int .i64 6, .int .i64 W, .int .i64 sl, .int .i64 cp, .int .u32 sa, .slice ia il ic, .int .i64 ow, .slice ra rl rc]
  have s0 := (Same.refl w).alloc (.cells #[.int .i64 6, .int .i64 W, .int .i64 sl, .int .i64 cp, .int .u32 sa, .slice ia il ic, .int .i64 ow, .slice ra rl rc] 47)
  have HB := Lib.hid hb
  have HR := fun w' => right_any W sl cp sa ow ia ra il ic rl rc w'
  rw [hr] at HR
  have HN := Lib.hid hn
  have HN1 := Lib.hid (And.intro hn128 hnp)
  rw [← hn]
  clear hb hq hr hn hn128 hnp hl hi
  go_enter Try.func57, Try.ntmps57
  go_wp2_with fail
  refine (HR _).mono ?_
  rintro e w1 ⟨rfl, s1⟩
  have hb1 := HB.out.same s1
  have S1 := Lib.hid (s0.trans s1)
  have HB1 := Lib.hid hb1
  clear hb1 s0 s1 HB HR
  generalize w.heap.size = q at *
  have hb1 := HB1.out
  obtain ⟨d0, d1, d2, d3, d4, d5, d6, d7⟩ := obj_cells hb1
  clear hb1
  go_wp2_with fail
  refine (HZ _).mono ?_
  rintro e w2 ⟨rfl, s2⟩
  have S2 := Lib.hid (S1.out.trans s2)
  have HB2 := Lib.hid (HB1.out.same s2)
  clear d0 d1 d2 d3 d4 d5 d6 d7 HB1 S1 s2 HZ
  have S3 := Lib.hid (S2.out.alloc (.cells (zeros n) 44))
  have HB3 := Lib.hid (HB2.out.same ((Same.refl w2).alloc (.cells (zeros n) 44)))
  have BN := Lib.hid (Blk.new w2 44 (zeros n))
  obtain ⟨d0, d1, d2, d3, d4, d5, d6, d7⟩ := obj_cells HB3.out
  have f2 : 2 < n := by have := HN.out; have := HN1.out; omega
  go_upto_region 4 with fail
  have hq2 := HB2.out.lt
  have hsz : w.heap.size ≤ w2.heap.size := S2.out.size
  generalize w2.alloc (.cells (zeros n) 44) = w3 at *
  generalize w2.heap.size = q2 at *
  have g1 : (1 : Int) < n := by omega
  have g0 : (0 : Int) < n := by omega
  have g1' : 1 < n := by omega
  have g0' : 0 < n := by omega
  have z0 := zero_cell BN.out 0 (by omega)
  have z1 := zero_cell BN.out 1 (by omega)
  have t0 := BN.out.thaw 0
  have t1 := BN.out.thaw 1
  have hqq : ¬ q = q2 := by omega
  go_region_held3 (fun w' => w'.cell? ⟨q, 0, none⟩ = some (.int .i64 6) ∧ w'.cell? ⟨q, 1, none⟩ = some (.int .i64 W) ∧ w'.cell? ⟨q, 2, none⟩ = some (.int .i64 sl) ∧ w'.cell? ⟨q, 3, none⟩ = some (.int .i64 cp) ∧ w'.cell? ⟨q, 4, none⟩ = some (.int .u32 sa) ∧ w'.cell? ⟨q, 5, none⟩ = some (.slice ia il ic) ∧ w'.cell? ⟨q, 6, none⟩ = some (.int .i64 ow) ∧ w'.cell? ⟨q, 7, none⟩ = some (.slice ra rl rc) ∧ Chg (fun b => b = q2) w3 w')
    (first | (with_reducible assumption) | (exact objZ HB3.out (Chg.refl (fun b => b = q2) w3).drew hqq) | (rcases ‹_ ∧ _ ∧ _ ∧ _ ∧ _ ∧ _ ∧ _ ∧ _ ∧ Chg (fun b => b = q2) w3 _› with ⟨_, _, _, _, _, _, _, _, x9⟩; exact objZ HB3.out (x9.set (p := ⟨q2, _, none⟩) (.inl rfl) _) hqq))
    (fail)
  have C4 : Chg (fun i => i = q2) w3 ((w3.setCell ⟨q2, 0, none⟩ (.int .u32 sa)).setCell ⟨q2, 1, none⟩ (.int .u32 sa)) := ((Chg.refl (fun i => i = q2) w3).set (p := ⟨q2, 0, none⟩) (.inl rfl) _).set (p := ⟨q2, 1, none⟩) (.inl rfl) _
  have hp := (BN.out.put 0 (.int .u32 sa)).put 1 (.int .u32 sa)
  rw [two_list] at hp
  have HP := Lib.hid (hp.same (Same.refl _).drew)
  have S5 := Lib.hid ((S3.out.more C4 (fun i hi => by omega)).drew)
  clear hp C4 z0 z1 t0 t1 d0 d1 d2 d3 d4 d5 d6 d7
  go_wp2
  go_ret
  refine ⟨q2, rfl, S5.out, own_blk (l := (lay0 W sl sa init).map (Value.int .u32)) (by unfold lay0; rw [← HN.out]; exact HP.out) ?_ (by unfold maxLen; have := HN1.out; have := HN.out; omega) hsz⟩
  have := lay_len W sl sa init
  rw [List.length_map, this]
  exact HN.out.symm

end Go.Proofs.Ytaclphhbdfoaeaa.Ff
