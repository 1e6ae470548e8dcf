/-

  An object of the kind cab by value: its words at the beginning.
-/
import Derived.Test.YtaclphhbdfoaeaaJCabLay
import Derived.Deep.CutRange
set_option linter.unusedSimpArgs false
set_option linter.unusedVariables false
namespace Go.Proofs.Ytaclphhbdfoaeaa.Cb
open Go.ChangeShapes Go.WideShapes Go.ChangeAt Go.RowKit Ws Mm Pa
open Go.Proofs.Ytaclphhbdfoaeaa.Ob

theorem add_plain (b o j : Nat) : (⟨b, o, none⟩ : Addr).add j = ⟨b, o + j, none⟩ := by
  cases j with
  | zero => rfl
  | succ j => rfl
theorem own_blk {w : World} {g B c : Nat} {e : TypeId} {l : List Value} (h : w.heap[g]? = some (.cells l.toArray e (0, 0))) (hc : l.length = c) (hm : c ≤ maxLen) (hB : B ≤ g) : Own w B e (some ⟨g, 0, none⟩) c l := by
  refine ⟨by omega, .inr ⟨g, c, l.toArray, rfl, hB, h, by omega, hm, by simpa using hc, ?_⟩⟩
  simp
/-- the words at the beginning -/
def lay0 (W sl rl : Nat) (sa : Int) (init : List Int) : List Int := Op.lay ((List.replicate (1 + rl + sl * W) 0).set 0 sa) (1 + rl) init
theorem lay_len (W sl rl : Nat) (sa : Int) (init : List Int) : (lay0 W sl rl sa init).length = 1 + rl + sl * W := by
  unfold lay0
  rw [Op.lay_length, List.length_set, List.length_replicate]
theorem lay_eq (ws : List Int) : ∀ (l : List Int) (k : Nat), k + ws.length ≤ l.length → Op.lay l k ws = l.take k ++ (ws ++ l.drop (k + ws.length)) := by
  induction ws with
  | nil => intro l k h; simp [Op.lay]
  | cons v ws ih =>
    intro l k h
    rw [List.length_cons] at h
    rw [Op.lay, ih _ _ (by rw [List.length_set]; omega), List.length_cons]
    have e1 : (l.set k v).take (k + 1) = l.take k ++ [v] := by
      rw [List.take_succ_eq_append_getElem (by rw [List.length_set]; omega), List.take_set_of_le (Nat.le_refl _), List.getElem_set_self]
    have e2 : (l.set k v).drop (k + 1 + ws.length) = l.drop (k + (ws.length + 1)) := by
      rw [List.drop_set_of_lt (by omega)]
      congr 1
      omega
    rw [e1, e2]
    simp

set_option maxHeartbeats 400000 in
set_option maxRecDepth 100000 in
theorem place_in (W sl rl : Nat) (h1 : 1 ≤ sl) (h2 : 1 ≤ W) : 1 ≤ (1 + rl) ∧ (1 + rl) + W ≤ 1 + rl + sl * W := by
  have := Nat.mul_le_mul_right W h1
  omega
set_option maxHeartbeats 400000 in
set_option maxRecDepth 100000 in
theorem lay_yes (W sl : Nat) (cp sa ow : Int) (ia ra : Option Addr) (il ic rl rc : Nat) (init : List Int) (w : World) (hr : rightB W sl cp sa il rl = true) (hi : Row w ia (init.map (Value.int .u32))) (hl : init.length = il) (hsa : 0 ≤ sa ∧ sa < 4294967296 := by assumption) :
    Calls Try.prog 53 #[.agg #[.int .i64 5, .int .i64 W, .int .i64 sl, .int .i64 cp, .int .u32 sa, .slice ia il ic, .int .i64 ow, .slice ra rl rc]] w fun e w' => ∃ g, e = .returned (.slice (some ⟨g, 0, none⟩) (1 + rl + sl * W) (1 + rl + sl * W)) ∧ Same w w' ∧ Own w' w.heap.size 44 (some ⟨g, 0, none⟩) (1 + rl + sl * W) ((lay0 W sl rl sa init).map (Value.int .u32)) := by
  have hq := HQ hr
  have hpl := place_in W sl rl (by omega) (by omega)
  obtain ⟨n, hn⟩ : ∃ n, n = 1 + rl + sl * W := ⟨_, rfl⟩
  rw [← hn] at hpl
  have hn128 : sl * W ≤ 16 * 8 := Nat.mul_le_mul (by omega) (by omega)
  have PL := fun w' => records_any rl (by omega) w'
  have hmk := make_any n (by omega)
  have HZ := fun w' => size_yes W sl cp sa ow ia ra il ic rl rc w' hr
  rw [show (1 : Int) + (rl : Int) + (sl : Int) * (W : Int) = (n : Int) by rw [← Int.natCast_mul]; omega] at HZ
  have hb := Blk.new w 47 #[.int .i64 5, .int .i64 W, .int .i64 sl, .int .i64 cp, .int .u32 sa, .slice ia il ic, .int .i64 ow, .slice ra rl rc]
  have s0 := (Same.refl w).alloc (.cells #[.int .i64 5, .int .i64 W, .int .i64 sl, .int .i64 cp, .int .u32 sa, .slice ia il ic, .int .i64 ow, .slice ra rl rc] 47)
  have HB := Lib.hid hb
  have HR := fun w' => right_any W sl cp sa ow ia ra il ic rl rc w'
  rw [hr] at HR
  have HQ2 := Lib.hid hq
  have HN := Lib.hid hn
  obtain ⟨K, hK⟩ : ∃ K : Nat, K = (1 + rl) := ⟨_, rfl⟩
  rw [← hK] at hpl PL
  have HK := Lib.hid hK
  have HPL := Lib.hid hpl
  have HN1 := Lib.hid hn128
  have HL := Lib.hid hl
  rw [← hn]
  clear hb hq hr hn hl hK hpl hn128
  go_enter Try.func53, Try.ntmps53
  go_wp2_with fail
  refine (HR _).mono ?_
  rintro e w1 ⟨rfl, s1⟩
  have hb1 := HB.out.same s1
  have S1 := Lib.hid (s0.trans s1)
  have HB1 := Lib.hid hb1
  obtain ⟨d0, d1, d2, d3, d4, d5, d6, d7⟩ := obj_cells hb1
  clear hb1 s0 s1 HB HR
  generalize w.heap.size = q at *
  clear d0 d1 d2 d3 d4 d5 d6 d7
  have hb1 := HB1.out
  obtain ⟨d0, d1, d2, d3, d4, d5, d6, d7⟩ := obj_cells hb1
  clear hb1
  go_wp2_with fail
  refine (HZ _).mono ?_
  rintro e w2 ⟨rfl, s2⟩
  have S2 := Lib.hid (S1.out.trans s2)
  have HB2 := Lib.hid (HB1.out.same s2)
  clear d0 d1 d2 d3 d4 d5 d6 d7 HB1 S1 s2 HZ
  have S3 := Lib.hid (S2.out.alloc (.cells (zeros n) 44))
  have HB3 := Lib.hid (HB2.out.same ((Same.refl w2).alloc (.cells (zeros n) 44)))
  have BN := Lib.hid (Blk.new w2 44 (zeros n))
  obtain ⟨d0, d1, d2, d3, d4, d5, d6, d7⟩ := obj_cells HB3.out
  have f1 : 1 ≤ n := by have := HPL.out; omega
  have f2 : (1 : Int) ≤ n := by omega
  have f3 : ¬ n = 1 := by have := HPL.out; have := HQ2.out; omega
  have f0 : (0 : Int) < n := by omega
  have f0' : 0 < n := by omega
  go_upto_region 4 with fail
  have hq2 := HB2.out.lt
  have hsz : w.heap.size ≤ w2.heap.size := S2.out.size
  generalize w2.alloc (.cells (zeros n) 44) = w3b at *
  generalize w2.heap.size = q2 at *
  have hs0 : sa = 0 := HQ2.out.2.2.2.2.2
  have ezz : (zeros n).setIfInBounds 0 (.int .u32 sa) = zeros n := by
    apply Array.toList_inj.1
    rw [Array.toList_setIfInBounds, zeros_list, hs0]
    apply List.ext_getElem?
    intro i
    rw [List.getElem?_set]
    split
    · rename_i h
      subst h
      rw [List.length_map, List.length_replicate, if_pos f0', List.getElem?_map, List.getElem?_replicate, if_pos f0']
      rfl
    · rfl
  have S3' := S3
  have HB3' := HB3
  have BN' : Hid (Blk w3b q2 44 ((zeros n).setIfInBounds 0 (.int .u32 sa))) := Lib.hid (by rw [ezz]; exact BN.out)
  clear ezz hs0
  have S4 := Lib.hid S3'.out.drew
  have BN2 : w3b.drew.heap[q2]? = some (.cells ((zeros n).setIfInBounds 0 (.int .u32 sa)).toList.toArray 44 (0, 0)) := BN'.out
  have HBD := Lib.hid (HB3'.out.same (Same.refl w3b).drew)
  have hr4 := Lib.hid (hi.same S4.out)
  have HB4 := Lib.hid BN2
  have hW : W = il := by have := HQ2.out; omega
  have HW := Lib.hid hW
  have D8 := obj_cells HBD.out
  have g0 : (0 : Int) ≤ K := by omega
  have g1 : (K : Int) ≤ n := by have := HPL.out; omega
  have g2 : K ≤ n := by have := HPL.out; omega
  have g5 : ¬ n = K := by have := HPL.out; have := HQ2.out; omega
  have g3 : ¬ n - K = 0 := by have := HPL.out; have := HQ2.out; omega
  have g4 : ¬ (n : Int) - K = 0 := by omega
  have gqq : q < q2 := hq2
  clear d0 d1 d2 d3 d4 d5 d6 d7 S3' HB3' BN' HB2 S2 hi BN2 hW
  have c1 : (init.map (Value.int .u32)).length = Nat.min il (n - K) := by
    have := HL.out
    have := HN.out
    have := HW.out
    have := HPL.out
    rw [List.length_map]
    show _ = min il (n - K)
    omega
  have c2 : 0 < (init.map (Value.int .u32)).length → (some ⟨q2, K, none⟩ : Option Addr) = some ⟨q2, K, none⟩ ∧ ∃ ad, ia = some ad ∧ ∀ j v, (init.map (Value.int .u32))[j]? = some v → w3b.drew.cell? (ad.add j) = some v := by
    intro hp
    have hp' : 0 < (init.map (Value.int .u32)).length := by simpa using hp
    obtain ⟨b, o, hA, _⟩ := hr4.out.at_ hp'
    refine ⟨rfl, _, hA, fun j v hj => ?_⟩
    obtain ⟨b', o', hA', hc⟩ := hr4.out j v hj
    rw [hA] at hA'
    injection hA' with hA'
    injection hA' with e1 e2
    subst e1
    subst e2
    rw [Cb.add_plain]
    exact hc
  have c3 : K + (init.map (Value.int .u32)).length ≤ ((zeros n).setIfInBounds 0 (.int .u32 sa)).toList.length := by
    have h1 := HL.out
    have h2 := HN.out
    have h3 := HW.out
    have h4 := HPL.out
    have e1 : ((zeros n).setIfInBounds 0 (.int .u32 sa)).toList.length = n := by rw [Array.length_toList, Array.size_setIfInBounds, zeros_size]
    rw [e1, List.length_map]
    omega
  have C1 := Lib.hid c1
  have C2 := Lib.hid c2
  have C3 := Lib.hid c3
  clear c1 c2 c3
  go_region_held3 (fun w' => w'.cell? ⟨q, 0, none⟩ = some (.int .i64 5) ∧ w'.cell? ⟨q, 1, none⟩ = some (.int .i64 W) ∧ w'.cell? ⟨q, 2, none⟩ = some (.int .i64 sl) ∧ w'.cell? ⟨q, 3, none⟩ = some (.int .i64 cp) ∧ w'.cell? ⟨q, 4, none⟩ = some (.int .u32 sa) ∧ w'.cell? ⟨q, 5, none⟩ = some (.slice ia il ic) ∧ w'.cell? ⟨q, 6, none⟩ = some (.int .i64 ow) ∧ w'.cell? ⟨q, 7, none⟩ = some (.slice ra rl rc))
    (first | assumption | exact D8 | exact obj_cells (HBD.out.chg (Chg.of_below hbel) (by omega)))
    (first | (go_at_call 67; ((with_reducible refine (PL _).mono ?_); rintro e w' ⟨rfl, rfl⟩)) | (refine step_copy_splice rfl (.tmp 15) (.tmp 17) 39 39 rfl 44 Try.underlying39 u32_one (some ⟨q2, K, none⟩) ia (n - K) (n - K) il ic rfl rfl q2 K ((zeros n).setIfInBounds 0 (.int .u32 sa)).toList 44 HB4.out (init.map (Value.int .u32)) C1.out (fun hp => ⟨rfl, (C2.out hp).2⟩) C3.out (words_one _) q2 w3b.drew (Below.refl _ _) (Nat.le_refl _) ?_; intro w5 hw5 hbel))
  go_wp2
  go_ret
  have hn := HN.out
  have hsplice : splice ((zeros n).setIfInBounds 0 (.int .u32 sa)).toList K (init.map (Value.int .u32)) = (lay0 W sl rl sa init).map (Value.int .u32) := by
    have h4 := HPL.out
    have hl := HL.out
    have hW := HW.out
    unfold lay0 splice
    have ez : ((zeros n).setIfInBounds 0 (.int .u32 sa)).toList = ((List.replicate n (0 : Int)).set 0 sa).map (Value.int .u32) := by
      rw [Array.toList_setIfInBounds, zeros_list, List.map_set]
    rw [lay_eq _ _ _ (by rw [List.length_set, List.length_replicate]; have := HK.out; omega), ← hn, ← HK.out, ez, List.map_append, List.map_append, List.map_take, List.map_drop, List.length_map]
  refine ⟨q2, rfl, Same.more S4.out (Chg.of_below hbel) (fun i hi => by omega), own_blk (l := (lay0 W sl rl sa init).map (Value.int .u32)) (by rw [← hsplice]; exact hw5.out) ?_ (by unfold maxLen; have := HN1.out; have := HN.out; have := HQ2.out; omega) hsz⟩
  have := lay_len W sl rl sa init
  rw [List.length_map, this]
  exact hn.symm

end Go.Proofs.Ytaclphhbdfoaeaa.Cb
