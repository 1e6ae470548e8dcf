/-

  An object of the kind four by value: how many words it has, how many steps its operations have, and its words at the beginning.
-/
import Derived.Test.YthhbhbfkbncegabGreatDoorJObj
section
set_option linter.unusedSimpArgs false
set_option linter.unusedVariables false
namespace Go.Proofs.YthhbhbfkbncegabGreatDoor.Fo
open Go.ChangeShapes Go.WideShapes Go.ChangeAt Go.RowKit Ws Mm Pa
open Go.Proofs.YthhbhbfkbncegabGreatDoor.Ob

/-- whether an object of this kind may be -/
def rightB (wd sl cp sa : Int) (il rl : Nat) : Bool := decide ((1 ≤ wd ∧ wd ≤ 8) ∧ (il : Int) = wd ∧ (rl : Int) = 1 ∧ sl = 0 ∧ cp = 0 ∧ sa = 0)

theorem right_not (k wd sl cp sa ow : Int) (ia ra : Option Addr) (il ic rl rc : Nat) (hk : k ≠ 1) (w : World) :
    Calls Tryz.prog 112 #[.agg #[.int .i64 k, .int .i64 wd, .int .i64 sl, .int .i64 cp, .int .u32 sa, .slice ia il ic, .int .i64 ow, .slice ra rl rc]] w fun e w' => e = .returned (.bool false) ∧ Same w w' := by
  have hb : regB k wd il rl 1 = false := by unfold regB; rw [decide_eq_false (by omega)]
  have HR := fun w' => register_any 1 k wd sl cp sa ow ia ra il ic rl rc w'
  simp only [hb] at HR
  clear hb
  go_enter Tryz.func112, Tryz.ntmps112
  go_wp2_with fail
  refine (HR _).mono ?_
  rintro e w1 ⟨rfl, s1⟩
  go_wp2_with fail
  go_ret
  exact ⟨rfl, Same.trans ((Same.refl _).alloc _) s1⟩

set_option maxHeartbeats 400000 in
theorem right_any (wd sl cp sa ow : Int) (ia ra : Option Addr) (il ic rl rc : Nat) (w : World) :
    Calls Tryz.prog 112 #[.agg #[.int .i64 1, .int .i64 wd, .int .i64 sl, .int .i64 cp, .int .u32 sa, .slice ia il ic, .int .i64 ow, .slice ra rl rc]] w fun e w' => e = .returned (.bool (rightB wd sl cp sa il rl)) ∧ Same w w' := by
  have s0 := (Same.refl w).alloc (.cells #[.int .i64 1, .int .i64 wd, .int .i64 sl, .int .i64 cp, .int .u32 sa, .slice ia il ic, .int .i64 ow, .slice ra rl rc] 43)
  have hb := Blk.new w 43 #[.int .i64 1, .int .i64 wd, .int .i64 sl, .int .i64 cp, .int .u32 sa, .slice ia il ic, .int .i64 ow, .slice ra rl rc]
  have HB := Lib.hid hb
  clear hb
  cases hr : regB 1 wd il rl 1
  all_goals
    have HR := fun w' => register_any 1 1 wd sl cp sa ow ia ra il ic rl rc w'
    simp only [hr] at HR
    have hr2 := Lib.hid hr
    clear hr
    go_enter Tryz.func112, Tryz.ntmps112
    go_wp2_with fail
    refine (HR _).mono ?_
    rintro e w1 ⟨rfl, s1⟩
    obtain ⟨_, _, d2, d3, d4, _, _, d7⟩ := obj_cells (HB.out.same s1)
    have S := s0.trans s1
    clear HB s0 s1 HR
    generalize w.heap.size = q at *
    go_wp2
    all_goals
      go_ret
      have hr := hr2.out
      unfold regB at hr
      simp only [decide_eq_true_eq, decide_eq_false_iff_not] at hr
      refine ⟨ret_bool ?_, S⟩
      unfold rightB
      first
        | (rw [Bool.eq_iff_iff, decide_eq_true_eq, decide_eq_true_eq]; omega)
        | (rw [Bool.eq_iff_iff]; simp only [beq_iff_eq, bne_iff_ne, ne_eq, beq_eq_false_iff_ne, bne_eq_false_iff_eq, decide_eq_true_eq, Bool.false_eq_true, true_iff, false_iff, and_true, true_and, and_false, false_and] at *; omega)

end Go.Proofs.YthhbhbfkbncegabGreatDoor.Fo
end
section
set_option linter.unusedSimpArgs false
set_option linter.unusedVariables false
namespace Go.Proofs.YthhbhbfkbncegabGreatDoor.Fo
open Go.ChangeShapes Go.WideShapes Go.ChangeAt Go.RowKit Ws Mm Pa
open Go.Proofs.YthhbhbfkbncegabGreatDoor.Ob

theorem HQ {wd sl cp sa : Int} {il rl : Nat} (h : rightB wd sl cp sa il rl = true) : (1 ≤ wd ∧ wd ≤ 8) ∧ (il : Int) = wd ∧ (rl : Int) = 1 ∧ sl = 0 ∧ cp = 0 ∧ sa = 0 := by
  unfold rightB at h
  exact of_decide_eq_true h
theorem objS {w w' : World} {q : Nat} {T : TypeId} {wd sl cp sa ow : Int} {ia ra : Option Addr} {il ic rl rc : Nat} (h : Blk w q T #[.int .i64 1, .int .i64 wd, .int .i64 sl, .int .i64 cp, .int .u32 sa, .slice ia il ic, .int .i64 ow, .slice ra rl rc]) (s : Same w w') : w'.cell? ⟨q, 0, none⟩ = some (.int .i64 1) ∧ w'.cell? ⟨q, 1, none⟩ = some (.int .i64 wd) ∧ w'.cell? ⟨q, 2, none⟩ = some (.int .i64 sl) ∧ w'.cell? ⟨q, 3, none⟩ = some (.int .i64 cp) ∧ w'.cell? ⟨q, 4, none⟩ = some (.int .u32 sa) ∧ w'.cell? ⟨q, 5, none⟩ = some (.slice ia il ic) ∧ w'.cell? ⟨q, 6, none⟩ = some (.int .i64 ow) ∧ w'.cell? ⟨q, 7, none⟩ = some (.slice ra rl rc) ∧ Same w w' := by
  obtain ⟨a, b, c, d, e, f, g, i⟩ := obj_cells (h.same s)
  exact ⟨a, b, c, d, e, f, g, i, s⟩

theorem size_yes (wd sl cp sa ow : Int) (ia ra : Option Addr) (il ic rl rc : Nat) (w : World) (hr : rightB wd sl cp sa il rl = true) :
    Calls Tryz.prog 113 #[.agg #[.int .i64 1, .int .i64 wd, .int .i64 sl, .int .i64 cp, .int .u32 sa, .slice ia il ic, .int .i64 ow, .slice ra rl rc]] w fun e w' => e = .returned (.int .i64 (4 + 4 * wd)) ∧ Same w w' := by
  have hb := Blk.new w 43 #[.int .i64 1, .int .i64 wd, .int .i64 sl, .int .i64 cp, .int .u32 sa, .slice ia il ic, .int .i64 ow, .slice ra rl rc]
  have s0 := (Same.refl w).alloc (.cells #[.int .i64 1, .int .i64 wd, .int .i64 sl, .int .i64 cp, .int .u32 sa, .slice ia il ic, .int .i64 ow, .slice ra rl rc] 43)
  have HB := Lib.hid hb
  have HR := fun w' => right_any wd sl cp sa ow ia ra il ic rl rc w'
  rw [hr] at HR
  have hq := HQ hr
  obtain ⟨h1, h2⟩ := hq.1
  have HQ2 := Lib.hid hq
  clear hb hq hr
  go_enter Tryz.func113, Tryz.ntmps113
  go_wp2_with fail
  refine (HR _).mono ?_
  rintro e w1 ⟨rfl, s1⟩
  have hb1 := HB.out.same s1
  have S1 := Lib.hid (s0.trans s1)
  have HB1 := Lib.hid hb1
  obtain ⟨d0, d1, d2, d3, d4, d5, d6, d7⟩ := obj_cells hb1
  clear hb1 s0 s1 HB HR
  generalize w.heap.size = q at *
  go_wp2
  go_ret
  exact ⟨rfl, S1.out⟩
theorem size_no (wd sl cp sa ow : Int) (ia ra : Option Addr) (il ic rl rc : Nat) (w : World) (hr : rightB wd sl cp sa il rl = false) :
    Calls Tryz.prog 113 #[.agg #[.int .i64 1, .int .i64 wd, .int .i64 sl, .int .i64 cp, .int .u32 sa, .slice ia il ic, .int .i64 ow, .slice ra rl rc]] w fun e w' => e = .returned (.int .i64 0) ∧ Same w w' := by
  have HR := fun w' => right_any wd sl cp sa ow ia ra il ic rl rc w'
  rw [hr] at HR
  clear hr
  go_enter Tryz.func113, Tryz.ntmps113
  go_wp2_with fail
  refine (HR _).mono ?_
  rintro e w1 ⟨rfl, s1⟩
  go_wp2_with fail
  go_ret
  exact ⟨rfl, Same.trans ((Same.refl _).alloc _) s1⟩
def boundI (wd op : Int) : Int := if op = 2 then wd + 4 else if op = 1 then wd + 3 else 0
theorem bound_yes (wd sl cp sa ow : Int) (ia ra : Option Addr) (il ic rl rc : Nat) (op : Int) (w : World) (hr : rightB wd sl cp sa il rl = true) :
    Calls Tryz.prog 115 #[.agg #[.int .i64 1, .int .i64 wd, .int .i64 sl, .int .i64 cp, .int .u32 sa, .slice ia il ic, .int .i64 ow, .slice ra rl rc], .int .i64 op] w fun e w' => e = .returned (.int .i64 (boundI wd op)) ∧ Same w w' := by
  have hb := Blk.new w 43 #[.int .i64 1, .int .i64 wd, .int .i64 sl, .int .i64 cp, .int .u32 sa, .slice ia il ic, .int .i64 ow, .slice ra rl rc]
  have s0 := (Same.refl w).alloc (.cells #[.int .i64 1, .int .i64 wd, .int .i64 sl, .int .i64 cp, .int .u32 sa, .slice ia il ic, .int .i64 ow, .slice ra rl rc] 43)
  have HB := Lib.hid hb
  have HR := fun w' => right_any wd sl cp sa ow ia ra il ic rl rc w'
  rw [hr] at HR
  have hq := HQ hr
  obtain ⟨h1, h2⟩ := hq.1
  have HQ2 := Lib.hid hq
  clear hb hq hr
  go_enter Tryz.func115, Tryz.ntmps115
  go_wp2_with fail
  refine (HR _).mono ?_
  rintro e w1 ⟨rfl, s1⟩
  have hb1 := HB.out.same s1
  have S1 := Lib.hid (s0.trans s1)
  have HB1 := Lib.hid hb1
  obtain ⟨d0, d1, d2, d3, d4, d5, d6, d7⟩ := obj_cells hb1
  clear hb1 s0 s1 HB HR
  generalize w.heap.size = q at *
  go_wp2
  all_goals
    go_ret
    exact ⟨ret_int (by unfold boundI; try simp only [beq_iff_eq, beq_eq_false_iff_ne, ne_eq] at *; repeat (split <;> try omega)), S1.out⟩
theorem bound_no (wd sl cp sa ow : Int) (ia ra : Option Addr) (il ic rl rc : Nat) (op : Int) (w : World) (hr : rightB wd sl cp sa il rl = false) :
    Calls Tryz.prog 115 #[.agg #[.int .i64 1, .int .i64 wd, .int .i64 sl, .int .i64 cp, .int .u32 sa, .slice ia il ic, .int .i64 ow, .slice ra rl rc], .int .i64 op] w fun e w' => e = .returned (.int .i64 0) ∧ Same w w' := by
  have HR := fun w' => right_any wd sl cp sa ow ia ra il ic rl rc w'
  rw [hr] at HR
  clear hr
  go_enter Tryz.func115, Tryz.ntmps115
  go_wp2_with fail
  refine (HR _).mono ?_
  rintro e w1 ⟨rfl, s1⟩
  go_wp2_with fail
  go_ret
  exact ⟨rfl, Same.trans ((Same.refl _).alloc _) s1⟩
theorem add_plain (b o j : Nat) : (⟨b, o, none⟩ : Addr).add j = ⟨b, o + j, none⟩ := by
  cases j with
  | zero => rfl
  | succ j => rfl
theorem own_blk {w : World} {g B c : Nat} {e : TypeId} {l : List Value} (h : w.heap[g]? = some (.cells l.toArray e (0, 0))) (hc : l.length = c) (hm : c ≤ maxLen) (hB : B ≤ g) : Own w B e (some ⟨g, 0, none⟩) c l := by
  refine ⟨by omega, .inr ⟨g, c, l.toArray, rfl, hB, h, by omega, hm, by simpa using hc, ?_⟩⟩
  simp
/-- the words at the beginning -/
def lay0 (W : Nat) (init : List Int) : List Int := Op.lay (List.replicate (4 + 4 * W) 0) 4 init
theorem lay_len (W : Nat) (init : List Int) : (lay0 W init).length = 4 + 4 * W := by
  unfold lay0
  rw [Op.lay_length, List.length_replicate]
theorem lay_eq (ws : List Int) : ∀ (l : List Int) (k : Nat), k + ws.length ≤ l.length → Op.lay l k ws = l.take k ++ (ws ++ l.drop (k + ws.length)) := by
  induction ws with
  | nil => intro l k h; simp [Op.lay]
  | cons v ws ih =>
    intro l k h
    rw [List.length_cons] at h
    rw [Op.lay, ih _ _ (by rw [List.length_set]; omega), List.length_cons]
    have e1 : (l.set k v).take (k + 1) = l.take k ++ [v] := by
      rw [List.take_succ_eq_append_getElem (by rw [List.length_set]; omega), List.take_set_of_le (Nat.le_refl _), List.getElem_set_self]
    have e2 : (l.set k v).drop (k + 1 + ws.length) = l.drop (k + (ws.length + 1)) := by
      rw [List.drop_set_of_lt (by omega)]
      congr 1
      omega
    rw [e1, e2]
    simp

set_option maxHeartbeats 400000 in
set_option maxRecDepth 100000 in
theorem lay_yes (W : Nat) (sl cp sa ow : Int) (ia ra : Option Addr) (il ic rl rc : Nat) (init : List Int) (w : World) (hr : rightB W sl cp sa il rl = true) (hi : Row w ia (init.map (Value.int .u32))) (hl : init.length = il) :
    Calls Tryz.prog 114 #[.agg #[.int .i64 1, .int .i64 W, .int .i64 sl, .int .i64 cp, .int .u32 sa, .slice ia il ic, .int .i64 ow, .slice ra rl rc]] w fun e w' => ∃ g, e = .returned (.slice (some ⟨g, 0, none⟩) (4 + 4 * W) (4 + 4 * W)) ∧ Same w w' ∧ Own w' w.heap.size 40 (some ⟨g, 0, none⟩) (4 + 4 * W) ((lay0 W init).map (Value.int .u32)) := by
  have hq := HQ hr
  obtain ⟨n, hn⟩ : ∃ n, n = 4 + 4 * W := ⟨_, rfl⟩
  have hmk := make_any n (by omega)
  have HZ := fun w' => size_yes W sl cp sa ow ia ra il ic rl rc w' hr
  rw [show (4 : Int) + 4 * (W : Int) = (n : Int) by omega] at HZ
  have hb := Blk.new w 43 #[.int .i64 1, .int .i64 W, .int .i64 sl, .int .i64 cp, .int .u32 sa, .slice ia il ic, .int .i64 ow, .slice ra rl rc]
  have s0 := (Same.refl w).alloc (.cells #[.int .i64 1, .int .i64 W, .int .i64 sl, .int .i64 cp, .int .u32 sa, .slice ia il ic, .int .i64 ow, .slice ra rl rc] 43)
  have HB := Lib.hid hb
  have HR := fun w' => right_any W sl cp sa ow ia ra il ic rl rc w'
  rw [hr] at HR
  have HQ2 := Lib.hid hq
  have HN := Lib.hid hn
  have HL := Lib.hid hl
  rw [← hn]
  clear hb hq hr hn hl
  go_enter Tryz.func114, Tryz.ntmps114
  go_wp2_with fail
  refine (HR _).mono ?_
  rintro e w1 ⟨rfl, s1⟩
  have hb1 := HB.out.same s1
  have S1 := Lib.hid (s0.trans s1)
  have HB1 := Lib.hid hb1
  obtain ⟨d0, d1, d2, d3, d4, d5, d6, d7⟩ := obj_cells hb1
  clear hb1 s0 s1 HB HR
  generalize w.heap.size = q at *
  clear d0 d1 d2 d3 d4 d5 d6 d7
  have hb1 := HB1.out
  obtain ⟨d0, d1, d2, d3, d4, d5, d6, d7⟩ := obj_cells hb1
  clear hb1
  go_wp2_with fail
  refine (HZ _).mono ?_
  rintro e w2 ⟨rfl, s2⟩
  have S2 := Lib.hid (S1.out.trans s2)
  have HB2 := Lib.hid (HB1.out.same s2)
  clear d0 d1 d2 d3 d4 d5 d6 d7 HB1 S1 s2 HZ
  have S3 := Lib.hid (S2.out.alloc (.cells (zeros n) 40))
  have HB3 := Lib.hid (HB2.out.same ((Same.refl w2).alloc (.cells (zeros n) 40)))
  have BN := Lib.hid (Blk.new w2 40 (zeros n))
  obtain ⟨d0, d1, d2, d3, d4, d5, d6, d7⟩ := obj_cells HB3.out
  have f1 : 4 ≤ n := by have := HN.out; omega
  have f2 : (4 : Int) ≤ n := by omega
  have f3 : ¬ n = 4 := by have := HN.out; have := HQ2.out; omega
  go_wp2_with fail
  have hq2 := HB2.out.lt
  have hsz : w.heap.size ≤ w2.heap.size := S2.out.size
  generalize w2.alloc (.cells (zeros n) 40) = w3 at *
  generalize w2.heap.size = q2 at *
  go_still_tail 4, (by kernel_rfl)
  change wpList _ _ _ _ _ w3.drew
  have S4 := Lib.hid S3.out.drew
  have BN2 : w3.drew.heap[q2]? = some (.cells (zeros n).toList.toArray 40 (0, 0)) := BN.out
  have hr4 := Lib.hid (hi.same S4.out)
  have HB4 := Lib.hid BN2
  have hiL := HL.out
  have hW : W = il := by have := HQ2.out; omega
  have HW := Lib.hid hW
  clear d0 d1 d2 d3 d4 d5 d6 d7 S3 HB3 BN HB2 S2 hi BN2 hiL hW
  generalize w3.drew = w4 at *
  go_wp2_with (with_reducible refine wpList_copy_splice rfl (.tmp 11) (.tmp 13) 41 41 rfl 40 Tryz.underlying41 u32_one (some ⟨q2, 4, none⟩) ia (n - 4) (n - 4) il ic rfl rfl q2 4 (zeros n).toList 40 HB4.out (init.map (Value.int .u32)) ?c1 ?c2 ?c3 (words_one _) q2 w4 (Below.refl _ _) (Nat.le_refl _) ?_)
  case c1 =>
    have := HL.out
    have := HN.out
    have := HW.out
    rw [List.length_map]
    show _ = min il (n - 4)
    omega
  case c2 =>
    intro hp
    have hp' : 0 < (init.map (Value.int .u32)).length := by simpa using hp
    obtain ⟨b, o, hA, _⟩ := hr4.out.at_ hp'
    have main : ∃ ad, ia = some ad ∧ ∀ j v, (init.map (Value.int .u32))[j]? = some v → w4.cell? (ad.add j) = some v := by
      refine ⟨_, hA, fun j v hj => ?_⟩
      obtain ⟨b', o', hA', hc⟩ := hr4.out j v hj
      rw [hA] at hA'
      injection hA' with hA'
      injection hA' with e1 e2
      subst e1
      subst e2
      rw [Fo.add_plain]
      exact hc
    first
      | exact ⟨rfl, main⟩
      | exact main
      | simpa using main
  case c3 =>
    have h1 := HL.out
    have h2 := HN.out
    have h3 := HW.out
    have e1 : (zeros n).toList.length = n := by rw [Array.length_toList, zeros_size]
    show 4 + (init.map (Value.int .u32)).length ≤ (zeros n).toList.length
    rw [e1, List.length_map]
    omega
  intro w5 hw5 hbel
  go_wp2
  go_ret
  have hn := HN.out
  have hsplice : splice (zeros n).toList 4 (init.map (Value.int .u32)) = (lay0 W init).map (Value.int .u32) := by
    have hl := HL.out
    have hW := HW.out
    unfold lay0 splice
    rw [lay_eq _ _ _ (by rw [List.length_replicate]; omega), zeros_list, List.map_append, List.map_append, List.map_take, List.map_drop, List.length_map, hn]
  refine ⟨q2, rfl, Same.more S4.out (Chg.of_below hbel) (fun i hi => by omega), own_blk (l := (lay0 W init).map (Value.int .u32)) (by rw [← hsplice]; exact hw5.out) ?_ (by unfold maxLen; have := HQ2.out; omega) hsz⟩
  have := lay_len W init
  rw [List.length_map, this]
  exact hn.symm

end Go.Proofs.YthhbhbfkbncegabGreatDoor.Fo
end
