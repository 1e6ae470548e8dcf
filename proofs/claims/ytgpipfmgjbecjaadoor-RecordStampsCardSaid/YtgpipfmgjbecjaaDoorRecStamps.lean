/-
  The walk of the law RecordStamps: it returns true whatever the width and the numbers are.
-/
import Derived.Test.YtgpipfmgjbecjaaDoorRecMix
import Derived.Deep.RegionHeld3
import Derived.Deep.DeepFit
namespace Go.Proofs.YtgpipfmgjbecjaaDoor.Rc
open Go.ChangeShapes Go.WideShapes Go.ChangeAt Go.RowKit Ws

theorem own_none (w : World) (e : TypeId) : Own (w.alloc (.cells #[] e)) w.heap.size e (some ⟨w.heap.size, 0, none⟩) 0 [] := World.ownsRow_made w #[] 0 (Nat.le_refl _) (Nat.zero_le _) rfl
theorem step_app {P : Program} {w : World} {ops : Array Oper} {o : Oper} {a : Act} {K : Act → World → Prop} {Q : Exit → Act → World → Prop} {E : Prop} (hgd : o.guard = none) (s x : Operand) (t : TypeId)
    (ho : o.op = .call { callee := .builtin .append, args := #[s, x], argTypes := #[t, t] })
    (base : Nat) (e : TypeId) (i : TypeInfo) (z : Value) (bytes : Nat) (ht : P.underlying t = some (.slice e)) (hi : P.info? e = some i) (hz : i.zero = some z)
    (hsize : i.size = 1) (hby : i.bytes = bytes) (hzs : z.cells.size = 1)
    (A : Option Addr) (n c : Nat) (xs : List Value) (hs : a.eval s = .slice A n c) (hn : xs.length = n) (hown : Own w base e A c xs)
    (C : Option Addr) (m d : Nat) (ys : List Value) (hx : a.eval x = .slice C m d) (hm : ys.length = m) (hr : Row w C ys) (h1 : ∀ u ∈ ys, u.oneCell' = true)
    (h63 : xs.length + ys.length ≤ 4294967296) (hby2 : bytes ≤ 16) (hbase : base ≤ w.heap.size)
    (h : ∀ A' c' w', Own w' base e A' c' (xs ++ ys) → Chg (fun g => A = some ⟨g, 0, none⟩) w w' → (A' = A ∨ A' = some ⟨w.heap.size, 0, none⟩) → K (a.put o.dst (.slice A' (n + m) c')) w') :
    if Region.wanted o (yielded ops a.tmps) = true then Oper.wp P o a w K Q else E := by
  have hw : Region.wanted o (yielded ops a.tmps) = true := by simp [Region.wanted, hgd]
  rw [if_pos hw]
  subst hn
  subst hm
  obtain ⟨A', c', w', hr, h2, h3, h4⟩ := run_app (P := P) w base t o.type e i z bytes ht hi hz hsize hby hzs A c xs hown C d ys hr h1 h63 hby2 hbase
  rw [List.length_append] at hr
  unfold Oper.wp execOp
  simp only [ho, resolve, invoke, builtin, Sem.run_bind, Sem.run_pure, Result.andThen_ok, List.map_toArray, List.map_cons, List.map_nil, hs, hx, hr]
  exact h A' c' w' h2 h3 h4

theorem head_cell {w : World} {A : Option Addr} {l : List Int} (h : Row w A (w32 l)) (hne : l ≠ []) : ∃ b o, A = some ⟨b, o, none⟩ ∧ w.cell? ⟨b, o, none⟩ = some (.int .u32 (l.headD 0)) := by
  cases l with
  | nil => exact absurd rfl hne
  | cons x r =>
    obtain ⟨b, o, hA, hc⟩ := h 0 (.int .u32 x) rfl
    exact ⟨b, o, hA, by simpa using hc⟩

set_option maxHeartbeats 4000000 in
set_option maxRecDepth 100000 in
theorem stamps_walk (a k l : Int) (hk : 0 ≤ k ∧ k < 4294967296) (hl : 0 ≤ l ∧ l < 4294967296) (w : World) :
    Calls Tryd.prog 8 #[.int .i64 a, .int .u32 k, .int .u32 l] w fun e w' => e = .returned (.bool true) ∧ Same w w' := by
  obtain ⟨i0, hi, hz0, hz1, hz2⟩ := info_parts u32_info
  have h8 := wide_le a
  obtain ⟨n, hn⟩ : ∃ n, n = wide a := ⟨_, rfl⟩
  have HN := Lib.hid hn
  rw [← hn] at h8
  have T1 := stamp_any a k
  have T2 := stamp_any a l
  have T3 := rstamp_any a k hk
  have T4 := rstamp_any a l hl
  rw [← hn] at T1 T2 T3 T4
  have T1 := Lib.hid T1
  have T2 := Lib.hid T2
  have T3 := Lib.hid T3
  have T4 := Lib.hid T4
  clear hn
  go_enter Tryd.func8, Tryd.ntmps8
  go_wp2_with fail
  refine (T1.out _).mono ?_
  rintro e w1 ⟨rfl, o1, s1⟩
  go_wp2_with fail
  refine (T2.out _).mono ?_
  rintro e w2 ⟨rfl, o2, s2⟩
  have rx := o1.row.same s2
  have ry := o2.row
  have t2 := s1.trans s2
  generalize (some (⟨w.heap.size, 0, none⟩ : Addr)) = X at rx ⊢
  generalize (some (⟨w1.heap.size, 0, none⟩ : Addr)) = Y at ry ⊢
  clear o1 o2 s1 s2
  go_wp2_with fail
  refine (T3.out _).mono ?_
  rintro e w3 ⟨A3, c3, rfl, o3, s3⟩
  go_wp2_with fail
  refine (words_any X A3 n n n c3 (stamp k n) (stamp k n) w3 (stamp_len _ _) (stamp_len _ _) (rx.same s3) o3.row (by omega) (by omega)).mono ?_
  rintro e w4 ⟨rfl, q4, rfl⟩
  have t3 := (t2.trans s3).drewN q4
  have rx3 := (rx.same s3).drewN q4
  have ry3 := (ry.same s3).drewN q4
  generalize w3.drewN q4 = w4 at t3 rx3 ry3 ⊢
  clear rx ry t2 o3 s3
  rw [show decide (stamp k n = stamp k n) = true from decide_eq_true rfl]
  go_wp2_with fail
  refine (T4.out _).mono ?_
  rintro e w5 ⟨A5, c5, rfl, o5, s5⟩
  go_wp2_with fail
  refine (words_any Y A5 n n n c5 (stamp l n) (stamp l n) w5 (stamp_len _ _) (stamp_len _ _) (ry3.same s5) o5.row (by omega) (by omega)).mono ?_
  rintro e w6 ⟨rfl, q6, rfl⟩
  have t5 := (t3.trans s5).drewN q6
  have rx5 := (rx3.same s5).drewN q6
  have ry5 := (ry3.same s5).drewN q6
  generalize w5.drewN q6 = w6 at t5 rx5 ry5 ⊢
  clear rx3 ry3 t3 o5 s5
  rw [show decide (stamp l n = stamp l n) = true from decide_eq_true rfl]
  go_wp2_with fail
  refine (unstamp_any X n n (stamp k n) w6 (stamp_len _ _) (by omega) rx5 ?b1).mono ?_
  case b1 => have h := mix_bd k k n 0; rw [mix_zero] at h; exact h
  rintro e w7 ⟨rfl, s7⟩
  have t7 := t5.trans s7
  have rx7 := rx5.same s7
  have ry7 := ry5.same s7
  clear rx5 ry5 t5 s7
  by_cases hn0 : n = 0
  · subst hn0
    rw [show isStamp (stamp k 0) = false from rfl]
    go_wp2
    go_loopw [63] (fun i wr => i = .int .i64 ((0 : Nat) : Int) ∧ Same w wr) (fun _ _ => 0)
    case atStart => exact ⟨rfl, t7⟩
    case round =>
      obtain ⟨rfl, t8⟩ := hrel
      clear t7 rx7 ry7
      go_wp2_with fail
      refine (rawake _).mono ?_
      rintro e w9 ⟨rfl, s9⟩
      go_wp2
      go_ret
      exact ⟨rfl, t8.trans s9⟩
  · have hp : (0 : Int) < (n : Int) := by omega
    obtain ⟨e1, e2⟩ := stamp_is k n hk (by omega) h8
    rw [e1, e2]
    clear T1 T2 T3 T4
    go_wp2
    go_loopw [63] (fun i wr => ∃ q : Nat, q ≤ n ∧ i = .int .i64 q ∧ Same w wr ∧ Row wr X (w32 (stamp k n)) ∧ Row wr Y (w32 (stamp l n))) (fun i _ => n - (intOf i).toNat)
    case atStart => exact ⟨0, Nat.zero_le _, rfl, t7, rx7, ry7⟩
    case round =>
      obtain ⟨q, hq, rfl, t8, rx, ry⟩ := hrel
      clear t7 rx7 ry7
      by_cases hlt : q < n
      · have hqn : (q : Int) < (n : Int) := by omega
        obtain ⟨b, o, rfl, hc1⟩ := rx.at_ (k := q) (by rw [w32_len, stamp_len]; exact hlt)
        obtain ⟨b', o', rfl, hc2⟩ := ry.at_ (k := q) (by rw [w32_len, stamp_len]; exact hlt)
        simp only [w32, stamp, List.getElem_map, List.getElem_range] at hc1 hc2
        obtain ⟨v, hv⟩ : ∃ v, v = (k == l) := ⟨_, rfl⟩
        have hu : (word k q == word l q) = v := by
          rw [hv]
          by_cases h : k = l
          · simp [h]
          · have h2 : ¬ word k q = word l q := fun h3 => h (word_inj hk hl (by omega) h3)
            rw [beq_eq_false_iff_ne.2 h2, beq_eq_false_iff_ne.2 h]
        have HV := Lib.hid hv
        have hkl : (k == l) = v := HV.out.symm
        generalize word k q = x at hc1 hu
        generalize word l q = y at hc2 hu
        clear hv
        have L1 := Lib.hid (show ((w32 (stamp k n)).take q).length = q by rw [List.length_take, w32_len, stamp_len]; omega)
        have L2 := Lib.hid (show ((w32 (stamp l n)).drop q).length = n - q by rw [List.length_drop, w32_len, stamp_len])
        have L1' := Lib.hid (show ([] ++ (w32 (stamp k n)).take q).length = 0 + q by rw [List.nil_append, Nat.zero_add]; exact L1.out)
        have L3 := Lib.hid (show ([] ++ (w32 (stamp k n)).take q).length + ((w32 (stamp l n)).drop q).length ≤ 4294967296 by rw [List.nil_append, L1.out, L2.out]; omega)
        have O1 : ∀ u ∈ (w32 (stamp k n)).take q, u.oneCell' = true := fun u h => w32_one _ u (List.mem_of_mem_take h)
        have O2 : ∀ u ∈ (w32 (stamp l n)).drop q, u.oneCell' = true := fun u h => w32_one _ u (List.mem_of_mem_drop h)
        have f0 : (0 : Int) ≤ q := by omega
        have f1 : (q : Int) ≤ n := by omega
        have f2 : ((q : Int)).toNat = q := Int.toNat_natCast q
        have hnq : ¬ n = q := by omega
        clear e1 e2
        cases v
        · go_wp2_with fail
          go_quiet (fail)
          go_wp2_with fail
          have t9 := (t8.drewN nq).drew
          have rx9 : Row (wr.drewN nq).drew _ _ := rx
          have ry9 : Row (wr.drewN nq).drew _ _ := ry
          have rx1 := (rx9.same ((Same.refl _).alloc (.cells #[] 51))).cut q
          have ry1 := ry9.sub q
          go_region_held3 (fun w' => Same w w' ∧ Row w' (some ⟨b, o, none⟩) (w32 (stamp k n)) ∧ Row w' (some ⟨b', o', none⟩) (w32 (stamp l n)))
            (first | assumption | exact ⟨t9, rx9, ry9⟩ | exact ⟨t9.trans sb, rx9.same sb, ry9.same sb⟩ | exact ⟨t9.trans sa, rx9.same sa, ry9.same sa⟩ | (rcases ‹Same w _ ∧ _ ∧ _› with ⟨x1, x2, x3⟩; exact ⟨x1.alloc _, x2.same ((Same.refl _).alloc _), x3.same ((Same.refl _).alloc _)⟩) | trace_state)
            (first
              | (refine step_app (by rfl) (.tmp 79) (.tmp 82) 40 (by rfl) (wr.drewN nq).drew.heap.size 51 i0 _ 4 Tryd.underlying40 hi hz0 hz1 hz2 rfl _ 0 _ [] (by rfl) rfl (own_none (wr.drewN nq).drew 51) _ _ _ ((w32 (stamp k n)).take q) (by rfl) L1.out rx1 O1 (by rw [L1.out]; simp only [List.length_nil]; omega) (by omega) (by simp) ?_; intro A1 c1 wa oa ca _; have sa : Same (wr.drewN nq).drew wa := Same.more ((Same.refl _).alloc _) ca (fun g hg => by injection hg with hg; injection hg with hg; omega); clear ca)
              | (refine step_app (by rfl) (.tmp 83) (.tmp 86) 40 (by rfl) (wr.drewN nq).drew.heap.size 51 i0 _ 4 Tryd.underlying40 hi hz0 hz1 hz2 rfl A1 (0 + q) c1 ([] ++ (w32 (stamp k n)).take q) rfl L1'.out oa (some ⟨b', o' + q, none⟩) (n - q) (n - q) ((w32 (stamp l n)).drop q) rfl L2.out (ry1.same sa) O2 L3.out (by omega) sa.size ?_; intro A2 c2 wb ob cb _; have sb : Same (wr.drewN nq).drew wb := Same.more sa cb (fun g hg => own_at oa g hg); clear cb oa)
              | fail)
          rcases ‹Same w _ ∧ Row _ _ _ ∧ Row _ _ _› with ⟨x1, x2, x3⟩
          have hmx : Row wb A2 (w32 (mix k l n q)) := by
            have := ob.row
            rw [List.nil_append] at this
            have e : w32 (mix k l n q) = (w32 (stamp k n)).take q ++ (w32 (stamp l n)).drop q := by unfold mix w32; rw [List.map_append, List.map_take, List.map_drop]
            rw [e]
            exact this
          have ML := Lib.hid (show (mix k l n q).length = n from mix_len _ _ _ _ (by omega))
          clear ob sb sa t9 rx9 ry9 rx1 ry1 L1 L2 L1' L3 O1 O2
          go_wp2_with fail
          refine (unstamp_any A2 n c2 (mix k l n q) wb ML.out (by omega) hmx (mix_bd _ _ _ _)).mono ?_
          rintro e w10 ⟨rfl, s10⟩
          have t10 := x1.trans s10
          have rx10 := x2.same s10
          have ry10 := x3.same s10
          obtain ⟨bm, om, rfl, hm0⟩ := head_cell (hmx.same s10) (by intro h; have := ML.out; rw [h] at this; simp at this; omega)
          clear x1 x2 x3 s10 hmx
          have hkl2 : k ≠ l := by simpa using HV.out.symm
          have hkl3 : (k != l) = true := by simp [hkl2]
          by_cases h0 : q = 0
          · subst h0
            have hs := stamp_is l n hl (by omega) h8
            have e1 : isStamp (mix k l n 0) = true := by rw [mix_zero]; exact hs.1
            rw [e1]
            obtain ⟨z, hz⟩ : ∃ z, z = (mix k l n 0).headD 0 := ⟨_, rfl⟩
            rw [← hz] at hm0 ⊢
            have hzz : (z != z) = false := by simp
            rw [if_pos rfl]
            clear hs e1 hz hkl2
            go_wp2_with fail
            go_roundw
            case rel => exact ⟨0 + 1, by omega, by go_num, t10, rx10, ry10⟩
            case measure => simp [intOf]; omega
          · have e1 : isStamp (mix k l n q) = false := mix_not k l n q hk hl hkl2 (by omega) hlt h8
            have hq0 : (0 : Int) < (q : Int) := by omega
            rw [e1, if_neg (by decide)]
            clear e1 hkl2
            go_wp2_with fail
            go_roundw
            case rel => exact ⟨q + 1, by omega, by go_num, t10, rx10, ry10⟩
            case measure => simp [intOf]; omega
        · go_wp2_with fail
          go_quiet (fail)
          go_wp2_with fail
          have t9 := (t8.drewN nq).drew
          have rx9 : Row (wr.drewN nq).drew _ _ := rx
          have ry9 : Row (wr.drewN nq).drew _ _ := ry
          have rx1 := (rx9.same ((Same.refl _).alloc (.cells #[] 51))).cut q
          have ry1 := ry9.sub q
          go_region_held3 (fun w' => Same w w' ∧ Row w' (some ⟨b, o, none⟩) (w32 (stamp k n)) ∧ Row w' (some ⟨b', o', none⟩) (w32 (stamp l n)))
            (first | assumption | exact ⟨t9, rx9, ry9⟩ | exact ⟨t9.trans sb, rx9.same sb, ry9.same sb⟩ | exact ⟨t9.trans sa, rx9.same sa, ry9.same sa⟩ | (rcases ‹Same w _ ∧ _ ∧ _› with ⟨x1, x2, x3⟩; exact ⟨x1.alloc _, x2.same ((Same.refl _).alloc _), x3.same ((Same.refl _).alloc _)⟩) | trace_state)
            (first
              | (refine step_app (by rfl) (.tmp 79) (.tmp 82) 40 (by rfl) (wr.drewN nq).drew.heap.size 51 i0 _ 4 Tryd.underlying40 hi hz0 hz1 hz2 rfl _ 0 _ [] (by rfl) rfl (own_none (wr.drewN nq).drew 51) _ _ _ ((w32 (stamp k n)).take q) (by rfl) L1.out rx1 O1 (by rw [L1.out]; simp only [List.length_nil]; omega) (by omega) (by simp) ?_; intro A1 c1 wa oa ca _; have sa : Same (wr.drewN nq).drew wa := Same.more ((Same.refl _).alloc _) ca (fun g hg => by injection hg with hg; injection hg with hg; omega); clear ca)
              | (refine step_app (by rfl) (.tmp 83) (.tmp 86) 40 (by rfl) (wr.drewN nq).drew.heap.size 51 i0 _ 4 Tryd.underlying40 hi hz0 hz1 hz2 rfl A1 (0 + q) c1 ([] ++ (w32 (stamp k n)).take q) rfl L1'.out oa (some ⟨b', o' + q, none⟩) (n - q) (n - q) ((w32 (stamp l n)).drop q) rfl L2.out (ry1.same sa) O2 L3.out (by omega) sa.size ?_; intro A2 c2 wb ob cb _; have sb : Same (wr.drewN nq).drew wb := Same.more sa cb (fun g hg => own_at oa g hg); clear cb oa)
              | fail)
          rcases ‹Same w _ ∧ Row _ _ _ ∧ Row _ _ _› with ⟨x1, x2, x3⟩
          have hmx : Row wb A2 (w32 (mix k l n q)) := by
            have := ob.row
            rw [List.nil_append] at this
            have e : w32 (mix k l n q) = (w32 (stamp k n)).take q ++ (w32 (stamp l n)).drop q := by unfold mix w32; rw [List.map_append, List.map_take, List.map_drop]
            rw [e]
            exact this
          have ML := Lib.hid (show (mix k l n q).length = n from mix_len _ _ _ _ (by omega))
          clear ob sb sa t9 rx9 ry9 rx1 ry1 L1 L2 L1' L3 O1 O2
          go_wp2_with fail
          refine (unstamp_any A2 n c2 (mix k l n q) wb ML.out (by omega) hmx (mix_bd _ _ _ _)).mono ?_
          rintro e w10 ⟨rfl, s10⟩
          have t10 := x1.trans s10
          have rx10 := x2.same s10
          have ry10 := x3.same s10
          obtain ⟨bm, om, rfl, hm0⟩ := head_cell (hmx.same s10) (by intro h; have := ML.out; rw [h] at this; simp at this; omega)
          clear x1 x2 x3 s10 hmx
          have hkl2 : k = l := by simpa using HV.out.symm
          have hs := stamp_is k n hk (by omega) h8
          have e1 : isStamp (mix k l n q) = true := by rw [← hkl2, mix_same]; exact hs.1
          rw [e1]
          obtain ⟨z, hz⟩ : ∃ z, z = (mix k l n q).headD 0 := ⟨_, rfl⟩
          rw [← hz] at hm0 ⊢
          have hzz : (z != z) = false := by simp
          have hkl3 : (k != l) = false := by simp [hkl2]
          rw [if_pos rfl]
          clear hs e1 hz hkl2
          by_cases h0 : q = 0
          · subst h0
            go_wp2_with fail
            go_roundw
            case rel => exact ⟨0 + 1, by omega, by go_num, t10, rx10, ry10⟩
            case measure => simp [intOf]; omega
          · have hq0 : (0 : Int) < (q : Int) := by omega
            go_wp2_with fail
            go_roundw
            case rel => exact ⟨q + 1, by omega, by go_num, t10, rx10, ry10⟩
            case measure => simp [intOf]; omega
      · have hqe : q = n := by omega
        subst hqe
        go_wp2_with fail
        refine (rawake _).mono ?_
        rintro e w9 ⟨rfl, s9⟩
        go_wp2
        go_ret
        exact ⟨rfl, t8.trans s9⟩
end Go.Proofs.YtgpipfmgjbecjaaDoor.Rc
