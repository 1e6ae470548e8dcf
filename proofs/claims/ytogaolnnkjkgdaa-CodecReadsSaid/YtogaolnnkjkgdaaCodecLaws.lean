/-
  The walks of the laws CodecLays and CodecOwn: they return true whatever the bytes and the numbers are.
-/
import Derived.Test.YtogaolnnkjkgdaaCodecLay
namespace Go.Proofs.Ytogaolnnkjkgdaa.Cd
open Go.ChangeShapes Go.WideShapes Go.ChangeAt Go.RowKit Ws

/-- a slice of integers that came in, as the shell of the proof hands it over -/
def Came (k : IntKind) (w : World) (a : Option Addr) (len cap : Nat) (zs : List Int) : Prop :=
  (a = none ∧ len = 0 ∧ cap = 0 ∧ zs = []) ∨
  ∃ x, a = some x ∧ len ≤ cap ∧ cap ≤ maxLen ∧ zs.length = cap ∧ (∀ i, i < zs.length → w.cell? (x.add i) = some (.int k (zs.getD i 0))) ∧ ∀ n ∈ zs, (Lit.int k n).wf = true

theorem came_row {w : World} {a : Option Addr} {len cap : Nat} {zs : List Int} (h : Came .u8 w a len cap zs) :
    ∃ l : List Int, l.length = len ∧ Row w a (by8 l) ∧ By l ∧ len ≤ 9223372036854775807 := by
  rcases h with ⟨rfl, rfl, rfl, rfl⟩ | ⟨x, rfl, h1, h2, h3, h4, h5⟩
  · exact ⟨[], rfl, Row.nil _ _, fun x h => by simp at h, by omega⟩
  · refine ⟨zs.take len, by rw [List.length_take]; omega, ?_, ?_, by unfold maxLen at h2; omega⟩
    · intro j u hj
      unfold by8 at hj
      rw [List.getElem?_map, List.getElem?_take] at hj
      by_cases hlt : j < len
      · rw [if_pos hlt, List.getElem?_eq_getElem (by omega)] at hj
        simp at hj
        have hc := h4 j (by omega)
        obtain ⟨b, o, spot⟩ := x
        have hc0 := h4 0 (by omega)
        have hs : spot = none := by simpa [Addr.add] using World.cell?_spot hc0
        subst hs
        refine ⟨b, o, rfl, ?_⟩
        rw [← hj]
        have e : zs.getD j 0 = zs[j]'(by omega) := by simp [List.getD, List.getElem?_eq_getElem (show j < zs.length by omega)]
        rw [e] at hc
        cases j with
        | zero => simpa [Addr.add] using hc
        | succ j => simpa [Addr.add] using hc
      · rw [if_neg hlt] at hj
        cases hj
    · intro y hy
      have h := h5 y (List.mem_of_mem_take hy)
      simp only [Lit.wf, IntKind.min, IntKind.max, IntKind.signed, IntKind.bits, Bool.and_eq_true] at h
      simp at h
      omega

theorem low1 (x : Int) : low x 1 = [x % 256] := by simp [low, List.range_succ]
theorem low2 (x : Int) : low x 2 = [x % 256, x / 256 % 256] := by simp [low, List.range_succ]
theorem low4 (x : Int) : low x 4 = [x % 256, x / 256 % 256, x / 65536 % 256, x / 16777216 % 256] := by simp [low, List.range_succ]

/-- all that is laid by the three -/
def laid3 (n w : Int) : List Int := (low (n % 4294967296) 1 ++ low (n % 4294967296) 2) ++ low w 4
theorem laid3_len (n w : Int) : (laid3 n w).length = 7 := by simp [laid3, low_len]
theorem laid3_is (n w : Int) : laid3 n w = [n % 4294967296 % 256, n % 4294967296 % 256, n % 4294967296 / 256 % 256, w % 256, w / 256 % 256, w / 65536 % 256, w / 16777216 % 256] := by
  unfold laid3
  simp only [low1, low2, low4, List.cons_append, List.nil_append]
theorem by_app {a b : List Int} (ha : By a) (hb : By b) : By (a ++ b) := fun x hx => by
  rcases List.mem_append.1 hx with h | h
  · exact ha x h
  · exact hb x h
theorem laid3_by (n w : Int) : By (laid3 n w) := by_app (by_app (low_by _ _) (low_by _ _)) (low_by _ _)

theorem told1 (n w : Int) (l : List Int) : num (told (laid3 n w ++ l) 0 1 false) = n % 256 ∧ after (laid3 n w ++ l) 0 1 false = (1, false) := by
  unfold told after
  rw [laid3_is]
  simp [num]
theorem told2 (n w : Int) (l : List Int) : num (told (laid3 n w ++ l) 1 2 false) = n % 65536 ∧ after (laid3 n w ++ l) 1 2 false = (3, false) := by
  unfold told after
  rw [laid3_is]
  simp [num]
  omega
theorem told3 (n w : Int) (l : List Int) (hw : 0 ≤ w ∧ w < 4294967296) : num (told (laid3 n w ++ l) 3 4 false) = w ∧ after (laid3 n w ++ l) 3 4 false = (7, false) := by
  unfold told after
  rw [laid3_is]
  simp [num]
  omega
theorem told4 (n w : Int) (l : List Int) : told (laid3 n w ++ l) 7 l.length false = l ∧ after (laid3 n w ++ l) 7 l.length false = (7 + l.length, false) := by
  unfold told after
  have h := laid3_len n w
  rw [if_pos ⟨rfl, by rw [List.length_append]; omega⟩, if_pos ⟨rfl, by rw [List.length_append]; omega⟩]
  refine ⟨?_, rfl⟩
  rw [List.drop_append_of_le_length (by omega), List.drop_of_length_le (by omega), List.nil_append, List.take_length]

theorem big_any (A : Option Addr) (m c : Nat) (n x : Int) (w : World) (hm : 500 < m) :
    Calls Try.prog 7 #[.slice A m c, .int .i64 n, .int .u32 x] w fun e w' => e = .returned (.bool true) ∧ Same w w' := by
  have h1 : (500 : Int) < (m : Int) := by omega
  go_enter Try.func7, Try.ntmps7
  go_wp2_with fail
  refine (cawake _).mono ?_
  rintro e w1 ⟨rfl, s1⟩
  go_wp2
  go_ret
  exact ⟨rfl, s1⟩

set_option maxHeartbeats 1000000 in
set_option maxRecDepth 100000 in
theorem lays_small (A : Option Addr) (m c : Nat) (l : List Int) (n x : Int) (w : World) (hl : l.length = m) (hm : m ≤ 500) (hr : Row w A (by8 l)) (hb : By l) (hx : 0 ≤ x ∧ x < 4294967296) :
    Calls Try.prog 7 #[.slice A m c, .int .i64 n, .int .u32 x] w fun e w' => e = .returned (.bool true) ∧ Same w w' := by
  obtain ⟨i0, hi, hz0, hz1, hz2⟩ := info_parts u8_info
  have h1 : ¬ (500 : Int) < (m : Int) := by omega
  have HL := Lib.hid hl
  clear hl
  go_enter Try.func7, Try.ntmps7
  go_wp2_with fail
  refine (put8_any none 0 0 [] n w rfl (by omega) (Row.nil _ _)).mono ?_
  rintro e w1 ⟨A1, c1, rfl, o1, s1⟩
  rw [List.nil_append] at o1
  go_wp2_with fail
  refine (put16_any A1 1 c1 _ n w1 (low_len _ _) (by omega) o1.row).mono ?_
  rintro e w2 ⟨A2, c2, rfl, o2, s2⟩
  rw [low_len]
  have t2 := s1.trans s2
  go_wp2_with fail
  refine (put32_any A2 3 c2 _ x w2 (by simp [low_len]) (by omega) o2.row).mono ?_
  rintro e w3 ⟨A3, c3, rfl, o3, s3⟩
  rw [show (low (n % 4294967296) 1 ++ low (n % 4294967296) 2).length = 3 from by simp [low_len]]
  have t3 := t2.trans s3
  have r3 : Row w3 A3 (by8 (laid3 n x)) := o3.row
  clear o1 o2 o3 s1 s2 s3 t2
  go_wp2_with fail
  refine (put8_any A m c l n w3 HL.out (by omega) (hr.same t3)).mono ?_
  rintro e w4 ⟨A4, c4, rfl, o4, s4⟩
  rw [HL.out]
  go_wp2_with fail
  refine (rput_any A m c l (n % 4294967296) 1 w4 HL.out (by omega) (by omega) ((hr.same t3).same s4) (by omega)).mono ?_
  rintro e w5 ⟨A5, c5, rfl, o5, s5⟩
  rw [HL.out]
  have t5 := s4.trans s5
  go_wp2_with fail
  refine (bytes_eq A4 A5 (m + 1) (m + 1) c4 c5 _ _ w5 (by rw [List.length_append, low_len, HL.out]) (by rw [List.length_append, low_len, HL.out]) (o4.row.same s5) o5.row (by_app hb (low_by _ _)) (by_app hb (low_by _ _))).mono ?_
  rintro e w5' ⟨rfl, rfl⟩
  rw [decide_eq_true rfl]
  have v5 := t5
  have t5 := t3.trans t5
  clear o4 o5 s4 s5
  go_wp2_with fail
  refine (put16_any A m c l n w5 HL.out (by omega) (hr.same t5)).mono ?_
  rintro e w6 ⟨A6, c6, rfl, o6, s6⟩
  rw [HL.out]
  go_wp2_with fail
  refine (rput_any A m c l (n % 4294967296) 2 w6 HL.out (by omega) (by omega) ((hr.same t5).same s6) (by omega)).mono ?_
  rintro e w7 ⟨A7, c7, rfl, o7, s7⟩
  rw [HL.out]
  go_wp2_with fail
  refine (bytes_eq A6 A7 (m + 2) (m + 2) c6 c7 _ _ w7 (by rw [List.length_append, low_len, HL.out]) (by rw [List.length_append, low_len, HL.out]) (o6.row.same s7) o7.row (by_app hb (low_by _ _)) (by_app hb (low_by _ _))).mono ?_
  rintro e w7' ⟨rfl, rfl⟩
  rw [decide_eq_true rfl]
  have v7 := v5.trans (s6.trans s7)
  have t7 := t5.trans (s6.trans s7)
  clear o6 o7 s6 s7
  go_wp2_with fail
  refine (put32_any A m c l x w7 HL.out (by omega) (hr.same t7)).mono ?_
  rintro e w8 ⟨A8, c8, rfl, o8, s8⟩
  rw [HL.out]
  go_wp2_with fail
  refine (rput_any A m c l x 4 w8 HL.out (by omega) (by omega) ((hr.same t7).same s8) hx).mono ?_
  rintro e w9 ⟨A9, c9, rfl, o9, s9⟩
  rw [HL.out]
  go_wp2_with fail
  refine (bytes_eq A8 A9 (m + 4) (m + 4) c8 c9 _ _ w9 (by rw [List.length_append, low_len, HL.out]) (by rw [List.length_append, low_len, HL.out]) (o8.row.same s9) o9.row (by_app hb (low_by _ _)) (by_app hb (low_by _ _))).mono ?_
  rintro e w9' ⟨rfl, rfl⟩
  rw [decide_eq_true rfl]
  have t9 := t7.trans (s8.trans s9)
  have r9 := r3.same (v7.trans (s8.trans s9))
  have L7 := Lib.hid (show (by8 (laid3 n x)).length = 7 by rw [by8_len, laid3_len])
  have LM := Lib.hid (show (by8 l).length = m by rw [by8_len, HL.out])
  clear o8 o9 s8 s9 t5 t7 v5 v7 r3
  go_wp2_with (first
    | (at_builtin; refine wpList_app rfl (.tmp 49) (.tmp 50) 27 rfl w9.heap.size 5 i0 _ 1 Try.underlying27 hi hz0 hz1 hz2 rfl _ _ _ [] rfl rfl (own_none w9 5) A3 7 c3 (by8 (laid3 n x)) rfl L7.out (r9.same ((Same.refl _).alloc _)) (by8_one _) (by simp [L7.out]) (by omega) (by simp) ?k1)
    | fail)
  case k1 =>
    intro Aa ca wa oa ha _
    have ta : Same w9 wa := Same.more ((Same.refl w9).alloc (.cells #[] 5)) ha (fun i hi => by
      have hi : w9.heap.size = i := by simpa using hi
      omega)
    clear ha
    go_wp2_with (first
      | (at_builtin; refine wpList_app rfl (.tmp 51) (.tmp 52) 27 rfl w9.heap.size 5 i0 _ 1 Try.underlying27 hi hz0 hz1 hz2 rfl Aa 7 ca (by8 (laid3 n x)) rfl L7.out oa A m c (by8 l) rfl LM.out ((hr.same t9).same ta) (by8_one _) (by rw [L7.out, LM.out]; omega) (by omega) ta.size ?k2)
      | fail)
    case k2 =>
      intro Ab cb wb ob hb2 _
      have tb : Same w9 wb := Same.more ta hb2 fun g hg => by
        have hg : Aa = some ⟨g, 0, none⟩ := hg
        subst hg
        exact (own_lt oa).1
      clear hb2
      rw [← by8_app] at ob
      have t10 := t9.trans tb
      have ll : (laid3 n x ++ l).length = 7 + m := by rw [List.length_append, laid3_len, HL.out]
      have LL := Lib.hid ll
      clear ll
      go_wp2_with fail
      refine (new_any Ab (7 + m) cb (laid3 n x ++ l) wb LL.out (by omega) ob.row).mono ?_
      rintro e wc ⟨g, rfl, sc, dc⟩
      have bb : By (laid3 n x ++ l) := by_app (laid3_by _ _) hb
      have t11 := t10.trans sc
      have gs := t10.size
      have hB : ∀ {w1 w2 : World}, Same w w1 → Chg (fun i => wb.heap.size ≤ i) w1 w2 → Same w w2 := fun s c => Same.more s c fun i hi => Nat.le_trans gs hi
      have hw16 : wrap64 (IntKind.u16.wrap n) = n % 65536 := by
        rw [IntKind.wrap_u16]
        exact Go.IntWalk.wrap64_in _ (by omega)
      go_wp2_with fail
      refine (u8_any _ dc bb).mono ?_
      rintro e wd ⟨rfl, dd, cd⟩
      rw [(told1 n x l).1]
      rw [(told1 n x l).2] at dd
      have t12 := hB t11 cd
      go_wp2_with fail
      refine (u16_any _ dd bb).mono ?_
      rintro e we ⟨rfl, de, ce⟩
      rw [(told2 n x l).1]
      rw [(told2 n x l).2] at de
      have t13 := hB t12 ce
      go_wp2_with fail
      refine (u32_any _ de bb).mono ?_
      rintro e wf ⟨rfl, df, cf⟩
      rw [(told3 n x l hx).1]
      rw [(told3 n x l hx).2] at df
      have t14 := hB t13 cf
      go_wp2_with fail
      refine (bytes_any m _ df).mono ?_
      rintro e wg ⟨Ag, mg, cg, rfl, hmg, og, dg, kg⟩
      rw [show m = l.length from HL.out.symm, (told4 n x l).2] at dg
      have eg : told (laid3 n x ++ l) 7 m false = l := by rw [show m = l.length from HL.out.symm]; exact (told4 n x l).1
      rw [eg] at hmg og
      have t15 := hB t14 kg
      have HMG := Lib.hid hmg
      clear hmg eg
      go_wp2_with fail
      refine (bytes_eq Ag A mg m cg c l l wg HMG.out HL.out og.row (hr.same t15) hb hb).mono ?_
      rintro e wg' ⟨rfl, rfl⟩
      rw [decide_eq_true rfl]
      go_wp2_with fail
      refine (done_is _ dg).mono ?_
      rintro e wh ⟨rfl, sh⟩
      have ed : doneOf (laid3 n x ++ l) (7 + l.length, false).1 (7 + l.length, false).2 = 0 := by
        unfold doneOf
        rw [if_neg (by simp), if_neg (by rw [List.length_append, laid3_len]; exact Nat.lt_irrefl _)]
      rw [ed]
      have t16 := t15.trans sh
      go_wp2_with fail
      refine (cawake _).mono ?_
      rintro e wi ⟨rfl, si⟩
      go_wp2
      go_ret
      exact ⟨rfl, t16.trans si⟩

theorem lays_walk (A : Option Addr) (m c : Nat) (zs : List Int) (n x : Int) (w : World) (h : Came .u8 w A m c zs) (wx : (Lit.int .u32 x).wf = true) :
    Calls Try.prog 7 #[.slice A m c, .int .i64 n, .int .u32 x] w fun e w' => e = .returned (.bool true) ∧ Below w.heap.size w w' := by
  obtain ⟨l, hl, hr, hb, _⟩ := came_row h
  have hx : 0 ≤ x ∧ x < 4294967296 := by
    simp only [Lit.wf, IntKind.min, IntKind.max, IntKind.signed, IntKind.bits, Bool.and_eq_true] at wx
    simp at wx
    omega
  by_cases hm : m ≤ 500
  · exact (lays_small A m c l n x w hl hm hr hb hx).mono fun e w' ⟨he, hs⟩ => ⟨he, hs.below⟩
  · exact (big_any A m c n x w (by omega)).mono fun e w' ⟨he, hs⟩ => ⟨he, hs.below⟩

end Go.Proofs.Ytogaolnnkjkgdaa.Cd
