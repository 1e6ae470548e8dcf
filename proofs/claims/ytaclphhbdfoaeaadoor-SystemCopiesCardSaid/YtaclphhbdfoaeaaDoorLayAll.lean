/-

  Layer 31: a copy of regions, where they end, and where all of a system stands (layout.Of).
-/
import Derived.Test.YtaclphhbdfoaeaaDoorLayOf
import Derived.Laws.Rows
import Derived.WalkSpells
import Derived.StillTailTactics
section
set_option linter.unusedVariables false
set_option linter.unusedSimpArgs false
namespace Go.Proofs.YtaclphhbdfoaeaaDoor.Ly
open Go.ChangeShapes Go.WideShapes Go.ChangeAt Go.RowKit Ws

def sumL (l : List Int) : Int := l.foldr (· + ·) 0
def cutG (at_ : Int) : List Int → List (Int × Int)
  | [] => []
  | x :: l => (at_, x) :: cutG (at_ + x) l
def cutL (l : List Int) : List (Int × Int) := cutG 0 l
theorem cutG_len (l : List Int) : ∀ a, (cutG a l).length = l.length := by
  induction l with
  | nil => intro a; rfl
  | cons x l ih => intro a; simp [cutG, ih]
theorem cutG_get (l : List Int) : ∀ (a : Int) (k : Nat) (x : Int), l[k]? = some x → (cutG a l)[k]? = some (a + sumL (l.take k), x) := by
  induction l with
  | nil => intro a k x h; simp at h
  | cons y l ih =>
    intro a k x h
    cases k with
    | zero =>
      simp at h
      subst h
      simp [cutG, sumL]
    | succ k =>
      simp at h
      simp only [cutG, List.getElem?_cons_succ, List.take_succ_cons]
      rw [ih (a + y) k x h]
      simp [sumL]
      omega
theorem sum_app (a b : List Int) : sumL (a ++ b) = sumL a + sumL b := by
  unfold sumL
  induction a with
  | nil => simp
  | cons x a ih => simp only [List.cons_append, List.foldr_cons]; rw [ih]; omega
theorem sum_next {l : List Int} {k : Nat} {x : Int} (h : l[k]? = some x) : sumL (l.take (k + 1)) = sumL (l.take k) + x := by
  rw [List.take_add_one, h, sum_app]
  simp [sumL]
theorem sum_pos {l : List Int} (h : ∀ x ∈ l, 0 ≤ x) : 0 ≤ sumL l := by
  induction l with
  | nil => exact Int.le_refl _
  | cons x l ih =>
    have h1 := h x (by simp)
    have h2 := ih (fun y hy => h y (by simp [hy]))
    show 0 ≤ x + sumL l
    omega
theorem sum_take_le {l : List Int} (h : ∀ x ∈ l, 0 ≤ x) (k : Nat) : sumL (l.take k) ≤ sumL l := by
  have h1 : sumL l = sumL (l.take k) + sumL (l.drop k) := by rw [← sum_app, List.take_append_drop]
  have h2 := sum_pos (l := l.drop k) (fun x hx => h x (List.mem_of_mem_drop hx))
  omega
/-- the cells of regions -/
def rC (l : List (Int × Int)) : List Value := l.flatMap fun r => [.int .i64 r.1, .int .i64 r.2]
theorem rC_app (a b : List (Int × Int)) : rC (a ++ b) = rC a ++ rC b := by unfold rC; rw [List.flatMap_append]
theorem rC_len (l : List (Int × Int)) : (rC l).length = l.length * 2 := by
  induction l with
  | nil => rfl
  | cons x l ih => rw [show x :: l = [x] ++ l from rfl, rC_app, List.length_append, ih]; simp [rC]; omega
theorem rC_get : ∀ (l : List (Int × Int)) (k : Nat) (s : Int × Int), l[k]? = some s → (rC l)[k * 2]? = some (.int .i64 s.1) ∧ (rC l)[k * 2 + 1]? = some (.int .i64 s.2)
  | [], k, s, h => by simp at h
  | x :: l, 0, s, h => by
    simp at h
    subst h
    exact ⟨rfl, rfl⟩
  | x :: l, k + 1, s, h => by
    simp at h
    obtain ⟨h1, h2⟩ := rC_get l k s h
    have e1 : (k + 1) * 2 = k * 2 + 1 + 1 := by omega
    rw [e1]
    constructor
    · show (rC l)[k * 2]? = _
      exact h1
    · show (rC l)[k * 2 + 1]? = _
      exact h2
theorem regs_of {w : World} {A : Option Addr} {l : List (Int × Int)} (h : Row w A (rC l)) : Regs w A l := by
  intro k r hk
  obtain ⟨h1, h2⟩ := rC_get l k r hk
  obtain ⟨b, o, hA, c1⟩ := h _ _ h1
  obtain ⟨b', o', hA', c2⟩ := h _ _ h2
  rw [hA] at hA'
  injection hA' with hA'
  injection hA' with e1 e2
  subst e1 e2
  exact ⟨b, o, hA, c1, c2⟩
/-- so many places, the first of which are cut -/
def placeF (l : List Int) (k i : Nat) : Int := if i / 2 < k then (if i % 2 = 0 then sumL (l.take (i / 2)) else l.getD (i / 2) 0) else 0
def cutA (l : List Int) (k : Nat) : Array Value := ((List.range (l.length * 2)).map fun i => Value.int .i64 (placeF l k i)).toArray
theorem cutA_zero (l : List Int) : cutA l 0 = ((List.range (l.length * 2)).map fun _ => Value.int .i64 0).toArray := by
  unfold cutA placeF
  simp
theorem cutA_set {l : List Int} {k : Nat} {x : Int} (h : l[k]? = some x) : ((cutA l k).setIfInBounds (k * 2) (.int .i64 (sumL (l.take k)))).setIfInBounds (k * 2 + 1) (.int .i64 x) = cutA l (k + 1) := by
  have hk : k < l.length := by
    rcases Nat.lt_or_ge k l.length with h1 | h1
    · exact h1
    · rw [List.getElem?_eq_none h1] at h; cases h
  have hx : l.getD k 0 = x := by rw [List.getD_eq_getElem?_getD, h]; rfl
  apply Array.ext'
  rw [Array.toList_setIfInBounds, Array.toList_setIfInBounds]
  unfold cutA
  simp only [List.toList_toArray]
  apply List.ext_getElem?
  intro i
  rw [List.getElem?_set, List.getElem?_set, List.getElem?_map, List.getElem?_map]
  simp only [List.length_set, List.length_map, List.length_range]
  by_cases e1 : k * 2 + 1 = i
  · subst e1
    rw [if_pos rfl, if_pos (by omega), List.getElem?_range (by omega)]
    simp only [Option.map_some]
    unfold placeF
    rw [if_pos (by omega), if_neg (by omega), show (k * 2 + 1) / 2 = k by omega, hx]
  · rw [if_neg e1]
    by_cases e2 : k * 2 = i
    · subst e2
      rw [if_pos rfl, if_pos (by omega), List.getElem?_range (by omega)]
      simp only [Option.map_some]
      unfold placeF
      rw [if_pos (by omega), if_pos (by omega), show k * 2 / 2 = k by omega]
    · rw [if_neg e2]
      by_cases hi : i < l.length * 2
      · rw [List.getElem?_range hi]
        simp only [Option.map_some]
        unfold placeF
        by_cases e3 : i / 2 < k
        · simp only [if_pos e3, if_pos (show i / 2 < k + 1 by omega)]
        · simp only [if_neg e3, if_neg (show ¬ i / 2 < k + 1 by omega)]
      · rw [List.getElem?_eq_none (by simpa using Nat.le_of_not_lt hi)]
        rfl
theorem cutA_end (l : List Int) : cutA l l.length = (rC (cutL l)).toArray := by
  unfold cutA
  congr 1
  apply List.ext_getElem?
  intro i
  by_cases hi : i < l.length * 2
  · have hk : i / 2 < l.length := by omega
    obtain ⟨x, hx⟩ : ∃ x, l[i / 2]? = some x := ⟨_, List.getElem?_eq_getElem hk⟩
    have hg := cutG_get l 0 (i / 2) x hx
    obtain ⟨h1, h2⟩ := rC_get (cutL l) (i / 2) _ hg
    rw [List.getElem?_map, List.getElem?_range hi]
    simp only [Option.map_some]
    unfold placeF
    rw [if_pos hk]
    by_cases h0 : i % 2 = 0
    · rw [if_pos h0]
      rw [show i / 2 * 2 = i by omega] at h1
      rw [h1]
      simp
    · rw [if_neg h0]
      rw [show i / 2 * 2 + 1 = i by omega] at h2
      rw [h2, List.getD_eq_getElem?_getD, hx]
      rfl
  · rw [List.getElem?_eq_none (by simpa using Nat.le_of_not_lt hi), List.getElem?_eq_none (by rw [rC_len]; unfold cutL; rw [cutG_len]; omega)]

/-! ### the contracts -/
theorem region_info : (Tryd.prog.info? 85).map (fun i => (i.zero, i.size, i.bytes)) = some (some (.agg #[.int .i64 0, .int .i64 0]), 2, 16) := by kernel_rfl
def zerosR (n : Nat) : Array Value := madeCells (Value.agg #[.int .i64 0, .int .i64 0]).cells (n * 2)
theorem zeros_reg (l : List Int) : zerosR l.length = cutA l 0 := by
  rw [cutA_zero]
  unfold zerosR madeCells
  apply Array.ext'
  apply List.ext_getElem
  · simp
  · intro i h1 h2
    simp [Value.cells]
    show [Value.int IntKind.i64 0, Value.int IntKind.i64 0][i % 2]?.getD default = _
    rcases (show i % 2 = 0 ∨ i % 2 = 1 by omega) with h | h
    all_goals
      rw [h]
      rfl
theorem makeR (n : Nat) (hn : n ≤ 10000) (W : World) : (Instr.makeSlice 65 (.int .i64 (n : Int)) (.int .i64 (n : Int))).run Tryd.prog W = .ok (.slice (some ⟨W.heap.size, 0, none⟩) n n) (W.alloc (.cells (zerosR n) 85)) := by
  obtain ⟨i0, hi, hz0, hz1, hz2⟩ := info_parts region_info
  have h := run_make (P := Tryd.prog) W 65 85 i0 _ Tryd.underlying65 hi hz0 .i64 .i64 n n (by omega) (by omega) (by rw [hz2]; omega) (by omega)
  rw [hz1, Int.toNat_natCast] at h
  exact h
/-- what comes of a cut -/
def CutP (w : World) (l : List Int) (e : Ending) (w' : World) : Prop :=
  if sumL l ≤ 4096 then ∃ g, e = .returned (.tuple #[.slice (some ⟨g, 0, none⟩) l.length l.length, .int .i64 0]) ∧ Row w' (some ⟨g, 0, none⟩) (rC (cutL l)) ∧ w.heap.size ≤ g ∧ Same w w'
  else e = .returned (.tuple #[.slice none 0 0, .int .i64 6]) ∧ Same w w'
theorem cut_ok {w w' : World} {l : List Int} {g n : Nat} (hn : n = l.length) (h : sumL l ≤ 4096) (hr : Row w' (some ⟨g, 0, none⟩) (rC (cutL l))) (hg : w.heap.size ≤ g) (hs : Same w w') : CutP w l (.returned (.tuple #[.slice (some ⟨g, 0, none⟩) n n, .int .i64 0])) w' := by
  subst hn
  unfold CutP
  rw [if_pos h]
  exact ⟨g, rfl, hr, hg, hs⟩
theorem cut_room {w w' : World} {l : List Int} (h : ¬ sumL l ≤ 4096) (hs : Same w w') : CutP w l (.returned (.tuple #[.slice none 0 0, .int .i64 6])) w' := by
  unfold CutP
  rw [if_neg h]
  exact ⟨rfl, hs⟩
theorem blk_row {w : World} {g : Nat} {T : TypeId} {cs : List Value} (h : Blk w g T cs.toArray) : Row w (some ⟨g, 0, none⟩) cs := by
  intro j u hj
  refine ⟨g, 0, rfl, ?_⟩
  rw [Nat.zero_add, h.cell j, List.getElem?_toArray]
  exact hj
set_option maxRecDepth 100000 in
theorem cut_any (A : Option Addr) (n c : Nat) (l : List Int) (w : World) (hn : l.length = n) (hm : n ≤ 10000) (hl : ∀ x ∈ l, 0 ≤ x ∧ x ≤ 1000000) (hr : Row w A (l.map (Value.int .i64))) :
    Calls Tryd.prog 51 #[.int .i64 4096, .slice A n c] w (CutP w l) := by
  have HN := Lib.hid hn
  have HL := Lib.hid hl
  have HR := Lib.hid hr
  clear hn hl hr
  go_enter Tryd.func51, Tryd.ntmps51
  go_wp2_with fail
  go_loopg [14] n (fun gk iv wx => ∃ k : Nat, k + gk = n ∧ iv = .int .i64 k ∧ Same w wx)
  case atStart => exact ⟨0, by omega, rfl, Same.refl _⟩
  case round =>
    obtain ⟨k, hk, rfl, sx⟩ := hrel
    have HS := Lib.hid sx
    clear sx
    cases gk with
    | zero =>
      obtain rfl : n = k := by omega
      have hge : ¬ (n : Int) < (n : Int) := by omega
      have MK := fun W => makeR n hm W
      go_wp2_with fail
      have hq0 := Blk.new wr 85 (zerosR n)
      rw [show zerosR n = cutA l 0 by rw [← HN.out]; exact zeros_reg l] at hq0 ⊢
      have HS1 := Lib.hid (HS.out.alloc (.cells (cutA l 0) 85))
      have HB0 := Lib.hid hq0
      have HGQ := Lib.hid (show w.heap.size ≤ wr.heap.size from HS.out.size)
      clear hq0 MK
      generalize wr.heap.size = q at *
      generalize wr.alloc (.cells (cutA l 0) 85) = w1 at *
      go_loopg [28, 9] n (fun gk iv av wx => ∃ k : Nat, k + gk = n ∧ iv = .int .i64 k ∧ av = .int .i64 (sumL (l.take k)) ∧ 0 ≤ sumL (l.take k) ∧ sumL (l.take k) ≤ 4096 ∧ Blk wx q 85 (cutA l k) ∧ Same w wx)
      case atStart => exact ⟨0, by omega, rfl, rfl, by simp [sumL], by simp [sumL], HB0.out, HS1.out⟩
      case round =>
        obtain ⟨k, hk, rfl, rfl, h0, h1, hb, sx⟩ := hrel
        have HB := Lib.hid hb
        have HX := Lib.hid sx
        clear hb sx
        cases gk with
        | zero =>
          obtain rfl : n = k := by omega
          have hge : ¬ (n : Int) < (n : Int) := by omega
          have hsum : sumL l ≤ 4096 := by
            have e : l.take n = l := List.take_of_length_le (by have := HN.out; omega)
            rw [e] at h1
            exact h1
          have HSU := Lib.hid hsum
          have hB := HB.out
          rw [← HN.out, cutA_end] at hB
          have HRW := Lib.hid (blk_row hB)
          clear hsum hB h0 h1
          generalize sumL (l.take n) = sm at *
          go_wp2_with fail
          go_ret2
          exact cut_ok HN.out.symm HSU.out HRW.out HGQ.out HX.out
        | succ GK =>
          have hlt : (k : Int) < n := by omega
          have k0 : (0 : Int) ≤ k := by omega
          have hkn : k < n := by omega
          obtain ⟨x, hx⟩ : ∃ x, l[k]? = some x := ⟨_, List.getElem?_eq_getElem (by have := HN.out; omega)⟩
          obtain ⟨hx0, hx1⟩ := HL.out x (List.mem_of_getElem? hx)
          obtain ⟨b, o, rfl, cx⟩ := HR.out k (.int .i64 x) (by rw [List.getElem?_map, hx]; rfl)
          have cx := HX.out.cell cx
          have hnx := sum_next hx
          have HNX := Lib.hid hnx
          have hst := cutA_set hx
          have HST := Lib.hid hst
          have hle := sum_take_le (fun y hy => (HL.out y hy).1) (k + 1)
          rw [hnx] at hle
          have HLE := Lib.hid hle
          clear hnx hst hle hx
          by_cases hro : x > 4096 - sumL (l.take k)
          · have HRO := Lib.hid (show ¬ sumL l ≤ 4096 by have := HLE.out; omega)
            generalize sumL (l.take k) = sm at *
            go_wp2_with fail
            go_ret2
            exact cut_room (by have := HRO.out; omega) HX.out
          · have hro2 : ¬ 4096 - sumL (l.take k) < x := by omega
            have hcs : (cutA l k).size = n * 2 := by have := HN.out; simp [cutA, this]
            obtain ⟨u0, hu0⟩ : ∃ u, (cutA l k)[k * 2]? = some u := ⟨_, Array.getElem?_eq_getElem (by omega)⟩
            obtain ⟨u1, hu1⟩ : ∃ u, (cutA l k)[k * 2 + 1]? = some u := ⟨_, Array.getElem?_eq_getElem (by omega)⟩
            have c0 := (HB.out.cell (k * 2)).trans hu0
            have c1 := (HB.out.cell (k * 2 + 1)).trans hu1
            have t0 := HB.out.thaw (k * 2)
            have t1 := HB.out.thaw (k * 2 + 1)
            have hb2 := (HB.out.put (k * 2) (.int .i64 (sumL (l.take k)))).put (k * 2 + 1) (.int .i64 x)
            rw [HST.out] at hb2
            have HB2 := Lib.hid hb2
            have HX2 := Lib.hid ((HX.out.set (p := ⟨q, k * 2, none⟩) (.inr HGQ.out) (.int .i64 (sumL (l.take k)))).set (p := ⟨q, k * 2 + 1, none⟩) (.inr HGQ.out) (.int .i64 x))
            clear hb2 hu0 hu1 hcs
            generalize sumL (l.take k) = sm at *
            go_wp2_with fail
            go_roundg GK
            case rel => exact ⟨k + 1, by omega, by go_num, by rw [HNX.out], by rw [HNX.out]; omega, by rw [HNX.out]; omega, HB2.out, HX2.out⟩
            case measure => omega
    | succ GK =>
      have hlt : (k : Int) < n := by omega
      have k0 : (0 : Int) ≤ k := by omega
      obtain ⟨x, hx⟩ : ∃ x, l[k]? = some x := ⟨_, List.getElem?_eq_getElem (by have := HN.out; omega)⟩
      obtain ⟨hx0, hx1⟩ := HL.out x (List.mem_of_getElem? hx)
      obtain ⟨b, o, rfl, cx⟩ := HR.out k (.int .i64 x) (by rw [List.getElem?_map, hx]; rfl)
      have cx := HS.out.cell cx
      have hneg : ¬ x < 0 := by omega
      clear hx
      go_wp2_with fail
      go_roundg GK
      case rel => exact ⟨k + 1, by omega, by go_num, HS.out⟩
      case measure => omega

end Go.Proofs.YtaclphhbdfoaeaaDoor.Ly
end
section
set_option linter.unusedVariables false
set_option linter.unusedSimpArgs false
namespace Go.Proofs.YtaclphhbdfoaeaaDoor.Ly
open Go.ChangeShapes Go.WideShapes Go.ChangeAt Go.RowKit Ws

theorem rC_one (l : List (Int × Int)) : ∀ u ∈ rC l, u.oneCell' = true := by
  intro u hu
  unfold rC at hu
  obtain ⟨r, _, hr⟩ := List.mem_flatMap.1 hu
  simp at hr
  rcases hr with rfl | rfl <;> rfl
def CloneP (w : World) (l : List (Int × Int)) (e : Ending) (w' : World) : Prop := ∃ A c, e = .returned (.slice A l.length c) ∧ (∀ b o, A = some ⟨b, o, none⟩ → w.heap.size ≤ b) ∧ Row w' A (rC l) ∧ Same w w'
theorem clone_mk {w w' : World} {l : List (Int × Int)} {A : Option Addr} {B n c : Nat} (hn : n = l.length) (ho : OwnK w' B 85 2 A n c (rC l)) (hB : w.heap.size ≤ B) (hs : Same w w') : CloneP w l (.returned (.slice A n c)) w' := by
  subst hn
  refine ⟨A, c, rfl, ?_, ho.row, hs⟩
  intro b o hA
  subst hA
  rcases ho.2 with ⟨h2, _⟩ | ⟨g2, cap, cur, hv, hb2, hg, _⟩
  · cases h2
  · injection hv with hv
    injection hv with hv
    injection hv with hv
    omega
theorem rC_take (l : List (Int × Int)) (n : Nat) : (rC l).take (n * 2) = rC (l.take n) := by
  induction l generalizing n with
  | nil => simp [rC]
  | cons x l ih =>
    cases n with
    | zero => simp [rC]
    | succ n =>
      rw [show (n + 1) * 2 = n * 2 + 1 + 1 by omega]
      show Value.int .i64 x.1 :: Value.int .i64 x.2 :: (rC l).take (n * 2) = Value.int .i64 x.1 :: Value.int .i64 x.2 :: rC (l.take n)
      rw [ih]
theorem rC_drop (l : List (Int × Int)) (n : Nat) : (rC l).drop (n * 2) = rC (l.drop n) := by
  induction l generalizing n with
  | nil => simp [rC]
  | cons x l ih =>
    cases n with
    | zero => simp [rC]
    | succ n =>
      rw [show (n + 1) * 2 = n * 2 + 1 + 1 by omega]
      show (rC l).drop (n * 2) = rC (l.drop n)
      rw [ih]
set_option maxRecDepth 100000 in
theorem clone_any (ad : Addr) (n c : Nat) (l : List (Int × Int)) (w : World) (hn : l.length = n) (hm : n ≤ 10000) (hr : Row w (some ad) (rC l)) :
    Calls Tryd.prog 52 #[.slice (some ad) n c] w (CloneP w l) := by
  obtain ⟨i0, hi, hz0, hz1, hz2⟩ := info_parts region_info
  have HN := Lib.hid hn
  have HR := Lib.hid hr
  clear hn hr
  have hq : ∀ (w : World) (a : Option Addr) (n c n' c' : Nat), (binOp .eql 65 (.slice a n c) (.slice none n' c')).run Tryd.prog w = .ok (.bool a.isNone) w := fun w a n c n' c' => Lib.run_eql_slice_nil w _ _ a n c n' c' Tryd.underlying65
  go_enter Tryd.func52, Tryd.ntmps52
  go_wp2_with (at_builtin; go_loud (refine wpList_appK rfl (.tmp 5) (.tmp 6) 65 rfl w.heap.size 85 i0 _ 2 16 Tryd.underlying65 hi hz0 hz1 hz2 rfl (by omega) (some ⟨w.heap.size, 0, none⟩) 0 0 [] rfl (World.ownsRow_made w #[] 0 (Nat.le_refl _) (Nat.zero_le _) rfl) ad n c (rC l) rfl ?c1 (HR.out.same ((Same.refl _).alloc _)) (rC_one l) (by omega) (by omega) (by simp) ?_))
  case c1 => rw [rC_len, HN.out]
  intro A2 c2 w2 ho2 hc2
  have HS2 := Lib.hid (Same.more ((Same.refl w).alloc (.cells #[] 85)) hc2 fun g hg => by
    have hg : w.heap.size = g := by
      first
        | exact hg
        | (have hg : (some ⟨w.heap.size, 0, none⟩ : Option Addr) = some ⟨g, 0, none⟩ := hg
           injection hg with hg
           injection hg)
    omega)
  have HO2 := Lib.hid ho2
  clear ho2 hc2
  go_wp2_with fail
  go_ret
  exact clone_mk (B := w.heap.size) (by have := HN.out; omega) (by have h := HO2.out; simpa using h) (Nat.le_refl _) HS2.out
/-- where regions end -/
def endF (l : List (Int × Int)) : Int := match l.getLast? with
  | none => 0
  | some r => r.1 + r.2
set_option maxRecDepth 100000 in
theorem end_any (A : Option Addr) (n c : Nat) (l : List Int) (w : World) (hn : l.length = n) (hm : n ≤ 10000) (h0 : ∀ x ∈ l, 0 ≤ x) (h4 : sumL l ≤ 4096) (hr : Row w A (rC (cutL l))) :
    Calls Tryd.prog 53 #[.slice A n c] w fun e w' => e = .returned (.int .i64 (sumL l)) ∧ Same w w' := by
  by_cases hz : n = 0
  · have hl : l = [] := List.eq_nil_of_length_eq_zero (by omega)
    subst hl
    subst hz
    clear hn hr h0 h4
    go_enter Tryd.func53, Tryd.ntmps53
    go_wp2_with fail
    go_ret
    exact ⟨rfl, Same.refl _⟩
  · obtain ⟨k, rfl⟩ : ∃ k, n = k + 1 := ⟨n - 1, by omega⟩
    obtain ⟨x, hx⟩ : ∃ x, l[k]? = some x := ⟨_, List.getElem?_eq_getElem (by omega)⟩
    have hg := cutG_get l 0 k x hx
    obtain ⟨b, o, rfl, c1, c2⟩ := regs_of hr k _ hg
    have hs := sum_next hx
    have ht : l.take (k + 1) = l := List.take_of_length_le (by omega)
    rw [ht] at hs
    have hp := sum_pos (l := l.take k) (fun y hy => h0 y (List.mem_of_mem_take hy))
    have hx0 := h0 x (List.mem_of_getElem? hx)
    simp only [Int.zero_add] at c1 c2
    have HS := Lib.hid hs
    have k0 : (0 : Int) ≤ k := by omega
    have ek : ((k + 1 : Nat) : Int) - 1 = k := by omega
    have hkb : ((((k + 1 : Nat) : Int)) == 0) = false := by simp; omega
    clear hr h0 hg hx ht hn hz
    generalize sumL (l.take k) = sm at *
    have hb4 : sm + x ≤ 4096 := by omega
    clear hs h4
    go_enter Tryd.func53, Tryd.ntmps53
    go_wp2_with fail
    go_ret
    exact ⟨ret_int HS.out.symm, (Same.refl _).alloc _⟩

end Go.Proofs.YtaclphhbdfoaeaaDoor.Ly
end
