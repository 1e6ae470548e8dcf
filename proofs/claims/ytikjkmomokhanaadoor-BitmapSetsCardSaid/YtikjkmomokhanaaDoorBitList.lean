/-

  Sets of numbers (layer 3): all of them in order, of the package and of the document; the document's own pick; the chapter's example.
-/
import Derived.Test.YtikjkmomokhanaaDoorBitSets
import Derived.Test.YtikjkmomokhanaaDoorBitCount
import Derived.RangeFuncWrites
set_option linter.unusedVariables false
set_option linter.unusedSimpArgs false
namespace Go.Proofs.YtikjkmomokhanaaDoor.Be
open Go.ChangeShapes Go.WideShapes Go.ChangeAt Go.RowKit Ws
open Go.Shelf
open Go.Proofs.YtikjkmomokhanaaDoor.Bo
open Go.Proofs.YtikjkmomokhanaaDoor.Od
attribute [local go_sem] Oper.semAt_some

theorem own_of_row {w : World} {B : Nat} {e : TypeId} {v : Value} {n : Nat} {l : List Value} (h : w.ownsRow B e 1 v n l) (hn : l.length = n) : ∃ A c, v = .slice A n c ∧ Ws.Own w B e A c l := by
  subst hn
  have h0 := h
  rcases h.2 with ⟨hv, hz⟩ | ⟨g2, cap, cur, hv, _⟩
  · subst hv
    rw [hz] at h0 ⊢
    exact ⟨none, 0, rfl, by unfold Ws.Own; rw [hz]; exact h0⟩
  · subst hv
    exact ⟨_, _, rfl, h0⟩

set_option maxRecDepth 100000 in
set_option maxHeartbeats 2000000 in
theorem list_in (m : Nat) (w : World) (hm : m < 18446744073709551616) (hT : TZ w) :
    CallsIn Fence.wide 6 Tryd.prog 12 #[.int .u64 (m : Int)] w fun e w' =>
      ∃ v, e = .returned v ∧ w'.ownsRow w.heap.size 3 1 v (bitsL m).length ((bitsL m).map fun i : Nat => Value.int .i64 (i : Int)) ∧ Below w.heap.size w w' := by
  have h1 : 1 ≤ 6 := by omega
  have hro : Fence.wide.round = none := rfl
  have h64 := bitsL_len hm
  have hml : (64 : Nat) ≤ maxLen := by decide
  obtain ⟨i0, hi, hz0, hz1, hz2⟩ := info_parts int_info
  refine callsIn_of_wp_marks Tryd.func12 rfl trivial ?_ hro
  simp only [Tryd.ntmps12, List.size_toArray, List.length_cons, List.length_nil, Nat.reduceAdd, Nat.reduceSub, Array.replicate_succ, Array.replicate_zero, List.push_toArray, List.append_toArray, List.nil_append, List.cons_append]
  have EA := fun W => each_any m hm W
  gi_wp2_with (refine ⟨trivial, ?_⟩; gi_at_call 42; refine (callsIn_wide.2 (EA _)).mono ?_; rintro e w' ⟨rfl, t, rfl⟩)
  have bO := Boxed.new w 23 (.slice none 0 0)
  have hB0 : Below w.heap.size w ((w.alloc (.cells #[.slice none 0 0] 23)).alloc (.cells #[.int .u64 (m : Int)] t)) := ((Below.refl _ w).alloc (Nat.le_refl _) _).alloc (by simp) _
  have hTl : 0 < w.heap.size := hT.lt
  have cM := cnew (w.alloc (.cells #[.slice none 0 0] 23)) (.int .u64 (m : Int)) t
  rw [World.size_alloc] at cM
  refine wpIn_rangeFunc_ownG hro h1 (gf := 63) (lb := #[.pointer (some ⟨w.heap.size + 1, 0, none⟩)]) rfl trivial (enters_of Tryd.func63 (by kernel_rfl) rfl)
    (each_stops 5 (by omega) (w.heap.size + 1) w.heap.size m hm hTl _ (by simp; omega) (by simp) cM.1 (hT.below hB0 hTl)) belowK_t (belowK_b (by simp; omega)) (Below.refl _ _) (fun _ => rfl)
    (fun pre W => (∃ v, Boxed W w.heap.size 23 v ∧ W.ownsRow w.heap.size 3 1 v pre.length (pre.map fun i : Nat => Value.int .i64 (i : Int)) ∧ True) ∧ Below w.heap.size w W)
    (fun _ _ _ => False)
    (OwnFrom.and (Own.from (holdsRow_own w.heap.size w.heap.size 23 3 1 (fun pre : List Nat => pre.length) (fun pre => pre.map fun i : Nat => Value.int .i64 (i : Int)) (fun _ _ => True)) _) (ownFrom_below (Nat.le_refl _) (by simp; omega)))
    (fun _ _ _ _ _ hs _ _ => hs)
    ⟨⟨_, bO.alloc _, World.ownsRow_nil _ _ _ _, trivial⟩, hB0⟩
    (fun x => { tmps := #[.int .u64 (m : Int), undef, .slice none 0 0, .pointer (some ⟨w.heap.size, 0, none⟩), .int .i64 (x : Int), .int .u64 (m : Int), .func (.func 63) #[] #[.pointer (some ⟨w.heap.size + 1, 0, none⟩)], .int .i64 (x : Int), undef, undef, undef, undef, undef], defers := [] }) ?assign ?body ?done ?stop
  case assign =>
    intro l x W K hK
    gi_wp2
    exact hK
  case body =>
    rintro l pre x W ⟨⟨v, hv, hrow, _⟩, hB⟩ hlt
    have hc := hv.cell
    gi_wp2_with (gi_at_builtin; refine wpListIn_append_own _ rfl _ _ 23 rfl w.heap.size 3 i0 (.int .i64 0) 1 8 Tryd.underlying23 hi hz0 hz1 hz2 rfl (by decide) _ _ _ rfl (hrow.alloc _) ⟨W.heap.size, 0, none⟩ 1 1 [.int .i64 (x : Int)] rfl rfl (cell_one_new _ _ _) (by simp [Value.oneCell']) (by omega) (by omega) (by have := hB.size; simp; omega) ?_; intro v' w1 hown' hgrow _; obtain ⟨g', cap', rfl⟩ := ownsRow_succ hown'; obtain ⟨hv1, hv2, hr2, hk2, hb2⟩ := hv.appended (by decide) hrow hB.size (Nat.le_refl _) hown' hgrow; have hc1 := hv1.cell; have hf1 := hv1.frozen)
    exact ⟨hk2.from _, hb2, ⟨_, hv2, by simpa using hr2, trivial⟩, hB.trans hb2⟩
  case done =>
    rintro D ys W hD rfl ⟨⟨v, hv, hrow, _⟩, hB⟩ hK
    have hc := hv.cell
    gi_wp2
    refine ⟨by simp, .inl ⟨_, _, rfl, run_takeDeferred hK, ?_⟩⟩
    exact ⟨_, results_tmp rfl _ _ _, v, rfl, ownsRow_putObj hrow _ hK rfl, hB.trans (belowK_b (w := w) (Nat.le_refl _) W D _ _ (by simp at hD; omega) hK rfl rfl)⟩
  case stop =>
    rintro D c pre W _ _ h _
    exact h.elim
/-- a slice of one's own that holds these numbers -/
def NumsN (w : World) (l : List Nat) (e : Ending) (w' : World) : Prop := ∃ A c, e = .returned (.slice A l.length c) ∧ Row w' A ((nI l).map (Value.int .i64)) ∧ Same w w'
theorem nI_map (l : List Nat) : (nI l).map (Value.int .i64) = l.map fun i : Nat => Value.int .i64 (i : Int) := by
  unfold nI
  rw [List.map_map]
  rfl
theorem numsN_mk {w w' : World} {l : List Nat} {A : Option Addr} {n c : Nat} (hn : n = l.length) (hr : Row w' A ((nI l).map (Value.int .i64))) (hs : Same w w') : NumsN w l (.returned (.slice A n c)) w' := by
  subst hn
  exact ⟨A, c, rfl, hr, hs⟩
theorem list_any (m : Nat) (w : World) (hm : m < 18446744073709551616) (hT : TZ w) : Calls Tryd.prog 12 #[.int .u64 (m : Int)] w (NumsN w (bitsL m)) := by
  refine (callsIn_wide.1 (list_in m w hm hT)).mono ?_
  rintro e w' ⟨v, rfl, hrow, hb⟩
  obtain ⟨A, c, rfl, ho⟩ := own_of_row hrow (by simp)
  exact ⟨A, c, rfl, by rw [nI_map]; exact ho.row, Same.of_below hb⟩

/-! ### the document's own list -/
def upTo (m k : Nat) : List Nat := (List.range' 0 k).filter fun i => m.testBit i
theorem upTo_next (m k : Nat) : upTo m (k + 1) = upTo m k ++ if m.testBit k then [k] else [] := by
  unfold upTo
  rw [show List.range' 0 (k + 1) = List.range' 0 k ++ [k] by rw [List.range'_concat]; simp, List.filter_append]
  congr 1
  cases h : m.testBit k <;> simp [h]
theorem upTo_len (m k : Nat) : (upTo m k).length ≤ k := Nat.le_trans (List.length_filter_le _ _) (by simp)
set_option maxRecDepth 100000 in
set_option maxHeartbeats 1000000 in
theorem rlist_any (m : Nat) (w : World) (hm : m < 18446744073709551616) : Calls Tryd.prog 9 #[.int .u64 (m : Int)] w (NumsN w (bitsL m)) := by
  obtain ⟨i0, hi, hz0, hz1, hz2⟩ := info_parts int_info
  have HE : Hid (bitsL m = upTo m 64) := Lib.hid (bitsL_eq hm)
  have HM := Lib.hid hm
  go_enter Tryd.func9, Tryd.ntmps9
  go_wp2_with fail
  go_loopg [0, 3, 4] 64 (fun gk mv lv iv wx => ∃ (k : Nat) (A' : Option Addr) (c' : Nat), k + gk = 64 ∧ iv = .int .i64 k ∧ mv = .int .u64 ((m / 2 ^ k : Nat) : Int) ∧ lv = .slice A' (upTo m k).length c' ∧ Ws.Own wx w.heap.size 3 A' c' ((upTo m k).map fun i : Nat => Value.int .i64 (i : Int)) ∧ Same w wx)
  case atStart => exact ⟨0, none, 0, rfl, rfl, by simp, rfl, own_nil _ _ _, Same.refl _⟩
  case round =>
    obtain ⟨k, A', c', hk, rfl, rfl, rfl, ho, sx⟩ := hrel
    have HO := Lib.hid ho
    have HS := Lib.hid sx
    clear ho sx hm
    cases gk with
    | zero =>
      obtain rfl : k = 64 := by omega
      go_wp2_with fail
      go_ret
      exact numsN_mk (by rw [HE.out]) (by rw [HE.out, nI_map]; exact HO.out.row) HS.out
    | succ GK =>
      have hlt : (k : Int) < 64 := by omega
      have hbit : m.testBit k = decide (m / 2 ^ k % 2 = 1) := Nat.testBit_eq_decide_div_mod_eq
      have hnx : m / 2 ^ (k + 1) = m / 2 ^ k / 2 := by rw [Nat.pow_succ, Nat.div_div_eq_div_mul]
      have hle : m / 2 ^ k ≤ m := Nat.div_le_self _ _
      have hy : m / 2 ^ k < 18446744073709551616 := Nat.lt_of_le_of_lt hle HM.out
      have HN := Lib.hid hnx
      have hlen := upTo_len m k
      have HU := Lib.hid (upTo_next m k)
      clear hnx hle
      generalize m / 2 ^ k = y at *
      have hy0 : (0 : Int) ≤ y := by omega
      by_cases h1 : y % 2 = 1
      · have ht : (((y : Int) % 2) == 1) = true := by simp; omega
        rw [decide_eq_true h1] at hbit
        have hu := HU.out
        rw [hbit, if_pos rfl] at hu
        have HU2 := Lib.hid hu
        clear hu hbit HU h1
        go_wp2_with (at_builtin; refine wpList_app rfl (.tmp 12) (.tmp 14) 23 rfl w.heap.size 3 i0 _ 8 Tryd.underlying23 hi hz0 hz1 hz2 rfl A' (upTo m k).length c' ((upTo m k).map fun i : Nat => Value.int .i64 (i : Int)) rfl ?c1 (HO.out.same ((Same.refl _).alloc _)) _ 1 1 [.int .i64 (k : Int)] rfl rfl (row_new _ _ _) ?c2 ?c3 (by omega) ?c4 ?_)
        case c1 => simp
        case c2 => intro u hu; simp at hu; subst hu; rfl
        case c3 => simp; omega
        case c4 => have := HS.out.size; simp; omega
        intro A2 c2' w2 ho2 hc2 _
        have HS2 := Lib.hid (Same.more (HS.out.alloc _) hc2 fun g hg => by
          have hg : A' = some ⟨g, 0, none⟩ := hg
          subst hg
          rcases HO.out.2 with ⟨h2, _⟩ | ⟨g2, cap, cur, hv, hb2, _⟩
          · cases h2
          · injection hv with hv
            injection hv with hv
            injection hv with hv
            omega)
        rw [show ((upTo m k).map fun i : Nat => Value.int .i64 (i : Int)) ++ [.int .i64 (k : Int)] = (upTo m (k + 1)).map fun i : Nat => Value.int .i64 (i : Int) by rw [HU2.out, List.map_append]; rfl] at ho2
        have HO2 := Lib.hid ho2
        clear ho2 hc2
        go_wp2_with fail
        go_roundg GK
        case rel => exact ⟨k + 1, A2, c2', by omega, by go_num, by rw [HN.out]; simp, by rw [HU2.out]; simp, HO2.out, HS2.out⟩
        case measure => omega
      · have ht : (((y : Int) % 2) == 1) = false := by simp; omega
        rw [decide_eq_false h1] at hbit
        have hu := HU.out
        rw [hbit, if_neg (by simp), List.append_nil] at hu
        have HU2 := Lib.hid hu
        clear hu hbit HU h1
        go_wp2_with fail
        go_roundg GK
        case rel => exact ⟨k + 1, A', c', by omega, by go_num, by rw [HN.out]; simp, by rw [HU2.out], by rw [HU2.out]; exact HO.out, HS.out⟩
        case measure => omega

end Go.Proofs.YtikjkmomokhanaaDoor.Be
