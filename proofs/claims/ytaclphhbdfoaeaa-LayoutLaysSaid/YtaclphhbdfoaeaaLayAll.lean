/-

  Layer 31: a copy of regions, where they end, and where all of a system stands (layout.Of).
-/
import Derived.Test.YtaclphhbdfoaeaaLayCut
import Derived.Laws.Rows
import Derived.WalkSpells
import Derived.StillTailTactics
set_option linter.unusedVariables false
set_option linter.unusedSimpArgs false
namespace Go.Proofs.Ytaclphhbdfoaeaa.Ly
open Go.ChangeShapes Go.WideShapes Go.ChangeAt Go.RowKit Ws

theorem rC_one (l : List (Int × Int)) : ∀ u ∈ rC l, u.oneCell' = true := by
  intro u hu
  unfold rC at hu
  obtain ⟨r, _, hr⟩ := List.mem_flatMap.1 hu
  simp at hr
  rcases hr with rfl | rfl <;> rfl
def CloneP (w : World) (l : List (Int × Int)) (e : Ending) (w' : World) : Prop := ∃ A c, e = .returned (.slice A l.length c) ∧ (∀ b o, A = some ⟨b, o, none⟩ → w.heap.size ≤ b) ∧ Row w' A (rC l) ∧ Same w w'
theorem clone_mk {w w' : World} {l : List (Int × Int)} {A : Option Addr} {B n c : Nat} (hn : n = l.length) (ho : OwnK w' B 53 2 A n c (rC l)) (hB : w.heap.size ≤ B) (hs : Same w w') : CloneP w l (.returned (.slice A n c)) w' := by
  subst hn
  refine ⟨A, c, rfl, ?_, ho.row, hs⟩
  intro b o hA
  subst hA
  rcases ho.2 with ⟨h2, _⟩ | ⟨g2, cap, cur, hv, hb2, hg, _⟩
  · cases h2
  · injection hv with hv
    injection hv with hv
    injection hv with hv
    omega
theorem rC_take (l : List (Int × Int)) (n : Nat) : (rC l).take (n * 2) = rC (l.take n) := by
  induction l generalizing n with
  | nil => simp [rC]
  | cons x l ih =>
    cases n with
    | zero => simp [rC]
    | succ n =>
      rw [show (n + 1) * 2 = n * 2 + 1 + 1 by omega]
      show Value.int .i64 x.1 :: Value.int .i64 x.2 :: (rC l).take (n * 2) = Value.int .i64 x.1 :: Value.int .i64 x.2 :: rC (l.take n)
      rw [ih]
theorem rC_drop (l : List (Int × Int)) (n : Nat) : (rC l).drop (n * 2) = rC (l.drop n) := by
  induction l generalizing n with
  | nil => simp [rC]
  | cons x l ih =>
    cases n with
    | zero => simp [rC]
    | succ n =>
      rw [show (n + 1) * 2 = n * 2 + 1 + 1 by omega]
      show (rC l).drop (n * 2) = rC (l.drop n)
      rw [ih]
set_option maxRecDepth 100000 in
theorem clone_any (ad : Addr) (n c : Nat) (l : List (Int × Int)) (w : World) (hn : l.length = n) (hm : n ≤ 10000) (hr : Row w (some ad) (rC l)) :
    Calls Try.prog 17 #[.slice (some ad) n c] w (CloneP w l) := by
  obtain ⟨i0, hi, hz0, hz1, hz2⟩ := info_parts region_info
  have HN := Lib.hid hn
  have HR := Lib.hid hr
  clear hn hr
  have hq : ∀ (w : World) (a : Option Addr) (n c n' c' : Nat), (binOp .eql 28 (.slice a n c) (.slice none n' c')).run Try.prog w = .ok (.bool a.isNone) w := fun w a n c n' c' => Lib.run_eql_slice_nil w _ _ a n c n' c' Try.underlying28
  go_enter Try.func17, Try.ntmps17
  go_wp2_with (at_builtin; go_loud (refine wpList_appK rfl (.tmp 5) (.tmp 6) 28 rfl w.heap.size 53 i0 _ 2 16 Try.underlying28 hi hz0 hz1 hz2 rfl (by omega) (some ⟨w.heap.size, 0, none⟩) 0 0 [] rfl (World.ownsRow_made w #[] 0 (Nat.le_refl _) (Nat.zero_le _) rfl) ad n c (rC l) rfl ?c1 (HR.out.same ((Same.refl _).alloc _)) (rC_one l) (by omega) (by omega) (by simp) ?_))
  case c1 => rw [rC_len, HN.out]
  intro A2 c2 w2 ho2 hc2
  have HS2 := Lib.hid (Same.more ((Same.refl w).alloc (.cells #[] 53)) hc2 fun g hg => by
    have hg : w.heap.size = g := by
      first
        | exact hg
        | (have hg : (some ⟨w.heap.size, 0, none⟩ : Option Addr) = some ⟨g, 0, none⟩ := hg
           injection hg with hg
           injection hg)
    omega)
  have HO2 := Lib.hid ho2
  clear ho2 hc2
  go_wp2_with fail
  go_ret
  exact clone_mk (B := w.heap.size) (by have := HN.out; omega) (by have h := HO2.out; simpa using h) (Nat.le_refl _) HS2.out
/-- where regions end -/
def endF (l : List (Int × Int)) : Int := match l.getLast? with
  | none => 0
  | some r => r.1 + r.2
set_option maxRecDepth 100000 in
theorem end_any (A : Option Addr) (n c : Nat) (l : List Int) (w : World) (hn : l.length = n) (hm : n ≤ 10000) (h0 : ∀ x ∈ l, 0 ≤ x) (h4 : sumL l ≤ 4096) (hr : Row w A (rC (cutL l))) :
    Calls Try.prog 18 #[.slice A n c] w fun e w' => e = .returned (.int .i64 (sumL l)) ∧ Same w w' := by
  by_cases hz : n = 0
  · have hl : l = [] := List.eq_nil_of_length_eq_zero (by omega)
    subst hl
    subst hz
    clear hn hr h0 h4
    go_enter Try.func18, Try.ntmps18
    go_wp2_with fail
    go_ret
    exact ⟨rfl, Same.refl _⟩
  · obtain ⟨k, rfl⟩ : ∃ k, n = k + 1 := ⟨n - 1, by omega⟩
    obtain ⟨x, hx⟩ : ∃ x, l[k]? = some x := ⟨_, List.getElem?_eq_getElem (by omega)⟩
    have hg := cutG_get l 0 k x hx
    obtain ⟨b, o, rfl, c1, c2⟩ := regs_of hr k _ hg
    have hs := sum_next hx
    have ht : l.take (k + 1) = l := List.take_of_length_le (by omega)
    rw [ht] at hs
    have hp := sum_pos (l := l.take k) (fun y hy => h0 y (List.mem_of_mem_take hy))
    have hx0 := h0 x (List.mem_of_getElem? hx)
    simp only [Int.zero_add] at c1 c2
    have HS := Lib.hid hs
    have k0 : (0 : Int) ≤ k := by omega
    have ek : ((k + 1 : Nat) : Int) - 1 = k := by omega
    have hkb : ((((k + 1 : Nat) : Int)) == 0) = false := by simp; omega
    clear hr h0 hg hx ht hn hz
    generalize sumL (l.take k) = sm at *
    have hb4 : sm + x ≤ 4096 := by omega
    clear hs h4
    go_enter Try.func18, Try.ntmps18
    go_wp2_with fail
    go_ret
    exact ⟨ret_int HS.out.symm, (Same.refl _).alloc _⟩

end Go.Proofs.Ytaclphhbdfoaeaa.Ly
