/-

  What LayoutOwners calls besides: two regions apart; two empty layouts; two rows of regions behind one another.
-/
import Derived.Test.YtfpefkpbiioofabDoorLayBd
import Derived.Laws.Rows
import Derived.WalkSpells
import Derived.StillTailTactics
import Derived.Deep.Upon
section
set_option linter.unusedVariables false
set_option linter.unusedSimpArgs false
namespace Go.Proofs.YtfpefkpbiioofabDoor.Ly
open Go.ChangeShapes Go.WideShapes Go.ChangeAt Go.RowKit Ws

theorem rC_one (l : List (Int × Int)) : ∀ u ∈ rC l, u.oneCell' = true := by
  intro u hu
  unfold rC at hu
  obtain ⟨r, _, hr⟩ := List.mem_flatMap.1 hu
  simp at hr
  rcases hr with rfl | rfl <;> rfl
def CloneP (w : World) (l : List (Int × Int)) (e : Ending) (w' : World) : Prop := ∃ A c, e = .returned (.slice A l.length c) ∧ (∀ b o, A = some ⟨b, o, none⟩ → w.heap.size ≤ b) ∧ Row w' A (rC l) ∧ Same w w'
theorem clone_mk {w w' : World} {l : List (Int × Int)} {A : Option Addr} {B n c : Nat} (hn : n = l.length) (ho : OwnK w' B 68 2 A n c (rC l)) (hB : w.heap.size ≤ B) (hs : Same w w') : CloneP w l (.returned (.slice A n c)) w' := by
  subst hn
  refine ⟨A, c, rfl, ?_, ho.row, hs⟩
  intro b o hA
  subst hA
  rcases ho.2 with ⟨h2, _⟩ | ⟨g2, cap, cur, hv, hb2, hg, _⟩
  · cases h2
  · injection hv with hv
    injection hv with hv
    injection hv with hv
    omega
theorem rC_take (l : List (Int × Int)) (n : Nat) : (rC l).take (n * 2) = rC (l.take n) := by
  induction l generalizing n with
  | nil => simp [rC]
  | cons x l ih =>
    cases n with
    | zero => simp [rC]
    | succ n =>
      rw [show (n + 1) * 2 = n * 2 + 1 + 1 by omega]
      show Value.int .i64 x.1 :: Value.int .i64 x.2 :: (rC l).take (n * 2) = Value.int .i64 x.1 :: Value.int .i64 x.2 :: rC (l.take n)
      rw [ih]
theorem rC_drop (l : List (Int × Int)) (n : Nat) : (rC l).drop (n * 2) = rC (l.drop n) := by
  induction l generalizing n with
  | nil => simp [rC]
  | cons x l ih =>
    cases n with
    | zero => simp [rC]
    | succ n =>
      rw [show (n + 1) * 2 = n * 2 + 1 + 1 by omega]
      show (rC l).drop (n * 2) = rC (l.drop n)
      rw [ih]
set_option maxRecDepth 100000 in
theorem clone_any (ad : Addr) (n c : Nat) (l : List (Int × Int)) (w : World) (hn : l.length = n) (hm : n ≤ 10000) (hr : Row w (some ad) (rC l)) :
    Calls Tryd.prog 48 #[.slice (some ad) n c] w (CloneP w l) := by
  obtain ⟨i0, hi, hz0, hz1, hz2⟩ := info_parts region_info
  have HN := Lib.hid hn
  have HR := Lib.hid hr
  clear hn hr
  have hq : ∀ (w : World) (a : Option Addr) (n c n' c' : Nat), (binOp .eql 55 (.slice a n c) (.slice none n' c')).run Tryd.prog w = .ok (.bool a.isNone) w := fun w a n c n' c' => Lib.run_eql_slice_nil w _ _ a n c n' c' Tryd.underlying55
  go_enter Tryd.func48, Tryd.ntmps48
  go_wp2_with (at_builtin; go_loud (refine wpList_appK rfl (.tmp 5) (.tmp 6) 55 rfl w.heap.size 68 i0 _ 2 16 Tryd.underlying55 hi hz0 hz1 hz2 rfl (by omega) (some ⟨w.heap.size, 0, none⟩) 0 0 [] rfl (World.ownsRow_made w #[] 0 (Nat.le_refl _) (Nat.zero_le _) rfl) ad n c (rC l) rfl ?c1 (HR.out.same ((Same.refl _).alloc _)) (rC_one l) (by omega) (by omega) (by simp) ?_))
  case c1 => rw [rC_len, HN.out]
  intro A2 c2 w2 ho2 hc2
  have HS2 := Lib.hid (Same.more ((Same.refl w).alloc (.cells #[] 68)) hc2 fun g hg => by
    have hg : w.heap.size = g := by
      first
        | exact hg
        | (have hg : (some ⟨w.heap.size, 0, none⟩ : Option Addr) = some ⟨g, 0, none⟩ := hg
           injection hg with hg
           injection hg)
    omega)
  have HO2 := Lib.hid ho2
  clear ho2 hc2
  go_wp2_with fail
  go_ret
  exact clone_mk (B := w.heap.size) (by have := HN.out; omega) (by have h := HO2.out; simpa using h) (Nat.le_refl _) HS2.out
/-- where regions end -/
def endF (l : List (Int × Int)) : Int := match l.getLast? with
  | none => 0
  | some r => r.1 + r.2
set_option maxRecDepth 100000 in
theorem end_any (A : Option Addr) (n c : Nat) (l : List Int) (w : World) (hn : l.length = n) (hm : n ≤ 10000) (h0 : ∀ x ∈ l, 0 ≤ x) (h4 : sumL l ≤ 4096) (hr : Row w A (rC (cutL l))) :
    Calls Tryd.prog 49 #[.slice A n c] w fun e w' => e = .returned (.int .i64 (sumL l)) ∧ Same w w' := by
  by_cases hz : n = 0
  · have hl : l = [] := List.eq_nil_of_length_eq_zero (by omega)
    subst hl
    subst hz
    clear hn hr h0 h4
    go_enter Tryd.func49, Tryd.ntmps49
    go_wp2_with fail
    go_ret
    exact ⟨rfl, Same.refl _⟩
  · obtain ⟨k, rfl⟩ : ∃ k, n = k + 1 := ⟨n - 1, by omega⟩
    obtain ⟨x, hx⟩ : ∃ x, l[k]? = some x := ⟨_, List.getElem?_eq_getElem (by omega)⟩
    have hg := cutG_get l 0 k x hx
    obtain ⟨b, o, rfl, c1, c2⟩ := regs_of hr k _ hg
    have hs := sum_next hx
    have ht : l.take (k + 1) = l := List.take_of_length_le (by omega)
    rw [ht] at hs
    have hp := sum_pos (l := l.take k) (fun y hy => h0 y (List.mem_of_mem_take hy))
    have hx0 := h0 x (List.mem_of_getElem? hx)
    simp only [Int.zero_add] at c1 c2
    have HS := Lib.hid hs
    have k0 : (0 : Int) ≤ k := by omega
    have ek : ((k + 1 : Nat) : Int) - 1 = k := by omega
    have hkb : ((((k + 1 : Nat) : Int)) == 0) = false := by simp; omega
    clear hr h0 hg hx ht hn hz
    generalize sumL (l.take k) = sm at *
    have hb4 : sm + x ≤ 4096 := by omega
    clear hs h4
    go_enter Tryd.func49, Tryd.ntmps49
    go_wp2_with fail
    go_ret
    exact ⟨ret_int HS.out.symm, (Same.refl _).alloc _⟩

end Go.Proofs.YtfpefkpbiioofabDoor.Ly
end
section
set_option linter.unusedVariables false
set_option linter.unusedSimpArgs false
namespace Go.Proofs.YtfpefkpbiioofabDoor.Ly
open Go.ChangeShapes Go.WideShapes Go.ChangeAt Go.RowKit Ws

theorem row_of_regs {w : World} {A : Option Addr} {l : List (Int × Int)} (h : Regs w A l) : Row w A (rC l) := by
  intro j u hj
  have hjl : j < (rC l).length := by
    obtain ⟨h1, _⟩ := List.getElem?_eq_some_iff.1 hj
    exact h1
  rw [rC_len] at hjl
  have hk := List.getElem?_eq_getElem (show j / 2 < l.length by omega)
  generalize l[j / 2]'(by omega) = r at hk
  obtain ⟨g0, g1⟩ := rC_get l (j / 2) r hk
  obtain ⟨b, o, hA, c0, c1⟩ := h (j / 2) r hk
  refine ⟨b, o, hA, ?_⟩
  rcases Nat.mod_two_eq_zero_or_one j with hm | hm
  · have e : j = j / 2 * 2 := by omega
    rw [← e] at g0 c0
    rw [hj] at g0
    injection g0 with g0
    rw [g0]
    exact c0
  · have e : j = j / 2 * 2 + 1 := by omega
    rw [← e] at g1
    rw [hj] at g1
    injection g1 with g1
    rw [g1, show o + j = o + j / 2 * 2 + 1 by omega]
    exact c1
/-- an append to a row of one's own, wherever it stands -/
theorem oper_app {P : Program} {w : World} {o : Oper} {a : Act} {K : Act → World → Prop} {Q : Exit → Act → World → Prop} (s x : Operand) (t : TypeId)
    (ho : o.op = .call { callee := .builtin .append, args := #[s, x], argTypes := #[t, t] })
    (base : Nat) (e : TypeId) (i : TypeInfo) (z : Value) (sz bytes : Nat) (ht : P.underlying t = some (.slice e)) (hi : P.info? e = some i) (hz : i.zero = some z)
    (hsize : i.size = sz) (hby : i.bytes = bytes) (hzs : z.cells.size = sz) (hsz : 0 < sz)
    (A : Option Addr) (n c : Nat) (xs : List Value) (hs : a.eval s = .slice A n c) (hown : OwnK w base e sz A n c xs)
    (B : Option Addr) (m d : Nat) (ys : List Value) (hx : a.eval x = .slice B m d) (hm : ys.length = m * sz) (hr : Row w B ys) (h1 : ∀ u ∈ ys, u.oneCell' = true)
    (h63 : n + m ≤ 4294967296) (hby2 : bytes ≤ 4096) (hbase : base ≤ w.heap.size) (N : Nat) (hN : n + m = N)
    (h : ∀ A' c' w', OwnK w' base e sz A' N c' (xs ++ ys) → Chg (fun g => A = some ⟨g, 0, .none⟩) w w' → K (a.put o.dst (.slice A' N c')) w') :
    Oper.wp P o a w K Q := by
  subst hN
  cases B with
  | some ad =>
    obtain ⟨A', c', w', hrun, h2, h3⟩ := run_appK (P := P) w base t o.type e i z sz bytes ht hi hz hsize hby hzs hsz A n c xs hown ad m d ys hm hr h1 h63 hby2 hbase
    unfold Oper.wp execOp
    simp only [ho, resolve, invoke, builtin, Sem.run_bind, Sem.run_pure, Result.andThen_ok, List.map_toArray, List.map_cons, List.map_nil, hs, hx, hrun]
    exact h _ _ _ h2 h3
  | none =>
    have hy : ys = [] := by
      cases ys with
      | nil => rfl
      | cons u ys =>
        obtain ⟨b, o, hA, _⟩ := hr 0 u rfl
        cases hA
    subst hy
    have hm0 : m = 0 := by
      rcases Nat.eq_zero_or_pos m with h0 | h0
      · exact h0
      · have := Nat.mul_pos h0 hsz
        simp at hm
        omega
    subst hm0
    have hle : n ≤ c := by
      rcases hown.2 with ⟨hv, hn⟩ | ⟨g, cap, cur, hv, _, _, hcap, _⟩
      · omega
      · injection hv with _ _ hv
        omega
    have hrun := run_append_nothing (P := P) w t t o.type e i ht hi A n c hle (.slice none 0 d) (Src.ofNil w ht d)
    unfold Oper.wp execOp
    simp only [ho, resolve, invoke, builtin, Sem.run_bind, Sem.run_pure, Result.andThen_ok, List.map_toArray, List.map_cons, List.map_nil, hs, hx, hrun]
    exact h A c w (by rw [List.append_nil]; exact hown) (Chg.refl _ w)

theorem ownK_cap {w : World} {B : Nat} {e : TypeId} {s : Nat} {A : Option Addr} {n c : Nat} {l : List Value} (h : OwnK w B e s A n c l) : n ≤ c := by
  rcases h.2 with ⟨hv, hn⟩ | ⟨g, cap, cur, hv, _, _, hcap, _⟩
  · omega
  · injection hv with _ _ hv
    omega
theorem ownK_fence {w : World} {B : Nat} {e : TypeId} {s : Nat} {A : Option Addr} {n c : Nat} {l : List Value} (h : OwnK w B e s A n c l) {g : Nat} (hA : A = some ⟨g, 0, none⟩) : B ≤ g := by
  subst hA
  rcases h.2 with ⟨hv, _⟩ | ⟨g2, cap, cur, hv, hb, _⟩
  · cases hv
  · injection hv with hv
    injection hv with hv
    injection hv with hv
    omega

end Go.Proofs.YtfpefkpbiioofabDoor.Ly
end
