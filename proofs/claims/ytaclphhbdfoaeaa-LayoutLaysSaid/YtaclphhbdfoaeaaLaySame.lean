/-

  Two layouts that hold the same regions are the same (the document's Same).
-/
import Derived.Test.YtaclphhbdfoaeaaLayAll
import Derived.Deep.Upon
import Derived.BigQuiet
import Derived.Deep.QuietTactic
section
set_option linter.unusedVariables false
set_option linter.unusedSimpArgs false
namespace Go.Proofs.Ytaclphhbdfoaeaa.Ly
open Go.ChangeShapes Go.WideShapes Go.ChangeAt Go.RowKit Ws

set_option maxRecDepth 100000 in
theorem same0_any (w : World) : Calls Try.prog 9 #[.agg #[.slice none 0 0, .slice none 0 0, .int .i64 0], .agg #[.slice none 0 0, .slice none 0 0, .int .i64 0]] w fun e w' => e = .returned (.bool true) ∧ Same w w' := by
  have hb0 := Blk.new w 30 #[.slice none 0 0, .slice none 0 0, .int .i64 0]
  have hb1 := Blk.new (w.alloc (.cells #[.slice none 0 0, .slice none 0 0, .int .i64 0] 30)) 30 #[.slice none 0 0, .slice none 0 0, .int .i64 0]
  have hb0' := hb0.same ((Same.refl _).alloc (.cells #[.slice none 0 0, .slice none 0 0, .int .i64 0] 30))
  rw [World.size_alloc] at hb1
  have HS := Lib.hid (((Same.refl w).alloc (.cells #[.slice none 0 0, .slice none 0 0, .int .i64 0] 30)).alloc (.cells #[.slice none 0 0, .slice none 0 0, .int .i64 0] 30))
  obtain ⟨a0, a1, a2⟩ := layout_cells hb0'
  obtain ⟨c0, c1, c2⟩ := layout_cells hb1
  have H0 := Lib.hid hb0'
  have H1 := Lib.hid hb1
  clear hb0 hb0' hb1
  go_enter Try.func9, Try.ntmps9
  go_wp2_with fail
  go_loopg [33] 0 (fun gk iv wx => gk = 0 ∧ iv = .int .i64 0 ∧ wx = (w.alloc (.cells #[.slice none 0 0, .slice none 0 0, .int .i64 0] 30)).alloc (.cells #[.slice none 0 0, .slice none 0 0, .int .i64 0] 30))
  case atStart => exact ⟨rfl, rfl, rfl⟩
  case round =>
    obtain ⟨rfl, rfl, rfl⟩ := hrel
    go_wp2_with fail
    go_loopg [51] 0 (fun gk iv wx => gk = 0 ∧ iv = .int .i64 0 ∧ wx = (w.alloc (.cells #[.slice none 0 0, .slice none 0 0, .int .i64 0] 30)).alloc (.cells #[.slice none 0 0, .slice none 0 0, .int .i64 0] 30))
    case atStart => exact ⟨rfl, rfl, rfl⟩
    case round =>
      obtain ⟨rfl, rfl, rfl⟩ := hrel
      go_wp2_with fail
      go_ret
      exact ⟨rfl, HS.out⟩
theorem row_of_regs {w : World} {A : Option Addr} {l : List (Int × Int)} (h : Regs w A l) : Row w A (rC l) := by
  intro j u hj
  have hjl : j < (rC l).length := by
    obtain ⟨h1, _⟩ := List.getElem?_eq_some_iff.1 hj
    exact h1
  rw [rC_len] at hjl
  have hk := List.getElem?_eq_getElem (show j / 2 < l.length by omega)
  generalize l[j / 2]'(by omega) = r at hk
  obtain ⟨g0, g1⟩ := rC_get l (j / 2) r hk
  obtain ⟨b, o, hA, c0, c1⟩ := h (j / 2) r hk
  refine ⟨b, o, hA, ?_⟩
  rcases Nat.mod_two_eq_zero_or_one j with hm | hm
  · have e : j = j / 2 * 2 := by omega
    rw [← e] at g0 c0
    rw [hj] at g0
    injection g0 with g0
    rw [g0]
    exact c0
  · have e : j = j / 2 * 2 + 1 := by omega
    rw [← e] at g1
    rw [hj] at g1
    injection g1 with g1
    rw [g1, show o + j = o + j / 2 * 2 + 1 by omega]
    exact c1
/-- an append to a row of one's own, wherever it stands -/
theorem oper_app {P : Program} {w : World} {o : Oper} {a : Act} {K : Act → World → Prop} {Q : Exit → Act → World → Prop} (s x : Operand) (t : TypeId)
    (ho : o.op = .call { callee := .builtin .append, args := #[s, x], argTypes := #[t, t] })
    (base : Nat) (e : TypeId) (i : TypeInfo) (z : Value) (sz bytes : Nat) (ht : P.underlying t = some (.slice e)) (hi : P.info? e = some i) (hz : i.zero = some z)
    (hsize : i.size = sz) (hby : i.bytes = bytes) (hzs : z.cells.size = sz) (hsz : 0 < sz)
    (A : Option Addr) (n c : Nat) (xs : List Value) (hs : a.eval s = .slice A n c) (hown : OwnK w base e sz A n c xs)
    (B : Option Addr) (m d : Nat) (ys : List Value) (hx : a.eval x = .slice B m d) (hm : ys.length = m * sz) (hr : Row w B ys) (h1 : ∀ u ∈ ys, u.oneCell' = true)
    (h63 : n + m ≤ 4294967296) (hby2 : bytes ≤ 4096) (hbase : base ≤ w.heap.size) (N : Nat) (hN : n + m = N)
    (h : ∀ A' c' w', OwnK w' base e sz A' N c' (xs ++ ys) → Chg (fun g => A = some ⟨g, 0, .none⟩) w w' → K (a.put o.dst (.slice A' N c')) w') :
    Oper.wp P o a w K Q := by
  subst hN
  cases B with
  | some ad =>
    obtain ⟨A', c', w', hrun, h2, h3⟩ := run_appK (P := P) w base t o.type e i z sz bytes ht hi hz hsize hby hzs hsz A n c xs hown ad m d ys hm hr h1 h63 hby2 hbase
    unfold Oper.wp execOp
    simp only [ho, resolve, invoke, builtin, Sem.run_bind, Sem.run_pure, Result.andThen_ok, List.map_toArray, List.map_cons, List.map_nil, hs, hx, hrun]
    exact h _ _ _ h2 h3
  | none =>
    have hy : ys = [] := by
      cases ys with
      | nil => rfl
      | cons u ys =>
        obtain ⟨b, o, hA, _⟩ := hr 0 u rfl
        cases hA
    subst hy
    have hm0 : m = 0 := by
      rcases Nat.eq_zero_or_pos m with h0 | h0
      · exact h0
      · have := Nat.mul_pos h0 hsz
        simp at hm
        omega
    subst hm0
    have hle : n ≤ c := by
      rcases hown.2 with ⟨hv, hn⟩ | ⟨g, cap, cur, hv, _, _, hcap, _⟩
      · omega
      · injection hv with _ _ hv
        omega
    have hrun := run_append_nothing (P := P) w t t o.type e i ht hi A n c hle (.slice none 0 d) (Src.ofNil w ht d)
    unfold Oper.wp execOp
    simp only [ho, resolve, invoke, builtin, Sem.run_bind, Sem.run_pure, Result.andThen_ok, List.map_toArray, List.map_cons, List.map_nil, hs, hx, hrun]
    exact h A c w (by rw [List.append_nil]; exact hown) (Chg.refl _ w)

theorem ownK_cap {w : World} {B : Nat} {e : TypeId} {s : Nat} {A : Option Addr} {n c : Nat} {l : List Value} (h : OwnK w B e s A n c l) : n ≤ c := by
  rcases h.2 with ⟨hv, hn⟩ | ⟨g, cap, cur, hv, _, _, hcap, _⟩
  · omega
  · injection hv with _ _ hv
    omega
theorem ownK_fence {w : World} {B : Nat} {e : TypeId} {s : Nat} {A : Option Addr} {n c : Nat} {l : List Value} (h : OwnK w B e s A n c l) {g : Nat} (hA : A = some ⟨g, 0, none⟩) : B ≤ g := by
  subst hA
  rcases h.2 with ⟨hv, _⟩ | ⟨g2, cap, cur, hv, hb, _⟩
  · cases hv
  · injection hv with hv
    injection hv with hv
    injection hv with hv
    omega

end Go.Proofs.Ytaclphhbdfoaeaa.Ly
end
section
set_option linter.unusedVariables false
set_option linter.unusedSimpArgs false
namespace Go.Proofs.Ytaclphhbdfoaeaa.Ly
open Go.ChangeShapes Go.WideShapes Go.ChangeAt Go.RowKit Ws

set_option maxRecDepth 100000 in
set_option maxHeartbeats 1000000 in
theorem rsame_any (A A2 B B2 : Option Addr) (n c c2 m d d2 : Nat) (z : Int) (l q : List (Int × Int)) (w : World) (hl : l.length = n) (hq : q.length = m) (hn : n ≤ 5000) (hm : m ≤ 5000) (ha : Regs w A l) (ha2 : Regs w A2 l) (hb : Regs w B q) (hb2 : Regs w B2 q) :
    Calls Try.prog 9 #[.agg #[.slice A n c, .slice B m d, .int .i64 z], .agg #[.slice A2 n c2, .slice B2 m d2, .int .i64 z]] w fun e w' => e = .returned (.bool true) ∧ Same w w' := by
  have hb0 := Blk.new w 30 #[.slice A n c, .slice B m d, .int .i64 z]
  have hb1 := Blk.new (w.alloc (.cells #[.slice A n c, .slice B m d, .int .i64 z] 30)) 30 #[.slice A2 n c2, .slice B2 m d2, .int .i64 z]
  have hb0' := hb0.same ((Same.refl _).alloc (.cells #[.slice A2 n c2, .slice B2 m d2, .int .i64 z] 30))
  rw [World.size_alloc] at hb1
  have HS := Lib.hid (((Same.refl w).alloc (.cells #[.slice A n c, .slice B m d, .int .i64 z] 30)).alloc (.cells #[.slice A2 n c2, .slice B2 m d2, .int .i64 z] 30))
  obtain ⟨a0, a1, a2⟩ := layout_cells hb0'
  obtain ⟨z0, z1, z2⟩ := layout_cells hb1
  have H0 := Lib.hid hb0'
  have H1 := Lib.hid hb1
  have RA := Lib.hid (ha.same HS.out)
  have RA2 := Lib.hid (ha2.same HS.out)
  have RB := Lib.hid (hb.same HS.out)
  have RB2 := Lib.hid (hb2.same HS.out)
  have HL := Lib.hid hl
  have HQ := Lib.hid hq
  clear hb0 hb0' hb1 ha ha2 hb hb2 hl hq
  go_enter Try.func9, Try.ntmps9
  go_wp2_with fail
  generalize (w.alloc (.cells #[.slice A n c, .slice B m d, .int .i64 z] 30)).alloc (.cells #[.slice A2 n c2, .slice B2 m d2, .int .i64 z] 30) = w0 at *
  clear a0 a1 a2 z0 z1 z2
  go_loopg [33] n (fun gk iv wx => ∃ k : Nat, k + gk = n ∧ iv = .int .i64 k ∧ Same w0 wx)
  case atStart => exact ⟨0, by omega, rfl, Same.refl _⟩
  case round =>
    obtain ⟨k, hk, rfl, sx⟩ := hrel
    have HSX := Lib.hid sx
    clear sx
    obtain ⟨a0, a1, a2⟩ := layout_cells (H0.out.same HSX.out)
    obtain ⟨z0, z1, z2⟩ := layout_cells (H1.out.same HSX.out)
    cases gk with
    | zero =>
      obtain rfl : n = k := by omega
      have hge : ¬ (n : Int) < (n : Int) := by omega
      go_wp2_with fail
      clear a0 a1 a2 z0 z1 z2
      go_loopg [51] m (fun gk iv wx => ∃ k : Nat, k + gk = m ∧ iv = .int .i64 k ∧ Same w0 wx)
      case atStart => exact ⟨0, by omega, rfl, HSX.out⟩
      case round =>
        obtain ⟨k, hk, rfl, sx⟩ := hrel
        have HSY := Lib.hid sx
        clear sx
        obtain ⟨a0, a1, a2⟩ := layout_cells (H0.out.same HSY.out)
        obtain ⟨z0, z1, z2⟩ := layout_cells (H1.out.same HSY.out)
        cases gk with
        | zero =>
          obtain rfl : m = k := by omega
          have hge2 : ¬ (m : Int) < (m : Int) := by omega
          go_wp2_with fail
          go_ret
          exact ⟨rfl, HS.out.trans HSY.out⟩
        | succ GK =>
          have hlt : (k : Int) < m := by omega
          have hltn : k < m := by omega
          have k0 : (0 : Int) ≤ k := by omega
          obtain ⟨r, hkr⟩ : ∃ r, q[k]? = some r := ⟨_, List.getElem?_eq_getElem (by have := HQ.out; omega)⟩
          obtain ⟨b, o, hA, c1, c2'⟩ := RB.out k r hkr
          obtain ⟨b', o', hA2, e1, e2'⟩ := RB2.out k r hkr
          subst hA
          subst hA2
          replace c1 := HSY.out.cell c1
          replace c2' := HSY.out.cell c2'
          replace e1 := HSY.out.cell e1
          replace e2' := HSY.out.cell e2'
          obtain ⟨r1, r2⟩ := r
          simp only at c1 c2' e1 e2'
          clear hkr
          go_wp2_with fail
          go_quiet (fail)
          have HS2 := Lib.hid (HSY.out.drewN nq)
          go_wp2_with fail
          go_roundg GK
          case rel => exact ⟨k + 1, by omega, by go_num, HS2.out⟩
          case measure => omega
    | succ GK =>
      have hlt : (k : Int) < n := by omega
      have hltn : k < n := by omega
      have k0 : (0 : Int) ≤ k := by omega
      obtain ⟨r, hkr⟩ : ∃ r, l[k]? = some r := ⟨_, List.getElem?_eq_getElem (by have := HL.out; omega)⟩
      obtain ⟨b, o, hA, c1, c2'⟩ := RA.out k r hkr
      obtain ⟨b', o', hA2, e1, e2'⟩ := RA2.out k r hkr
      subst hA
      subst hA2
      replace c1 := HSX.out.cell c1
      replace c2' := HSX.out.cell c2'
      replace e1 := HSX.out.cell e1
      replace e2' := HSX.out.cell e2'
      obtain ⟨r1, r2⟩ := r
      simp only at c1 c2' e1 e2'
      clear hkr
      go_wp2_with fail
      go_quiet (fail)
      have HS2 := Lib.hid (HSX.out.drewN nq)
      go_wp2_with fail
      go_roundg GK
      case rel => exact ⟨k + 1, by omega, by go_num, HS2.out⟩
      case measure => omega

end Go.Proofs.Ytaclphhbdfoaeaa.Ly
end
