/-

  LayoutAny: of any layout whatever the first task, or the first object, in whose region a word lies.
-/
import Derived.Test.YtikjkmomokhanacLayAwake
set_option linter.unusedVariables false
set_option linter.unusedSimpArgs false
namespace Go.Proofs.Ytikjkmomokhanac.Ly
open Go.ChangeShapes Go.WideShapes Go.ChangeAt Go.RowKit Ws

/-- what one region does to what was found: in list kk, at place i -/
def stepW (x : Int) (kk : Nat) (u : Int × Int) (i : Nat) (r : Int × Int) : Int × Int := if u.1 < 0 ∧ u.2 < 0 ∧ hasB r x = true then (if kk = 0 then ((i : Int), u.2) else (u.1, (i : Int))) else u
def wK (x : Int) (kk : Nat) (u : Int × Int) (l : List (Int × Int)) : Nat → Int × Int
  | 0 => u
  | i + 1 => stepW x kk (wK x kk u l i) i (l.getD i (0, 0))
def pt (kk j : Nat) : Int × Int := if kk = 0 then ((j : Int), -1) else (-1, (j : Int))
theorem step_pt (x : Int) (kk j i : Nat) (r : Int × Int) : stepW x kk (pt kk j) i r = pt kk j := by
  unfold stepW
  rw [if_neg]
  unfold pt
  rintro ⟨h1, h2, _⟩
  by_cases h : kk = 0
  · rw [if_pos h] at h1
    dsimp only at h1
    omega
  · rw [if_neg h] at h2
    dsimp only at h2
    omega
theorem wK_inv (x : Int) (kk : Nat) (l : List (Int × Int)) : ∀ i, i ≤ l.length →
    (wK x kk (-1, -1) l i = (-1, -1) ∧ ∀ j, j < i → ∀ r, l[j]? = some r → hasB r x = false) ∨
    (∃ j r, j < i ∧ l[j]? = some r ∧ hasB r x = true ∧ (∀ j', j' < j → ∀ q, l[j']? = some q → hasB q x = false) ∧ wK x kk (-1, -1) l i = pt kk j)
  | 0, _ => .inl ⟨rfl, fun j hj => by omega⟩
  | i + 1, hi => by
    have hget : l[i]? = some (l.getD i (0, 0)) := by
      rw [List.getElem?_eq_getElem (by omega : i < l.length), List.getD_eq_getElem?_getD, List.getElem?_eq_getElem (by omega : i < l.length)]
      rfl
    rcases wK_inv x kk l i (by omega) with ⟨h1, h2⟩ | ⟨j, r, hj, hr, hh, hn, h1⟩
    · cases hb : hasB (l.getD i (0, 0)) x
      · refine .inl ⟨?_, fun j hj r hr => ?_⟩
        · show stepW x kk (wK x kk (-1, -1) l i) i (l.getD i (0, 0)) = _
          rw [h1]
          unfold stepW
          rw [if_neg]
          rintro ⟨_, _, h3⟩
          rw [hb] at h3
          exact Bool.false_ne_true h3
        · by_cases hji : j < i
          · exact h2 j hji r hr
          · obtain rfl : j = i := by omega
            rw [hget] at hr
            injection hr with hr
            rw [← hr]
            exact hb
      · refine .inr ⟨i, _, by omega, hget, hb, h2, ?_⟩
        show stepW x kk (wK x kk (-1, -1) l i) i (l.getD i (0, 0)) = _
        rw [h1]
        unfold stepW pt
        rw [if_pos ⟨by decide, by decide, hb⟩]
    · refine .inr ⟨j, r, by omega, hr, hh, hn, ?_⟩
      show stepW x kk (wK x kk (-1, -1) l i) i (l.getD i (0, 0)) = _
      rw [h1]
      exact step_pt x kk j i _
theorem hold_all {l : List (Int × Int)} {x : Int} (h : ∀ j, j < l.length → ∀ r, l[j]? = some r → hasB r x = false) : holdF l x = -1 :=
  hold_none (fun r hr => by
    obtain ⟨j, hj, hjr⟩ := List.getElem_of_mem hr
    exact h j hj r (by rw [← hjr]; exact List.getElem?_eq_getElem hj))
theorem wK_zero (x : Int) (l : List (Int × Int)) : wK x 0 (-1, -1) l l.length = (holdF l x, -1) := by
  rcases wK_inv x 0 l l.length (Nat.le_refl _) with ⟨h1, h2⟩ | ⟨j, r, hj, hr, hh, hn, h1⟩
  · rw [h1, hold_all h2]
  · rw [h1, hold_some hr hh hn]
    rfl
theorem wK_stay (x : Int) (h : Int) (h0 : 0 ≤ h) (l : List (Int × Int)) : ∀ i, wK x 1 (h, -1) l i = (h, -1)
  | 0 => rfl
  | i + 1 => by
    show stepW x 1 (wK x 1 (h, -1) l i) i (l.getD i (0, 0)) = _
    rw [wK_stay x h h0 l i]
    unfold stepW
    rw [if_neg]
    rintro ⟨h1, _⟩
    dsimp only at h1
    omega
theorem wK_one (x : Int) (l q : List (Int × Int)) : wK x 1 (holdF l x, -1) q q.length = ownF l q x := by
  unfold ownF
  by_cases h : holdF l x = -1
  · rw [if_neg (by simpa using h), h]
    rcases wK_inv x 1 q q.length (Nat.le_refl _) with ⟨h1, h2⟩ | ⟨j, r, hj, hr, hh, hn, h1⟩
    · rw [h1, hold_all h2]
    · rw [h1, hold_some hr hh hn]
      rfl
  · rw [if_pos h]
    refine wK_stay x _ ?_ q _
    unfold holdF at h ⊢
    cases hf : l.findIdx? (fun r => hasB r x) with
    | none => rw [hf] at h; exact absurd rfl h
    | some i => exact Int.natCast_nonneg i
theorem step_no {x : Int} {kk : Nat} {u : Int × Int} {i : Nat} {r : Int × Int} (h : u.1 < 0 → u.2 < 0 → r.1 ≤ x → x < r.1 + r.2 → False) : stepW x kk u i r = u := by
  unfold stepW
  rw [if_neg]
  rintro ⟨h1, h2, h3⟩
  unfold hasB at h3
  have h4 := of_decide_eq_true h3
  exact h h1 h2 h4.2.1 (by omega)
theorem step_yes {x : Int} {kk : Nat} {u : Int × Int} {i : Nat} {r : Int × Int} (h1 : u.1 < 0) (h2 : u.2 < 0) (h0 : 0 ≤ r.1) (h3 : r.1 ≤ x) (h4 : x < r.1 + r.2) : stepW x kk u i r = if kk = 0 then ((i : Int), u.2) else (u.1, (i : Int)) := by
  unfold stepW
  rw [if_pos]
  refine ⟨h1, h2, ?_⟩
  unfold hasB
  exact decide_eq_true ⟨h0, h3, by omega⟩
theorem at_reg {l : List (Int × Int)} {i : Nat} {r : Int × Int} (h : l[i]? = some r) : l.getD i (0, 0) = r := by
  rw [List.getD_eq_getElem?_getD, h]
  rfl
/-- between two rounds: the layout in its box, and what was found -/
def WSt (L : Array Value) (w wx : World) (u : Int × Int) : Prop := Same w wx ∧ Blk wx w.heap.size 24 L ∧ Blk wx (w.heap.size + 1) 26 #[.int .i64 u.1, .int .i64 u.2]
theorem WSt.same {L : Array Value} {w wx wy : World} {u : Int × Int} (h : WSt L w wx u) (s : Same wx wy) : WSt L w wy u := ⟨h.1.trans s, h.2.1.same s, h.2.2.same s⟩
theorem WSt.alloc {L : Array Value} {w wx : World} {u : Int × Int} (h : WSt L w wx u) (o : Obj) : WSt L w (wx.alloc o) u := h.same ((Same.refl wx).alloc o)
theorem WSt.put {L : Array Value} {w wx : World} {u v : Int × Int} (h : WSt L w wx u) (k : Nat) (a : Value) (hv : (#[.int .i64 u.1, .int .i64 u.2] : Array Value).setIfInBounds k a = #[.int .i64 v.1, .int .i64 v.2]) : WSt L w (wx.setCell ⟨w.heap.size + 1, k, none⟩ a) v := by
  have hc : Chg (fun i => i = w.heap.size + 1) wx (wx.setCell ⟨w.heap.size + 1, k, none⟩ a) := Chg.set (S := fun i => i = w.heap.size + 1) (p := ⟨w.heap.size + 1, k, none⟩) (Chg.refl _ wx) (.inl rfl) a
  refine ⟨h.1.more hc (fun i hi => by have h1 : i = w.heap.size + 1 := hi; omega), h.2.1.chg hc (fun hi => by have h1 : w.heap.size = w.heap.size + 1 := hi; omega), ?_⟩
  have hb := h.2.2.put k a
  rw [hv] at hb
  exact hb
theorem want_cells {L : Array Value} {w wx : World} {u : Int × Int} (h : WSt L w wx u) : wx.cell? ⟨w.heap.size + 1, 0, none⟩ = some (.int .i64 u.1) ∧ wx.cell? ⟨w.heap.size + 1, 1, none⟩ = some (.int .i64 u.2) ∧ wx.frozen? ⟨w.heap.size + 1, 0, none⟩ = false ∧ wx.frozen? ⟨w.heap.size + 1, 1, none⟩ = false := ⟨h.2.2.cell 0, h.2.2.cell 1, h.2.2.thaw 0, h.2.2.thaw 1⟩
theorem idx0 (A B : Option Addr) (n c m d : Nat) (w : World) : Sem.run Try.prog (Instr.index 27 (.agg #[.slice A n c, .slice B m d]) (.int .i64 0)) w = .ok (.slice A n c) w := by kernel_rfl
theorem idx1 (A B : Option Addr) (n c m d : Nat) (w : World) : Sem.run Try.prog (Instr.index 27 (.agg #[.slice A n c, .slice B m d]) (.int .i64 1)) w = .ok (.slice B m d) w := by kernel_rfl
theorem reg_cells {w : World} {g : Nat} {T : TypeId} {v0 v1 : Value} (h : Blk w g T #[v0, v1]) : w.cell? ⟨g, 0, none⟩ = some v0 ∧ w.cell? ⟨g, 1, none⟩ = some v1 := ⟨h.cell 0, h.cell 1⟩
set_option maxRecDepth 100000 in
set_option maxHeartbeats 4000000 in
theorem any_walk (A B : Option Addr) (n c m d : Nat) (z : Int) (l q : List (Int × Int)) (x : Int) (w : World) (hl : l.length = n) (hq : q.length = m) (hx : bd x) (hr : Regs w A l) (hs : Regs w B q) :
    Calls Try.prog 3 #[.agg #[.slice A n c, .slice B m d, .int .i64 z], .int .i64 x] w fun e w' => e = .returned (.bool true) ∧ Same w w' := by
  have hb0 := Blk.new w 24 #[.slice A n c, .slice B m d, .int .i64 z]
  have HB0 := Lib.hid hb0
  have HS0 := Lib.hid ((Same.refl w).alloc (.cells #[.slice A n c, .slice B m d, .int .i64 z] 24))
  have AW := Lib.hid (fun w' => awake31 w')
  obtain ⟨d0, d1, d2⟩ := layout_cells HB0.out
  have HL := Lib.hid hl
  have HQ := Lib.hid hq
  have HX := Lib.hid hx
  have HR := Lib.hid hr
  have HRQ := Lib.hid hs
  clear hb0 hl hq hx hr hs
  by_cases hn : (60 : Int) < n
  · go_enter Try.func3, Try.ntmps3
    go_wp2_with fail
    refine (AW.out _).mono ?_
    rintro e wq ⟨rfl, sq⟩
    have HSQ := Lib.hid (HS0.out.trans sq)
    clear sq
    go_wp2_with fail
    go_ret
    exact ⟨rfl, HSQ.out⟩
  by_cases hm : (60 : Int) < m
  · go_enter Try.func3, Try.ntmps3
    go_wp2_with fail
    refine (AW.out _).mono ?_
    rintro e wq ⟨rfl, sq⟩
    have HSQ := Lib.hid (HS0.out.trans sq)
    clear sq
    go_wp2_with fail
    go_ret
    exact ⟨rfl, HSQ.out⟩
  have hn60 : n ≤ 60 := by omega
  have hm60 : m ≤ 60 := by omega
  have HW := Lib.hid (show WSt #[.slice A n c, .slice B m d, .int .i64 z] w ((w.alloc (.cells #[.slice A n c, .slice B m d, .int .i64 z] 24)).alloc (.cells #[.int .i64 (-1), .int .i64 (-1)] 26)) (-1, -1) from ⟨HS0.out.alloc _, HB0.out.same ((Same.refl _).alloc _), by have h := Blk.new (w.alloc (.cells #[.slice A n c, .slice B m d, .int .i64 z] 24)) 26 #[.int .i64 (-1), .int .i64 (-1)]; rw [World.size_alloc] at h; exact h⟩)
  have d0' := HW.out.2.1.cell 0
  have d1' := HW.out.2.1.cell 1
  simp only [List.getElem?_toArray, List.getElem?_cons_zero, List.getElem?_cons_succ] at d0' d1'
  go_enter Try.func3, Try.ntmps3
  go_wp2_with fail
  clear d0 d1 d2 d0' d1'
  go_loopg [29] 2 (fun gk iv wx => (gk = 2 ∧ iv = .int .i64 0 ∧ WSt #[.slice A n c, .slice B m d, .int .i64 z] w wx (-1, -1)) ∨ (gk = 1 ∧ iv = .int .i64 1 ∧ WSt #[.slice A n c, .slice B m d, .int .i64 z] w wx (holdF l x, -1)) ∨ (gk = 0 ∧ iv = .int .i64 2 ∧ WSt #[.slice A n c, .slice B m d, .int .i64 z] w wx (ownF l q x)))
  case atStart => exact .inl ⟨rfl, rfl, HW.out⟩
  case round =>
    rcases hrel with ⟨rfl, rfl, hst⟩ | ⟨rfl, rfl, hst⟩ | ⟨rfl, rfl, hst⟩
    · have HST := Lib.hid hst
      clear hst HW
      have HI := idx0 A B n c m d wr
      go_wp2_with fail
      go_loopg [35] n (fun gj jv wy => ∃ i : Nat, i + gj = n ∧ jv = .int .i64 i ∧ WSt #[.slice A n c, .slice B m d, .int .i64 z] w wy (wK x 0 (-1, -1) l i))
      case atStart => exact ⟨0, by omega, rfl, HST.out⟩
      case round =>
        obtain ⟨i, hi, rfl, hst⟩ := hrel
        have HST := Lib.hid hst
        clear hst
        cases gk with
        | zero =>
          obtain rfl : n = i := by omega
          have hge : ¬ (n : Int) < (n : Int) := by omega
          have hEq : wK x 0 (-1, -1) l n = (holdF l x, -1) := by rw [← HL.out]; exact wK_zero x l
          have hE := HST.out
          rw [hEq] at hE
          have HE := Lib.hid hE
          clear hE hEq
          go_wp2_with fail
          go_roundg 1
          case rel => exact .inr (.inl ⟨rfl, by go_num, HE.out⟩)
          case measure => omega
        | succ GJ =>
          have hlt : (i : Int) < n := by omega
          have i0 : (0 : Int) ≤ i := by omega
          obtain ⟨r, hkr⟩ : ∃ r, l[i]? = some r := ⟨_, List.getElem?_eq_getElem (by have := HL.out; omega)⟩
          obtain ⟨b, o, hA, c1, c2⟩ := HR.out i r hkr
          subst hA
          replace c1 := HST.out.1.cell c1
          replace c2 := HST.out.1.cell c2
          obtain ⟨r1, r2⟩ := r
          simp only at c1 c2
          have HU := Lib.hid (show wK x 0 (-1, -1) l (i + 1) = stepW x 0 (wK x 0 (-1, -1) l i) i (r1, r2) by show stepW x 0 _ i _ = _; rw [at_reg hkr])
          clear hkr
          generalize wK x 0 (-1, -1) l i = u at *
          obtain ⟨u0, u1⟩ := u
          have HSA := Lib.hid (HST.out.alloc (.cells #[.int .i64 r1, .int .i64 r2] 29))
          obtain ⟨e0, e1, e2, e3⟩ := want_cells HSA.out
          obtain ⟨y0, y1⟩ := reg_cells (Blk.new wr 29 #[.int .i64 r1, .int .i64 r2])
          by_cases b1 : r1 < 0
          · skip
            go_wp2_with fail
            refine (AW.out _).mono ?_
            rintro e wq ⟨rfl, sq⟩
            have HSQ := Lib.hid (HSA.out.1.trans sq)
            clear sq
            go_wp2_with fail
            go_ret
            exact ⟨rfl, HSQ.out⟩
          by_cases b2 : 1099511627776 < r1
          · skip
            go_wp2_with fail
            refine (AW.out _).mono ?_
            rintro e wq ⟨rfl, sq⟩
            have HSQ := Lib.hid (HSA.out.1.trans sq)
            clear sq
            go_wp2_with fail
            go_ret
            exact ⟨rfl, HSQ.out⟩
          by_cases b3 : r2 < 0
          · skip
            go_wp2_with fail
            refine (AW.out _).mono ?_
            rintro e wq ⟨rfl, sq⟩
            have HSQ := Lib.hid (HSA.out.1.trans sq)
            clear sq
            go_wp2_with fail
            go_ret
            exact ⟨rfl, HSQ.out⟩
          by_cases b4 : 1099511627776 < r2
          · skip
            go_wp2_with fail
            refine (AW.out _).mono ?_
            rintro e wq ⟨rfl, sq⟩
            have HSQ := Lib.hid (HSA.out.1.trans sq)
            clear sq
            go_wp2_with fail
            go_ret
            exact ⟨rfl, HSQ.out⟩
          have hr1 : 0 ≤ r1 := by omega
          have hr2 : 0 ≤ r2 := by omega
          have hs1 : r1 + r2 ≤ 9223372036854775807 := by omega
          have hs0 : -9223372036854775808 ≤ r1 + r2 := by omega
          by_cases e_1 : u0 < 0
          · skip
            by_cases e_2 : u1 < 0
            · skip
              by_cases e_3 : r1 ≤ x
              · skip
                by_cases e_4 : x < r1 + r2
                · skip
                  have HU2 := Lib.hid (HU.out.trans (step_yes (kk := 0) (u := (u0, u1)) (i := i) (r := (r1, r2)) e_1 e_2 hr1 e_3 e_4))
                  have HPU := Lib.hid (HSA.out.put (v := ((i : Int), u1)) 0 (.int .i64 (i : Int)) rfl)
                  go_wp2_with fail
                  go_roundg GJ
                  case rel =>
                    refine ⟨i + 1, by omega, by go_num, ?_⟩
                    rw [HU2.out]
                    exact HPU.out
                  case measure => omega
                · have HU2 := Lib.hid (HU.out.trans (step_no (kk := 0) (u := (u0, u1)) (i := i) (r := (r1, r2)) (fun h1 h2 h3 h4 => e_4 h4)))
                  go_wp2_with fail
                  go_roundg GJ
                  case rel =>
                    refine ⟨i + 1, by omega, by go_num, ?_⟩
                    rw [HU2.out]
                    exact HSA.out
                  case measure => omega
              · have HU2 := Lib.hid (HU.out.trans (step_no (kk := 0) (u := (u0, u1)) (i := i) (r := (r1, r2)) (fun h1 h2 h3 h4 => e_3 h3)))
                go_wp2_with fail
                go_roundg GJ
                case rel =>
                  refine ⟨i + 1, by omega, by go_num, ?_⟩
                  rw [HU2.out]
                  exact HSA.out
                case measure => omega
            · have HU2 := Lib.hid (HU.out.trans (step_no (kk := 0) (u := (u0, u1)) (i := i) (r := (r1, r2)) (fun h1 h2 h3 h4 => e_2 h2)))
              go_wp2_with fail
              go_roundg GJ
              case rel =>
                refine ⟨i + 1, by omega, by go_num, ?_⟩
                rw [HU2.out]
                exact HSA.out
              case measure => omega
          · have HU2 := Lib.hid (HU.out.trans (step_no (kk := 0) (u := (u0, u1)) (i := i) (r := (r1, r2)) (fun h1 h2 h3 h4 => e_1 h1)))
            go_wp2_with fail
            go_roundg GJ
            case rel =>
              refine ⟨i + 1, by omega, by go_num, ?_⟩
              rw [HU2.out]
              exact HSA.out
            case measure => omega
    · have HST := Lib.hid hst
      clear hst HW
      have HI := idx1 A B n c m d wr
      go_wp2_with fail
      go_loopg [35] m (fun gj jv wy => ∃ i : Nat, i + gj = m ∧ jv = .int .i64 i ∧ WSt #[.slice A n c, .slice B m d, .int .i64 z] w wy (wK x 1 (holdF l x, -1) q i))
      case atStart => exact ⟨0, by omega, rfl, HST.out⟩
      case round =>
        obtain ⟨i, hi, rfl, hst⟩ := hrel
        have HST := Lib.hid hst
        clear hst
        cases gk with
        | zero =>
          obtain rfl : m = i := by omega
          have hge : ¬ (m : Int) < (m : Int) := by omega
          have hEq : wK x 1 (holdF l x, -1) q m = ownF l q x := by rw [← HQ.out]; exact wK_one x l q
          have hE := HST.out
          rw [hEq] at hE
          have HE := Lib.hid hE
          clear hE hEq
          go_wp2_with fail
          go_roundg 0
          case rel => exact .inr (.inr ⟨rfl, by go_num, HE.out⟩)
          case measure => omega
        | succ GJ =>
          have hlt : (i : Int) < m := by omega
          have i0 : (0 : Int) ≤ i := by omega
          obtain ⟨r, hkr⟩ : ∃ r, q[i]? = some r := ⟨_, List.getElem?_eq_getElem (by have := HQ.out; omega)⟩
          obtain ⟨b, o, hA, c1, c2⟩ := HRQ.out i r hkr
          subst hA
          replace c1 := HST.out.1.cell c1
          replace c2 := HST.out.1.cell c2
          obtain ⟨r1, r2⟩ := r
          simp only at c1 c2
          have HU := Lib.hid (show wK x 1 (holdF l x, -1) q (i + 1) = stepW x 1 (wK x 1 (holdF l x, -1) q i) i (r1, r2) by show stepW x 1 _ i _ = _; rw [at_reg hkr])
          clear hkr
          generalize wK x 1 (holdF l x, -1) q i = u at *
          obtain ⟨u0, u1⟩ := u
          have HSA := Lib.hid (HST.out.alloc (.cells #[.int .i64 r1, .int .i64 r2] 29))
          obtain ⟨e0, e1, e2, e3⟩ := want_cells HSA.out
          obtain ⟨y0, y1⟩ := reg_cells (Blk.new wr 29 #[.int .i64 r1, .int .i64 r2])
          by_cases b1 : r1 < 0
          · skip
            go_wp2_with fail
            refine (AW.out _).mono ?_
            rintro e wq ⟨rfl, sq⟩
            have HSQ := Lib.hid (HSA.out.1.trans sq)
            clear sq
            go_wp2_with fail
            go_ret
            exact ⟨rfl, HSQ.out⟩
          by_cases b2 : 1099511627776 < r1
          · skip
            go_wp2_with fail
            refine (AW.out _).mono ?_
            rintro e wq ⟨rfl, sq⟩
            have HSQ := Lib.hid (HSA.out.1.trans sq)
            clear sq
            go_wp2_with fail
            go_ret
            exact ⟨rfl, HSQ.out⟩
          by_cases b3 : r2 < 0
          · skip
            go_wp2_with fail
            refine (AW.out _).mono ?_
            rintro e wq ⟨rfl, sq⟩
            have HSQ := Lib.hid (HSA.out.1.trans sq)
            clear sq
            go_wp2_with fail
            go_ret
            exact ⟨rfl, HSQ.out⟩
          by_cases b4 : 1099511627776 < r2
          · skip
            go_wp2_with fail
            refine (AW.out _).mono ?_
            rintro e wq ⟨rfl, sq⟩
            have HSQ := Lib.hid (HSA.out.1.trans sq)
            clear sq
            go_wp2_with fail
            go_ret
            exact ⟨rfl, HSQ.out⟩
          have hr1 : 0 ≤ r1 := by omega
          have hr2 : 0 ≤ r2 := by omega
          have hs1 : r1 + r2 ≤ 9223372036854775807 := by omega
          have hs0 : -9223372036854775808 ≤ r1 + r2 := by omega
          by_cases e_1 : u0 < 0
          · skip
            by_cases e_2 : u1 < 0
            · skip
              by_cases e_3 : r1 ≤ x
              · skip
                by_cases e_4 : x < r1 + r2
                · skip
                  have HU2 := Lib.hid (HU.out.trans (step_yes (kk := 1) (u := (u0, u1)) (i := i) (r := (r1, r2)) e_1 e_2 hr1 e_3 e_4))
                  have HPU := Lib.hid (HSA.out.put (v := (u0, (i : Int))) 1 (.int .i64 (i : Int)) rfl)
                  go_wp2_with fail
                  go_roundg GJ
                  case rel =>
                    refine ⟨i + 1, by omega, by go_num, ?_⟩
                    rw [HU2.out]
                    exact HPU.out
                  case measure => omega
                · have HU2 := Lib.hid (HU.out.trans (step_no (kk := 1) (u := (u0, u1)) (i := i) (r := (r1, r2)) (fun h1 h2 h3 h4 => e_4 h4)))
                  go_wp2_with fail
                  go_roundg GJ
                  case rel =>
                    refine ⟨i + 1, by omega, by go_num, ?_⟩
                    rw [HU2.out]
                    exact HSA.out
                  case measure => omega
              · have HU2 := Lib.hid (HU.out.trans (step_no (kk := 1) (u := (u0, u1)) (i := i) (r := (r1, r2)) (fun h1 h2 h3 h4 => e_3 h3)))
                go_wp2_with fail
                go_roundg GJ
                case rel =>
                  refine ⟨i + 1, by omega, by go_num, ?_⟩
                  rw [HU2.out]
                  exact HSA.out
                case measure => omega
            · have HU2 := Lib.hid (HU.out.trans (step_no (kk := 1) (u := (u0, u1)) (i := i) (r := (r1, r2)) (fun h1 h2 h3 h4 => e_2 h2)))
              go_wp2_with fail
              go_roundg GJ
              case rel =>
                refine ⟨i + 1, by omega, by go_num, ?_⟩
                rw [HU2.out]
                exact HSA.out
              case measure => omega
          · have HU2 := Lib.hid (HU.out.trans (step_no (kk := 1) (u := (u0, u1)) (i := i) (r := (r1, r2)) (fun h1 h2 h3 h4 => e_1 h1)))
            go_wp2_with fail
            go_roundg GJ
            case rel =>
              refine ⟨i + 1, by omega, by go_num, ?_⟩
              rw [HU2.out]
              exact HSA.out
            case measure => omega
    · have HST := Lib.hid hst
      clear hst HW
      have OW := Lib.hid (fun w' (s : Same w w') => owner_any A B n c m d z l q x w' HL.out (by omega) HQ.out (by omega) HX.out (HR.out.same s) (HRQ.out.same s))
      generalize ownF l q x = u at *
      obtain ⟨u0, u1⟩ := u
      dsimp only at OW
      obtain ⟨d0, d1, d2⟩ := layout_cells HST.out.2.1
      go_wp2_with fail
      refine (OW.out _ HST.out.1).mono ?_
      rintro e w7 ⟨rfl, s7⟩
      have HS7 := Lib.hid (HST.out.same s7)
      obtain ⟨e0, e1, _, _⟩ := want_cells HS7.out
      clear s7
      go_wp2_with fail
      refine (AW.out _).mono ?_
      rintro e w8 ⟨rfl, s8⟩
      have HS8 := Lib.hid (HS7.out.1.trans s8)
      clear s8
      go_wp2_with fail
      go_ret
      exact ⟨rfl, HS8.out⟩

end Go.Proofs.Ytikjkmomokhanac.Ly
