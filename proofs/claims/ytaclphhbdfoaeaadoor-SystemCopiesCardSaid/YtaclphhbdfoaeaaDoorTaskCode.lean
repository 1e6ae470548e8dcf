/-

  Two programs held against each other; two tasks; a copy of a task.
-/
import Derived.Test.YtaclphhbdfoaeaaDoorTaskBase
import Derived.Test.YtaclphhbdfoaeaaDoorFlowPure
set_option linter.unusedVariables false
set_option linter.unusedSimpArgs false
namespace Go.Proofs.YtaclphhbdfoaeaaDoor.Tk
open Go.ChangeShapes Go.WideShapes Go.ChangeAt Go.RowKit Ws
open Go.Proofs.YtaclphhbdfoaeaaDoor.Wd (ret_bool ret_int)
open Go.Proofs.YtaclphhbdfoaeaaDoor.Fp (Ins)

deriving instance DecidableEq for Ins
def icells (x : Ins) : List Value := [.int .i64 x.op, .int .i64 x.a, .int .i64 x.b, .int .i64 x.c, .int .u32 x.n]
/-- the slice at A holds these instructions, one behind the other -/
def Prg (w : World) (A : Option Addr) (p : List Ins) : Prop :=
  ∀ i x, p[i]? = some x → ∃ b o, A = some ⟨b, o, none⟩ ∧ ∀ j v, (icells x)[j]? = some v → w.cell? ⟨b, o + i * 5 + j, none⟩ = some v
theorem Prg.chg {S : Nat → Prop} {w w' : World} {A : Option Addr} {p : List Ins} (h : Prg w A p) (hs : Chg S w w') (hn : ∀ b o, A = some ⟨b, o, none⟩ → b < w.heap.size → ¬ S b) : Prg w' A p := by
  intro i x hx
  obtain ⟨b, o, h2, h3⟩ := h i x hx
  exact ⟨b, o, h2, fun j v hv => hs.cell (h3 j v hv) (hn b o h2 (World.block_lt_of_cell? w _ (h3 0 _ rfl)))⟩
theorem Prg.same {w w' : World} {A : Option Addr} {p : List Ins} (h : Prg w A p) (hs : Same w w') : Prg w' A p := h.chg hs fun _ _ _ _ f => f
theorem Prg.at_ {w : World} {A : Option Addr} {p : List Ins} (h : Prg w A p) {k : Nat} (hk : k < p.length) :
    ∃ b o, A = some ⟨b, o, none⟩ ∧ w.cell? ⟨b, o + k * 5, none⟩ = some (.int .i64 (Fp.at_ p k).op) ∧ w.cell? ⟨b, o + k * 5 + 1, none⟩ = some (.int .i64 (Fp.at_ p k).a) ∧ w.cell? ⟨b, o + k * 5 + 2, none⟩ = some (.int .i64 (Fp.at_ p k).b) ∧ w.cell? ⟨b, o + k * 5 + 3, none⟩ = some (.int .i64 (Fp.at_ p k).c) ∧ w.cell? ⟨b, o + k * 5 + 4, none⟩ = some (.int .u32 (Fp.at_ p k).n) := by
  obtain ⟨b, o, h2, h3⟩ := h k _ (Fp.at_some hk)
  exact ⟨b, o, h2, h3 0 _ rfl, h3 1 _ rfl, h3 2 _ rfl, h3 3 _ rfl, h3 4 _ rfl⟩
theorem take_at {p : List Ins} {k : Nat} (h : k < p.length) : p.take (k + 1) = p.take k ++ [Fp.at_ p k] := by
  rw [List.take_add_one, Fp.at_some h]
  rfl
def pflat (ts : List Ins) : List Value := ts.flatMap icells
theorem pflat_len (p : List Ins) : (pflat p).length = p.length * 5 := by
  induction p with
  | nil => rfl
  | cons x p ih =>
    have e : pflat (x :: p) = icells x ++ pflat p := rfl
    have hl : (icells x).length = 5 := rfl
    rw [e, List.length_append, ih, hl, List.length_cons]
    omega
theorem pflat_one (p : List Ins) : ∀ u ∈ pflat p, u.oneCell' = true := by
  intro u hu
  obtain ⟨x, _, hx⟩ := List.mem_flatMap.1 hu
  simp [icells] at hx
  rcases hx with rfl | rfl | rfl | rfl | rfl <;> rfl
theorem pflat_get : ∀ (p : List Ins) (i : Nat) (x : Ins), p[i]? = some x → ∀ j v, (icells x)[j]? = some v → (pflat p)[i * 5 + j]? = some v
  | [], i, x, h, _, _, _ => by simp at h
  | y :: p, 0, x, h, j, v, hv => by
    simp at h
    subst h
    have hj : j < (icells y).length := by
      rcases Nat.lt_or_ge j (icells y).length with h | h
      · exact h
      · rw [List.getElem?_eq_none h] at hv; cases hv
    have e : pflat (y :: p) = icells y ++ pflat p := rfl
    rw [e, Nat.zero_mul, Nat.zero_add, List.getElem?_append_left hj]
    exact hv
  | y :: p, i + 1, x, h, j, v, hv => by
    have := pflat_get p i x (by simpa using h) j v hv
    have e : pflat (y :: p) = icells y ++ pflat p := rfl
    have hl : (icells y).length = 5 := rfl
    rw [e, List.getElem?_append_right (by omega), hl, show (i + 1) * 5 + j - 5 = i * 5 + j by omega]
    exact this
theorem prg_row {w : World} {A : Option Addr} {p : List Ins} (h : Row w A (pflat p)) : Prg w A p := by
  intro i x hx
  obtain ⟨b, o, hA, _⟩ := h _ _ (pflat_get p i x hx 0 _ rfl)
  refine ⟨b, o, hA, fun j v hv => ?_⟩
  obtain ⟨b', o', hA', hc⟩ := h _ _ (pflat_get p i x hx j v hv)
  rw [hA] at hA'
  injection hA' with hA'
  injection hA' with e1 e2
  subst e1
  subst e2
  rw [Nat.add_assoc]
  exact hc
theorem row_prg {w : World} {A : Option Addr} {p : List Ins} (h : Prg w A p) : Row w A (pflat p) := by
  intro j u hj
  have hjl : j < p.length * 5 := by
    rw [← pflat_len]
    rcases Nat.lt_or_ge j (pflat p).length with h | h
    · exact h
    · rw [List.getElem?_eq_none h] at hj; cases hj
  have hk : j / 5 < p.length := by omega
  obtain ⟨b, o, hA, hc⟩ := h (j / 5) _ (Fp.at_some hk)
  have hm : j % 5 < (icells (Fp.at_ p (j / 5))).length := Nat.mod_lt _ (by decide)
  have hv := List.getElem?_eq_getElem hm
  have h2 := pflat_get p (j / 5) _ (Fp.at_some hk) (j % 5) _ hv
  rw [show j / 5 * 5 + j % 5 = j by omega, hj] at h2
  injection h2 with h2
  refine ⟨b, o, hA, ?_⟩
  have h3 := hc (j % 5) _ hv
  rw [Nat.add_assoc, show j / 5 * 5 + j % 5 = j by omega] at h3
  rw [h2]
  exact h3

set_option maxRecDepth 100000 in
theorem code_any (A C : Option Addr) (n m c d : Nat) (xs ys : List Ins) (w : World) (hn : xs.length = n) (hm : ys.length = m) (hx : Prg w A xs) (hy : Prg w C ys) (b1 : n ≤ 5000) (b2 : m ≤ 5000) :
    Calls Tryd.prog 31 #[.slice A n c, .slice C m d] w fun e w' => e = .returned (.bool (decide (xs = ys))) ∧ Same w w' := by
  have HX := Lib.hid hx
  have HY := Lib.hid hy
  have HN := Lib.hid hn
  have HM := Lib.hid hm
  by_cases hl : n = m
  · clear hx hy hn hm
    subst hl
    have hnn : ((n : Int) != (n : Int)) = false := by simp
    go_enter Tryd.func31, Tryd.ntmps31
    go_wp2_with fail
    go_loopg [13] n (fun gk iv wx => ∃ k : Nat, k + gk = n ∧ iv = .int .i64 k ∧ xs.take k = ys.take k ∧ Same w wx)
    case atStart => exact ⟨0, by omega, rfl, by simp, Same.refl _⟩
    case round =>
      obtain ⟨k, hk, rfl, hp, sx⟩ := hrel
      have HP := Lib.hid hp
      have HS := Lib.hid sx
      clear hp sx
      cases gk with
      | zero =>
        obtain rfl : k = n := by omega
        have hge : ¬ (k : Int) < (k : Int) := by omega
        go_wp2_with fail
        go_ret
        refine ⟨ret_bool ?_, HS.out⟩
        have := HP.out
        rw [List.take_of_length_le (by have := HN.out; omega), List.take_of_length_le (by have := HM.out; omega)] at this
        rw [decide_eq_true this]
      | succ GK =>
        have hlt : (k : Int) < n := by omega
        have hk0 : (0 : Int) ≤ k := by omega
        have hkn : k < n := by omega
        obtain ⟨b, o, rfl, c0, c1, c2, c3, c4⟩ := (HX.out.same HS.out).at_ (k := k) (by have := HN.out; omega)
        obtain ⟨b', o', rfl, d0, d1, d2, d3, d4⟩ := (HY.out.same HS.out).at_ (k := k) (by have := HM.out; omega)
        have HTX := Lib.hid (take_at (p := xs) (k := k) (by have := HN.out; omega))
        have HTY := Lib.hid (take_at (p := ys) (k := k) (by have := HM.out; omega))
        generalize Fp.at_ xs k = s at *
        generalize Fp.at_ ys k = t at *
        by_cases hst : s = t
        · subst hst
          go_wp2_with fail
          go_quiet (fail)
          have HS2 := Lib.hid (HS.out.drewN nq)
          go_wp2_with fail
          go_roundg GK
          case rel => exact ⟨k + 1, by omega, by go_num, by rw [HTX.out, HTY.out, HP.out], HS2.out⟩
          case measure => omega
        · have hne : ¬ (s.op = t.op ∧ s.a = t.a ∧ s.b = t.b ∧ s.c = t.c ∧ s.n = t.n) := fun h => hst (by obtain ⟨a1, a2, a3, a4, a5⟩ := s; obtain ⟨b1, b2, b3, b4, b5⟩ := t; simp only at h; rw [h.1, h.2.1, h.2.2.1, h.2.2.2.1, h.2.2.2.2])
          have hd : decide (xs = ys) = false := by
            rw [decide_eq_false_iff_not]
            intro he
            have h1 := HTX.out
            rw [he, HTY.out] at h1
            have := List.append_cancel_left h1
            injection this with this
            exact hst this.symm
          have HD := Lib.hid hd
          clear hd hst
          by_cases h0 : s.op = t.op
          rotate_left
          · have e0 : (s.op == t.op) = false := by simpa using h0
            clear hne h0
            go_wp2_with fail
            go_quiet (fail)
            have HS2 := Lib.hid (HS.out.drewN nq)
            go_wp2_with fail
            go_ret
            exact ⟨ret_bool HD.out.symm, HS2.out⟩
          have e0 : (s.op == t.op) = true := by simpa using h0
          by_cases h1 : s.a = t.a
          rotate_left
          · have e1 : (s.a == t.a) = false := by simpa using h1
            clear hne h0 h1
            go_wp2_with fail
            go_quiet (fail)
            have HS2 := Lib.hid (HS.out.drewN nq)
            go_wp2_with fail
            go_ret
            exact ⟨ret_bool HD.out.symm, HS2.out⟩
          have e1 : (s.a == t.a) = true := by simpa using h1
          by_cases h2 : s.b = t.b
          rotate_left
          · have e2 : (s.b == t.b) = false := by simpa using h2
            clear hne h0 h1 h2
            go_wp2_with fail
            go_quiet (fail)
            have HS2 := Lib.hid (HS.out.drewN nq)
            go_wp2_with fail
            go_ret
            exact ⟨ret_bool HD.out.symm, HS2.out⟩
          have e2 : (s.b == t.b) = true := by simpa using h2
          by_cases h3 : s.c = t.c
          rotate_left
          · have e3 : (s.c == t.c) = false := by simpa using h3
            clear hne h0 h1 h2 h3
            go_wp2_with fail
            go_quiet (fail)
            have HS2 := Lib.hid (HS.out.drewN nq)
            go_wp2_with fail
            go_ret
            exact ⟨ret_bool HD.out.symm, HS2.out⟩
          have e3 : (s.c == t.c) = true := by simpa using h3
          have h4 : ¬ s.n = t.n := fun h => hne ⟨h0, h1, h2, h3, h⟩
          have e4 : (s.n == t.n) = false := by simpa using h4
          clear hne h0 h1 h2 h3 h4
          go_wp2_with fail
          go_quiet (fail)
          have HS2 := Lib.hid (HS.out.drewN nq)
          go_wp2_with fail
          go_ret
          exact ⟨ret_bool HD.out.symm, HS2.out⟩
  · have hd : decide (xs = ys) = false := by
      rw [decide_eq_false_iff_not]
      rintro rfl
      omega
    have hne : ((n : Int) != (m : Int)) = true := by simp; omega
    rw [hd]
    clear hx hy hn hm hl hd
    go_enter Tryd.func31, Tryd.ntmps31
    go_wp2_with fail
    go_ret
    exact ⟨rfl, Same.refl _⟩

set_option maxRecDepth 100000 in
theorem equal_any (A C : Option Addr) (n m c d : Nat) (xs ys : List Ins) (w : World) (hn : xs.length = n) (hm : ys.length = m) (hx : Prg w A xs) (hy : Prg w C ys) (b1 : n ≤ 5000) (b2 : m ≤ 5000) :
    Calls Tryd.prog 34 #[.slice A n c, .slice C m d] w fun e w' => e = .returned (.bool (decide (xs = ys))) ∧ Same w w' := by
  have HX := Lib.hid hx
  have HY := Lib.hid hy
  have HN := Lib.hid hn
  have HM := Lib.hid hm
  by_cases hl : n = m
  · clear hx hy hn hm
    subst hl
    have hnn : ((n : Int) != (n : Int)) = false := by simp
    go_enter Tryd.func34, Tryd.ntmps34
    go_wp2_with fail
    go_loopg [13] n (fun gk iv wx => ∃ k : Nat, k + gk = n ∧ iv = .int .i64 k ∧ xs.take k = ys.take k ∧ Same w wx)
    case atStart => exact ⟨0, by omega, rfl, by simp, Same.refl _⟩
    case round =>
      obtain ⟨k, hk, rfl, hp, sx⟩ := hrel
      have HP := Lib.hid hp
      have HS := Lib.hid sx
      clear hp sx
      cases gk with
      | zero =>
        obtain rfl : k = n := by omega
        have hge : ¬ (k : Int) < (k : Int) := by omega
        go_wp2_with fail
        go_ret
        refine ⟨ret_bool ?_, HS.out⟩
        have := HP.out
        rw [List.take_of_length_le (by have := HN.out; omega), List.take_of_length_le (by have := HM.out; omega)] at this
        rw [decide_eq_true this]
      | succ GK =>
        have hlt : (k : Int) < n := by omega
        have hk0 : (0 : Int) ≤ k := by omega
        have hkn : k < n := by omega
        obtain ⟨b, o, rfl, c0, c1, c2, c3, c4⟩ := (HX.out.same HS.out).at_ (k := k) (by have := HN.out; omega)
        obtain ⟨b', o', rfl, d0, d1, d2, d3, d4⟩ := (HY.out.same HS.out).at_ (k := k) (by have := HM.out; omega)
        have HTX := Lib.hid (take_at (p := xs) (k := k) (by have := HN.out; omega))
        have HTY := Lib.hid (take_at (p := ys) (k := k) (by have := HM.out; omega))
        generalize Fp.at_ xs k = s at *
        generalize Fp.at_ ys k = t at *
        by_cases hst : s = t
        · subst hst
          go_wp2_with fail
          go_quiet (fail)
          have HS2 := Lib.hid (HS.out.drewN nq)
          go_wp2_with fail
          go_roundg GK
          case rel => exact ⟨k + 1, by omega, by go_num, by rw [HTX.out, HTY.out, HP.out], HS2.out⟩
          case measure => omega
        · have hne : ¬ (s.op = t.op ∧ s.a = t.a ∧ s.b = t.b ∧ s.c = t.c ∧ s.n = t.n) := fun h => hst (by obtain ⟨a1, a2, a3, a4, a5⟩ := s; obtain ⟨b1, b2, b3, b4, b5⟩ := t; simp only at h; rw [h.1, h.2.1, h.2.2.1, h.2.2.2.1, h.2.2.2.2])
          have hd : decide (xs = ys) = false := by
            rw [decide_eq_false_iff_not]
            intro he
            have h1 := HTX.out
            rw [he, HTY.out] at h1
            have := List.append_cancel_left h1
            injection this with this
            exact hst this.symm
          have HD := Lib.hid hd
          clear hd hst
          by_cases h0 : s.op = t.op
          rotate_left
          · have e0 : (s.op == t.op) = false := by simpa using h0
            clear hne h0
            go_wp2_with fail
            go_quiet (fail)
            have HS2 := Lib.hid (HS.out.drewN nq)
            go_wp2_with fail
            go_ret
            exact ⟨ret_bool HD.out.symm, HS2.out⟩
          have e0 : (s.op == t.op) = true := by simpa using h0
          by_cases h1 : s.a = t.a
          rotate_left
          · have e1 : (s.a == t.a) = false := by simpa using h1
            clear hne h0 h1
            go_wp2_with fail
            go_quiet (fail)
            have HS2 := Lib.hid (HS.out.drewN nq)
            go_wp2_with fail
            go_ret
            exact ⟨ret_bool HD.out.symm, HS2.out⟩
          have e1 : (s.a == t.a) = true := by simpa using h1
          by_cases h2 : s.b = t.b
          rotate_left
          · have e2 : (s.b == t.b) = false := by simpa using h2
            clear hne h0 h1 h2
            go_wp2_with fail
            go_quiet (fail)
            have HS2 := Lib.hid (HS.out.drewN nq)
            go_wp2_with fail
            go_ret
            exact ⟨ret_bool HD.out.symm, HS2.out⟩
          have e2 : (s.b == t.b) = true := by simpa using h2
          by_cases h3 : s.c = t.c
          rotate_left
          · have e3 : (s.c == t.c) = false := by simpa using h3
            clear hne h0 h1 h2 h3
            go_wp2_with fail
            go_quiet (fail)
            have HS2 := Lib.hid (HS.out.drewN nq)
            go_wp2_with fail
            go_ret
            exact ⟨ret_bool HD.out.symm, HS2.out⟩
          have e3 : (s.c == t.c) = true := by simpa using h3
          have h4 : ¬ s.n = t.n := fun h => hne ⟨h0, h1, h2, h3, h⟩
          have e4 : (s.n == t.n) = false := by simpa using h4
          clear hne h0 h1 h2 h3 h4
          go_wp2_with fail
          go_quiet (fail)
          have HS2 := Lib.hid (HS.out.drewN nq)
          go_wp2_with fail
          go_ret
          exact ⟨ret_bool HD.out.symm, HS2.out⟩
  · have hd : decide (xs = ys) = false := by
      rw [decide_eq_false_iff_not]
      rintro rfl
      omega
    have hne : ((n : Int) != (m : Int)) = true := by simp; omega
    rw [hd]
    clear hx hy hn hm hl hd
    go_enter Tryd.func34, Tryd.ntmps34
    go_wp2_with fail
    go_ret
    exact ⟨rfl, Same.refl _⟩

/-- are both tasks the same, part by part? -/
def sameB (a b : Task) (p q : List Ins) : Bool := decide (a.kind = b.kind ∧ a.prio = b.prio ∧ a.per = b.per ∧ a.off = b.off ∧ a.dl = b.dl ∧ a.own = b.own ∧ p = q)
def agg (t : Task) : Value := .agg #[.int .i64 t.kind, .int .i64 t.prio, .int .i64 t.per, .int .i64 t.off, .int .i64 t.dl, .int .i64 t.own, .slice t.A t.len t.cap]
set_option maxRecDepth 100000 in
theorem ptask_any (a b : Task) (p q : List Ins) (w : World) (hn : p.length = a.len) (hm : q.length = b.len) (hx : Prg w a.A p) (hy : Prg w b.A q) (b1 : a.len ≤ 5000) (b2 : b.len ≤ 5000) :
    Calls Tryd.prog 16 #[.agg #[.int .i64 a.kind, .int .i64 a.prio, .int .i64 a.per, .int .i64 a.off, .int .i64 a.dl, .int .i64 a.own, .slice a.A a.len a.cap], .agg #[.int .i64 b.kind, .int .i64 b.prio, .int .i64 b.per, .int .i64 b.off, .int .i64 b.dl, .int .i64 b.own, .slice b.A b.len b.cap]] w fun e w' => e = .returned (.bool (sameB a b p q)) ∧ Same w w' := by
  have EQ := Lib.hid (fun w' (s : Same w w') => code_any a.A b.A a.len b.len a.cap b.cap p q w' hn hm (hx.same s) (hy.same s) b1 b2)
  have S2 := Lib.hid (((Same.refl w).alloc (.cells #[.int .i64 a.kind, .int .i64 a.prio, .int .i64 a.per, .int .i64 a.off, .int .i64 a.dl, .int .i64 a.own, .slice a.A a.len a.cap] 32)).alloc (.cells #[.int .i64 b.kind, .int .i64 b.prio, .int .i64 b.per, .int .i64 b.off, .int .i64 b.dl, .int .i64 b.own, .slice b.A b.len b.cap] 32))
  have hE : sameB a b p q = decide (a.kind = b.kind ∧ a.prio = b.prio ∧ a.per = b.per ∧ a.off = b.off ∧ a.dl = b.dl ∧ a.own = b.own ∧ p = q) := rfl
  clear hn hm hx hy
  by_cases h0 : a.kind = b.kind
  rotate_left
  · have e0 : (a.kind == b.kind) = false := by simpa using h0
    rw [decide_eq_false (fun h => h0 h.1)] at hE
    have HE := Lib.hid hE
    clear hE EQ h0
    go_enter Tryd.func16, Tryd.ntmps16
    go_wp2_with fail
    go_ret
    exact ⟨ret_bool HE.out.symm, S2.out⟩
  have e0 : (a.kind == b.kind) = true := by simpa using h0
  by_cases h1 : a.prio = b.prio
  rotate_left
  · have e1 : (a.prio == b.prio) = false := by simpa using h1
    rw [decide_eq_false (fun h => h1 h.2.1)] at hE
    have HE := Lib.hid hE
    clear hE EQ h0 h1
    go_enter Tryd.func16, Tryd.ntmps16
    go_wp2_with fail
    go_ret
    exact ⟨ret_bool HE.out.symm, S2.out⟩
  have e1 : (a.prio == b.prio) = true := by simpa using h1
  by_cases h2 : a.per = b.per
  rotate_left
  · have e2 : (a.per == b.per) = false := by simpa using h2
    rw [decide_eq_false (fun h => h2 h.2.2.1)] at hE
    have HE := Lib.hid hE
    clear hE EQ h0 h1 h2
    go_enter Tryd.func16, Tryd.ntmps16
    go_wp2_with fail
    go_ret
    exact ⟨ret_bool HE.out.symm, S2.out⟩
  have e2 : (a.per == b.per) = true := by simpa using h2
  by_cases h3 : a.off = b.off
  rotate_left
  · have e3 : (a.off == b.off) = false := by simpa using h3
    rw [decide_eq_false (fun h => h3 h.2.2.2.1)] at hE
    have HE := Lib.hid hE
    clear hE EQ h0 h1 h2 h3
    go_enter Tryd.func16, Tryd.ntmps16
    go_wp2_with fail
    go_ret
    exact ⟨ret_bool HE.out.symm, S2.out⟩
  have e3 : (a.off == b.off) = true := by simpa using h3
  by_cases h4 : a.dl = b.dl
  rotate_left
  · have e4 : (a.dl == b.dl) = false := by simpa using h4
    rw [decide_eq_false (fun h => h4 h.2.2.2.2.1)] at hE
    have HE := Lib.hid hE
    clear hE EQ h0 h1 h2 h3 h4
    go_enter Tryd.func16, Tryd.ntmps16
    go_wp2_with fail
    go_ret
    exact ⟨ret_bool HE.out.symm, S2.out⟩
  have e4 : (a.dl == b.dl) = true := by simpa using h4
  by_cases h5 : a.own = b.own
  rotate_left
  · have e5 : (a.own == b.own) = false := by simpa using h5
    rw [decide_eq_false (fun h => h5 h.2.2.2.2.2.1)] at hE
    have HE := Lib.hid hE
    clear hE EQ h0 h1 h2 h3 h4 h5
    go_enter Tryd.func16, Tryd.ntmps16
    go_wp2_with fail
    go_ret
    exact ⟨ret_bool HE.out.symm, S2.out⟩
  have e5 : (a.own == b.own) = true := by simpa using h5
  have hE2 : sameB a b p q = decide (p = q) := by rw [hE, Bool.eq_iff_iff]; simp [h0, h1, h2, h3, h4, h5]
  have HE := Lib.hid hE2
  clear hE hE2 h0 h1 h2 h3 h4 h5
  go_enter Tryd.func16, Tryd.ntmps16
  go_wp2_with fail
  refine (EQ.out _ S2.out).mono ?_
  rintro e w1 ⟨rfl, s1⟩
  go_wp2_with fail
  go_ret
  exact ⟨ret_bool HE.out.symm, S2.out.trans s1⟩
set_option maxRecDepth 100000 in
theorem same_any (a b : Task) (p q : List Ins) (w : World) (hn : p.length = a.len) (hm : q.length = b.len) (hx : Prg w a.A p) (hy : Prg w b.A q) (b1 : a.len ≤ 5000) (b2 : b.len ≤ 5000) :
    Calls Tryd.prog 19 #[.agg #[.int .i64 a.kind, .int .i64 a.prio, .int .i64 a.per, .int .i64 a.off, .int .i64 a.dl, .int .i64 a.own, .slice a.A a.len a.cap], .agg #[.int .i64 b.kind, .int .i64 b.prio, .int .i64 b.per, .int .i64 b.off, .int .i64 b.dl, .int .i64 b.own, .slice b.A b.len b.cap]] w fun e w' => e = .returned (.bool (sameB a b p q)) ∧ Same w w' := by
  have EQ := Lib.hid (fun w' (s : Same w w') => equal_any a.A b.A a.len b.len a.cap b.cap p q w' hn hm (hx.same s) (hy.same s) b1 b2)
  have S2 := Lib.hid (((Same.refl w).alloc (.cells #[.int .i64 a.kind, .int .i64 a.prio, .int .i64 a.per, .int .i64 a.off, .int .i64 a.dl, .int .i64 a.own, .slice a.A a.len a.cap] 32)).alloc (.cells #[.int .i64 b.kind, .int .i64 b.prio, .int .i64 b.per, .int .i64 b.off, .int .i64 b.dl, .int .i64 b.own, .slice b.A b.len b.cap] 32))
  have hE : sameB a b p q = decide (a.kind = b.kind ∧ a.prio = b.prio ∧ a.per = b.per ∧ a.off = b.off ∧ a.dl = b.dl ∧ a.own = b.own ∧ p = q) := rfl
  clear hn hm hx hy
  by_cases h0 : a.kind = b.kind
  rotate_left
  · have e0 : (a.kind == b.kind) = false := by simpa using h0
    rw [decide_eq_false (fun h => h0 h.1)] at hE
    have HE := Lib.hid hE
    clear hE EQ h0
    go_enter Tryd.func19, Tryd.ntmps19
    go_wp2_with fail
    go_ret
    exact ⟨ret_bool HE.out.symm, S2.out⟩
  have e0 : (a.kind == b.kind) = true := by simpa using h0
  by_cases h1 : a.prio = b.prio
  rotate_left
  · have e1 : (a.prio == b.prio) = false := by simpa using h1
    rw [decide_eq_false (fun h => h1 h.2.1)] at hE
    have HE := Lib.hid hE
    clear hE EQ h0 h1
    go_enter Tryd.func19, Tryd.ntmps19
    go_wp2_with fail
    go_ret
    exact ⟨ret_bool HE.out.symm, S2.out⟩
  have e1 : (a.prio == b.prio) = true := by simpa using h1
  by_cases h2 : a.per = b.per
  rotate_left
  · have e2 : (a.per == b.per) = false := by simpa using h2
    rw [decide_eq_false (fun h => h2 h.2.2.1)] at hE
    have HE := Lib.hid hE
    clear hE EQ h0 h1 h2
    go_enter Tryd.func19, Tryd.ntmps19
    go_wp2_with fail
    go_ret
    exact ⟨ret_bool HE.out.symm, S2.out⟩
  have e2 : (a.per == b.per) = true := by simpa using h2
  by_cases h3 : a.off = b.off
  rotate_left
  · have e3 : (a.off == b.off) = false := by simpa using h3
    rw [decide_eq_false (fun h => h3 h.2.2.2.1)] at hE
    have HE := Lib.hid hE
    clear hE EQ h0 h1 h2 h3
    go_enter Tryd.func19, Tryd.ntmps19
    go_wp2_with fail
    go_ret
    exact ⟨ret_bool HE.out.symm, S2.out⟩
  have e3 : (a.off == b.off) = true := by simpa using h3
  by_cases h4 : a.dl = b.dl
  rotate_left
  · have e4 : (a.dl == b.dl) = false := by simpa using h4
    rw [decide_eq_false (fun h => h4 h.2.2.2.2.1)] at hE
    have HE := Lib.hid hE
    clear hE EQ h0 h1 h2 h3 h4
    go_enter Tryd.func19, Tryd.ntmps19
    go_wp2_with fail
    go_ret
    exact ⟨ret_bool HE.out.symm, S2.out⟩
  have e4 : (a.dl == b.dl) = true := by simpa using h4
  by_cases h5 : a.own = b.own
  rotate_left
  · have e5 : (a.own == b.own) = false := by simpa using h5
    rw [decide_eq_false (fun h => h5 h.2.2.2.2.2.1)] at hE
    have HE := Lib.hid hE
    clear hE EQ h0 h1 h2 h3 h4 h5
    go_enter Tryd.func19, Tryd.ntmps19
    go_wp2_with fail
    go_ret
    exact ⟨ret_bool HE.out.symm, S2.out⟩
  have e5 : (a.own == b.own) = true := by simpa using h5
  have hE2 : sameB a b p q = decide (p = q) := by rw [hE, Bool.eq_iff_iff]; simp [h0, h1, h2, h3, h4, h5]
  have HE := Lib.hid hE2
  clear hE hE2 h0 h1 h2 h3 h4 h5
  go_enter Tryd.func19, Tryd.ntmps19
  go_wp2_with fail
  refine (EQ.out _ S2.out).mono ?_
  rintro e w1 ⟨rfl, s1⟩
  go_wp2_with fail
  go_ret
  exact ⟨ret_bool HE.out.symm, S2.out.trans s1⟩

theorem ins_info : (Tryd.prog.info? 35).map (fun i => (i.zero, i.size, i.bytes)) = some (some (.agg #[.int .i64 0, .int .i64 0, .int .i64 0, .int .i64 0, .int .u32 0]), 5, 40) := by kernel_rfl
/-- a copy of a task: the same numbers, its program in a row of its own -/
def Copied (w : World) (t : Task) (p : List Ins) (e : Ending) (w' : World) : Prop :=
  ∃ A c, e = .returned (.agg #[.int .i64 t.kind, .int .i64 t.prio, .int .i64 t.per, .int .i64 t.off, .int .i64 t.dl, .int .i64 t.own, .slice A t.len c]) ∧ OwnK w' w.heap.size 35 5 A t.len c (pflat p) ∧ Same w w'
theorem copied_mk {w w' : World} {t : Task} {p : List Ins} {A : Option Addr} {c : Nat} (h : OwnK w' w.heap.size 35 5 A t.len c (pflat p)) (hs : Same w w') :
    Copied w t p (.returned (.agg #[.int .i64 t.kind, .int .i64 t.prio, .int .i64 t.per, .int .i64 t.off, .int .i64 t.dl, .int .i64 t.own, .slice A t.len c])) w' := ⟨A, c, rfl, h, hs⟩

end Go.Proofs.YtaclphhbdfoaeaaDoor.Tk
