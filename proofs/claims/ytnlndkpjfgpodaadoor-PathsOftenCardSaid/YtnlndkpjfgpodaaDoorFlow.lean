/-

  Contracts of package flow (layer 10): what is wrong of a program first, and where.
-/
import Derived.Test.YtnlndkpjfgpodaaDoorIsa
import Derived.Test.YtnlndkpjfgpodaaDoorIsaRef
import Derived.Test.YtnlndkpjfgpodaaDoorFlowMore
import Derived.Test.YtnlndkpjfgpodaaDoorWordsK
import Derived.Deep.LoopGhost
import Derived.Deep.RegionHeld3
import Derived.BigQuiet
section
set_option linter.unusedSimpArgs false
set_option linter.unusedVariables false
namespace Go.Proofs.YtnlndkpjfgpodaaDoor.Is
open Go.ChangeShapes Go.WideShapes Go.ChangeAt Go.RowKit Ws

theorem ret_int' {a b : Int} (h : a = b) : Ending.returned (.int .i64 a) = .returned (.int .i64 b) := by rw [h]
def leadB (op : Int) : Bool := decide (14 ≤ op ∧ op ≤ 16)
def callB (op : Int) : Bool := decide (17 ≤ op ∧ op ≤ 20)
def callV (op : Int) : Int := if 17 ≤ op ∧ op ≤ 20 then op - 16 else 0

theorem rleads_any (op : Int) (w : World) :
    Calls Tryd.prog 116 #[.int .i64 op] w fun e w' => e = .returned (.bool (leadB op)) ∧ w = w' := by
  go_enter Tryd.func116, Tryd.ntmps116
  go_wp2
  all_goals
    go_ret
    exact ⟨ret_bool (by unfold leadB; simp; omega), rfl⟩

def ret2i (a : Int) (p : Bool) : Ending := .returned (.tuple #[.int .i64 a, .bool p])
set_option maxRecDepth 100000 in
set_option maxHeartbeats 1000000 in
theorem target_any (op a b c n : Int) (hn : 0 ≤ n ∧ n < 4294967296) (w : World) (ht : Tabs w) :
    Calls Tryd.prog 107 #[ins op a b c n] w fun e w' => e = ret2i (if rightB op a b c n && leadB op then n else 0) (rightB op a b c n && leadB op) ∧ Same w w' := by
  have HT := Lib.hid ht
  clear ht
  obtain ⟨r, hr⟩ : ∃ r, r = rightB op a b c n := ⟨_, rfl⟩
  rw [← hr]
  have HR := Lib.hid hr
  clear hr
  unfold ins
  cases r
  · go_enter Tryd.func107, Tryd.ntmps107
    go_wp2_with fail
    refine (right_any op a b c n hn _ (HT.out.same ((Same.refl _).alloc _))).mono ?_
    rintro e w1 ⟨rfl, s1⟩
    rw [← HR.out]
    go_wp2_with fail
    go_ret2
    exact ⟨rfl, Same.trans ((Same.refl _).alloc _) s1⟩
  · cases hl : leadB op
    · have hop : op < 14 ∨ 16 < op := by unfold leadB at hl; simp at hl; omega
      have HL := Lib.hid hl
      clear hl
      rcases hop with hop | hop
      all_goals
        go_enter Tryd.func107, Tryd.ntmps107
        go_wp2_with fail
        refine (right_any op a b c n hn _ (HT.out.same ((Same.refl _).alloc _))).mono ?_
        rintro e w1 ⟨rfl, s1⟩
        rw [← HR.out]
        have b0 := s1.new (i := 0) rfl
        have s01 := Same.trans ((Same.refl w).alloc (.cells #[.int .i64 op, .int .i64 a, .int .i64 b, .int .i64 c, .int .u32 n] 67)) s1
        clear s1
        go_wp2_with fail
        go_ret2
        exact ⟨rfl, s01⟩
    · have hop : 14 ≤ op ∧ op ≤ 16 := by unfold leadB at hl; simpa using hl
      have h1 : ¬ op < 14 := by omega
      have h2 : ¬ 16 < op := by omega
      have HL := Lib.hid hl
      clear hl hop
      go_enter Tryd.func107, Tryd.ntmps107
      go_wp2_with fail
      refine (right_any op a b c n hn _ (HT.out.same ((Same.refl _).alloc _))).mono ?_
      rintro e w1 ⟨rfl, s1⟩
      rw [← HR.out]
      have b0 := s1.new (i := 0) rfl
      have b4 := s1.new (i := 4) rfl
      have s01 := Same.trans ((Same.refl w).alloc (.cells #[.int .i64 op, .int .i64 a, .int .i64 b, .int .i64 c, .int .u32 n] 67)) s1
      clear s1
      go_wp2_with fail
      go_ret2
      exact ⟨rfl, s01⟩

def ret3b (a p : Int) (t : Bool) : Ending := .returned (.tuple #[.int .i64 a, .int .i64 p, .bool t])
end Go.Proofs.YtnlndkpjfgpodaaDoor.Is
end
section
set_option linter.unusedVariables false
set_option linter.unusedSimpArgs false
namespace Go.Proofs.YtnlndkpjfgpodaaDoor.Fw
open Go.ChangeShapes Go.WideShapes Go.ChangeAt Go.RowKit Ws Fp
open Go.Proofs.YtnlndkpjfgpodaaDoor.Is (Tabs ins rightB leadB target_any right_any ret2i)

def cells (x : Ins) : List Value := [.int .i64 x.op, .int .i64 x.a, .int .i64 x.b, .int .i64 x.c, .int .u32 x.n]
def rightI (x : Ins) : Bool := rightB x.op x.a x.b x.c x.n
/-- the slice at A holds these instructions, one behind the other -/
def Prg (w : World) (A : Option Addr) (p : List Ins) : Prop :=
  ∀ i x, p[i]? = some x → x.ok ∧ ∃ b o, A = some ⟨b, o, none⟩ ∧ ∀ j v, (cells x)[j]? = some v → w.cell? ⟨b, o + i * 5 + j, none⟩ = some v
theorem Prg.same {w w' : World} {A : Option Addr} {p : List Ins} (h : Prg w A p) (hs : Same w w') : Prg w' A p := by
  intro i x hx
  obtain ⟨h1, b, o, h2, h3⟩ := h i x hx
  exact ⟨h1, b, o, h2, fun j v hv => hs.cell (h3 j v hv)⟩
theorem Prg.at_ {w : World} {A : Option Addr} {p : List Ins} (h : Prg w A p) {k : Nat} (hk : k < p.length) :
    (Fp.at_ p k).ok ∧ ∃ b o, A = some ⟨b, o, none⟩ ∧ w.cell? ⟨b, o + k * 5, none⟩ = some (.int .i64 (Fp.at_ p k).op) ∧ w.cell? ⟨b, o + k * 5 + 1, none⟩ = some (.int .i64 (Fp.at_ p k).a) ∧ w.cell? ⟨b, o + k * 5 + 2, none⟩ = some (.int .i64 (Fp.at_ p k).b) ∧ w.cell? ⟨b, o + k * 5 + 3, none⟩ = some (.int .i64 (Fp.at_ p k).c) ∧ w.cell? ⟨b, o + k * 5 + 4, none⟩ = some (.int .u32 (Fp.at_ p k).n) := by
  obtain ⟨h1, b, o, h2, h3⟩ := h k _ (at_some hk)
  exact ⟨h1, b, o, h2, h3 0 _ rfl, h3 1 _ rfl, h3 2 _ rfl, h3 3 _ rfl, h3 4 _ rfl⟩
/-- all words of the instructions are words -/
theorem Prg.ok {w : World} {A : Option Addr} {p : List Ins} (h : Prg w A p) {k : Nat} (hk : k < p.length) : (Fp.at_ p k).ok := (h.at_ hk).1
theorem Prg.nn {w : World} {A : Option Addr} {p : List Ins} (h : Prg w A p) : ∀ j, j < p.length → 0 ≤ (Fp.at_ p j).n := fun j hj => (h.ok hj).1

/-- the slice at A holds these loops -/
def Spn (w : World) (A : Option Addr) (l : List (Int × Int)) : Prop :=
  ∀ k s, l[k]? = some s → ∃ b o, A = some ⟨b, o, none⟩ ∧ w.cell? ⟨b, o + k * 2, none⟩ = some (.int .i64 s.1) ∧ w.cell? ⟨b, o + k * 2 + 1, none⟩ = some (.int .i64 s.2)
theorem Spn.same {w w' : World} {A : Option Addr} {l : List (Int × Int)} (h : Spn w A l) (hs : Same w w') : Spn w' A l := by
  intro k s hk
  obtain ⟨b, o, h1, h2, h3⟩ := h k s hk
  exact ⟨b, o, h1, hs.cell h2, hs.cell h3⟩
theorem Spn.at_ {w : World} {A : Option Addr} {l : List (Int × Int)} (h : Spn w A l) {k : Nat} (hk : k < l.length) : ∃ b o, A = some ⟨b, o, none⟩ ∧ w.cell? ⟨b, o + k * 2, none⟩ = some (.int .i64 (lp l k).1) ∧ w.cell? ⟨b, o + k * 2 + 1, none⟩ = some (.int .i64 (lp l k).2) := h k _ (lp_get hk)
def spanCells (l : List (Int × Int)) : List Value := l.flatMap fun s => [.int .i64 s.1, .int .i64 s.2]
theorem spanCells_app (a b : List (Int × Int)) : spanCells (a ++ b) = spanCells a ++ spanCells b := by unfold spanCells; rw [List.flatMap_append]
theorem spanCells_len (l : List (Int × Int)) : (spanCells l).length = l.length * 2 := by
  unfold spanCells
  induction l with
  | nil => rfl
  | cons x l ih => rw [List.flatMap_cons, List.length_append, ih, List.length_cons]; simp; omega
theorem spanCells_get : ∀ (l : List (Int × Int)) (k : Nat) (s : Int × Int), l[k]? = some s → (spanCells l)[k * 2]? = some (.int .i64 s.1) ∧ (spanCells l)[k * 2 + 1]? = some (.int .i64 s.2)
  | [], k, s, h => by simp at h
  | x :: l, 0, s, h => by
    simp at h
    subst h
    exact ⟨rfl, rfl⟩
  | x :: l, k + 1, s, h => by
    have := spanCells_get l k s (by simpa using h)
    have e : spanCells (x :: l) = .int .i64 x.1 :: .int .i64 x.2 :: spanCells l := rfl
    rw [e, show (k + 1) * 2 = k * 2 + 1 + 1 by omega]
    exact this
theorem spn_of {w : World} {A : Option Addr} {l : List (Int × Int)} (h : Row w A (spanCells l)) : Spn w A l := by
  intro k s hk
  obtain ⟨h1, h2⟩ := spanCells_get l k s hk
  obtain ⟨b, o, hA, hc⟩ := h _ _ h1
  obtain ⟨b', o', hA', hc'⟩ := h _ _ h2
  rw [hA] at hA'
  injection hA' with hA'
  injection hA' with e1 e2
  subst e1
  subst e2
  exact ⟨b, o, hA, hc, by rw [Nat.add_assoc]; exact hc'⟩

theorem ret_bool {a b : Bool} (h : a = b) : Ending.returned (.bool a) = .returned (.bool b) := by rw [h]
theorem ret_ib {a a' : Int} {b b' : Bool} (h1 : a = a') (h2 : b = b') : Ending.returned (.tuple #[.int .i64 a, .bool b]) = .returned (.tuple #[.int .i64 a', .bool b']) := by rw [h1, h2]
theorem ret_ii {a a' b b' : Int} (h1 : a = a') (h2 : b = b') : Ending.returned (.tuple #[.int .i64 a, .int .i64 b]) = .returned (.tuple #[.int .i64 a', .int .i64 b']) := by rw [h1, h2]
theorem i64_of (x : Int) (h : -9223372036854775808 ≤ x ∧ x ≤ 9223372036854775807) : IntKind.i64.wrap x = x := Go.IntWalk.i64_in _ (by omega)

theorem tgt_lead (x : Ins) (hok : x.ok) (hr : rightI x = true) (hl : leadB x.op = true) (w : World) (ht : Tabs w) : Calls Tryd.prog 107 #[ins x.op x.a x.b x.c x.n] w fun e w' => e = .returned (.tuple #[.int .i64 x.n, .bool true]) ∧ Same w w' := by
  refine (target_any x.op x.a x.b x.c x.n hok w ht).mono fun e w' ⟨he, hs⟩ => ⟨?_, hs⟩
  have hr' : rightB x.op x.a x.b x.c x.n = true := hr
  rw [he, hr', hl]
  rfl
theorem tgt_not (x : Ins) (hok : x.ok) (hl : leadB x.op = false) (w : World) (ht : Tabs w) : Calls Tryd.prog 107 #[ins x.op x.a x.b x.c x.n] w fun e w' => e = .returned (.tuple #[.int .i64 0, .bool false]) ∧ Same w w' := by
  refine (target_any x.op x.a x.b x.c x.n hok w ht).mono fun e w' ⟨he, hs⟩ => ⟨?_, hs⟩
  rw [he, hl, Bool.and_false]
  rfl

theorem stray_any (A : Option Addr) (m c : Nat) (p : List Ins) (k : Nat) (w : World) (hl : p.length = m) (hm : m ≤ 5000) (hp : Prg w A p) (ht : Tabs w) (hk : k < m) (hr : rightI (Fp.at_ p k) = true) :
    Calls Tryd.prog 82 #[.slice A m c, .int .i64 k] w fun e w' => e = .returned (.bool (strayB p k)) ∧ Same w w' := by
  obtain ⟨hok, b, o, rfl, c0, c1, c2, c3, c4⟩ := hp.at_ (k := k) (by omega)
  have hki : (k : Int) < m := by omega
  have hk0 : (0 : Int) ≤ k := by omega
  have hs : strayB p k = if (Fp.at_ p k).op = 16 then decide ((k : Int) ≤ (Fp.at_ p k).n) else if (Fp.at_ p k).op = 14 ∨ (Fp.at_ p k).op = 15 then decide ((Fp.at_ p k).n ≤ (k : Int) ∨ (m : Int) ≤ (Fp.at_ p k).n) else false := by rw [← hl]; rfl
  rw [hs]
  clear hs hp hl
  generalize Fp.at_ p k = x at *
  have hn := hok
  unfold Ins.ok at hn
  cases hle : leadB x.op
  · have hop : ¬ x.op = 16 ∧ ¬ (x.op = 14 ∨ x.op = 15) := by unfold leadB at hle; simp at hle; omega
    rw [if_neg hop.1, if_neg hop.2]
    have TG := Lib.hid (tgt_not x hok hle w ht)
    clear ht hr hle hop hok
    unfold ins at TG
    go_enter Tryd.func82, Tryd.ntmps82
    go_wp2_with fail
    refine TG.out.mono ?_
    rintro e w1 ⟨rfl, s1⟩
    go_wp2
    go_ret
    exact ⟨rfl, s1⟩
  · have TG := Lib.hid (tgt_lead x hok hr hle w ht)
    have hop : x.op = 14 ∨ x.op = 15 ∨ x.op = 16 := by unfold leadB at hle; simp at hle; omega
    clear ht hr hle hok
    unfold ins at TG
    by_cases h16 : x.op = 16
    · rw [if_pos h16]
      have b16 : (x.op == 16) = true := by simpa using h16
      clear hop h16
      go_enter Tryd.func82, Tryd.ntmps82
      go_wp2_with fail
      refine TG.out.mono ?_
      rintro e w1 ⟨rfl, s1⟩
      have c0' := s1.cell c0
      go_wp2
      go_ret
      exact ⟨rfl, s1⟩
    · rw [if_neg h16, if_pos (by omega)]
      have b16 : (x.op == 16) = false := by simpa using h16
      clear hop h16
      by_cases h1 : x.n ≤ (k : Int)
      · have b1 : decide (x.n ≤ (k : Int)) = true := decide_eq_true h1
        rw [decide_eq_true (.inl h1 : x.n ≤ (k : Int) ∨ (m : Int) ≤ x.n)]
        go_enter Tryd.func82, Tryd.ntmps82
        go_wp2_with fail
        refine TG.out.mono ?_
        rintro e w1 ⟨rfl, s1⟩
        have c0' := s1.cell c0
        go_wp2
        go_ret
        exact ⟨rfl, s1⟩
      · have b1 : decide (x.n ≤ (k : Int)) = false := decide_eq_false h1
        have e1 : decide (x.n ≤ (k : Int) ∨ (m : Int) ≤ x.n) = decide ((m : Int) ≤ x.n) := by rw [decide_eq_decide]; omega
        rw [e1]
        clear e1
        go_enter Tryd.func82, Tryd.ntmps82
        go_wp2_with fail
        refine TG.out.mono ?_
        rintro e w1 ⟨rfl, s1⟩
        have c0' := s1.cell c0
        go_wp2
        go_ret
        exact ⟨rfl, s1⟩

theorem has_any (a b x : Int) (w : World) :
    Calls Tryd.prog 109 #[.agg #[.int .i64 a, .int .i64 b], .int .i64 x] w fun e w' => e = .returned (.bool (hasB (a, b) x)) ∧ Same w w' := by
  unfold hasB
  by_cases h1 : a ≤ x
  · have e1 : decide ((a, b).1 ≤ x ∧ x ≤ (a, b).2) = decide (x ≤ b) := by rw [decide_eq_decide]; exact ⟨fun h => h.2, fun h => ⟨h1, h⟩⟩
    rw [e1]
    have b1 : decide (a ≤ x) = true := decide_eq_true h1
    clear e1
    go_enter Tryd.func109, Tryd.ntmps109
    go_wp2
    go_ret
    exact ⟨rfl, (Same.refl _).alloc _⟩
  · have e1 : decide ((a, b).1 ≤ x ∧ x ≤ (a, b).2) = false := decide_eq_false fun h => h1 h.1
    rw [e1]
    have b1 : decide (a ≤ x) = false := decide_eq_false h1
    clear e1
    go_enter Tryd.func109, Tryd.ntmps109
    go_wp2
    go_ret
    exact ⟨rfl, (Same.refl _).alloc _⟩

theorem over_any (a b c d : Int) (w : World) :
    Calls Tryd.prog 108 #[.agg #[.int .i64 a, .int .i64 b], .agg #[.int .i64 c, .int .i64 d]] w fun e w' => e = .returned (.bool (overB (a, b) (c, d))) ∧ Same w w' := by
  have HA := fun w' => has_any a b c w'
  have hs0 := ((Same.refl w).alloc (.cells #[.int .i64 a, .int .i64 b] 78)).alloc (.cells #[.int .i64 c, .int .i64 d] 78)
  have b1 := (Blk.new w 78 #[.int .i64 a, .int .i64 b]).same ((Same.refl _).alloc (.cells #[.int .i64 c, .int .i64 d] 78))
  have b2 := Blk.new (w.alloc (.cells #[.int .i64 a, .int .i64 b] 78)) 78 #[.int .i64 c, .int .i64 d]
  rw [show (w.alloc (.cells #[.int .i64 a, .int .i64 b] 78)).heap.size = w.heap.size + 1 by simp] at b2
  have HS0 := Lib.hid hs0
  have B1 := Lib.hid b1
  have B2 := Lib.hid b2
  clear hs0 b1 b2
  have e0 : overB (a, b) (c, d) = (hasB (a, b) c && decide (a < c)) := by
    unfold overB hasB
    rw [Bool.eq_iff_iff]
    simp
  rw [e0]
  cases hh : hasB (a, b) c
  · rw [hh] at HA
    rw [Bool.false_and]
    clear e0 hh
    go_enter Tryd.func108, Tryd.ntmps108
    go_wp2_with fail
    refine (HA _).mono ?_
    rintro e w1 ⟨rfl, s1⟩
    go_wp2
    go_ret
    exact ⟨rfl, HS0.out.trans s1⟩
  · rw [hh] at HA
    rw [Bool.true_and]
    clear e0 hh
    go_enter Tryd.func108, Tryd.ntmps108
    go_wp2_with fail
    refine (HA _).mono ?_
    rintro e w1 ⟨rfl, s1⟩
    have k1 := (B1.out.same s1).cell 0
    have k2 := (B2.out.same s1).cell 0
    go_wp2
    go_ret
    exact ⟨rfl, HS0.out.trans s1⟩

end Go.Proofs.YtnlndkpjfgpodaaDoor.Fw
end
