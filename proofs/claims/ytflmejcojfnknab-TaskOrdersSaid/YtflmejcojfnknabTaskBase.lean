/-

  Contracts of package task (layer 26): who goes ahead of whom, who goes above one, when all periods begin anew; the chapter's example.
-/
import Derived.Test.YtflmejcojfnknabTaskOpen
import Derived.Test.YtflmejcojfnknabWordBase
import Derived.Test.YtflmejcojfnknabWordsK
import Derived.WalkKit
import Derived.Deep.LoopGhost
import Derived.Deep.RegionHeld3
import Derived.BigQuiet
set_option linter.unusedVariables false
set_option linter.unusedSimpArgs false
namespace Go.Proofs.Ytflmejcojfnknab.Tk
open Go.ChangeShapes Go.WideShapes Go.ChangeAt Go.RowKit Ws
open Go.Proofs.Ytflmejcojfnknab.Wd (ret_bool ret_int lcmv wlcm)

theorem ints_eq (A C : Option Addr) (n m c d : Nat) (xs ys : List Int) (w : World) (hn : xs.length = n) (hm : ys.length = m) (hx : Row w A (xs.map (Value.int .i64))) (hy : Row w C (ys.map (Value.int .i64)))
    (b1 : n ≤ 4294967296) (b2 : m ≤ 4294967296) :
    Calls Try.prog 12 #[.slice A n c, .slice C m d] w fun e w' => e = .returned (.bool (decide (xs = ys))) ∧ ∃ k, w' = w.drewN k := by
  by_cases hl : n = m
  · subst hl
    have HX := Lib.hid hn
    have HY := Lib.hid hm
    clear hn hm
    go_enter Try.func12, Try.ntmps12
    go_wp2
    go_loopw [5, 13] (fun _ i wr => ∃ k : Nat, k ≤ n ∧ i = .int .i64 k ∧ xs.take k = ys.take k ∧ ∃ q, wr = w.drewN q) (fun _ i _ => n - (intOf i).toNat)
    case atStart => exact ⟨0, Nat.zero_le _, rfl, by simp, 0, rfl⟩
    case round =>
      obtain ⟨k, hk, rfl, hp, q, rfl⟩ := hrel
      have HP := Lib.hid hp
      clear hp
      by_cases hlt : k < n
      · obtain ⟨b, o, rfl, hc1⟩ := hx.at_ (k := k) (by have := HX.out; simp; omega)
        obtain ⟨b', o', rfl, hc2⟩ := hy.at_ (k := k) (by have := HY.out; simp; omega)
        rw [List.getElem_map] at hc1 hc2
        have hkx : k < xs.length := by have := HX.out; omega
        have hky : k < ys.length := by have := HY.out; omega
        have hsx : xs.take (k + 1) = xs.take k ++ [xs[k]] := by rw [List.take_succ_eq_append_getElem hkx]
        have hsy : ys.take (k + 1) = ys.take k ++ [ys[k]] := by rw [List.take_succ_eq_append_getElem hky]
        obtain ⟨x, hxx⟩ : ∃ x, x = xs[k] := ⟨_, rfl⟩
        obtain ⟨y, hyy⟩ : ∃ y, y = ys[k] := ⟨_, rfl⟩
        rw [← hxx] at hc1 hsx
        rw [← hyy] at hc2 hsy
        have HSX := Lib.hid hsx
        have HSY := Lib.hid hsy
        clear hsx hsy hxx hyy
        by_cases hxy : x = y
        · have hb : (x != y) = false := by simpa using hxy
          have HXY := Lib.hid hxy
          clear hxy
          go_wp2
          go_quiet (fail)
          go_wp2
          go_roundw
          case rel => exact ⟨k + 1, by omega, by go_num, by rw [HSX.out, HSY.out, HP.out, HXY.out], _, rfl⟩
          case measure => simp [intOf]; omega
        · have hb : (x != y) = true := by simpa using hxy
          have hd : decide (xs = ys) = false := by
            rw [decide_eq_false_iff_not]
            rintro rfl
            have := HSX.out
            rw [HSY.out] at this
            have := List.append_cancel_left this
            injection this with this
            exact hxy this.symm
          have HD := Lib.hid hd
          clear hd hxy
          go_wp2
          go_quiet (fail)
          go_wp2
          go_ret
          exact ⟨ret_bool HD.out.symm, q + nq, by simp⟩
      · have hkn : k = n := by omega
        subst hkn
        have hd : decide (xs = ys) = true := by
          rw [decide_eq_true_iff]
          have h1 := HP.out
          rw [List.take_of_length_le (by have := HX.out; omega), List.take_of_length_le (by have := HY.out; omega)] at h1
          exact h1
        have HD := Lib.hid hd
        clear hd
        go_wp2
        go_ret
        exact ⟨ret_bool HD.out.symm, _, rfl⟩
  · have hd : decide (xs = ys) = false := by
      rw [decide_eq_false_iff_not]
      rintro rfl
      omega
    have HD := Lib.hid hd
    clear hd
    have hne : ((n : Int) != (m : Int)) = true := by simp; omega
    go_enter Try.func12, Try.ntmps12
    go_wp2
    go_ret
    exact ⟨ret_bool HD.out.symm, 0, rfl⟩

theorem place_any (A : Option Addr) (m c a : Nat) (ha : a < m) (w : World) :
    Calls Try.prog 22 #[.slice A m c, .int .i64 a] w fun e w' => e = .returned (.bool true) ∧ Same w w' := by
  have h0 : (0 : Int) ≤ a := by omega
  have h1 : (a : Int) < m := by omega
  go_enter Try.func22, Try.ntmps22
  go_wp2_with fail
  go_ret
  exact ⟨rfl, Same.refl _⟩

/-- does the task at a go ahead of the one at b? -/
def aheadB (ts : List Task) (a b : Nat) : Bool := if (at_ ts a).prio = (at_ ts b).prio then decide (a < b) else decide ((at_ ts b).prio < (at_ ts a).prio)
set_option maxRecDepth 100000 in
theorem ahead_any (A : Option Addr) (m c : Nat) (ts : List Task) (a b : Nat) (w : World) (hl : ts.length = m) (ha : a < m) (hb : b < m) (ht : Tasks w A ts) :
    Calls Try.prog 10 #[.slice A m c, .int .i64 a, .int .i64 b] w fun e w' => e = .returned (.bool (aheadB ts a b)) ∧ Same w w' := by
  have PA := Lib.hid (place_any A m c a ha)
  have PB := Lib.hid (place_any A m c b hb)
  have HT := Lib.hid ht
  have HL := Lib.hid hl
  clear ht hl
  have ha0 : (0 : Int) ≤ a := by omega
  have ha1 : (a : Int) < m := by omega
  have hb0 : (0 : Int) ≤ b := by omega
  have hb1 : (b : Int) < m := by omega
  go_enter Try.func10, Try.ntmps10
  go_wp2_with fail
  refine (PA.out _).mono ?_
  rintro e w1 ⟨rfl, s1⟩
  have HS1 := Lib.hid s1
  clear s1 PA
  go_wp2_with fail
  refine (PB.out _).mono ?_
  rintro e w2 ⟨rfl, s2⟩
  have HS2 := Lib.hid (HS1.out.trans s2)
  clear s2 PB
  obtain ⟨_, ba, oa, rfl, _, c1, _⟩ := (HT.out.same HS2.out).at_ (k := a) (by have := HL.out; omega)
  obtain ⟨_, bb, ob, hbb, _, d1, _⟩ := (HT.out.same HS2.out).at_ (k := b) (by have := HL.out; omega)
  injection hbb with hbb
  injection hbb with h1 h2
  subst h1
  subst h2
  have hE : aheadB ts a b = if (at_ ts a).prio = (at_ ts b).prio then decide (a < b) else decide ((at_ ts b).prio < (at_ ts a).prio) := rfl
  generalize (at_ ts a).prio = x at *
  generalize (at_ ts b).prio = y at *
  by_cases hxy : x = y
  · rw [if_pos hxy] at hE
    have e1 : (x != y) = false := by simpa using hxy
    clear hxy
    by_cases hab : a < b
    · have hab' : (a : Int) < b := by omega
      rw [decide_eq_true hab] at hE
      have HE := Lib.hid hE
      clear hE
      go_wp2_with fail
      go_quiet (fail)
      have HS3 := Lib.hid (HS2.out.drewN nq)
      go_wp2_with fail
      go_ret
      exact ⟨ret_bool HE.out.symm, HS3.out⟩
    · have hab' : ¬ (a : Int) < b := by omega
      rw [decide_eq_false hab] at hE
      have HE := Lib.hid hE
      clear hE
      go_wp2_with fail
      go_quiet (fail)
      have HS3 := Lib.hid (HS2.out.drewN nq)
      go_wp2_with fail
      go_ret
      exact ⟨ret_bool HE.out.symm, HS3.out⟩
  · rw [if_neg hxy] at hE
    have e1 : (x != y) = true := by simpa using hxy
    clear hxy
    by_cases hab : y < x
    · rw [decide_eq_true hab] at hE
      have HE := Lib.hid hE
      clear hE
      go_wp2_with fail
      go_quiet (fail)
      have HS3 := Lib.hid (HS2.out.drewN nq)
      go_wp2_with fail
      go_quiet (fail)
      go_wp2_with fail
      go_ret
      exact ⟨ret_bool HE.out.symm, HS3.out.drewN _⟩
    · rw [decide_eq_false hab] at hE
      have HE := Lib.hid hE
      clear hE
      go_wp2_with fail
      go_quiet (fail)
      have HS3 := Lib.hid (HS2.out.drewN nq)
      go_wp2_with fail
      go_quiet (fail)
      go_wp2_with fail
      go_ret
      exact ⟨ret_bool (by rw [HE.out]; exact decide_eq_false (by omega)), HS3.out.drewN _⟩

def FewPost (m n : Nat) (e : Ending) : Prop := ∃ b : Bool, e = .returned (.bool b) ∧ (b = true → m ≤ n)
theorem few_mk {m n : Nat} (b : Bool) (h : b = true → m ≤ n) : FewPost m n (.returned (.bool b)) := ⟨b, rfl, h⟩
set_option maxRecDepth 100000 in
theorem few_any (A : Option Addr) (m c : Nat) (ts : List Task) (n : Nat) (hn : n ≤ 1000) (w : World) (hl : ts.length = m) (ht : Tasks w A ts) :
    Calls Try.prog 6 #[.slice A m c, .int .i64 n] w fun e w' => FewPost m n e ∧ Same w w' := by
  have HT := Lib.hid ht
  have HL := Lib.hid hl
  clear ht hl
  by_cases hm : m ≤ n
  · have h1 : ¬ (n : Int) < m := by omega
    go_enter Try.func6, Try.ntmps6
    go_wp2_with fail
    go_loopg [13] m (fun gk iv wx => ∃ k : Nat, k + gk = m ∧ iv = .int .i64 k ∧ Same w wx)
    case atStart => exact ⟨0, by omega, rfl, Same.refl _⟩
    case round =>
      obtain ⟨k, hk, rfl, sx⟩ := hrel
      have HS := Lib.hid sx
      clear sx
      cases gk with
      | zero =>
        obtain rfl : k = m := by omega
        have hge : ¬ (k : Int) < (k : Int) := by omega
        go_wp2_with fail
        go_ret
        exact ⟨few_mk true (fun _ => hm), HS.out⟩
      | succ GK =>
        have hlt : (k : Int) < m := by omega
        obtain ⟨_, b, o, rfl, c0, c1, c2, c3, c4, c5, c6⟩ := (HT.out.same HS.out).at_ (k := k) (by have := HL.out; omega)
        generalize Tk.at_ ts k = x at *
        have hs2 := (Same.refl wr).alloc (.cells #[.int .i64 x.kind, .int .i64 x.prio, .int .i64 x.per, .int .i64 x.off, .int .i64 x.dl, .int .i64 x.own, .slice x.A x.len x.cap] 40)
        have HS2 := Lib.hid (HS.out.trans hs2)
        clear hs2
        by_cases h2 : (200 : Int) < x.len
        · go_wp2_with fail
          go_ret
          exact ⟨few_mk false (fun h => by cases h), HS2.out⟩
        · go_wp2_with fail
          go_roundg GK
          case rel => exact ⟨k + 1, by omega, by go_num, HS2.out⟩
          case measure => omega
  · have h1 : (n : Int) < m := by omega
    go_enter Try.func6, Try.ntmps6
    go_wp2_with fail
    go_ret
    exact ⟨few_mk false (fun h => by cases h), Same.refl _⟩

/-- who goes ahead of the task at b, of the first k -/
def aboveTo (ts : List Task) (b : Nat) : Nat → List Int
  | 0 => []
  | k + 1 => aboveTo ts b k ++ (if aheadB ts k b = true then [(k : Int)] else [])
theorem aboveTo_len (ts : List Task) (b : Nat) : ∀ k, (aboveTo ts b k).length ≤ k
  | 0 => Nat.le_refl _
  | k + 1 => by
    have := aboveTo_len ts b k
    unfold aboveTo
    rw [List.length_append]
    split <;> simp <;> omega
theorem int_info : (Try.prog.info? 3).map (fun i => (i.zero, i.size, i.bytes)) = some (some (.int .i64 0), 1, 8) := by kernel_rfl
theorem own_nil (w : World) (B : Nat) (e : TypeId) : Own w B e none 0 [] := ⟨by simp, .inl ⟨rfl, rfl⟩⟩
/-- a row of numbers that was told -/
def Nums (w : World) (l : List Int) (e : Ending) (w' : World) : Prop := ∃ A c, e = .returned (.slice A l.length c) ∧ Row w' A (l.map (Value.int .i64)) ∧ Same w w'
theorem nums_mk {w w' : World} {l : List Int} {A : Option Addr} {n c : Nat} (hn : n = l.length) (hr : Row w' A (l.map (Value.int .i64))) (hs : Same w w') : Nums w l (.returned (.slice A n c)) w' := by
  subst hn
  exact ⟨A, c, rfl, hr, hs⟩
set_option maxRecDepth 100000 in
theorem above_any (A : Option Addr) (m c : Nat) (ts : List Task) (b : Nat) (w : World) (hl : ts.length = m) (hm : m ≤ 1000) (hb : b < m) (ht : Tasks w A ts) :
    Calls Try.prog 13 #[.slice A m c, .int .i64 b] w (Nums w (aboveTo ts b m)) := by
  obtain ⟨i0, hi, hz0, hz1, hz2⟩ := info_parts int_info
  have AH := Lib.hid (fun (a : Nat) (ha : a < m) w' (s : Same w w') => ahead_any A m c ts a b w' hl ha hb (ht.same s))
  clear ht hl
  go_enter Try.func13, Try.ntmps13
  go_wp2_with fail
  go_loopg [9, 5] m (fun gk iv lv wx => ∃ (k : Nat) (A' : Option Addr) (n' c' : Nat), k + gk = m ∧ iv = .int .i64 k ∧ lv = .slice A' n' c' ∧ n' = (aboveTo ts b k).length ∧ Own wx w.heap.size 3 A' c' ((aboveTo ts b k).map (Value.int .i64)) ∧ Same w wx)
  case atStart => exact ⟨0, none, 0, 0, by omega, rfl, rfl, rfl, own_nil _ _ _, Same.refl _⟩
  case round =>
    obtain ⟨k, A', n', c', hk, rfl, rfl, hn, ho, sx⟩ := hrel
    have HO := Lib.hid ho
    have HS := Lib.hid sx
    have HN := Lib.hid hn
    clear ho sx hn
    cases gk with
    | zero =>
      obtain rfl : k = m := by omega
      have hge : ¬ (k : Int) < (k : Int) := by omega
      go_wp2_with fail
      go_ret
      exact nums_mk HN.out HO.out.row HS.out
    | succ GK =>
      have hlt : (k : Int) < m := by omega
      have hE : aboveTo ts b (k + 1) = aboveTo ts b k ++ (if aheadB ts k b = true then [(k : Int)] else []) := rfl
      have HE := Lib.hid hE
      clear hE
      have AK := Lib.hid (AH.out k (by omega) _ HS.out)
      go_wp2_with fail
      refine AK.out.mono ?_
      rintro e w1 ⟨rfl, s1⟩
      have HS1 := Lib.hid (HS.out.trans s1)
      have HO1 := Lib.hid (HO.out.same s1)
      clear s1 AK
      cases hab : aheadB ts k b
      · have hE := HE.out
        rw [hab, if_neg Bool.false_ne_true, List.append_nil] at hE
        have HE' := Lib.hid hE
        clear hE hab
        go_wp2_with fail
        go_roundg GK
        case rel => exact ⟨k + 1, A', n', c', by omega, by go_num, rfl, by rw [HE'.out]; exact HN.out, by rw [HE'.out]; exact HO1.out, HS1.out⟩
        case measure => omega
      · have hE := HE.out
        rw [hab, if_pos rfl] at hE
        have HE' := Lib.hid hE
        clear hE hab
        go_wp2_with (at_builtin; go_loud (refine wpList_app rfl (.tmp 16) (.tmp 18) 25 rfl w.heap.size 3 i0 _ 8 Try.underlying25 hi hz0 hz1 hz2 rfl A' n' c' ((aboveTo ts b k).map (Value.int .i64)) rfl ?c1 (HO1.out.same ((Same.refl _).alloc _)) _ 1 1 [.int .i64 (k : Int)] rfl rfl (row_new _ _ _) ?c2 ?c3 (by omega) ?c4 ?_))
        case c1 => rw [List.length_map]; exact HN.out.symm
        case c2 => intro u hu; simp at hu; subst hu; rfl
        case c3 => have := aboveTo_len ts b k; rw [List.length_map]; simp; omega
        case c4 => have := HS1.out.size; simp at this ⊢; omega
        intro A2 c2' w2 ho2 hc2 _
        have HS2 := Lib.hid (Same.more (HS1.out.alloc _) hc2 fun g hg => by
          have hg : A' = some ⟨g, 0, none⟩ := hg
          subst hg
          rcases HO.out.2 with ⟨h2, _⟩ | ⟨g2, cap, cur, hv, hb2, _⟩
          · cases h2
          · injection hv with hv
            injection hv with hv
            injection hv with hv
            omega)
        rw [show (aboveTo ts b k).map (Value.int .i64) ++ [.int .i64 (k : Int)] = (aboveTo ts b (k + 1)).map (Value.int .i64) by rw [HE'.out, List.map_append]; rfl] at ho2
        have HO2 := Lib.hid ho2
        clear ho2 hc2
        go_wp2_with fail
        go_roundg GK
        case rel => exact ⟨k + 1, A2, n' + 1, c2', by omega, by go_num, rfl, by rw [HE'.out, List.length_append, HN.out]; rfl, HO2.out, HS2.out⟩
        case measure => omega

/-- when the periods of the first k begin anew -/
def hyperTo (ts : List Task) : Nat → Int
  | 0 => 1
  | k + 1 => lcmv (hyperTo ts k) (at_ ts k).per
set_option maxRecDepth 100000 in
theorem hyper_any (A : Option Addr) (m c : Nat) (ts : List Task) (w : World) (hl : ts.length = m) (hm : m ≤ 1000) (h0 : 0 < m) (hb : ∀ k, k < m → hyperTo ts k ≤ 9223372036854775807) (ht : Tasks w A ts) :
    Calls Try.prog 14 #[.slice A m c] w fun e w' => e = .returned (.int .i64 (hyperTo ts m)) ∧ Same w w' := by
  have HT := Lib.hid ht
  have HL := Lib.hid hl
  have HB := Lib.hid hb
  clear ht hl hb
  have h1 : ¬ m = 0 := by omega
  have h2 : ¬ (m : Int) = 0 := by omega
  have h3 : ((m : Int) == 0) = false := by simpa using h1
  go_enter Try.func14, Try.ntmps14
  go_wp2_with fail
  go_loopg [11, 3] m (fun gk iv v wx => ∃ k : Nat, k + gk = m ∧ iv = .int .i64 k ∧ v = .int .i64 (hyperTo ts k) ∧ Same w wx)
  case atStart => exact ⟨0, by omega, rfl, rfl, Same.refl _⟩
  case round =>
    obtain ⟨k, hk, rfl, rfl, sx⟩ := hrel
    have HS := Lib.hid sx
    clear sx
    cases gk with
    | zero =>
      obtain rfl : k = m := by omega
      have hge : ¬ (k : Int) < (k : Int) := by omega
      go_wp2_with fail
      go_ret
      exact ⟨rfl, HS.out⟩
    | succ GK =>
      have hlt : (k : Int) < m := by omega
      have HE : Hid (hyperTo ts (k + 1) = lcmv (hyperTo ts k) (Tk.at_ ts k).per) := Lib.hid rfl
      have LC := Lib.hid (wlcm (hyperTo ts k) (Tk.at_ ts k).per (HB.out k (by omega)))
      obtain ⟨_, b, o, rfl, c0, c1, c2, c3, c4, c5, c6⟩ := (HT.out.same HS.out).at_ (k := k) (by have := HL.out; omega)
      generalize Tk.at_ ts k = x at *
      generalize hyperTo ts k = y at *
      have hs2 := (Same.refl wr).alloc (.cells #[.int .i64 x.kind, .int .i64 x.prio, .int .i64 x.per, .int .i64 x.off, .int .i64 x.dl, .int .i64 x.own, .slice x.A x.len x.cap] 40)
      have HS2 := Lib.hid (HS.out.trans hs2)
      clear hs2
      go_wp2_with fail
      refine (LC.out _).mono ?_
      rintro e w2 ⟨rfl, q, rfl⟩
      go_wp2_with fail
      go_roundg GK
      case rel => exact ⟨k + 1, by omega, by go_num, by rw [HE.out], HS2.out.drewN q⟩
      case measure => omega

def t0 : List Task := [⟨0, 1, 4, 0, 0, 0, none, 0, 0⟩, ⟨0, 5, 6, 0, 0, 0, none, 0, 0⟩, ⟨0, 5, 1, 0, 0, 0, none, 0, 0⟩]
theorem t0_a0 : aboveTo t0 0 3 = [1, 2] := by decide +kernel
theorem t0_a2 : aboveTo t0 2 3 = [1] := by decide +kernel
theorem t0_h : hyperTo t0 3 = 12 := by decide +kernel
theorem t0_hb : ∀ k, k < 3 → hyperTo t0 k ≤ 9223372036854775807 := by
  intro k hk
  match k, hk with
  | 0, _ => decide +kernel
  | 1, _ => decide +kernel
  | 2, _ => decide +kernel
set_option maxRecDepth 100000 in
theorem awake26 (w : World) : Calls Try.prog 7 #[] w fun e w' => e = .returned (.bool true) ∧ Same w w' := by
  have hr := row_new w (flat t0).toArray 40
  have HPR : Hid (Tasks (w.alloc (.cells (flat t0).toArray 40)) (some ⟨w.heap.size, 0, none⟩) t0) := Lib.hid (tasks_row (by simpa using hr) (by intro x hx; simp [t0] at hx; rcases hx with rfl | rfl | rfl <;> exact ⟨by unfold In; simp, by unfold In; simp, by unfold In; simp, by unfold In; simp, by unfold In; simp, by unfold In; simp⟩))
  have HS0 := Lib.hid ((Same.refl w).alloc (.cells (flat t0).toArray 40))
  clear hr
  have hcl : (flat t0).toArray = #[.int .i64 0, .int .i64 1, .int .i64 4, .int .i64 0, .int .i64 0, .int .i64 0, .slice none 0 0, .int .i64 0, .int .i64 5, .int .i64 6, .int .i64 0, .int .i64 0, .int .i64 0, .slice none 0 0, .int .i64 0, .int .i64 5, .int .i64 1, .int .i64 0, .int .i64 0, .int .i64 0, .slice none 0 0] := rfl
  rw [hcl] at HPR HS0
  clear hcl
  go_enter Try.func7, Try.ntmps7
  go_wp2_with fail
  generalize w.alloc (.cells #[.int .i64 0, .int .i64 1, .int .i64 4, .int .i64 0, .int .i64 0, .int .i64 0, .slice none 0 0, .int .i64 0, .int .i64 5, .int .i64 6, .int .i64 0, .int .i64 0, .int .i64 0, .slice none 0 0, .int .i64 0, .int .i64 5, .int .i64 1, .int .i64 0, .int .i64 0, .int .i64 0, .slice none 0 0] 40) = w0 at *
  generalize w.heap.size = q at *
  have AB := above_any (some ⟨q, 0, none⟩) 3 3 t0 0 w0 rfl (by omega) (by omega) HPR.out
  rw [t0_a0] at AB
  have HAB := Lib.hid AB
  clear AB
  refine HAB.out.mono ?_
  rintro e w1 ⟨A1, c1, rfl, r1, s1⟩
  have HS1 := Lib.hid s1
  have hs2 := (Same.refl w1).alloc (.cells #[.int .i64 1, .int .i64 2] 3)
  have HS2 := Lib.hid (HS1.out.trans hs2)
  have IE := ints_eq A1 (some ⟨w1.heap.size, 0, none⟩) 2 2 c1 2 [1, 2] [1, 2] (w1.alloc (.cells #[.int .i64 1, .int .i64 2] 3)) rfl rfl (r1.same hs2) (row_new _ _ _) (by omega) (by omega)
  rw [decide_eq_true rfl] at IE
  have HIE := Lib.hid IE
  clear IE s1 r1 hs2 HAB
  go_wp2_with fail
  refine HIE.out.mono ?_
  rintro e w2 ⟨rfl, k2, rfl⟩
  have HS3 := Lib.hid (HS2.out.drewN k2)
  clear HIE HS2
  generalize (w1.alloc (.cells #[.int .i64 1, .int .i64 2] 3)).drewN k2 = w2 at *
  have AB := above_any (some ⟨q, 0, none⟩) 3 3 t0 2 w2 rfl (by omega) (by omega) (HPR.out.same HS3.out)
  rw [t0_a2] at AB
  have HAB := Lib.hid AB
  clear AB
  go_wp2_with fail
  refine HAB.out.mono ?_
  rintro e w3 ⟨A3, c3, rfl, r3, s3⟩
  have HS4 := Lib.hid (HS3.out.trans s3)
  have hs4 := (Same.refl w3).alloc (.cells #[.int .i64 1] 3)
  have HS5 := Lib.hid (HS4.out.trans hs4)
  have IE := ints_eq A3 (some ⟨w3.heap.size, 0, none⟩) 1 1 c3 1 [1] [1] (w3.alloc (.cells #[.int .i64 1] 3)) rfl rfl (r3.same hs4) (row_new _ _ _) (by omega) (by omega)
  rw [decide_eq_true rfl] at IE
  have HIE := Lib.hid IE
  clear IE s3 r3 hs4 HAB
  go_wp2_with fail
  refine HIE.out.mono ?_
  rintro e w4 ⟨rfl, k4, rfl⟩
  have HS6 := Lib.hid (HS5.out.drewN k4)
  clear HIE HS5
  generalize (w3.alloc (.cells #[.int .i64 1] 3)).drewN k4 = w4 at *
  have HY := hyper_any (some ⟨q, 0, none⟩) 3 3 t0 w4 rfl (by omega) (by omega) t0_hb (HPR.out.same HS6.out)
  rw [t0_h] at HY
  have HHY := Lib.hid HY
  clear HY
  go_wp2_with fail
  refine HHY.out.mono ?_
  rintro e w5 ⟨rfl, s5⟩
  have HS7 := Lib.hid (HS6.out.trans s5)
  clear s5 HHY
  go_wp2
  go_ret
  exact ⟨rfl, HS0.out.trans HS7.out⟩

end Go.Proofs.Ytflmejcojfnknab.Tk
