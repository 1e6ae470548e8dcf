/-

  Contracts of layer 26 (task) and of the document's own answers: who goes ahead, whoever is asked for; when all periods begin anew; the ranks.
-/
import Derived.Test.YtflmejcojfnknabTaskBase
import Derived.Test.YtflmejcojfnknabBitOrd
set_option linter.unusedVariables false
set_option linter.unusedSimpArgs false
namespace Go.Proofs.Ytflmejcojfnknab.Tk
open Go.ChangeShapes Go.WideShapes Go.ChangeAt Go.RowKit Ws
open Go.Proofs.Ytflmejcojfnknab.Wd (ret_bool ret_int lcmv wlcm rlcm)

theorem place_no (A : Option Addr) (m c : Nat) (x : Int) (h : x < 0 ∨ (m : Int) ≤ x) (w : World) :
    Calls Try.prog 22 #[.slice A m c, .int .i64 x] w fun e w' => e = .returned (.bool false) ∧ Same w w' := by
  by_cases h0 : x < 0
  · have d0 : decide ((0 : Int) ≤ x) = false := decide_eq_false (by omega)
    clear h
    go_enter Try.func22, Try.ntmps22
    go_wp2_with fail
    go_ret
    exact ⟨rfl, Same.refl _⟩
  · have d0 : decide ((0 : Int) ≤ x) = true := decide_eq_true (by omega)
    have d1 : decide (x < (m : Int)) = false := decide_eq_false (by omega)
    clear h
    go_enter Try.func22, Try.ntmps22
    go_wp2_with fail
    go_ret
    exact ⟨rfl, Same.refl _⟩
def inI (m : Nat) (x : Int) : Prop := 0 ≤ x ∧ x < m
instance (m : Nat) (x : Int) : Decidable (inI m x) := by unfold inI; infer_instance
def aheadI (ts : List Task) (x y : Int) : Bool := if inI ts.length x ∧ inI ts.length y then aheadB ts x.toNat y.toNat else false
theorem aheadI_yes {ts : List Task} {a b : Nat} (ha : a < ts.length) (hb : b < ts.length) : aheadI ts a b = aheadB ts a b := by
  unfold aheadI inI
  rw [if_pos ⟨by omega, by omega⟩, Int.toNat_natCast, Int.toNat_natCast]
theorem aheadI_no {ts : List Task} {x y : Int} (h : ¬ (inI ts.length x ∧ inI ts.length y)) : aheadI ts x y = false := by
  unfold aheadI
  rw [if_neg h]
set_option maxRecDepth 100000 in
theorem ahead_gen (A : Option Addr) (m c : Nat) (ts : List Task) (x y : Int) (w : World) (hl : ts.length = m) (ht : Tasks w A ts) :
    Calls Try.prog 10 #[.slice A m c, .int .i64 x, .int .i64 y] w fun e w' => e = .returned (.bool (aheadI ts x y)) ∧ Same w w' := by
  by_cases hx : inI m x
  · by_cases hy : inI m y
    · obtain ⟨a, rfl⟩ := Int.eq_ofNat_of_zero_le hx.1
      obtain ⟨b, rfl⟩ := Int.eq_ofNat_of_zero_le hy.1
      have h1 := hx.2
      have h2 := hy.2
      rw [aheadI_yes (by omega) (by omega)]
      exact ahead_any A m c ts a b w hl (by omega) (by omega) ht
    · rw [aheadI_no (by rw [hl]; exact fun h => hy h.2)]
      obtain ⟨a, rfl⟩ := Int.eq_ofNat_of_zero_le hx.1
      have h1 := hx.2
      have PA := Lib.hid (place_any A m c a (by omega))
      have PB := Lib.hid (fun w => place_no A m c y (by unfold inI at hy; omega) w)
      clear hx hy hl ht h1
      go_enter Try.func10, Try.ntmps10
      go_wp2_with fail
      refine (PA.out _).mono ?_
      rintro e w1 ⟨rfl, s1⟩
      go_wp2_with fail
      refine (PB.out _).mono ?_
      rintro e w2 ⟨rfl, s2⟩
      go_wp2_with fail
      go_ret
      exact ⟨rfl, s1.trans s2⟩
  · rw [aheadI_no (by rw [hl]; exact fun h => hx h.1)]
    have PB := Lib.hid (fun w => place_no A m c x (by unfold inI at hx; omega) w)
    clear hx hl ht
    go_enter Try.func10, Try.ntmps10
    go_wp2_with fail
    refine (PB.out _).mono ?_
    rintro e w1 ⟨rfl, s1⟩
    go_wp2_with fail
    go_ret
    exact ⟨rfl, s1⟩
set_option maxRecDepth 100000 in
theorem rahead_gen (A : Option Addr) (m c : Nat) (ts : List Task) (x y : Int) (w : World) (hl : ts.length = m) (ht : Tasks w A ts) :
    Calls Try.prog 11 #[.slice A m c, .int .i64 x, .int .i64 y] w fun e w' => e = .returned (.bool (aheadI ts x y)) ∧ Same w w' := by
  by_cases h0 : x < 0
  · rw [aheadI_no (by unfold inI; omega)]
    have d0 : decide (x < 0) = true := decide_eq_true h0
    clear h0 hl ht
    go_enter Try.func11, Try.ntmps11
    go_wp2_with fail
    go_ret
    exact ⟨rfl, Same.refl _⟩
  have d0 : decide (x < 0) = false := decide_eq_false h0
  by_cases h1 : y < 0
  · rw [aheadI_no (by unfold inI; omega)]
    have d1 : decide (y < 0) = true := decide_eq_true h1
    clear h0 h1 hl ht
    go_enter Try.func11, Try.ntmps11
    go_wp2_with fail
    go_ret
    exact ⟨rfl, Same.refl _⟩
  have d1 : decide (y < 0) = false := decide_eq_false h1
  by_cases h2 : (m : Int) ≤ x
  · rw [aheadI_no (by unfold inI; omega)]
    have d2 : decide ((m : Int) ≤ x) = true := decide_eq_true h2
    clear h0 h1 h2 hl ht
    go_enter Try.func11, Try.ntmps11
    go_wp2_with fail
    go_ret
    exact ⟨rfl, Same.refl _⟩
  have d2 : decide ((m : Int) ≤ x) = false := decide_eq_false h2
  by_cases h3 : (m : Int) ≤ y
  · rw [aheadI_no (by unfold inI; omega)]
    have d3 : decide ((m : Int) ≤ y) = true := decide_eq_true h3
    clear h0 h1 h2 h3 hl ht
    go_enter Try.func11, Try.ntmps11
    go_wp2_with fail
    go_ret
    exact ⟨rfl, Same.refl _⟩
  have d3 : decide ((m : Int) ≤ y) = false := decide_eq_false h3
  obtain ⟨a, rfl⟩ := Int.eq_ofNat_of_zero_le (show 0 ≤ x by omega)
  obtain ⟨b, rfl⟩ := Int.eq_ofNat_of_zero_le (show 0 ≤ y by omega)
  rw [aheadI_yes (by omega) (by omega)]
  have ha0 : (0 : Int) ≤ a := by omega
  have ha1 : (a : Int) < m := by omega
  have hb0 : (0 : Int) ≤ b := by omega
  have hb1 : (b : Int) < m := by omega
  obtain ⟨_, ba, oa, rfl, _, c1, _⟩ := ht.at_ (k := a) (by omega)
  obtain ⟨_, bb, ob, hbb, _, e1, _⟩ := ht.at_ (k := b) (by omega)
  injection hbb with hbb
  injection hbb with g1 g2
  subst g1
  subst g2
  have hE : aheadB ts a b = if (Tk.at_ ts a).prio = (Tk.at_ ts b).prio then decide (a < b) else decide ((Tk.at_ ts b).prio < (Tk.at_ ts a).prio) := rfl
  clear ht hl h0 h1 h2 h3
  generalize (Tk.at_ ts a).prio = u at *
  generalize (Tk.at_ ts b).prio = v at *
  by_cases huv : u = v
  · rw [if_pos huv] at hE
    have f1 : (u == v) = true := by simpa using huv
    have HE := Lib.hid hE
    clear hE huv
    go_enter Try.func11, Try.ntmps11
    go_wp2_with fail
    go_quiet (fail)
    go_wp2_with fail
    go_ret
    exact ⟨ret_bool (by rw [HE.out]), (Same.refl _).drewN _⟩
  · rw [if_neg huv] at hE
    have f1 : (u == v) = false := by simpa using huv
    have HE := Lib.hid hE
    clear hE huv
    generalize hd : decide (v < u) = d at *
    go_enter Try.func11, Try.ntmps11
    go_wp2_with fail
    go_quiet (fail)
    have HS3 := Lib.hid ((Same.refl w).drewN nq)
    go_wp2_with fail
    go_quiet (fail)
    go_wp2_with fail
    go_ret
    exact ⟨ret_bool (by rw [HE.out]), HS3.out.drewN _⟩
/-- who goes ahead of whoever is asked for, of the first k -/
def aboveI (ts : List Task) (y : Int) : Nat → List Int
  | 0 => []
  | k + 1 => aboveI ts y k ++ (if aheadI ts k y = true then [(k : Int)] else [])
theorem aboveI_len (ts : List Task) (y : Int) : ∀ k, (aboveI ts y k).length ≤ k
  | 0 => Nat.le_refl _
  | k + 1 => by
    have := aboveI_len ts y k
    unfold aboveI
    rw [List.length_append]
    split <;> simp <;> omega
set_option maxRecDepth 100000 in
theorem above_gen (A : Option Addr) (m c : Nat) (ts : List Task) (b : Int) (w : World) (hl : ts.length = m) (hm : m ≤ 1000) (ht : Tasks w A ts) :
    Calls Try.prog 13 #[.slice A m c, .int .i64 b] w (Nums w (aboveI ts b m)) := by
  obtain ⟨i0, hi, hz0, hz1, hz2⟩ := info_parts int_info
  have AH := Lib.hid (fun (a : Nat) (ha : a < m) w' (s : Same w w') => ahead_gen A m c ts a b w' hl (ht.same s))
  clear ht hl
  go_enter Try.func13, Try.ntmps13
  go_wp2_with fail
  go_loopg [9, 5] m (fun gk iv lv wx => ∃ (k : Nat) (A' : Option Addr) (n' c' : Nat), k + gk = m ∧ iv = .int .i64 k ∧ lv = .slice A' n' c' ∧ n' = (aboveI ts b k).length ∧ Own wx w.heap.size 3 A' c' ((aboveI ts b k).map (Value.int .i64)) ∧ Same w wx)
  case atStart => exact ⟨0, none, 0, 0, by omega, rfl, rfl, rfl, own_nil _ _ _, Same.refl _⟩
  case round =>
    obtain ⟨k, A', n', c', hk, rfl, rfl, hn, ho, sx⟩ := hrel
    have HO := Lib.hid ho
    have HS := Lib.hid sx
    have HN := Lib.hid hn
    clear ho sx hn
    cases gk with
    | zero =>
      obtain rfl : k = m := by omega
      have hge : ¬ (k : Int) < (k : Int) := by omega
      go_wp2_with fail
      go_ret
      exact nums_mk HN.out HO.out.row HS.out
    | succ GK =>
      have hlt : (k : Int) < m := by omega
      have hE : aboveI ts b (k + 1) = aboveI ts b k ++ (if aheadI ts k b = true then [(k : Int)] else []) := rfl
      have HE := Lib.hid hE
      clear hE
      have AK := Lib.hid (AH.out k (by omega) _ HS.out)
      go_wp2_with fail
      refine AK.out.mono ?_
      rintro e w1 ⟨rfl, s1⟩
      have HS1 := Lib.hid (HS.out.trans s1)
      have HO1 := Lib.hid (HO.out.same s1)
      clear s1 AK
      cases hab : aheadI ts k b
      · have hE := HE.out
        rw [hab, if_neg Bool.false_ne_true, List.append_nil] at hE
        have HE' := Lib.hid hE
        clear hE hab
        go_wp2_with fail
        go_roundg GK
        case rel => exact ⟨k + 1, A', n', c', by omega, by go_num, rfl, by rw [HE'.out]; exact HN.out, by rw [HE'.out]; exact HO1.out, HS1.out⟩
        case measure => omega
      · have hE := HE.out
        rw [hab, if_pos rfl] at hE
        have HE' := Lib.hid hE
        clear hE hab
        go_wp2_with (at_builtin; go_loud (refine wpList_app rfl (.tmp 16) (.tmp 18) 25 rfl w.heap.size 3 i0 _ 8 Try.underlying25 hi hz0 hz1 hz2 rfl A' n' c' ((aboveI ts b k).map (Value.int .i64)) rfl ?c1 (HO1.out.same ((Same.refl _).alloc _)) _ 1 1 [.int .i64 (k : Int)] rfl rfl (row_new _ _ _) ?c2 ?c3 (by omega) ?c4 ?_))
        case c1 => rw [List.length_map]; exact HN.out.symm
        case c2 => intro u hu; simp at hu; subst hu; rfl
        case c3 => have := aboveI_len ts b k; rw [List.length_map]; simp; omega
        case c4 => have := HS1.out.size; simp at this ⊢; omega
        intro A2 c2' w2 ho2 hc2 _
        have HS2 := Lib.hid (Same.more (HS1.out.alloc _) hc2 fun g hg => by
          have hg : A' = some ⟨g, 0, none⟩ := hg
          subst hg
          rcases HO.out.2 with ⟨h2, _⟩ | ⟨g2, cap, cur, hv, hb2, _⟩
          · cases h2
          · injection hv with hv
            injection hv with hv
            injection hv with hv
            omega)
        rw [show (aboveI ts b k).map (Value.int .i64) ++ [.int .i64 (k : Int)] = (aboveI ts b (k + 1)).map (Value.int .i64) by rw [HE'.out, List.map_append]; rfl] at ho2
        have HO2 := Lib.hid ho2
        clear ho2 hc2
        go_wp2_with fail
        go_roundg GK
        case rel => exact ⟨k + 1, A2, n' + 1, c2', by omega, by go_num, rfl, by rw [HE'.out, List.length_append, HN.out]; rfl, HO2.out, HS2.out⟩
        case measure => omega

set_option maxRecDepth 100000 in
theorem rabove_gen (A : Option Addr) (m c : Nat) (ts : List Task) (b : Int) (w : World) (hl : ts.length = m) (hm : m ≤ 1000) (ht : Tasks w A ts) :
    Calls Try.prog 9 #[.slice A m c, .int .i64 b] w (Nums w (aboveI ts b m)) := by
  obtain ⟨i0, hi, hz0, hz1, hz2⟩ := info_parts int_info
  have AH := Lib.hid (fun (a : Nat) (ha : a < m) w' (s : Same w w') => rahead_gen A m c ts a b w' hl (ht.same s))
  clear ht hl
  go_enter Try.func9, Try.ntmps9
  go_wp2_with fail
  go_loopg [9, 5] m (fun gk iv lv wx => ∃ (k : Nat) (A' : Option Addr) (n' c' : Nat), k + gk = m ∧ iv = .int .i64 k ∧ lv = .slice A' n' c' ∧ n' = (aboveI ts b k).length ∧ Own wx w.heap.size 3 A' c' ((aboveI ts b k).map (Value.int .i64)) ∧ Same w wx)
  case atStart => exact ⟨0, none, 0, 0, by omega, rfl, rfl, rfl, own_nil _ _ _, Same.refl _⟩
  case round =>
    obtain ⟨k, A', n', c', hk, rfl, rfl, hn, ho, sx⟩ := hrel
    have HO := Lib.hid ho
    have HS := Lib.hid sx
    have HN := Lib.hid hn
    clear ho sx hn
    cases gk with
    | zero =>
      obtain rfl : k = m := by omega
      have hge : ¬ (k : Int) < (k : Int) := by omega
      go_wp2_with fail
      go_ret
      exact nums_mk HN.out HO.out.row HS.out
    | succ GK =>
      have hlt : (k : Int) < m := by omega
      have hE : aboveI ts b (k + 1) = aboveI ts b k ++ (if aheadI ts k b = true then [(k : Int)] else []) := rfl
      have HE := Lib.hid hE
      clear hE
      have AK := Lib.hid (AH.out k (by omega) _ HS.out)
      go_wp2_with fail
      refine AK.out.mono ?_
      rintro e w1 ⟨rfl, s1⟩
      have HS1 := Lib.hid (HS.out.trans s1)
      have HO1 := Lib.hid (HO.out.same s1)
      clear s1 AK
      cases hab : aheadI ts k b
      · have hE := HE.out
        rw [hab, if_neg Bool.false_ne_true, List.append_nil] at hE
        have HE' := Lib.hid hE
        clear hE hab
        go_wp2_with fail
        go_roundg GK
        case rel => exact ⟨k + 1, A', n', c', by omega, by go_num, rfl, by rw [HE'.out]; exact HN.out, by rw [HE'.out]; exact HO1.out, HS1.out⟩
        case measure => omega
      · have hE := HE.out
        rw [hab, if_pos rfl] at hE
        have HE' := Lib.hid hE
        clear hE hab
        go_wp2_with (at_builtin; go_loud (refine wpList_app rfl (.tmp 16) (.tmp 18) 25 rfl w.heap.size 3 i0 _ 8 Try.underlying25 hi hz0 hz1 hz2 rfl A' n' c' ((aboveI ts b k).map (Value.int .i64)) rfl ?c1 (HO1.out.same ((Same.refl _).alloc _)) _ 1 1 [.int .i64 (k : Int)] rfl rfl (row_new _ _ _) ?c2 ?c3 (by omega) ?c4 ?_))
        case c1 => rw [List.length_map]; exact HN.out.symm
        case c2 => intro u hu; simp at hu; subst hu; rfl
        case c3 => have := aboveI_len ts b k; rw [List.length_map]; simp; omega
        case c4 => have := HS1.out.size; simp at this ⊢; omega
        intro A2 c2' w2 ho2 hc2 _
        have HS2 := Lib.hid (Same.more (HS1.out.alloc _) hc2 fun g hg => by
          have hg : A' = some ⟨g, 0, none⟩ := hg
          subst hg
          rcases HO.out.2 with ⟨h2, _⟩ | ⟨g2, cap, cur, hv, hb2, _⟩
          · cases h2
          · injection hv with hv
            injection hv with hv
            injection hv with hv
            omega)
        rw [show (aboveI ts b k).map (Value.int .i64) ++ [.int .i64 (k : Int)] = (aboveI ts b (k + 1)).map (Value.int .i64) by rw [HE'.out, List.map_append]; rfl] at ho2
        have HO2 := Lib.hid ho2
        clear ho2 hc2
        go_wp2_with fail
        go_roundg GK
        case rel => exact ⟨k + 1, A2, n' + 1, c2', by omega, by go_num, rfl, by rw [HE'.out, List.length_append, HN.out]; rfl, HO2.out, HS2.out⟩
        case measure => omega


theorem lcmv_bd (a b : Int) : lcmv a b ≤ 1099511627776 := by
  unfold lcmv Wd.mulv
  split <;> omega
theorem hyper_bd (ts : List Task) (k : Nat) : hyperTo ts k ≤ 9223372036854775807 := by
  cases k with
  | zero => unfold hyperTo; omega
  | succ k => have := lcmv_bd (hyperTo ts k) (Tk.at_ ts k).per; unfold hyperTo; omega
theorem hyper_keep {ts : List Task} {k j : Nat} (h : hyperTo ts k = 0) (hj : k ≤ j) : hyperTo ts j = 0 := by
  induction j with
  | zero => obtain rfl : k = 0 := by omega
            exact h
  | succ j ih =>
    by_cases hk : k = j + 1
    · subst hk; exact h
    · have := ih (by omega)
      unfold hyperTo
      rw [this]
      exact (Wd.lcmv_no (.inl (by omega))).symm
theorem hyper_zero {ts : List Task} {k m : Nat} (h : (Tk.at_ ts k).per < 1) (hk : k < m) : hyperTo ts m = 0 := by
  refine hyper_keep (k := k + 1) ?_ (by omega)
  show lcmv (hyperTo ts k) (Tk.at_ ts k).per = 0
  exact (Wd.lcmv_no (.inr h)).symm
theorem mulv_pos {a b : Int} (h1 : 1 ≤ a) (h2 : 1 ≤ b) : 1 ≤ Wd.mulv a b := by
  unfold Wd.mulv
  have h3 : 1 ≤ Wd.sm a := by unfold Wd.sm; omega
  have h4 : 1 ≤ Wd.sm b := by unfold Wd.sm; omega
  have h5 : 1 * 1 ≤ Wd.sm a * Wd.sm b := Int.mul_le_mul h3 h4 (by omega) (by omega)
  omega
theorem lcmv_pos {a b : Int} (h1 : 1 ≤ a) (h2 : 1 ≤ b) : 1 ≤ lcmv a b := by
  rw [← Wd.lcmv_yes h1 h2]
  refine mulv_pos ?_ h2
  have hg := Wd.gcdv_pos h1 h2
  rw [Wd.gcdv_yes h1 h2] at hg ⊢
  have hd : (Int.gcd a b : Int) ∣ a := Int.gcd_dvd_left ..
  obtain ⟨q, hq⟩ := hd
  have hq0 : 0 < q := by
    by_cases h : 0 < q
    · exact h
    · have h2 := Int.mul_le_mul_of_nonneg_left (show q ≤ 0 by omega) (show (0 : Int) ≤ (Int.gcd a b : Int) by omega)
      rw [Int.mul_zero, ← hq] at h2
      omega
  rw [Int.ediv_eq_of_eq_mul_right (show (Int.gcd a b : Int) ≠ 0 by omega) hq]
  omega
def allP (ts : List Task) : Int := if ts.length = 0 then 0 else hyperTo ts ts.length
set_option maxRecDepth 100000 in
theorem hyper_gen (A : Option Addr) (m c : Nat) (ts : List Task) (w : World) (hl : ts.length = m) (hm : m ≤ 1000) (ht : Tasks w A ts) :
    Calls Try.prog 14 #[.slice A m c] w fun e w' => e = .returned (.int .i64 (allP ts)) ∧ Same w w' := by
  unfold allP
  rw [hl]
  by_cases h0 : m = 0
  · rw [if_pos h0]
    subst h0
    clear hl ht
    go_enter Try.func14, Try.ntmps14
    go_wp2_with fail
    go_ret
    exact ⟨rfl, Same.refl _⟩
  · rw [if_neg h0]
    exact hyper_any A m c ts w hl hm (by omega) (fun k _ => hyper_bd ts k) ht
/-- what the document has reckoned of the first k -/
def docH (ts : List Task) (k : Nat) : Int := if k = 0 then 0 else hyperTo ts k
set_option maxRecDepth 100000 in
theorem rhyper_gen (A : Option Addr) (m c : Nat) (ts : List Task) (w : World) (hl : ts.length = m) (hm : m ≤ 1000) (ht : Tasks w A ts) :
    Calls Try.prog 15 #[.slice A m c] w fun e w' => e = .returned (.int .i64 (allP ts)) ∧ Same w w' := by
  have hE : allP ts = docH ts m := by unfold allP docH; rw [hl]
  rw [hE]
  have HT := Lib.hid ht
  have HL := Lib.hid hl
  clear ht hl hE
  go_enter Try.func15, Try.ntmps15
  go_wp2_with fail
  go_loopg [8, 3] m (fun gk iv v wx => ∃ k : Nat, k + gk = m ∧ iv = .int .i64 k ∧ v = .int .i64 (docH ts k) ∧ 1 ≤ hyperTo ts k ∧ Same w wx)
  case atStart => exact ⟨0, by omega, rfl, rfl, by unfold hyperTo; omega, Same.refl _⟩
  case round =>
    obtain ⟨k, hk, rfl, rfl, hp, sx⟩ := hrel
    have HS := Lib.hid sx
    clear sx
    cases gk with
    | zero =>
      obtain rfl : k = m := by omega
      have hge : ¬ (k : Int) < (k : Int) := by omega
      go_wp2_with fail
      go_ret
      exact ⟨rfl, HS.out⟩
    | succ GK =>
      have hlt : (k : Int) < m := by omega
      have HE : Hid (docH ts (k + 1) = lcmv (hyperTo ts k) (Tk.at_ ts k).per) := Lib.hid (by unfold docH; rw [if_neg (by omega)]; rfl)
      have HZ := Lib.hid (fun h : (Tk.at_ ts k).per < 1 => hyper_zero (m := m) h (by omega))
      have HPO := Lib.hid (fun h : 1 ≤ (Tk.at_ ts k).per => lcmv_pos hp h)
      have HNX : Hid (hyperTo ts (k + 1) = lcmv (hyperTo ts k) (Tk.at_ ts k).per) := Lib.hid rfl
      have LC := Lib.hid (rlcm (hyperTo ts k) (Tk.at_ ts k).per (hyper_bd ts k))
      obtain ⟨_, b, o, rfl, c0, c1, c2, c3, c4, c5, c6⟩ := (HT.out.same HS.out).at_ (k := k) (by have := HL.out; omega)
      have hs2 := (Same.refl wr).alloc (.cells #[.int .i64 (Tk.at_ ts k).kind, .int .i64 (Tk.at_ ts k).prio, .int .i64 (Tk.at_ ts k).per, .int .i64 (Tk.at_ ts k).off, .int .i64 (Tk.at_ ts k).dl, .int .i64 (Tk.at_ ts k).own, .slice (Tk.at_ ts k).A (Tk.at_ ts k).len (Tk.at_ ts k).cap] 40)
      have HS2 := Lib.hid (HS.out.trans hs2)
      clear hs2
      have hd : (docH ts k == 0) = decide (k = 0) := by
        unfold docH
        rw [Bool.eq_iff_iff, beq_iff_eq, decide_eq_true_iff]
        split <;> omega
      generalize Tk.at_ ts k = x at *
      by_cases hper : x.per < 1
      · have d1 : decide (x.per < 1) = true := decide_eq_true hper
        have hz := HZ.out hper
        have HM : Hid (docH ts m = 0) := Lib.hid (by unfold docH; rw [if_neg (by omega)]; exact hz)
        clear HE HPO LC HNX hz HZ
        by_cases hk0 : k = 0
        · have e0 : (docH ts k == 0) = true := by rw [hd]; exact decide_eq_true hk0
          clear hd hk0
          generalize docH ts k = dk at *
          go_wp2_with fail
          go_ret
          exact ⟨ret_int HM.out.symm, HS2.out⟩
        · have e0 : (docH ts k == 0) = false := by rw [hd]; exact decide_eq_false hk0
          clear hd hk0
          generalize docH ts k = dk at *
          go_wp2_with fail
          go_ret
          exact ⟨ret_int HM.out.symm, HS2.out⟩
      · have d1 : decide (x.per < 1) = false := decide_eq_false hper
        have hpo := HPO.out (by omega)
        have HPO2 : Hid (1 ≤ hyperTo ts (k + 1)) := Lib.hid (by rw [HNX.out]; exact hpo)
        clear HPO hpo HZ HNX
        by_cases hk0 : k = 0
        · have e0 : (docH ts k == 0) = true := by rw [hd]; exact decide_eq_true hk0
          have h1 : hyperTo ts k = 1 := by rw [hk0]; rfl
          rw [h1] at LC HE
          have HK0 := Lib.hid hk0
          clear hd hk0 h1 hp
          generalize docH ts k = dk at *
          go_wp2_with fail
          refine (LC.out _).mono ?_
          rintro e w2 ⟨rfl, rfl⟩
          go_wp2_with fail
          go_roundg GK
          case rel => exact ⟨k + 1, by omega, by go_num, by rw [HE.out], HPO2.out, HS2.out⟩
          case measure => omega
        · have e0 : (docH ts k == 0) = false := by rw [hd]; exact decide_eq_false hk0
          have h1 : docH ts k = hyperTo ts k := by unfold docH; rw [if_neg hk0]
          have HK0 := Lib.hid hk0
          rw [h1] at e0 ⊢
          clear hd hk0 h1 hp
          generalize hyperTo ts k = dk at *
          go_wp2_with fail
          refine (LC.out _).mono ?_
          rintro e w2 ⟨rfl, rfl⟩
          go_wp2_with fail
          go_roundg GK
          case rel => exact ⟨k + 1, by omega, by go_num, by rw [HE.out], HPO2.out, HS2.out⟩
          case measure => omega

end Go.Proofs.Ytflmejcojfnknab.Tk
