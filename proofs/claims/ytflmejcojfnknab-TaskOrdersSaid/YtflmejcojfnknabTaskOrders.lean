/-

  TaskOrders returns true for every list of tasks and any two numbers.
-/
import Derived.Test.YtflmejcojfnknabTaskOrd
set_option linter.unusedVariables false
set_option linter.unusedSimpArgs false
namespace Go.Proofs.Ytflmejcojfnknab.Tk
open Go.ChangeShapes Go.WideShapes Go.ChangeAt Go.RowKit Ws
open Go.Proofs.Ytflmejcojfnknab.Wd (ret_bool ret_int lcmv wlcm rlcm)
open Go.Proofs.Ytflmejcojfnknab.Od (pr pr_get rankN rankL rankTo nI nI_len rankL_len rankL_get)

def prios (ts : List Task) : List Int := ts.map fun t => t.prio
theorem prios_len (ts : List Task) : (prios ts).length = ts.length := List.length_map _
theorem prios_pr {ts : List Task} {k : Nat} (h : k < ts.length) : pr (prios ts) k = (Tk.at_ ts k).prio := by
  refine pr_get ?_
  unfold prios
  rw [List.getElem?_map, at_get h]
  rfl
theorem aheadB_eq {ts : List Task} {a b : Nat} (ha : a < ts.length) (hb : b < ts.length) : aheadB ts a b = Od.aheadB (prios ts) a b := by
  unfold aheadB Od.aheadB
  rw [prios_pr ha, prios_pr hb]
  split
  · rw [decide_eq_decide]; omega
  · rw [decide_eq_decide]; omega
theorem above_rank {ts : List Task} {i : Nat} (hi : i < ts.length) : ∀ k, k ≤ ts.length → (aboveI ts (i : Int) k).length = rankTo (prios ts) i k := by
  intro k
  induction k with
  | zero => intro _; rfl
  | succ k ih =>
    intro hk
    unfold aboveI rankTo
    rw [List.length_append, ih (by omega), aheadI_yes (by omega) hi, aheadB_eq (by omega) hi]
    congr 1
    split <;> simp_all
theorem above_rankN {ts : List Task} {i : Nat} (hi : i < ts.length) : (aboveI ts (i : Int) ts.length).length = rankN (prios ts) i := by
  unfold rankN
  rw [prios_len]
  exact above_rank hi _ (Nat.le_refl _)
def prF (ts : List Task) (k x : Nat) : Int := if x < k then (Tk.at_ ts x).prio else 0
theorem pr_set {ts : List Task} {n k : Nat} (h : k < n) : (IL n (prF ts k)).set k (.int .i64 (Tk.at_ ts k).prio) = IL n (prF ts (k + 1)) := by
  rw [IL_set _ _ h]
  apply IL_congr
  intro x _
  unfold prF
  by_cases hx : x = k
  · rw [if_pos hx, if_pos (by omega), hx]
  · rw [if_neg hx]
    by_cases hk : x < k
    · rw [if_pos hk, if_pos (by omega)]
    · rw [if_neg hk, if_neg (by omega)]
theorem pr_end {ts : List Task} {n : Nat} (h : ts.length = n) : IL n (prF ts n) = (prios ts).map (Value.int .i64) := by
  apply List.ext_getElem?
  intro i
  by_cases hi : i < n
  · rw [IL_get _ hi, List.getElem?_map, Od.get_pr (by rw [prios_len]; omega), prios_pr (by omega)]
    unfold prF
    rw [if_pos hi]
    rfl
  · rw [List.getElem?_eq_none (by rw [IL_len]; omega), List.getElem?_eq_none (by rw [List.length_map, prios_len]; omega)]
set_option maxRecDepth 100000 in
set_option maxHeartbeats 1000000 in
theorem ranks_any (A : Option Addr) (n c : Nat) (ts : List Task) (w : World) (hn : ts.length = n) (hm : n ≤ 1000) (ht : Tasks w A ts) :
    Calls Try.prog 8 #[.slice A n c] w (Nums w (nI (rankL (prios ts)))) := by
  obtain ⟨i0, hi, hz0, hz1, hz2⟩ := info_parts int_info
  have HN := Lib.hid hn
  have HT := Lib.hid ht
  clear hn ht
  go_enter Try.func8, Try.ntmps8
  go_wp2_with fail
  obtain ⟨w2, hrun, ho, hg⟩ := run_make_full (P := Try.prog) w w.heap.size 25 3 i0 _ 1 Try.underlying25 hi hz0 hz1 .i64 .i64 n (by rw [hz2]; omega) (by unfold maxLen; omega) (Nat.le_refl _)
  rw [hrun]
  clear hrun
  have s2 : Same w w2 := (Chg.of_grown hg).weak fun g _ h => by cases h
  rw [made_IL] at ho
  have HO2 := Lib.hid (show OwnK w2 w.heap.size 3 1 (some ⟨w.heap.size, 0, none⟩) n n (IL n (prF ts 0)) from by
    have e : IL n (prF ts 0) = IL n (fun _ => 0) := IL_congr fun x _ => by unfold prF; rw [if_neg (by omega)]
    rw [e]
    exact ho)
  have HS2 := Lib.hid s2
  clear ho hg s2
  generalize hq : w.heap.size = q at *
  have HQ := Lib.hid hq
  clear hq
  go_wp2_with fail
  go_loopg [11] n (fun gk iv wx => ∃ k : Nat, k + gk = n ∧ iv = .int .i64 k ∧ OwnK wx q 3 1 (some ⟨q, 0, none⟩) n n (IL n (prF ts k)) ∧ Same w wx)
  case atStart => exact ⟨0, by omega, rfl, HO2.out, HS2.out⟩
  case round =>
    clear HO2 HS2
    obtain ⟨k, hk, rfl, ho, sx⟩ := hrel
    have HO := Lib.hid ho
    have HS := Lib.hid sx
    clear ho sx
    cases gk with
    | zero =>
      obtain rfl : n = k := by omega
      have hge : ¬ (n : Int) < (n : Int) := by omega
      have hrow : Row wr (some ⟨q, 0, none⟩) ((prios ts).map (Value.int .i64)) := by
        rw [← pr_end HN.out]
        exact HO.out.row
      have RK := Lib.hid (Bo.ranks_any (some ⟨q, 0, none⟩) n n (prios ts) wr (by rw [prios_len]; exact HN.out) (by omega) hrow)
      clear hrow
      go_wp2_with fail
      refine RK.out.mono ?_
      rintro e w3 ⟨A3, c3, rfl, r3, s3⟩
      have HR3 := Lib.hid r3
      have HS3 := Lib.hid (HS.out.trans s3)
      clear r3 s3
      go_wp2_with fail
      go_ret
      exact nums_mk rfl HR3.out HS3.out
    | succ GK =>
      have hlt : (k : Int) < n := by omega
      have hk0 : (0 : Int) ≤ k := by omega
      have hkn : k < n := by omega
      obtain ⟨_, b, o, rfl, y0, y1, y2, y3, y4, y5, y6⟩ := (HT.out.same HS.out).at_ (k := k) (by have := HN.out; omega)
      have hs2 := (Same.refl wr).alloc (.cells #[.int .i64 (Tk.at_ ts k).kind, .int .i64 (Tk.at_ ts k).prio, .int .i64 (Tk.at_ ts k).per, .int .i64 (Tk.at_ ts k).off, .int .i64 (Tk.at_ ts k).dl, .int .i64 (Tk.at_ ts k).own, .slice (Tk.at_ ts k).A (Tk.at_ ts k).len (Tk.at_ ts k).cap] 40)
      have HO1 := Lib.hid (HO.out.same hs2)
      have hs3 := HS.out.trans hs2
      have ho3 := own1_set HO1.out k (.int .i64 (Tk.at_ ts k).prio)
      rw [pr_set hkn] at ho3
      have HO3 := Lib.hid ho3
      have c0 := own1_get HO1.out (IL_get _ hkn)
      have t0 := own1_thaw HO1.out k
      have HS3 := Lib.hid (hs3.set (p := ⟨q, k, none⟩) (.inr (by have := HQ.out; simp only; omega)) (.int .i64 (Tk.at_ ts k).prio))
      have hne : ¬ wr.heap.size = q := by have := HO.out.lt.2.1; omega
      clear ho3 hs2 hs3
      generalize prF ts k k = u0 at *
      generalize Tk.at_ ts k = x at *
      go_wp2_with fail
      go_roundg GK
      case rel => exact ⟨k + 1, by omega, by go_num, HO3.out, HS3.out⟩
      case measure => omega
set_option maxRecDepth 100000 in
theorem orders_long (A : Option Addr) (m c : Nat) (ts : List Task) (x y : Int) (w : World) (hl : ts.length = m) (hm : ¬ m ≤ 40) (ht : Tasks w A ts) :
    Calls Try.prog 3 #[.slice A m c, .int .i64 x, .int .i64 y] w fun e w' => e = .returned (.bool true) ∧ Same w w' := by
  have FW := Lib.hid (few_any A m c ts 40 (by omega) w hl ht)
  clear hl ht
  go_enter Try.func3, Try.ntmps3
  go_wp2_with fail
  refine FW.out.mono ?_
  rintro e w1 ⟨⟨b, rfl, hb⟩, s1⟩
  have hbf : b = false := by
    cases b
    · rfl
    · exact absurd (hb rfl) hm
  subst hbf
  clear hb hm FW
  go_wp2_with fail
  refine (awake26 _).mono ?_
  rintro e w2 ⟨rfl, s2⟩
  go_wp2
  go_ret
  exact ⟨rfl, s1.trans s2⟩
set_option maxRecDepth 100000 in
set_option maxHeartbeats 2000000 in
theorem orders_any (A : Option Addr) (m c : Nat) (ts : List Task) (x y : Int) (w : World) (hl : ts.length = m) (ht : Tasks w A ts) :
    Calls Try.prog 3 #[.slice A m c, .int .i64 x, .int .i64 y] w fun e w' => e = .returned (.bool true) ∧ Same w w' := by
  by_cases hm : m ≤ 40
  rotate_left
  · exact orders_long A m c ts x y w hl hm ht
  have FW := Lib.hid (few_any A m c ts 40 (by omega) w hl ht)
  have RK := Lib.hid (fun w' (s : Same w w') => ranks_any A m c ts w' hl (by omega) (ht.same s))
  have RA := Lib.hid (fun (k : Int) w' (s : Same w w') => rabove_gen A m c ts k w' hl (by omega) (ht.same s))
  have AB := Lib.hid (fun w' (s : Same w w') => above_gen A m c ts x w' hl (by omega) (ht.same s))
  have AH := Lib.hid (fun w' (s : Same w w') => ahead_gen A m c ts x y w' hl (ht.same s))
  have RH := Lib.hid (fun w' (s : Same w w') => rahead_gen A m c ts x y w' hl (ht.same s))
  have HY := Lib.hid (fun w' (s : Same w w') => hyper_gen A m c ts w' hl (by omega) (ht.same s))
  have RY := Lib.hid (fun w' (s : Same w w') => rhyper_gen A m c ts w' hl (by omega) (ht.same s))
  have HLEN : Hid ((nI (rankL (prios ts))).length = m) := Lib.hid (by rw [nI_len, rankL_len, prios_len, hl])
  have HAR := Lib.hid (fun (k : Nat) (hk : k < m) => (show (aboveI ts (k : Int) m).length = rankN (prios ts) k by rw [← hl]; exact above_rankN (by omega)))
  have HGT := Lib.hid (fun (k : Nat) (hk : k < m) => Bo.nI_get (rankL_get (P := prios ts) (i := k) (by rw [prios_len]; omega)))
  have hxl := aboveI_len ts x m
  clear hl ht
  generalize allP ts = hy at *
  generalize aheadI ts x y = ah at *
  go_enter Try.func3, Try.ntmps3
  go_wp2_with fail
  refine FW.out.mono ?_
  rintro e w1 ⟨⟨b, rfl, hb⟩, s1⟩
  have HS1 := Lib.hid s1
  clear hb s1 FW
  cases b
  · go_wp2_with fail
    refine (awake26 _).mono ?_
    rintro e w2 ⟨rfl, s2⟩
    go_wp2
    go_ret
    exact ⟨rfl, HS1.out.trans s2⟩
  go_wp2_with fail
  refine (RK.out _ HS1.out).mono ?_
  rintro e w2 ⟨A2, c2, rfl, r2, s2⟩
  have HR2 := Lib.hid r2
  have HS2 := Lib.hid (HS1.out.trans s2)
  rw [HLEN.out]
  clear r2 s2 RK HS1
  go_wp2_with fail
  go_loopg [22] m (fun gk iv wx => ∃ k : Nat, k + gk = m ∧ iv = .int .i64 k ∧ Same w2 wx)
  case atStart => exact ⟨0, by omega, rfl, Same.refl _⟩
  case round =>
    obtain ⟨k, hk, rfl, sx⟩ := hrel
    have HSX := Lib.hid sx
    clear sx
    cases gk with
    | zero =>
      obtain rfl : m = k := by omega
      have hge : ¬ (m : Int) < (m : Int) := by omega
      have HS3 := Lib.hid (HS2.out.trans HSX.out)
      have hee : (ah == ah) = true := by simp
      have hyy : (hy == hy) = true := by simp
      have RX := Lib.hid (RA.out x)
      obtain ⟨N, hN⟩ : ∃ N, N = aboveI ts x m := ⟨_, rfl⟩
      rw [← hN] at AB RX hxl
      unfold Nums at AB RX
      obtain ⟨z, hz⟩ : ∃ z, z = N.length := ⟨_, rfl⟩
      rw [← hz] at AB RX hxl
      have HZ := Lib.hid hz
      clear RA HAR HGT HR2 HSX HS2 hN hz
      go_wp2_with fail
      refine (AH.out _ HS3.out).mono ?_
      rintro e w3 ⟨rfl, s3⟩
      have HS4 := Lib.hid (HS3.out.trans s3)
      clear s3 HS3
      go_wp2_with fail
      refine (RH.out _ HS4.out).mono ?_
      rintro e w4 ⟨rfl, s4⟩
      have HS5 := Lib.hid (HS4.out.trans s4)
      clear s4 HS4
      go_wp2_with fail
      refine (AB.out _ HS5.out).mono ?_
      rintro e w5 ⟨A5, c5, rfl, r5, s5⟩
      have HS6 := Lib.hid (HS5.out.trans s5)
      have HR5 := Lib.hid r5
      clear s5 HS5 r5
      go_wp2_with fail
      refine (RX.out _ HS6.out).mono ?_
      rintro e w6 ⟨A6, c6, rfl, r6, s6⟩
      have HS7 := Lib.hid (HS6.out.trans s6)
      have IE := ints_eq A5 A6 z z c5 c6 N N w6 HZ.out.symm HZ.out.symm (HR5.out.same s6) r6 (by omega) (by omega)
      rw [decide_eq_true rfl] at IE
      have HIE := Lib.hid IE
      clear IE s6 r6 HS6 HR5
      go_wp2_with fail
      refine HIE.out.mono ?_
      rintro e w7 ⟨rfl, k7, rfl⟩
      have HS8 := Lib.hid (HS7.out.drewN k7)
      clear HIE HS7
      generalize w6.drewN k7 = w7 at *
      go_wp2_with fail
      refine (HY.out _ HS8.out).mono ?_
      rintro e w8 ⟨rfl, s8⟩
      have HS9 := Lib.hid (HS8.out.trans s8)
      clear s8 HS8
      go_wp2_with fail
      refine (RY.out _ HS9.out).mono ?_
      rintro e w9 ⟨rfl, s9⟩
      have HS10 := Lib.hid (HS9.out.trans s9)
      clear s9 HS9
      go_wp2_with fail
      refine (awake26 _).mono ?_
      rintro e w10 ⟨rfl, s10⟩
      go_wp2
      go_ret
      exact ⟨rfl, HS10.out.trans s10⟩
    | succ GK =>
      have hlt : (k : Int) < m := by omega
      have hk0 : (0 : Int) ≤ k := by omega
      have hkm : k < m := by omega
      obtain ⟨b2, o2, rfl, z2⟩ := (HR2.out.same HSX.out) k _ (HGT.out k hkm)
      have har := HAR.out k hkm
      have HA := fun w' (s : Same w w') => RA.out (k : Int) w' s
      unfold Nums at HA
      rw [har] at HA
      have HSW := Lib.hid (HS2.out.trans HSX.out)
      have hrl : rankN (prios ts) k ≤ m := by rw [← har]; exact aboveI_len ts k m
      clear har
      generalize rankN (prios ts) k = rk at *
      have HRA := Lib.hid HA
      clear HA
      have SS : Hid (∀ w', Same wr w' → w'.cell? ⟨b2, o2 + k, none⟩ = some (.int .i64 (rk : Int)) ∧ Same wr w') := Lib.hid (fun w' s => ⟨s.cell z2, s⟩)
      go_wp2_with fail
      go_region_held3 (fun w' => w'.cell? ⟨b2, o2 + k, none⟩ = some (.int .i64 (rk : Int)) ∧ Same wr w')
        (first | (with_reducible assumption) | (with_reducible exact SS.out _ (Same.refl wr).drew) | (rcases ‹_ ∧ Same wr _› with ⟨_, x9⟩; with_reducible exact SS.out _ (x9.trans hs9)))
        (first | (go_at_call 9; rcases ‹_ ∧ Same wr _› with ⟨_, x22⟩; (with_reducible refine (HRA.out _ (HSW.out.trans x22)).mono ?_); rintro e w' ⟨A9, c9, rfl, _, hs9⟩))
      have x9 := Lib.hid (‹_ ∧ Same wr _›).2
      go_wp2_with fail
      go_roundg GK
      case rel => exact ⟨k + 1, by omega, by go_num, HSX.out.trans x9.out⟩
      case measure => omega

end Go.Proofs.Ytflmejcojfnknab.Tk
