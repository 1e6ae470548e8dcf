/-

  Contracts of package task (layer 26): who goes ahead of whom, who goes above one, when all periods begin anew; the chapter's example.
-/
import Derived.Test.YtaclphhbdfoaeaaDoorRows
import Derived.WalkKit
import Derived.WalkLawsBesides
import Derived.ProofKit
import Derived.OpenShut
import Derived.Lib.Hide
import Derived.Deep.QuietTactic
import Derived.BigQuiet
import Derived.Test.YtaclphhbdfoaeaaDoorTaskOpen
import Derived.Test.YtaclphhbdfoaeaaDoorWordsK
import Derived.Deep.LoopGhost
import Derived.Deep.RegionHeld3
section
set_option linter.unusedSimpArgs false
set_option linter.unusedVariables false
namespace Go.Proofs.YtaclphhbdfoaeaaDoor.Wd
open Go.ChangeShapes Go.WideShapes Go.ChangeAt Go.RowKit

theorem ret_int {k : IntKind} {a b : Int} (h : a = b) : Ending.returned (.int k a) = .returned (.int k b) := by rw [h]
theorem ret_bool {a b : Bool} (h : a = b) : Ending.returned (.bool a) = .returned (.bool b) := by rw [h]

def clamp (n lo hi : Int) : Int := max lo (min n hi)

def top : Int := 1099511627776
def sm (n : Int) : Int := max 0 (min n 1099511627776)
theorem sm_bd (n : Int) : 0 ≤ sm n ∧ sm n ≤ 1099511627776 := by unfold sm; omega

def addv (a b : Int) : Int := min (sm a + sm b) 1099511627776

def mulv (a b : Int) : Int := min (sm a * sm b) 1099511627776

theorem mul_gt {x y t : Int} (hy : 0 < y) (h : t / y < x) : t < x * y := by
  have := Int.lt_mul_of_ediv_lt hy h; omega
theorem mul_le {x y t : Int} (hy : 0 < y) (h : ¬ t / y < x) : x * y ≤ t := by
  have h1 : x ≤ t / y := by omega
  have := Int.mul_le_of_le_ediv hy h1; omega

theorem mulv_ge {a b : Int} (h : 1099511627776 ≤ sm a * sm b) : (1099511627776 : Int) = mulv a b := by unfold mulv; omega
theorem mulv_le {a b : Int} (h : sm a * sm b ≤ 1099511627776) : sm a * sm b = mulv a b := by unfold mulv; omega
theorem sq_bd {x y : Int} (hx : 0 ≤ x ∧ x ≤ 1099511627776) (hy : 0 ≤ y ∧ y ≤ 1099511627776) (h : x * y ≤ 1099511627776) : wrap64 (x * y) = x * y := by
  have h0 := Int.mul_nonneg hx.1 hy.1
  exact Go.IntWalk.wrap64_in _ (by omega)

def ceilv (a b : Int) : Int := if a < 1 ∨ b < 1 then 0 else (a - 1) / b + 1
theorem div_bd {a b : Int} (ha : 1 ≤ a) (hb : 1 ≤ b) : 0 ≤ (a - 1) / b ∧ (a - 1) / b ≤ a - 1 :=
  ⟨Int.ediv_nonneg (by omega) (by omega), Int.ediv_le_self _ (by omega)⟩
theorem ceil_up {a b : Int} (hb : 1 ≤ b) (h : 0 < a % b) : a / b = (a - 1) / b := by
  have e := Int.mul_ediv_add_emod a b
  have l := Int.emod_lt_of_pos a (b := b) (by omega)
  refine (Int.ediv_emod_unique (by omega : 0 < b) (a := a - 1) (r := a % b - 1) (q := a / b)).2 ⟨?_, by omega, by omega⟩ |>.1.symm
  omega
theorem ceil_even {a b : Int} (hb : 1 ≤ b) (h : a % b ≤ 0) : a / b = (a - 1) / b + 1 := by
  have e := Int.mul_ediv_add_emod a b
  have l := Int.emod_nonneg a (b := b) (by omega)
  have h0 : a % b = 0 := by omega
  have := (Int.ediv_emod_unique (by omega : 0 < b) (a := a - 1) (r := b - 1) (q := a / b - 1)).2 ⟨by rw [Int.mul_sub]; omega, by omega, by omega⟩ |>.1
  omega
/-- what divides both -/
def gcdv (a b : Int) : Int := if a < 1 ∨ b < 1 then 0 else (Int.gcd a b : Int)
theorem gcd_step {a b : Int} (ha : 0 ≤ a) (hb : 0 ≤ b) : Int.gcd b (a % b) = Int.gcd a b := by
  obtain ⟨m, rfl⟩ := Int.eq_ofNat_of_zero_le ha
  obtain ⟨n, rfl⟩ := Int.eq_ofNat_of_zero_le hb
  rw [← Int.natCast_emod, Int.gcd_natCast_natCast, Int.gcd_natCast_natCast, Nat.gcd_comm m n, Nat.gcd_rec n m, Nat.gcd_comm]
theorem gcd_end {a : Int} (h : 0 ≤ a) : a = (Int.gcd a 0 : Int) := by rw [Int.gcd_zero_right]; omega

theorem gcdv_no {a b : Int} (h : a < 1 ∨ b < 1) : (0 : Int) = gcdv a b := by unfold gcdv; rw [if_pos h]
theorem gcdv_yes {a b : Int} (h1 : 1 ≤ a) (h2 : 1 ≤ b) : gcdv a b = (Int.gcd a b : Int) := by unfold gcdv; rw [if_neg (by omega)]
theorem gcdv_pos {a b : Int} (h1 : 1 ≤ a) (h2 : 1 ≤ b) : 1 ≤ gcdv a b := by
  rw [gcdv_yes h1 h2]; have : 0 < Int.gcd a b := Int.gcd_pos_iff.2 (Or.inl (by omega)); omega

def lcmv (a b : Int) : Int := if a < 1 ∨ b < 1 then 0 else mulv (a / gcdv a b) b
theorem lcmv_no {a b : Int} (h : a < 1 ∨ b < 1) : (0 : Int) = lcmv a b := by unfold lcmv; rw [if_pos h]
theorem lcmv_yes {a b : Int} (h1 : 1 ≤ a) (h2 : 1 ≤ b) : mulv (a / gcdv a b) b = lcmv a b := by unfold lcmv; rw [if_neg (by omega)]

theorem tdiv_in {a g : Int} (h1 : 1 ≤ a) (h2 : 1 ≤ g) (ba : a ≤ 9223372036854775807) : wrap64 (a.tdiv g) = a / g := by
  rw [Int.tdiv_eq_ediv_of_nonneg (by omega)]
  have l1 : 0 ≤ a / g := Int.ediv_nonneg (by omega) (by omega)
  have l2 : a / g ≤ a := Int.ediv_le_self _ (by omega)
  exact Go.IntWalk.wrap64_in _ (by omega)

theorem gcd_one : gcdv 4 6 = 2 := by decide
theorem lcm_one : lcmv 4 6 = 12 := by decide
theorem add_one' : addv 2 3 = 5 := by decide
theorem mul_one' : mulv 2 3 = 6 := by decide
theorem ceil_one : ceilv 7 3 = 3 := by decide

end Go.Proofs.YtaclphhbdfoaeaaDoor.Wd
end
section
set_option linter.unusedVariables false
set_option linter.unusedSimpArgs false
namespace Go.Proofs.YtaclphhbdfoaeaaDoor.Tk
open Go.ChangeShapes Go.WideShapes Go.ChangeAt Go.RowKit Ws
open Go.Proofs.YtaclphhbdfoaeaaDoor.Wd (ret_bool ret_int lcmv)

theorem ints_eq (A C : Option Addr) (n m c d : Nat) (xs ys : List Int) (w : World) (hn : xs.length = n) (hm : ys.length = m) (hx : Row w A (xs.map (Value.int .i64))) (hy : Row w C (ys.map (Value.int .i64)))
    (b1 : n ≤ 4294967296) (b2 : m ≤ 4294967296) :
    Calls Tryd.prog 33 #[.slice A n c, .slice C m d] w fun e w' => e = .returned (.bool (decide (xs = ys))) ∧ ∃ k, w' = w.drewN k := by
  by_cases hl : n = m
  · subst hl
    have HX := Lib.hid hn
    have HY := Lib.hid hm
    clear hn hm
    go_enter Tryd.func33, Tryd.ntmps33
    go_wp2
    go_loopw [5, 13] (fun _ i wr => ∃ k : Nat, k ≤ n ∧ i = .int .i64 k ∧ xs.take k = ys.take k ∧ ∃ q, wr = w.drewN q) (fun _ i _ => n - (intOf i).toNat)
    case atStart => exact ⟨0, Nat.zero_le _, rfl, by simp, 0, rfl⟩
    case round =>
      obtain ⟨k, hk, rfl, hp, q, rfl⟩ := hrel
      have HP := Lib.hid hp
      clear hp
      by_cases hlt : k < n
      · obtain ⟨b, o, rfl, hc1⟩ := hx.at_ (k := k) (by have := HX.out; simp; omega)
        obtain ⟨b', o', rfl, hc2⟩ := hy.at_ (k := k) (by have := HY.out; simp; omega)
        rw [List.getElem_map] at hc1 hc2
        have hkx : k < xs.length := by have := HX.out; omega
        have hky : k < ys.length := by have := HY.out; omega
        have hsx : xs.take (k + 1) = xs.take k ++ [xs[k]] := by rw [List.take_succ_eq_append_getElem hkx]
        have hsy : ys.take (k + 1) = ys.take k ++ [ys[k]] := by rw [List.take_succ_eq_append_getElem hky]
        obtain ⟨x, hxx⟩ : ∃ x, x = xs[k] := ⟨_, rfl⟩
        obtain ⟨y, hyy⟩ : ∃ y, y = ys[k] := ⟨_, rfl⟩
        rw [← hxx] at hc1 hsx
        rw [← hyy] at hc2 hsy
        have HSX := Lib.hid hsx
        have HSY := Lib.hid hsy
        clear hsx hsy hxx hyy
        by_cases hxy : x = y
        · have hb : (x != y) = false := by simpa using hxy
          have HXY := Lib.hid hxy
          clear hxy
          go_wp2
          go_quiet (fail)
          go_wp2
          go_roundw
          case rel => exact ⟨k + 1, by omega, by go_num, by rw [HSX.out, HSY.out, HP.out, HXY.out], _, rfl⟩
          case measure => simp [intOf]; omega
        · have hb : (x != y) = true := by simpa using hxy
          have hd : decide (xs = ys) = false := by
            rw [decide_eq_false_iff_not]
            rintro rfl
            have := HSX.out
            rw [HSY.out] at this
            have := List.append_cancel_left this
            injection this with this
            exact hxy this.symm
          have HD := Lib.hid hd
          clear hd hxy
          go_wp2
          go_quiet (fail)
          go_wp2
          go_ret
          exact ⟨ret_bool HD.out.symm, q + nq, by simp⟩
      · have hkn : k = n := by omega
        subst hkn
        have hd : decide (xs = ys) = true := by
          rw [decide_eq_true_iff]
          have h1 := HP.out
          rw [List.take_of_length_le (by have := HX.out; omega), List.take_of_length_le (by have := HY.out; omega)] at h1
          exact h1
        have HD := Lib.hid hd
        clear hd
        go_wp2
        go_ret
        exact ⟨ret_bool HD.out.symm, _, rfl⟩
  · have hd : decide (xs = ys) = false := by
      rw [decide_eq_false_iff_not]
      rintro rfl
      omega
    have HD := Lib.hid hd
    clear hd
    have hne : ((n : Int) != (m : Int)) = true := by simp; omega
    go_enter Tryd.func33, Tryd.ntmps33
    go_wp2
    go_ret
    exact ⟨ret_bool HD.out.symm, 0, rfl⟩

/-- does the task at a go ahead of the one at b? -/
def aheadB (ts : List Task) (a b : Nat) : Bool := if (at_ ts a).prio = (at_ ts b).prio then decide (a < b) else decide ((at_ ts b).prio < (at_ ts a).prio)
def FewPost (m n : Nat) (e : Ending) : Prop := ∃ b : Bool, e = .returned (.bool b) ∧ (b = true → m ≤ n)
theorem few_mk {m n : Nat} (b : Bool) (h : b = true → m ≤ n) : FewPost m n (.returned (.bool b)) := ⟨b, rfl, h⟩
set_option maxRecDepth 100000 in
theorem few_any (A : Option Addr) (m c : Nat) (ts : List Task) (n : Nat) (hn : n ≤ 1000) (w : World) (hl : ts.length = m) (ht : Tasks w A ts) :
    Calls Tryd.prog 9 #[.slice A m c, .int .i64 n] w fun e w' => FewPost m n e ∧ Same w w' := by
  have HT := Lib.hid ht
  have HL := Lib.hid hl
  clear ht hl
  by_cases hm : m ≤ n
  · have h1 : ¬ (n : Int) < m := by omega
    go_enter Tryd.func9, Tryd.ntmps9
    go_wp2_with fail
    go_loopg [13] m (fun gk iv wx => ∃ k : Nat, k + gk = m ∧ iv = .int .i64 k ∧ Same w wx)
    case atStart => exact ⟨0, by omega, rfl, Same.refl _⟩
    case round =>
      obtain ⟨k, hk, rfl, sx⟩ := hrel
      have HS := Lib.hid sx
      clear sx
      cases gk with
      | zero =>
        obtain rfl : k = m := by omega
        have hge : ¬ (k : Int) < (k : Int) := by omega
        go_wp2_with fail
        go_ret
        exact ⟨few_mk true (fun _ => hm), HS.out⟩
      | succ GK =>
        have hlt : (k : Int) < m := by omega
        obtain ⟨_, b, o, rfl, c0, c1, c2, c3, c4, c5, c6⟩ := (HT.out.same HS.out).at_ (k := k) (by have := HL.out; omega)
        generalize Tk.at_ ts k = x at *
        have hs2 := (Same.refl wr).alloc (.cells #[.int .i64 x.kind, .int .i64 x.prio, .int .i64 x.per, .int .i64 x.off, .int .i64 x.dl, .int .i64 x.own, .slice x.A x.len x.cap] 32)
        have HS2 := Lib.hid (HS.out.trans hs2)
        clear hs2
        by_cases h2 : (200 : Int) < x.len
        · go_wp2_with fail
          go_ret
          exact ⟨few_mk false (fun h => by cases h), HS2.out⟩
        · go_wp2_with fail
          go_roundg GK
          case rel => exact ⟨k + 1, by omega, by go_num, HS2.out⟩
          case measure => omega
  · have h1 : (n : Int) < m := by omega
    go_enter Tryd.func9, Tryd.ntmps9
    go_wp2_with fail
    go_ret
    exact ⟨few_mk false (fun h => by cases h), Same.refl _⟩

/-- who goes ahead of the task at b, of the first k -/
def aboveTo (ts : List Task) (b : Nat) : Nat → List Int
  | 0 => []
  | k + 1 => aboveTo ts b k ++ (if aheadB ts k b = true then [(k : Int)] else [])
theorem aboveTo_len (ts : List Task) (b : Nat) : ∀ k, (aboveTo ts b k).length ≤ k
  | 0 => Nat.le_refl _
  | k + 1 => by
    have := aboveTo_len ts b k
    unfold aboveTo
    rw [List.length_append]
    split <;> simp <;> omega
theorem int_info : (Tryd.prog.info? 3).map (fun i => (i.zero, i.size, i.bytes)) = some (some (.int .i64 0), 1, 8) := by kernel_rfl
theorem own_nil (w : World) (B : Nat) (e : TypeId) : Own w B e none 0 [] := ⟨by simp, .inl ⟨rfl, rfl⟩⟩
/-- a row of numbers that was told -/
def Nums (w : World) (l : List Int) (e : Ending) (w' : World) : Prop := ∃ A c, e = .returned (.slice A l.length c) ∧ Row w' A (l.map (Value.int .i64)) ∧ Same w w'
theorem nums_mk {w w' : World} {l : List Int} {A : Option Addr} {n c : Nat} (hn : n = l.length) (hr : Row w' A (l.map (Value.int .i64))) (hs : Same w w') : Nums w l (.returned (.slice A n c)) w' := by
  subst hn
  exact ⟨A, c, rfl, hr, hs⟩
/-- when the periods of the first k begin anew -/
def hyperTo (ts : List Task) : Nat → Int
  | 0 => 1
  | k + 1 => lcmv (hyperTo ts k) (at_ ts k).per
def t0 : List Task := [⟨0, 1, 4, 0, 0, 0, none, 0, 0⟩, ⟨0, 5, 6, 0, 0, 0, none, 0, 0⟩, ⟨0, 5, 1, 0, 0, 0, none, 0, 0⟩]
theorem t0_a0 : aboveTo t0 0 3 = [1, 2] := by decide +kernel
theorem t0_a2 : aboveTo t0 2 3 = [1] := by decide +kernel
theorem t0_h : hyperTo t0 3 = 12 := by decide +kernel
theorem t0_hb : ∀ k, k < 3 → hyperTo t0 k ≤ 9223372036854775807 := by
  intro k hk
  match k, hk with
  | 0, _ => decide +kernel
  | 1, _ => decide +kernel
  | 2, _ => decide +kernel
end Go.Proofs.YtaclphhbdfoaeaaDoor.Tk
end
