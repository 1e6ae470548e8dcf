/-

  Chapter 31's Few.
-/
import Derived.Test.YtikjkmomokhanabLayOf
set_option linter.unusedVariables false
set_option linter.unusedSimpArgs false
namespace Go.Proofs.Ytikjkmomokhanab.Ly
open Go.ChangeShapes Go.WideShapes Go.ChangeAt Go.RowKit Ws

def FewPost (m n : Nat) (e : Ending) : Prop := ∃ b : Bool, e = .returned (.bool b) ∧ (b = true → m ≤ n)
theorem few_mk {m n : Nat} (b : Bool) (h : b = true → m ≤ n) : FewPost m n (.returned (.bool b)) := ⟨b, rfl, h⟩
set_option maxRecDepth 100000 in
theorem few_any (A : Option Addr) (m c : Nat) (ts : List Tk.Task) (n : Nat) (hn : n ≤ 1000) (w : World) (hl : ts.length = m) (ht : Tk.Tasks w A ts) :
    Calls Try.prog 16 #[.slice A m c, .int .i64 n] w fun e w' => FewPost m n e ∧ Same w w' := by
  have HT := Lib.hid ht
  have HL := Lib.hid hl
  clear ht hl
  by_cases hm : m ≤ n
  · have h1 : ¬ (n : Int) < m := by omega
    go_enter Try.func16, Try.ntmps16
    go_wp2_with fail
    go_loopg [13] m (fun gk iv wx => ∃ k : Nat, k + gk = m ∧ iv = .int .i64 k ∧ Same w wx)
    case atStart => exact ⟨0, by omega, rfl, Same.refl _⟩
    case round =>
      obtain ⟨k, hk, rfl, sx⟩ := hrel
      have HS := Lib.hid sx
      clear sx
      cases gk with
      | zero =>
        obtain rfl : k = m := by omega
        have hge : ¬ (k : Int) < (k : Int) := by omega
        go_wp2_with fail
        go_ret
        exact ⟨few_mk true (fun _ => hm), HS.out⟩
      | succ GK =>
        have hlt : (k : Int) < m := by omega
        obtain ⟨_, b, o, rfl, c0, c1, c2, c3, c4, c5, c6⟩ := (HT.out.same HS.out).at_ (k := k) (by have := HL.out; omega)
        generalize Tk.at_ ts k = x at *
        have hs2 := (Same.refl wr).alloc (.cells #[.int .i64 x.kind, .int .i64 x.prio, .int .i64 x.per, .int .i64 x.off, .int .i64 x.dl, .int .i64 x.own, .slice x.A x.len x.cap] 56)
        have HS2 := Lib.hid (HS.out.trans hs2)
        clear hs2
        by_cases h2 : (200 : Int) < x.len
        · go_wp2_with fail
          go_ret
          exact ⟨few_mk false (fun h => by cases h), HS2.out⟩
        · go_wp2_with fail
          go_roundg GK
          case rel => exact ⟨k + 1, by omega, by go_num, HS2.out⟩
          case measure => omega
  · have h1 : (n : Int) < m := by omega
    go_enter Try.func16, Try.ntmps16
    go_wp2_with fail
    go_ret
    exact ⟨few_mk false (fun h => by cases h), Same.refl _⟩

theorem small_any (k wd sl cp sa ow : Int) (ia ra : Option Addr) (il ic rl rc : Nat) (w : World) : Calls Try.prog 17 #[.agg #[.int .i64 k, .int .i64 wd, .int .i64 sl, .int .i64 cp, .int .u32 sa, .slice ia il ic, .int .i64 ow, .slice ra rl rc]] w fun e w' => e = .returned (.bool (decide ((il : Int) ≤ 100 ∧ (rl : Int) ≤ 100))) ∧ Same w w' := by
  by_cases h : (il : Int) ≤ 100
  · have hE : decide ((il : Int) ≤ 100 ∧ (rl : Int) ≤ 100) = decide ((rl : Int) ≤ 100) := by rw [decide_eq_decide]; omega
    rw [hE]
    have b0 : decide ((il : Int) ≤ 100) = true := decide_eq_true h
    clear hE h
    generalize hb : decide ((rl : Int) ≤ 100) = b at *
    go_enter Try.func17, Try.ntmps17
    go_wp2_with fail
    go_ret
    exact ⟨rfl, (Same.refl _).alloc _⟩
  · have hE : decide ((il : Int) ≤ 100 ∧ (rl : Int) ≤ 100) = false := decide_eq_false (by omega)
    rw [hE]
    have b0 : decide ((il : Int) ≤ 100) = false := decide_eq_false h
    clear hE h
    go_enter Try.func17, Try.ntmps17
    go_wp2_with fail
    go_ret
    exact ⟨rfl, (Same.refl _).alloc _⟩
def FewP (n m : Nat) (e : Ending) : Prop := ∃ b : Bool, e = .returned (.bool b) ∧ (b = true → n ≤ 60 ∧ m ≤ 60)
theorem fewp_mk {n m : Nat} (b : Bool) (h : b = true → n ≤ 60 ∧ m ≤ 60) : FewP n m (.returned (.bool b)) := ⟨b, rfl, h⟩
set_option maxRecDepth 100000 in
set_option maxHeartbeats 1000000 in
theorem few31 (A B : Option Addr) (n c m d : Nat) (ts : List Tk.Task) (os : List Objt) (w : World) (hn : ts.length = n) (hm : os.length = m) (hmb : m ≤ 9223372036854775807) (ht : Tk.Tasks w A ts) (ho : Objs w B os) :
    Calls Try.prog 5 #[.agg #[.slice A n c, .slice B m d], .int .i64 60] w fun e w' => FewP n m e ∧ Same w w' := by
  have hb0 := Blk.new w 25 #[.slice A n c, .slice B m d]
  have HB0 := Lib.hid hb0
  have hs0 := (Same.refl w).alloc (.cells #[.slice A n c, .slice B m d] 25)
  have HS0 := Lib.hid hs0
  have FT := Lib.hid (few_any A n c ts 60 (by omega) _ hn (ht.same hs0))
  have HM := Lib.hid hm
  have HO := Lib.hid ho
  clear hb0 hs0 hn hm ht ho
  have a0 : (w.alloc (.cells #[.slice A n c, .slice B m d] 25)).cell? ⟨w.heap.size, 0, none⟩ = some (.slice A n c) := HB0.out.cell 0
  go_enter Try.func5, Try.ntmps5
  go_wp2_with fail
  refine FT.out.mono ?_
  rintro e w1 ⟨⟨b, rfl, hb⟩, s1⟩
  have HS1 := Lib.hid (HS0.out.trans s1)
  have a1 : w1.cell? ⟨w.heap.size, 1, none⟩ = some (.slice B m d) := (HB0.out.same s1).cell 1
  have HBB := Lib.hid hb
  clear hb s1 a0 FT
  cases b with
  | false =>
    go_wp2_with fail
    go_ret
    exact ⟨fewp_mk false (fun h => by cases h), HS1.out⟩
  | true =>
    have hn60 := HBB.out rfl
    by_cases hm60 : (60 : Int) < m
    · go_wp2_with fail
      go_ret
      exact ⟨fewp_mk false (fun h => by cases h), HS1.out⟩
    · go_wp2_with fail
      clear a1
      go_loopg [22] m (fun gk iv wx => ∃ k : Nat, k + gk = m ∧ iv = .int .i64 k ∧ Same w wx)
      case atStart => exact ⟨0, by omega, rfl, HS1.out⟩
      case round =>
        obtain ⟨k, hk, rfl, sx⟩ := hrel
        have HS := Lib.hid sx
        clear sx
        cases gk with
        | zero =>
          obtain rfl : m = k := by omega
          have hge : ¬ (m : Int) < (m : Int) := by omega
          go_wp2_with fail
          go_ret
          exact ⟨fewp_mk true (fun _ => ⟨hn60, by omega⟩), HS.out⟩
        | succ GK =>
          have hlt : (k : Int) < m := by omega
          have k0 : (0 : Int) ≤ k := by omega
          obtain ⟨hsa, b, o, hB, d0, d1, d2, d3, d4, d5, d6, d7⟩ := (HO.out.same HS.out).at_ (k := k) (by have := HM.out; omega)
          generalize oat os k = x at *
          obtain ⟨k_, wd, sl, cp, sa, ia, il, ic, ow, ra, rl, rc⟩ := x
          simp only at hsa d0 d1 d2 d3 d4 d5 d6 d7
          subst hB
          have HX := Lib.hid (HS.out.alloc (.cells #[.int .i64 k_, .int .i64 wd, .int .i64 sl, .int .i64 cp, .int .u32 sa, .slice ia il ic, .int .i64 ow, .slice ra rl rc] 52))
          have hBX := Blk.new wr 52 #[.int .i64 k_, .int .i64 wd, .int .i64 sl, .int .i64 cp, .int .u32 sa, .slice ia il ic, .int .i64 ow, .slice ra rl rc]
          obtain ⟨x0, x1, x2, x3, x4, x5, x6, x7⟩ := objc hBX
          clear hBX
          have SM := Lib.hid (fun w' => small_any k_ wd sl cp sa ow ia ra il ic rl rc w')
          generalize decide ((il : Int) ≤ 100 ∧ (rl : Int) ≤ 100) = b at *
          go_wp2_with fail
          refine (SM.out _).mono ?_
          rintro e w3 ⟨rfl, s3⟩
          have HS3 := Lib.hid (HX.out.trans s3)
          clear s3
          cases b with
          | false =>
            go_wp2_with fail
            go_ret
            exact ⟨fewp_mk false (fun h => by cases h), HS3.out⟩
          | true =>
            go_wp2_with fail
            go_roundg GK
            case rel => exact ⟨k + 1, by omega, by go_num, HS3.out⟩
            case measure => omega

end Go.Proofs.Ytikjkmomokhanab.Ly
