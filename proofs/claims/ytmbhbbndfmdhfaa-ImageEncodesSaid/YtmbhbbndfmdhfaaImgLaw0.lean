/-
  Layer 33: Few; the chapter's example.
-/
import Derived.Test.YtmbhbbndfmdhfaaImgDec
import Derived.Test.YtmbhbbndfmdhfaaImgTrip3
set_option linter.unusedVariables false
set_option linter.unusedSimpArgs false
namespace Go.Proofs.Ytmbhbbndfmdhfaa.Im
open Go.ChangeShapes Go.WideShapes Go.ChangeAt Go.RowKit Ws Cd

/-- some truth value, and nothing is changed -/
def Some2 (w : World) (e : Ending) (w' : World) : Prop := (∃ b : Bool, e = .returned (.bool b)) ∧ Same w w'
set_option maxRecDepth 100000 in
theorem few26 (A : Option Addr) (m c : Nat) (ts : List PT) (n : Int) (w : World) (hl : ts.length = m) (hm : m ≤ 9223372036854775807) (ht : TsAt w A ts) :
    Calls Try.prog 27 #[.slice A m c, .int .i64 n] w (Some2 w) := by
  have HT := Lib.hid ht
  have HL := Lib.hid hl
  clear ht hl
  by_cases h1 : (m : Int) > n
  · go_enter Try.func27, Try.ntmps27
    go_wp2_with fail
    go_ret
    exact ⟨⟨_, rfl⟩, Same.refl _⟩
  · go_enter Try.func27, Try.ntmps27
    go_wp2_with fail
    go_loopg [13] m (fun gk iv wx => ∃ k : Nat, k + gk = m ∧ iv = .int .i64 k ∧ Same w wx)
    case atStart => exact ⟨0, by omega, rfl, Same.refl _⟩
    case round =>
      obtain ⟨k, hk, rfl, sx⟩ := hrel
      have HS := Lib.hid sx
      clear sx
      cases gk with
      | zero =>
        obtain rfl : k = m := by omega
        have hge : ¬ (k : Int) < (k : Int) := by omega
        go_wp2_with fail
        go_ret
        exact ⟨⟨_, rfl⟩, HS.out⟩
      | succ GK =>
        have hlt : (k : Int) < m := by omega
        have k0 : (0 : Int) ≤ k := by omega
        obtain ⟨x, hx⟩ : ∃ x, ts[k]? = some x := ⟨_, List.getElem?_eq_getElem (by have := HL.out; omega)⟩
        obtain ⟨b, o, rfl, X, cX, c0, c1, c2, c3, c4, c5, c6, _, _⟩ := (HT.out.same HS.out).at_ hx
        clear hx
        obtain ⟨kind, prio, per, off, dl, own, code⟩ := x
        simp only at c0 c1 c2 c3 c4 c5 c6
        have HS2 := Lib.hid (HS.out.alloc (.cells #[.int .i64 kind, .int .i64 prio, .int .i64 per, .int .i64 off, .int .i64 dl, .int .i64 own, .slice X code.length cX] 45))
        obtain ⟨q0, q1, q2, q3, q4, q5, q6⟩ := tc (Blk.new wr 45 #[.int .i64 kind, .int .i64 prio, .int .i64 per, .int .i64 off, .int .i64 dl, .int .i64 own, .slice X code.length cX])
        by_cases h2 : (code.length : Int) > 200
        · go_wp2_with fail
          go_ret
          exact ⟨⟨_, rfl⟩, HS2.out⟩
        · go_wp2_with fail
          go_roundg GK
          case rel => exact ⟨k + 1, by omega, by go_num, HS2.out⟩
          case measure => omega
set_option maxRecDepth 100000 in
theorem small14 (k wd sl cp sa ow : Int) (ia ra : Option Addr) (il ic rl rc : Nat) (w : World) : Calls Try.prog 28 #[.agg #[.int .i64 k, .int .i64 wd, .int .i64 sl, .int .i64 cp, .int .u32 sa, .slice ia il ic, .int .i64 ow, .slice ra rl rc]] w (Some2 w) := by
  by_cases h : (il : Int) ≤ 100
  · go_enter Try.func28, Try.ntmps28
    by_cases h2 : (rl : Int) ≤ 100
    · go_wp2_with fail
      go_ret
      exact ⟨⟨_, rfl⟩, (Same.refl _).alloc _⟩
    · go_wp2_with fail
      go_ret
      exact ⟨⟨_, rfl⟩, (Same.refl _).alloc _⟩
  · go_enter Try.func28, Try.ntmps28
    go_wp2_with fail
    go_ret
    exact ⟨⟨_, rfl⟩, (Same.refl _).alloc _⟩
set_option maxRecDepth 100000 in
set_option maxHeartbeats 1000000 in
theorem few31 (A B : Option Addr) (n c m d : Nat) (s : PS) (N : Int) (w : World) (hs : SysAt w A n B m s) (hnm : n ≤ maxLen ∧ m ≤ maxLen) :
    Calls Try.prog 8 #[.agg #[.slice A n c, .slice B m d], .int .i64 N] w (Some2 w) := by
  obtain ⟨hnb, hmb⟩ := hnm
  unfold maxLen at hnb hmb
  obtain ⟨hn, hm, ht, ho⟩ := hs
  have hs0 := (Same.refl w).alloc (.cells #[.slice A n c, .slice B m d] 25)
  have HB0 := Lib.hid (Blk.new w 25 #[.slice A n c, .slice B m d])
  have HS0 := Lib.hid hs0
  have FT := Lib.hid (few26 A n c s.ts N _ hn hnb (ht.same hs0))
  have HM := Lib.hid hm
  have HO := Lib.hid ho
  clear hs0 hn hm ht ho
  have a0 : (w.alloc (.cells #[.slice A n c, .slice B m d] 25)).cell? ⟨w.heap.size, 0, none⟩ = some (.slice A n c) := HB0.out.cell 0
  go_enter Try.func8, Try.ntmps8
  go_wp2_with fail
  refine FT.out.mono ?_
  rintro e w1 ⟨⟨b, rfl⟩, s1⟩
  have HS1 := Lib.hid (HS0.out.trans s1)
  have a1 : w1.cell? ⟨w.heap.size, 1, none⟩ = some (.slice B m d) := (HB0.out.same s1).cell 1
  clear s1 a0 FT
  cases b with
  | false =>
    go_wp2_with fail
    go_ret
    exact ⟨⟨_, rfl⟩, HS1.out⟩
  | true =>
    by_cases hm60 : (m : Int) > N
    · go_wp2_with fail
      go_ret
      exact ⟨⟨_, rfl⟩, HS1.out⟩
    · go_wp2_with fail
      clear a1
      go_loopg [22] m (fun gk iv wx => ∃ k : Nat, k + gk = m ∧ iv = .int .i64 k ∧ Same w wx)
      case atStart => exact ⟨0, by omega, rfl, HS1.out⟩
      case round =>
        obtain ⟨k, hk, rfl, sx⟩ := hrel
        have HS := Lib.hid sx
        clear sx
        cases gk with
        | zero =>
          obtain rfl : k = m := by omega
          have hge : ¬ (k : Int) < (k : Int) := by omega
          go_wp2_with fail
          go_ret
          exact ⟨⟨_, rfl⟩, HS.out⟩
        | succ GK =>
          have hlt : (k : Int) < m := by omega
          have k0 : (0 : Int) ≤ k := by omega
          obtain ⟨x, hx⟩ : ∃ x, s.os[k]? = some x := ⟨_, List.getElem?_eq_getElem (by have := HM.out; omega)⟩
          obtain ⟨b, o, rfl, X, cX, Y, cY, d0, d1, d2, d3, d4, d5, d6, d7, _⟩ := (HO.out.same HS.out).at_ hx
          clear hx
          obtain ⟨k_, wd, sl, cp, sa, ow, rd, ini⟩ := x
          simp only at d0 d1 d2 d3 d4 d5 d6 d7
          have HX := Lib.hid (HS.out.alloc (.cells #[.int .i64 k_, .int .i64 wd, .int .i64 sl, .int .i64 cp, .int .u32 sa, .slice X ini.length cX, .int .i64 ow, .slice Y rd.length cY] 61))
          obtain ⟨x0, x1, x2, x3, x4, x5, x6, x7⟩ := oc (Blk.new wr 61 #[.int .i64 k_, .int .i64 wd, .int .i64 sl, .int .i64 cp, .int .u32 sa, .slice X ini.length cX, .int .i64 ow, .slice Y rd.length cY])
          have SM := Lib.hid (fun w' => small14 k_ wd sl cp sa ow X Y ini.length cX rd.length cY w')
          go_wp2_with fail
          refine (SM.out _).mono ?_
          rintro e w3 ⟨⟨b, rfl⟩, s3⟩
          have HS3 := Lib.hid (HX.out.trans s3)
          clear s3
          cases b with
          | false =>
            go_wp2_with fail
            go_ret
            exact ⟨⟨_, rfl⟩, HS3.out⟩
          | true =>
            go_wp2_with fail
            go_roundg GK
            case rel => exact ⟨k + 1, by omega, by go_num, HS3.out⟩
            case measure => omega
def ex0 : List Int := [67, 88, 1, 0, 0, 156, 0]
theorem ex0_by : By ex0 := by
  intro y hy
  unfold ex0 at hy
  simp at hy
  omega
theorem img_ex : img ⟨[], []⟩ = some ex0 := by
  have hb : body ⟨[], []⟩ = [67, 88, 1, 0, 0] := by decide
  have hs : sumB [67, 88, 1, 0, 0] = 156 := by decide
  have hl : lo 156 2 = [156, 0] := by decide
  unfold img
  rw [hb, if_pos (by decide), hs, hl]
  rfl
theorem dec_ex : dec ex0 = (⟨[], []⟩, (0 : Int), (0 : Int)) := dec_img img_ex
theorem sum_ex : sumB ex0 = 312 := by decide
set_option maxRecDepth 100000 in
set_option maxHeartbeats 1000000 in
theorem awake33 (w : World) : Calls Try.prog 17 #[] w fun e w' => e = .returned (.bool true) ∧ Same w w' := by
  go_enter Try.func17, Try.ntmps17
  go_wp2_with fail
  refine (encode_any none none 0 0 0 0 ⟨[], []⟩ _ (sys_zero _) ⟨by decide, by decide⟩).mono ?_
  rintro e w1 hp
  rw [img_ex] at hp
  obtain ⟨A, c, rfl, ho, s1⟩ := hp
  rw [show ex0.length = 7 from rfl]
  have HO := Lib.hid ho
  have HS1 := Lib.hid s1
  clear ho s1
  go_wp2_with fail
  have s2 := (Same.refl w1).alloc (.cells #[.int .u8 67, .int .u8 88, .int .u8 1, .int .u8 0, .int .u8 0, .int .u8 156, .int .u8 0] 5)
  refine (decode_any (some ⟨w1.heap.size, 0, none⟩) 7 7 ex0 _ rfl ⟨by omega, by omega⟩ ex0_by (by_row_lit w1 ex0)).mono ?_
  rintro e w2 ⟨A2, n2, c2, B2, m2, d2, rfl, hs2, _, s3⟩
  rw [dec_ex]
  have HS2 := Lib.hid (HS1.out.trans (s2.trans s3))
  have HO2 := Lib.hid ((HO.out.same s2).same s3)
  clear hs2 s2 s3 HO HS1
  dsimp only
  go_wp2_with fail
  have s4 := (Same.refl w2).alloc (.cells #[.slice A2 n2 c2, .slice B2 m2 d2] 25)
  have s5 := (Same.refl (w2.alloc (.cells #[.slice A2 n2 c2, .slice B2 m2 d2] 25))).alloc (.cells #[.int .u8 67, .int .u8 88, .int .u8 1, .int .u8 0, .int .u8 0, .int .u8 156, .int .u8 0] 5)
  have hr := by_row_lit (w2.alloc (.cells #[.slice A2 n2 c2, .slice B2 m2 d2] 25)) ex0
  rw [show (w2.alloc (.cells #[.slice A2 n2 c2, .slice B2 m2 d2] 25)).heap.size = w2.heap.size + 1 by simp] at hr
  have HO5 := Lib.hid ((HO2.out.same s4).same s5)
  have HS5 := Lib.hid ((HS2.out.trans s4).trans s5)
  refine (bytes_eq A (some ⟨w2.heap.size + 1, 0, none⟩) 7 7 c 7 ex0 ex0 _ rfl rfl HO5.out.row hr ex0_by ex0_by).mono ?_
  rintro e w6 ⟨rfl, rfl⟩
  rw [decide_eq_true (rfl : ex0 = ex0)]
  clear hr s4 s5 HS2 HO2
  go_wp2_with fail
  refine (sum_any A 7 c ex0 _ rfl (by omega) ex0_by HO5.out.row).mono ?_
  rintro e w7 ⟨rfl, rfl⟩
  rw [sum_ex]
  go_wp2_with fail
  go_ret
  exact ⟨rfl, HS5.out⟩
end Go.Proofs.Ytmbhbbndfmdhfaa.Im
