/-

  Layer 3: the walk of the law BitmapSets.
-/
import Derived.Test.YtikjkmomokhanaaDoorBitThree
set_option linter.unusedVariables false
set_option linter.unusedSimpArgs false
namespace Go.Proofs.YtikjkmomokhanaaDoor.Be
open Go.ChangeShapes Go.WideShapes Go.ChangeAt Go.RowKit Ws
open Go.Proofs.YtikjkmomokhanaaDoor.Bo
open Go.Proofs.YtikjkmomokhanaaDoor.Od
open Go.Proofs.YtikjkmomokhanaaDoor.Bp (count_any)
open Go.Proofs.YtikjkmomokhanaaDoor.Bt (orN orN_bit orN_lt bitN bitN_bit bitN_lt of_any put_any i64s)

theorem bitN_eq (i : Int) : bitN i = Op.bitI i := by unfold bitN Op.bitI; rfl
theorem mem_nI {m : Nat} (hm : m < 18446744073709551616) (i : Int) : i ∈ nI (bitsL m) ↔ 0 ≤ i ∧ i < 64 ∧ m.testBit i.toNat = true := by
  unfold nI
  rw [List.mem_map]
  constructor
  · rintro ⟨k, hk, rfl⟩
    rw [bitsL_mem hm] at hk
    exact ⟨by omega, by omega, by rw [Int.toNat_natCast]; exact hk.2⟩
  · rintro ⟨h1, h2, h3⟩
    exact ⟨i.toNat, (bitsL_mem hm _).2 ⟨by omega, h3⟩, by omega⟩
theorem and_bit (x : Nat) (i : Int) : decide (x &&& Op.bitI i ≠ 0) = decide (0 ≤ i ∧ i < 64 ∧ x.testBit i.toNat = true) := by
  rw [decide_eq_decide]
  constructor
  · intro h
    by_cases hi : 0 ≤ i ∧ i < 64
    · refine ⟨hi.1, hi.2, ?_⟩
      cases hb : x.testBit i.toNat
      · exfalso
        apply h
        apply Nat.eq_of_testBit_eq
        intro j
        rw [Nat.zero_testBit, Nat.testBit_and, bitI_bit]
        by_cases hj : (j : Int) = i
        · subst hj
          rw [Int.toNat_natCast] at hb
          rw [hb]
          rfl
        · simp [hj]
      · rfl
    · exfalso
      apply h
      have : Op.bitI i = 0 := by unfold Op.bitI; rw [if_neg (by omega)]
      rw [this, Nat.and_zero]
  · rintro ⟨h1, h2, h3⟩ h
    have hb : (x &&& Op.bitI i).testBit i.toNat = true := by
      rw [Nat.testBit_and, h3, bitI_bit]
      simp
      omega
    rw [h, Nat.zero_testBit] at hb
    cases hb
theorem has_eq {m : Nat} (hm : m < 18446744073709551616) (i : Int) : decide (m &&& Op.bitI i ≠ 0) = decide (i ∈ nI (bitsL m)) := by
  rw [and_bit, decide_eq_decide, mem_nI hm]
theorem two_lt {x : Nat} (h : ∀ j, 64 ≤ j → x.testBit j = false) : x < 18446744073709551616 := Nat.lt_pow_two_of_testBit (n := 64) x h
theorem high {x : Nat} (hx : x < 18446744073709551616) {j : Nat} (hj : 64 ≤ j) : x.testBit j = false := Nat.testBit_lt_two_pow (Nat.lt_of_lt_of_le hx (show 2 ^ 64 ≤ 2 ^ j from Nat.pow_le_pow_right (by omega) hj))
def rst (l : List Int) (i : Int) : List Int := l.filter (fun y => decide (y ≠ i))
theorem rst_le (l : List Int) (i : Int) : (rst l i).length ≤ l.length := List.length_filter_le _ _
def dropI (m : Nat) (i : Int) : Nat := m &&& (18446744073709551615 - Op.bitI i)
theorem dropI_lt {m : Nat} (hm : m < 18446744073709551616) (i : Int) : dropI m i < 18446744073709551616 := Nat.lt_of_le_of_lt Nat.and_le_left hm
theorem drop_eq {m : Nat} (hm : m < 18446744073709551616) (i : Int) : dropI m i = orN (rst (nI (bitsL m)) i) := by
  unfold rst
  apply Nat.eq_of_testBit_eq
  intro j
  by_cases hj : j < 64
  · unfold dropI
    rw [dropN_bit m i j hj, orN_bit, Bool.eq_iff_iff]
    simp only [Bool.and_eq_true, Bool.not_eq_true', decide_eq_false_iff_not, decide_eq_true_eq, List.mem_filter, mem_nI hm]
    constructor
    · rintro ⟨h1, h2⟩
      exact ⟨hj, ⟨by omega, by omega, by rw [Int.toNat_natCast]; exact h1⟩, h2⟩
    · rintro ⟨_, ⟨_, _, h1⟩, h2⟩
      rw [Int.toNat_natCast] at h1
      exact ⟨h1, h2⟩
  · rw [high (dropI_lt hm i) (by omega), high (orN_lt _) (by omega)]
theorem put_lt {m : Nat} (hm : m < 18446744073709551616) (i : Int) : m ||| bitN i < 18446744073709551616 := two_lt fun j hj => by rw [Nat.testBit_or, high hm hj, high (bitN_lt i) hj]; rfl
theorem put_eq {m : Nat} (hm : m < 18446744073709551616) (i : Int) : m ||| bitN i = orN (i :: nI (bitsL m)) := by
  apply Nat.eq_of_testBit_eq
  intro j
  by_cases hj : j < 64
  · rw [Nat.testBit_or, bitN_bit, orN_bit, Bool.eq_iff_iff]
    simp only [Bool.or_eq_true, decide_eq_true_eq, List.mem_cons, mem_nI hm]
    constructor
    · rintro (h | ⟨_, h⟩)
      · exact ⟨hj, .inr ⟨by omega, by omega, by rw [Int.toNat_natCast]; exact h⟩⟩
      · exact ⟨hj, .inl h⟩
    · rintro ⟨_, h | ⟨_, _, h⟩⟩
      · exact .inr ⟨hj, h⟩
      · rw [Int.toNat_natCast] at h
        exact .inl h
  · rw [high (put_lt hm i) (by omega), high (orN_lt _) (by omega)]
theorem has_put {m : Nat} (k : Int) : decide ((m ||| bitN k) &&& Op.bitI k ≠ 0) = decide (0 ≤ k ∧ k < 64) := by
  rw [and_bit, decide_eq_decide]
  constructor
  · rintro ⟨h1, h2, _⟩; exact ⟨h1, h2⟩
  · rintro ⟨h1, h2⟩
    refine ⟨h1, h2, ?_⟩
    rw [Nat.testBit_or, bitN_bit]
    simp
    right
    omega
theorem has_drop {m : Nat} (k : Int) : decide (dropI m k &&& Op.bitI k ≠ 0) = false := by
  rw [and_bit]
  apply decide_eq_false
  rintro ⟨h1, h2, h3⟩
  unfold dropI at h3
  rw [dropN_bit m k k.toNat (by omega)] at h3
  simp at h3
  omega
theorem drop_int (x : Nat) (i : Int) (hx : x < 18446744073709551616) (w : World) :
    Calls Tryd.prog 15 #[.int .u64 (x : Int), .int .i64 i] w fun e w' => e = .returned (.int .u64 (dropI x i : Nat)) ∧ w = w' := by
  have h1 := u64_andNot_nat x (Op.bitI i) hx (Op.bitI_lt i)
  have BA := fun w' => bit_any i w'
  have HE : Hid (bits .andNot .u64 (x : Int) (Op.bitI i : Nat) = ((dropI x i : Nat) : Int)) := Lib.hid h1
  clear h1 hx
  generalize ((Op.bitI i : Nat) : Int) = b at *
  go_enter Tryd.func15, Tryd.ntmps15
  go_wp2_with fail
  refine (BA _).mono ?_
  rintro e w' ⟨rfl, rfl⟩
  go_wp2_with fail
  go_ret
  exact ⟨ret_int HE.out, rfl⟩
/-- the first of a set -/
theorem first_all (m : Nat) (hm : m < 18446744073709551616) (w : World) (hT : TZ w) :
    Calls Tryd.prog 10 #[.int .u64 (m : Int)] w fun e w' => e = .returned (.tuple #[.int .i64 (((bitsL m).headD 0 : Nat) : Int), .bool (!(bitsL m).isEmpty)]) ∧ w = w' := by
  by_cases h0 : m = 0
  · subst h0
    rw [bitsL_zero]
    exact first_none w
  · have h := first_any m hm h0 w hT
    rw [bitsL_next h0 hm]
    exact h
theorem filter_snoc (l : List Int) (x i : Int) : rst (l ++ [x]) i = rst l i ++ if x = i then [] else [x] := by
  unfold rst
  rw [List.filter_append]
  congr 1
  by_cases h : x = i <;> simp [h]
theorem mem_snoc (l : List Int) (x i : Int) : decide (i ∈ l ++ [x]) = (decide (i ∈ l) || decide (x = i)) := by
  rw [Bool.eq_iff_iff]
  simp
  constructor
  · rintro (h | h)
    · exact .inl h
    · exact .inr h.symm
  · rintro (h | h)
    · exact .inl h
    · exact .inr h.symm
theorem own_lit (w : World) (T : TypeId) (v : Value) : Ws.Own (w.alloc (.cells #[v] T)) w.heap.size T (some ⟨w.heap.size, 0, none⟩) 1 [v] := by
  refine ⟨by simp, .inr ⟨w.heap.size, 1, #[v], rfl, Nat.le_refl _, heap_alloc_new w _, by simp, by decide, by simp, ?_⟩⟩
  simp
theorem wpList_unguarded {P : Program} {ops : Array Oper} {Q : Exit → Act → World → Prop} {a : Act} {w : World} {rest : List Oper} {o : Oper}
    (hw : Region.wanted o (yielded ops a.tmps) = true) (h : wpList P ops Q ({ o with guard := none } :: rest) a w) : wpList P ops Q (o :: rest) a w := by
  simp only [wpList, hw, if_true]
  simp only [wpList, show Region.wanted { o with guard := none } (yielded ops a.tmps) = true from rfl, if_true] at h
  exact h
set_option maxRecDepth 100000 in
set_option maxHeartbeats 4000000 in
theorem sets_any (m : Nat) (i k : Int) (w : World) (hm : m < 18446744073709551616) (hT : TZ w) :
    Calls Tryd.prog 3 #[.int .u64 (m : Int), .int .i64 i, .int .i64 k] w fun e w' => e = .returned (.bool true) ∧ Same w w' := by
  obtain ⟨i0, hi, hz0, hz1, hz2⟩ := info_parts int_info
  have HAW := Lib.hid (fun w' (s : Same w w') => awake_any w' (hT.same s))
  have RL := Lib.hid (rlist_any m w hm)
  have FA := Lib.hid (fun w' (s : Same w w') => first_all m hm w' (hT.same s))
  have LA := Lib.hid (fun w' (s : Same w w') => list_any m w' hm (hT.same s))
  have CA := fun w' => count_any m hm w'
  rw [← bitsL_eq hm] at CA
  have HA := fun w' => has_any m hm i w'
  rw [has_eq hm] at HA
  have DA := fun w' => drop_int m i hm w'
  rw [drop_eq hm] at DA
  have PA := fun w' => put_any m hm i w'
  rw [put_eq hm] at PA
  have PK := Lib.hid (fun w' => put_any m hm k w')
  have DK := Lib.hid (fun w' => drop_int m k hm w')
  have HP := fun w' => has_any (m ||| bitN k) (put_lt hm k) k w'
  have HD := fun w' => has_any (dropI m k) (dropI_lt hm k) k w'
  rw [has_put] at HP
  rw [has_drop] at HD
  have HCA := Lib.hid CA
  have HHA := Lib.hid HA
  have HDA := Lib.hid DA
  have HPA := Lib.hid PA
  have HHP := Lib.hid HP
  have HHD := Lib.hid HD
  have h64 := bitsL_len hm
  clear CA HA DA PA HP HD hm hT
  unfold NumsN at RL LA
  generalize bitsL m = L at *
  obtain ⟨q, hq⟩ : ∃ q, q = L.length := ⟨_, rfl⟩
  rw [← hq] at h64 RL LA HCA
  have HQ := Lib.hid hq
  clear hq
  go_enter Tryd.func3, Tryd.ntmps3
  go_wp2_with fail
  refine RL.out.mono ?_
  rintro e w1 ⟨A1, c1, rfl, r1, s1⟩
  have HS1 := Lib.hid s1
  have HR1 := Lib.hid r1
  clear s1 r1 RL
  go_wp2_with fail
  go_loopg [18, 8, 9] q (fun gk iv bv lv wx => ∃ (j : Nat) (A' : Option Addr) (n' c' : Nat), j + gk = q ∧ iv = .int .i64 j ∧ bv = .bool (decide (i ∈ (nI L).take j)) ∧ lv = .slice A' n' c' ∧ n' = (rst ((nI L).take j) i).length ∧
    Ws.Own wx w1.heap.size 3 A' c' ((rst ((nI L).take j) i).map (Value.int .i64)) ∧ Same w1 wx)
  case atStart => exact ⟨0, none, 0, 0, by omega, rfl, by simp, rfl, rfl, own_nil _ _ _, Same.refl _⟩
  case round =>
    obtain ⟨j, A', n', c', hj, rfl, rfl, rfl, hn', ho, sx⟩ := hrel
    have HO := Lib.hid ho
    have HX := Lib.hid sx
    have HN := Lib.hid hn'
    clear ho sx hn'
    cases gk with
    | zero =>
      obtain rfl : q = j := by omega
      have hge : ¬ (q : Int) < (q : Int) := by omega
      have e : (nI L).take q = nI L := List.take_of_length_le (by rw [nI_len]; have := HQ.out; omega)
      have hO := HO.out
      have hN := HN.out
      rw [e] at hO hN ⊢
      have HOw := Lib.hid hO.row
      have HNw := Lib.hid hN
      have HSw := Lib.hid (HS1.out.trans HX.out)
      have HR2 := Lib.hid (HR1.out.same HX.out)
      have HFA := Lib.hid (FA.out wr HSw.out)
      have hnn : n' ≤ 64 := by
        have h1 := HNw.out
        have h2 := rst_le (nI L) i
        rw [nI_len, ← HQ.out] at h2
        omega
      have HLI : Hid ((nI L).length = q) := Lib.hid (by rw [nI_len]; exact HQ.out.symm)
      clear e hO hN HO HN HX HS1 HR1 FA
      have hkc : (k < 0 ∧ decide (0 ≤ k ∧ k < 64) = false) ∨ (0 ≤ k ∧ k < 64 ∧ decide (0 ≤ k ∧ k < 64) = true) ∨ (64 ≤ k ∧ 0 ≤ k ∧ decide (0 ≤ k ∧ k < 64) = false) := by
        by_cases h1 : 0 ≤ k
        · by_cases h2 : k < 64
          · exact .inr (.inl ⟨h1, h2, decide_eq_true ⟨h1, h2⟩⟩)
          · exact .inr (.inr ⟨by omega, h1, decide_eq_false (by omega)⟩)
        · exact .inl ⟨by omega, decide_eq_false (by omega)⟩
      cases L with
      | nil =>
        have hq0 : q = 0 := by have := HQ.out; simpa using this
        subst hq0
        simp only [List.headD_nil, List.isEmpty_nil, Bool.not_true] at HFA
        go_wp2_with fail
        refine HFA.out.mono ?_
        rintro e w2 ⟨rfl, rfl⟩
        rcases hkc with ⟨k1, k2⟩ | ⟨k1, k2, k3⟩ | ⟨k1, k2, k3⟩
        · rw [k2] at HHP
          clear k2
          go_wp2_with fail
          refine (LA.out _ HSw.out).mono ?_
          rintro e w3 ⟨A3, c3, rfl, r3, s3⟩
          have HS3 := Lib.hid (HSw.out.trans s3)
          have HR3 := Lib.hid (HR2.out.same s3)
          have HO3 := Lib.hid (HOw.out.same s3)
          have HI := Lib.hid (ints_yes A3 A1 0 c3 c1 (nI []) w3 HLI.out (by omega) r3 HR3.out)
          clear s3 r3 HR2 HOw HSw LA
          go_wp2_with fail
          refine HI.out.mono ?_
          rintro e w4 ⟨rfl, s4⟩
          have HS4 := Lib.hid (HS3.out.trans s4)
          have HR4 := Lib.hid (HR3.out.same s4)
          have HO4 := Lib.hid (HO3.out.same s4)
          clear s4 HI HS3 HR3 HO3
          go_wp2_with fail
          refine (HCA.out _).mono ?_
          rintro e w' ⟨rfl, rfl⟩
          go_wp2_with fail
          refine (HHA.out _).mono ?_
          rintro e w' ⟨rfl, rfl⟩
          generalize decide (i ∈ nI []) = hb at *
          have hbb : (hb == hb) = true := by cases hb <;> rfl
          go_wp2_with fail
          refine (HDA.out _).mono ?_
          rintro e w' ⟨rfl, rfl⟩
          have HOF := Lib.hid (of_any A' n' c' (rst (nI []) i) w4 HNw.out.symm (by omega) HO4.out)
          generalize orN (rst (nI []) i) = z1 at *
          go_wp2_with fail
          refine HOF.out.mono ?_
          rintro e w' ⟨rfl, rfl⟩
          go_wp2_with fail
          refine (HPA.out _).mono ?_
          rintro e w' ⟨rfl, rfl⟩
          go_wp2_with (refine wpList_unguarded (o := ⟨some 97, _, _, _, _, _⟩) (by rfl) ?_; refine wpList_app rfl (.tmp 95) (.tmp 96) 23 rfl w4.heap.size 3 i0 _ 8 Tryd.underlying23 hi hz0 hz1 hz2 rfl (some ⟨w4.heap.size, 0, none⟩) 1 1 [.int .i64 i] rfl rfl (own_lit w4 3 (.int .i64 i)) A1 0 c1 ((nI []).map (Value.int .i64)) rfl (by rw [List.length_map]; exact HLI.out) (HR4.out.same ((Same.refl _).alloc _)) (by intro u hu; obtain ⟨y, _, rfl⟩ := List.mem_map.1 hu; rfl) (by rw [List.length_map, HLI.out]; simp <;> omega) (by omega) (by simp) ?_)
          intro A6 c6 w6 ho6 hc6 _
          have HS6 := Lib.hid (Same.more (HS4.out.alloc _) hc6 fun g hg => by
            have hg : w4.heap.size = g := by
              first
                | exact hg
                | (have hg : (some ⟨w4.heap.size, 0, none⟩ : Option Addr) = some ⟨g, 0, none⟩ := hg
                   injection hg with hg
                   injection hg)
            rw [← hg]
            exact HS4.out.size)
          have HOF2 := Lib.hid (of_any A6 (1 + 0) c6 (i :: nI []) w6 (by have h := HLI.out; simp only [List.length_cons]; omega) (by omega) ho6.row)
          generalize orN (i :: nI []) = z2 at *
          clear ho6 hc6 HS4 HR4 HO4
          go_wp2_with fail
          refine HOF2.out.mono ?_
          rintro e w' ⟨rfl, rfl⟩
          go_wp2_with fail
          refine (PK.out _).mono ?_
          rintro e w' ⟨rfl, rfl⟩
          generalize (m ||| bitN k) = z3 at *
          go_wp2_with fail
          refine (HHP.out _).mono ?_
          rintro e w' ⟨rfl, rfl⟩
          go_wp2_with fail
          refine (DK.out _).mono ?_
          rintro e w' ⟨rfl, rfl⟩
          generalize dropI m k = z4 at *
          go_wp2_with fail
          refine (HHD.out _).mono ?_
          rintro e w' ⟨rfl, rfl⟩
          go_wp2_with fail
          refine (HAW.out _ HS6.out).mono ?_
          rintro e w9 ⟨rfl, s9⟩
          go_wp2
          go_ret
          exact ⟨rfl, HS6.out.trans s9⟩
        · rw [k3] at HHP
          clear k3
          go_wp2_with fail
          refine (LA.out _ HSw.out).mono ?_
          rintro e w3 ⟨A3, c3, rfl, r3, s3⟩
          have HS3 := Lib.hid (HSw.out.trans s3)
          have HR3 := Lib.hid (HR2.out.same s3)
          have HO3 := Lib.hid (HOw.out.same s3)
          have HI := Lib.hid (ints_yes A3 A1 0 c3 c1 (nI []) w3 HLI.out (by omega) r3 HR3.out)
          clear s3 r3 HR2 HOw HSw LA
          go_wp2_with fail
          refine HI.out.mono ?_
          rintro e w4 ⟨rfl, s4⟩
          have HS4 := Lib.hid (HS3.out.trans s4)
          have HR4 := Lib.hid (HR3.out.same s4)
          have HO4 := Lib.hid (HO3.out.same s4)
          clear s4 HI HS3 HR3 HO3
          go_wp2_with fail
          refine (HCA.out _).mono ?_
          rintro e w' ⟨rfl, rfl⟩
          go_wp2_with fail
          refine (HHA.out _).mono ?_
          rintro e w' ⟨rfl, rfl⟩
          generalize decide (i ∈ nI []) = hb at *
          have hbb : (hb == hb) = true := by cases hb <;> rfl
          go_wp2_with fail
          refine (HDA.out _).mono ?_
          rintro e w' ⟨rfl, rfl⟩
          have HOF := Lib.hid (of_any A' n' c' (rst (nI []) i) w4 HNw.out.symm (by omega) HO4.out)
          generalize orN (rst (nI []) i) = z1 at *
          go_wp2_with fail
          refine HOF.out.mono ?_
          rintro e w' ⟨rfl, rfl⟩
          go_wp2_with fail
          refine (HPA.out _).mono ?_
          rintro e w' ⟨rfl, rfl⟩
          go_wp2_with (refine wpList_unguarded (o := ⟨some 97, _, _, _, _, _⟩) (by rfl) ?_; refine wpList_app rfl (.tmp 95) (.tmp 96) 23 rfl w4.heap.size 3 i0 _ 8 Tryd.underlying23 hi hz0 hz1 hz2 rfl (some ⟨w4.heap.size, 0, none⟩) 1 1 [.int .i64 i] rfl rfl (own_lit w4 3 (.int .i64 i)) A1 0 c1 ((nI []).map (Value.int .i64)) rfl (by rw [List.length_map]; exact HLI.out) (HR4.out.same ((Same.refl _).alloc _)) (by intro u hu; obtain ⟨y, _, rfl⟩ := List.mem_map.1 hu; rfl) (by rw [List.length_map, HLI.out]; simp <;> omega) (by omega) (by simp) ?_)
          intro A6 c6 w6 ho6 hc6 _
          have HS6 := Lib.hid (Same.more (HS4.out.alloc _) hc6 fun g hg => by
            have hg : w4.heap.size = g := by
              first
                | exact hg
                | (have hg : (some ⟨w4.heap.size, 0, none⟩ : Option Addr) = some ⟨g, 0, none⟩ := hg
                   injection hg with hg
                   injection hg)
            rw [← hg]
            exact HS4.out.size)
          have HOF2 := Lib.hid (of_any A6 (1 + 0) c6 (i :: nI []) w6 (by have h := HLI.out; simp only [List.length_cons]; omega) (by omega) ho6.row)
          generalize orN (i :: nI []) = z2 at *
          clear ho6 hc6 HS4 HR4 HO4
          go_wp2_with fail
          refine HOF2.out.mono ?_
          rintro e w' ⟨rfl, rfl⟩
          go_wp2_with fail
          refine (PK.out _).mono ?_
          rintro e w' ⟨rfl, rfl⟩
          generalize (m ||| bitN k) = z3 at *
          go_wp2_with fail
          refine (HHP.out _).mono ?_
          rintro e w' ⟨rfl, rfl⟩
          go_wp2_with fail
          refine (DK.out _).mono ?_
          rintro e w' ⟨rfl, rfl⟩
          generalize dropI m k = z4 at *
          go_wp2_with fail
          refine (HHD.out _).mono ?_
          rintro e w' ⟨rfl, rfl⟩
          go_wp2_with fail
          refine (HAW.out _ HS6.out).mono ?_
          rintro e w9 ⟨rfl, s9⟩
          go_wp2
          go_ret
          exact ⟨rfl, HS6.out.trans s9⟩
        · rw [k3] at HHP
          clear k3
          have k4 : decide (k < 64) = false := decide_eq_false (by omega)
          go_wp2_with fail
          refine (LA.out _ HSw.out).mono ?_
          rintro e w3 ⟨A3, c3, rfl, r3, s3⟩
          have HS3 := Lib.hid (HSw.out.trans s3)
          have HR3 := Lib.hid (HR2.out.same s3)
          have HO3 := Lib.hid (HOw.out.same s3)
          have HI := Lib.hid (ints_yes A3 A1 0 c3 c1 (nI []) w3 HLI.out (by omega) r3 HR3.out)
          clear s3 r3 HR2 HOw HSw LA
          go_wp2_with fail
          refine HI.out.mono ?_
          rintro e w4 ⟨rfl, s4⟩
          have HS4 := Lib.hid (HS3.out.trans s4)
          have HR4 := Lib.hid (HR3.out.same s4)
          have HO4 := Lib.hid (HO3.out.same s4)
          clear s4 HI HS3 HR3 HO3
          go_wp2_with fail
          refine (HCA.out _).mono ?_
          rintro e w' ⟨rfl, rfl⟩
          go_wp2_with fail
          refine (HHA.out _).mono ?_
          rintro e w' ⟨rfl, rfl⟩
          generalize decide (i ∈ nI []) = hb at *
          have hbb : (hb == hb) = true := by cases hb <;> rfl
          go_wp2_with fail
          refine (HDA.out _).mono ?_
          rintro e w' ⟨rfl, rfl⟩
          have HOF := Lib.hid (of_any A' n' c' (rst (nI []) i) w4 HNw.out.symm (by omega) HO4.out)
          generalize orN (rst (nI []) i) = z1 at *
          go_wp2_with fail
          refine HOF.out.mono ?_
          rintro e w' ⟨rfl, rfl⟩
          go_wp2_with fail
          refine (HPA.out _).mono ?_
          rintro e w' ⟨rfl, rfl⟩
          go_wp2_with (refine wpList_unguarded (o := ⟨some 97, _, _, _, _, _⟩) (by rfl) ?_; refine wpList_app rfl (.tmp 95) (.tmp 96) 23 rfl w4.heap.size 3 i0 _ 8 Tryd.underlying23 hi hz0 hz1 hz2 rfl (some ⟨w4.heap.size, 0, none⟩) 1 1 [.int .i64 i] rfl rfl (own_lit w4 3 (.int .i64 i)) A1 0 c1 ((nI []).map (Value.int .i64)) rfl (by rw [List.length_map]; exact HLI.out) (HR4.out.same ((Same.refl _).alloc _)) (by intro u hu; obtain ⟨y, _, rfl⟩ := List.mem_map.1 hu; rfl) (by rw [List.length_map, HLI.out]; simp <;> omega) (by omega) (by simp) ?_)
          intro A6 c6 w6 ho6 hc6 _
          have HS6 := Lib.hid (Same.more (HS4.out.alloc _) hc6 fun g hg => by
            have hg : w4.heap.size = g := by
              first
                | exact hg
                | (have hg : (some ⟨w4.heap.size, 0, none⟩ : Option Addr) = some ⟨g, 0, none⟩ := hg
                   injection hg with hg
                   injection hg)
            rw [← hg]
            exact HS4.out.size)
          have HOF2 := Lib.hid (of_any A6 (1 + 0) c6 (i :: nI []) w6 (by have h := HLI.out; simp only [List.length_cons]; omega) (by omega) ho6.row)
          generalize orN (i :: nI []) = z2 at *
          clear ho6 hc6 HS4 HR4 HO4
          go_wp2_with fail
          refine HOF2.out.mono ?_
          rintro e w' ⟨rfl, rfl⟩
          go_wp2_with fail
          refine (PK.out _).mono ?_
          rintro e w' ⟨rfl, rfl⟩
          generalize (m ||| bitN k) = z3 at *
          go_wp2_with fail
          refine (HHP.out _).mono ?_
          rintro e w' ⟨rfl, rfl⟩
          go_wp2_with fail
          refine (DK.out _).mono ?_
          rintro e w' ⟨rfl, rfl⟩
          generalize dropI m k = z4 at *
          go_wp2_with fail
          refine (HHD.out _).mono ?_
          rintro e w' ⟨rfl, rfl⟩
          go_wp2_with fail
          refine (HAW.out _ HS6.out).mono ?_
          rintro e w9 ⟨rfl, s9⟩
          go_wp2
          go_ret
          exact ⟨rfl, HS6.out.trans s9⟩
      | cons y ys =>
        have hq0 : (0 : Int) < q := by have := HQ.out; simp at this; omega
        have hq1 : 0 < q := by omega
        simp only [List.headD_cons, List.isEmpty_cons, Bool.not_false] at HFA
        obtain ⟨b, o, rfl, cy⟩ := HR2.out 0 (.int .i64 (y : Int)) rfl
        rw [Nat.add_zero] at cy
        go_wp2_with fail
        refine HFA.out.mono ?_
        rintro e w2 ⟨rfl, rfl⟩
        have hyy : ((y : Int) != (y : Int)) = false := by simp
        rcases hkc with ⟨k1, k2⟩ | ⟨k1, k2, k3⟩ | ⟨k1, k2, k3⟩
        · rw [k2] at HHP
          clear k2
          go_wp2_with fail
          refine (LA.out _ HSw.out).mono ?_
          rintro e w3 ⟨A3, c3, rfl, r3, s3⟩
          have HS3 := Lib.hid (HSw.out.trans s3)
          have HR3 := Lib.hid (HR2.out.same s3)
          have HO3 := Lib.hid (HOw.out.same s3)
          have HI := Lib.hid (ints_yes A3 (some ⟨b, o, none⟩) q c3 c1 (nI (y :: ys)) w3 HLI.out (by omega) r3 HR3.out)
          clear s3 r3 HR2 HOw HSw LA
          go_wp2_with fail
          refine HI.out.mono ?_
          rintro e w4 ⟨rfl, s4⟩
          have HS4 := Lib.hid (HS3.out.trans s4)
          have HR4 := Lib.hid (HR3.out.same s4)
          have HO4 := Lib.hid (HO3.out.same s4)
          clear s4 HI HS3 HR3 HO3
          go_wp2_with fail
          refine (HCA.out _).mono ?_
          rintro e w' ⟨rfl, rfl⟩
          go_wp2_with fail
          refine (HHA.out _).mono ?_
          rintro e w' ⟨rfl, rfl⟩
          generalize decide (i ∈ nI (y :: ys)) = hb at *
          have hbb : (hb == hb) = true := by cases hb <;> rfl
          go_wp2_with fail
          refine (HDA.out _).mono ?_
          rintro e w' ⟨rfl, rfl⟩
          have HOF := Lib.hid (of_any A' n' c' (rst (nI (y :: ys)) i) w4 HNw.out.symm (by omega) HO4.out)
          generalize orN (rst (nI (y :: ys)) i) = z1 at *
          go_wp2_with fail
          refine HOF.out.mono ?_
          rintro e w' ⟨rfl, rfl⟩
          go_wp2_with fail
          refine (HPA.out _).mono ?_
          rintro e w' ⟨rfl, rfl⟩
          go_wp2_with (refine wpList_unguarded (o := ⟨some 97, _, _, _, _, _⟩) (by rfl) ?_; refine wpList_app rfl (.tmp 95) (.tmp 96) 23 rfl w4.heap.size 3 i0 _ 8 Tryd.underlying23 hi hz0 hz1 hz2 rfl (some ⟨w4.heap.size, 0, none⟩) 1 1 [.int .i64 i] rfl rfl (own_lit w4 3 (.int .i64 i)) (some ⟨b, o, none⟩) q c1 ((nI (y :: ys)).map (Value.int .i64)) rfl (by rw [List.length_map]; exact HLI.out) (HR4.out.same ((Same.refl _).alloc _)) (by intro u hu; obtain ⟨y, _, rfl⟩ := List.mem_map.1 hu; rfl) (by rw [List.length_map, HLI.out]; simp <;> omega) (by omega) (by simp) ?_)
          intro A6 c6 w6 ho6 hc6 _
          have HS6 := Lib.hid (Same.more (HS4.out.alloc _) hc6 fun g hg => by
            have hg : w4.heap.size = g := by
              first
                | exact hg
                | (have hg : (some ⟨w4.heap.size, 0, none⟩ : Option Addr) = some ⟨g, 0, none⟩ := hg
                   injection hg with hg
                   injection hg)
            rw [← hg]
            exact HS4.out.size)
          have HOF2 := Lib.hid (of_any A6 (1 + q) c6 (i :: nI (y :: ys)) w6 (by have h := HLI.out; simp only [List.length_cons]; omega) (by omega) ho6.row)
          generalize orN (i :: nI (y :: ys)) = z2 at *
          clear ho6 hc6 HS4 HR4 HO4
          go_wp2_with fail
          refine HOF2.out.mono ?_
          rintro e w' ⟨rfl, rfl⟩
          go_wp2_with fail
          refine (PK.out _).mono ?_
          rintro e w' ⟨rfl, rfl⟩
          generalize (m ||| bitN k) = z3 at *
          go_wp2_with fail
          refine (HHP.out _).mono ?_
          rintro e w' ⟨rfl, rfl⟩
          go_wp2_with fail
          refine (DK.out _).mono ?_
          rintro e w' ⟨rfl, rfl⟩
          generalize dropI m k = z4 at *
          go_wp2_with fail
          refine (HHD.out _).mono ?_
          rintro e w' ⟨rfl, rfl⟩
          go_wp2_with fail
          refine (HAW.out _ HS6.out).mono ?_
          rintro e w9 ⟨rfl, s9⟩
          go_wp2
          go_ret
          exact ⟨rfl, HS6.out.trans s9⟩
        · rw [k3] at HHP
          clear k3
          go_wp2_with fail
          refine (LA.out _ HSw.out).mono ?_
          rintro e w3 ⟨A3, c3, rfl, r3, s3⟩
          have HS3 := Lib.hid (HSw.out.trans s3)
          have HR3 := Lib.hid (HR2.out.same s3)
          have HO3 := Lib.hid (HOw.out.same s3)
          have HI := Lib.hid (ints_yes A3 (some ⟨b, o, none⟩) q c3 c1 (nI (y :: ys)) w3 HLI.out (by omega) r3 HR3.out)
          clear s3 r3 HR2 HOw HSw LA
          go_wp2_with fail
          refine HI.out.mono ?_
          rintro e w4 ⟨rfl, s4⟩
          have HS4 := Lib.hid (HS3.out.trans s4)
          have HR4 := Lib.hid (HR3.out.same s4)
          have HO4 := Lib.hid (HO3.out.same s4)
          clear s4 HI HS3 HR3 HO3
          go_wp2_with fail
          refine (HCA.out _).mono ?_
          rintro e w' ⟨rfl, rfl⟩
          go_wp2_with fail
          refine (HHA.out _).mono ?_
          rintro e w' ⟨rfl, rfl⟩
          generalize decide (i ∈ nI (y :: ys)) = hb at *
          have hbb : (hb == hb) = true := by cases hb <;> rfl
          go_wp2_with fail
          refine (HDA.out _).mono ?_
          rintro e w' ⟨rfl, rfl⟩
          have HOF := Lib.hid (of_any A' n' c' (rst (nI (y :: ys)) i) w4 HNw.out.symm (by omega) HO4.out)
          generalize orN (rst (nI (y :: ys)) i) = z1 at *
          go_wp2_with fail
          refine HOF.out.mono ?_
          rintro e w' ⟨rfl, rfl⟩
          go_wp2_with fail
          refine (HPA.out _).mono ?_
          rintro e w' ⟨rfl, rfl⟩
          go_wp2_with (refine wpList_unguarded (o := ⟨some 97, _, _, _, _, _⟩) (by rfl) ?_; refine wpList_app rfl (.tmp 95) (.tmp 96) 23 rfl w4.heap.size 3 i0 _ 8 Tryd.underlying23 hi hz0 hz1 hz2 rfl (some ⟨w4.heap.size, 0, none⟩) 1 1 [.int .i64 i] rfl rfl (own_lit w4 3 (.int .i64 i)) (some ⟨b, o, none⟩) q c1 ((nI (y :: ys)).map (Value.int .i64)) rfl (by rw [List.length_map]; exact HLI.out) (HR4.out.same ((Same.refl _).alloc _)) (by intro u hu; obtain ⟨y, _, rfl⟩ := List.mem_map.1 hu; rfl) (by rw [List.length_map, HLI.out]; simp <;> omega) (by omega) (by simp) ?_)
          intro A6 c6 w6 ho6 hc6 _
          have HS6 := Lib.hid (Same.more (HS4.out.alloc _) hc6 fun g hg => by
            have hg : w4.heap.size = g := by
              first
                | exact hg
                | (have hg : (some ⟨w4.heap.size, 0, none⟩ : Option Addr) = some ⟨g, 0, none⟩ := hg
                   injection hg with hg
                   injection hg)
            rw [← hg]
            exact HS4.out.size)
          have HOF2 := Lib.hid (of_any A6 (1 + q) c6 (i :: nI (y :: ys)) w6 (by have h := HLI.out; simp only [List.length_cons]; omega) (by omega) ho6.row)
          generalize orN (i :: nI (y :: ys)) = z2 at *
          clear ho6 hc6 HS4 HR4 HO4
          go_wp2_with fail
          refine HOF2.out.mono ?_
          rintro e w' ⟨rfl, rfl⟩
          go_wp2_with fail
          refine (PK.out _).mono ?_
          rintro e w' ⟨rfl, rfl⟩
          generalize (m ||| bitN k) = z3 at *
          go_wp2_with fail
          refine (HHP.out _).mono ?_
          rintro e w' ⟨rfl, rfl⟩
          go_wp2_with fail
          refine (DK.out _).mono ?_
          rintro e w' ⟨rfl, rfl⟩
          generalize dropI m k = z4 at *
          go_wp2_with fail
          refine (HHD.out _).mono ?_
          rintro e w' ⟨rfl, rfl⟩
          go_wp2_with fail
          refine (HAW.out _ HS6.out).mono ?_
          rintro e w9 ⟨rfl, s9⟩
          go_wp2
          go_ret
          exact ⟨rfl, HS6.out.trans s9⟩
        · rw [k3] at HHP
          clear k3
          have k4 : decide (k < 64) = false := decide_eq_false (by omega)
          go_wp2_with fail
          refine (LA.out _ HSw.out).mono ?_
          rintro e w3 ⟨A3, c3, rfl, r3, s3⟩
          have HS3 := Lib.hid (HSw.out.trans s3)
          have HR3 := Lib.hid (HR2.out.same s3)
          have HO3 := Lib.hid (HOw.out.same s3)
          have HI := Lib.hid (ints_yes A3 (some ⟨b, o, none⟩) q c3 c1 (nI (y :: ys)) w3 HLI.out (by omega) r3 HR3.out)
          clear s3 r3 HR2 HOw HSw LA
          go_wp2_with fail
          refine HI.out.mono ?_
          rintro e w4 ⟨rfl, s4⟩
          have HS4 := Lib.hid (HS3.out.trans s4)
          have HR4 := Lib.hid (HR3.out.same s4)
          have HO4 := Lib.hid (HO3.out.same s4)
          clear s4 HI HS3 HR3 HO3
          go_wp2_with fail
          refine (HCA.out _).mono ?_
          rintro e w' ⟨rfl, rfl⟩
          go_wp2_with fail
          refine (HHA.out _).mono ?_
          rintro e w' ⟨rfl, rfl⟩
          generalize decide (i ∈ nI (y :: ys)) = hb at *
          have hbb : (hb == hb) = true := by cases hb <;> rfl
          go_wp2_with fail
          refine (HDA.out _).mono ?_
          rintro e w' ⟨rfl, rfl⟩
          have HOF := Lib.hid (of_any A' n' c' (rst (nI (y :: ys)) i) w4 HNw.out.symm (by omega) HO4.out)
          generalize orN (rst (nI (y :: ys)) i) = z1 at *
          go_wp2_with fail
          refine HOF.out.mono ?_
          rintro e w' ⟨rfl, rfl⟩
          go_wp2_with fail
          refine (HPA.out _).mono ?_
          rintro e w' ⟨rfl, rfl⟩
          go_wp2_with (refine wpList_unguarded (o := ⟨some 97, _, _, _, _, _⟩) (by rfl) ?_; refine wpList_app rfl (.tmp 95) (.tmp 96) 23 rfl w4.heap.size 3 i0 _ 8 Tryd.underlying23 hi hz0 hz1 hz2 rfl (some ⟨w4.heap.size, 0, none⟩) 1 1 [.int .i64 i] rfl rfl (own_lit w4 3 (.int .i64 i)) (some ⟨b, o, none⟩) q c1 ((nI (y :: ys)).map (Value.int .i64)) rfl (by rw [List.length_map]; exact HLI.out) (HR4.out.same ((Same.refl _).alloc _)) (by intro u hu; obtain ⟨y, _, rfl⟩ := List.mem_map.1 hu; rfl) (by rw [List.length_map, HLI.out]; simp <;> omega) (by omega) (by simp) ?_)
          intro A6 c6 w6 ho6 hc6 _
          have HS6 := Lib.hid (Same.more (HS4.out.alloc _) hc6 fun g hg => by
            have hg : w4.heap.size = g := by
              first
                | exact hg
                | (have hg : (some ⟨w4.heap.size, 0, none⟩ : Option Addr) = some ⟨g, 0, none⟩ := hg
                   injection hg with hg
                   injection hg)
            rw [← hg]
            exact HS4.out.size)
          have HOF2 := Lib.hid (of_any A6 (1 + q) c6 (i :: nI (y :: ys)) w6 (by have h := HLI.out; simp only [List.length_cons]; omega) (by omega) ho6.row)
          generalize orN (i :: nI (y :: ys)) = z2 at *
          clear ho6 hc6 HS4 HR4 HO4
          go_wp2_with fail
          refine HOF2.out.mono ?_
          rintro e w' ⟨rfl, rfl⟩
          go_wp2_with fail
          refine (PK.out _).mono ?_
          rintro e w' ⟨rfl, rfl⟩
          generalize (m ||| bitN k) = z3 at *
          go_wp2_with fail
          refine (HHP.out _).mono ?_
          rintro e w' ⟨rfl, rfl⟩
          go_wp2_with fail
          refine (DK.out _).mono ?_
          rintro e w' ⟨rfl, rfl⟩
          generalize dropI m k = z4 at *
          go_wp2_with fail
          refine (HHD.out _).mono ?_
          rintro e w' ⟨rfl, rfl⟩
          go_wp2_with fail
          refine (HAW.out _ HS6.out).mono ?_
          rintro e w9 ⟨rfl, s9⟩
          go_wp2
          go_ret
          exact ⟨rfl, HS6.out.trans s9⟩
    | succ GK =>
      have hlt : (j : Int) < q := by omega
      have j0 : (0 : Int) ≤ j := by omega
      have hjl : j < L.length := by have := HQ.out; omega
      obtain ⟨x, hx⟩ : ∃ x, L[j]? = some x := ⟨_, List.getElem?_eq_getElem hjl⟩
      obtain ⟨b, o, rfl, cx⟩ := HR1.out j _ (nI_get hx)
      have cx := HX.out.cell cx
      have hxi : (nI L)[j]? = some (x : Int) := by unfold nI; rw [List.getElem?_map, hx]; rfl
      have htk : (nI L).take (j + 1) = (nI L).take j ++ [(x : Int)] := by rw [List.take_add_one, hxi]; rfl
      have HTK := Lib.hid htk
      have hln : n' ≤ j := by
        have h1 := HN.out
        have h2 := rst_le ((nI L).take j) i
        rw [List.length_take] at h2
        omega
      clear htk hxi hx hjl
      by_cases hxe : (x : Int) = i
      · have hxb : ((x : Int) == i) = true := by simpa using hxe
        have hxn : ((x : Int) != i) = false := by simpa using hxe
        have HE := Lib.hid hxe
        clear hxe
        cases hhas : decide (i ∈ (nI L).take j)
        all_goals
          have HHAS := Lib.hid hhas
          clear hhas
          go_wp2_with fail
          go_roundg GK
          case rel =>
            have hN := HN.out
            have hO := HO.out
            refine ⟨j + 1, A', n', c', by omega, by go_num, ?_, rfl, ?_, ?_, HX.out⟩
            · rw [HTK.out, mem_snoc, decide_eq_true HE.out, Bool.or_true]
            · rw [HTK.out, filter_snoc, if_pos HE.out, List.append_nil]; exact hN
            · rw [HTK.out, filter_snoc, if_pos HE.out, List.append_nil]; exact hO
          case measure => omega
      · have hxb : ((x : Int) == i) = false := by simpa using hxe
        have hxn : ((x : Int) != i) = true := by simpa using hxe
        have HE := Lib.hid hxe
        clear hxe
        cases hhas : decide (i ∈ (nI L).take j)
        all_goals
          have HHAS := Lib.hid hhas
          clear hhas
          go_wp2_with (at_builtin; refine wpList_app rfl (.tmp 31) (.tmp 33) 23 rfl w1.heap.size 3 i0 _ 8 Tryd.underlying23 hi hz0 hz1 hz2 rfl A' n' c' ((rst ((nI L).take j) i).map (Value.int .i64)) rfl (by rw [List.length_map]; exact HN.out.symm) (HO.out.same ((Same.refl _).alloc _)) _ 1 1 [.int .i64 (x : Int)] rfl rfl (row_new _ _ _) (by intro u hu; simp at hu; subst hu; rfl) (by rw [List.length_map, ← HN.out]; simp; omega) (by omega) (by have := HX.out.size; simp; omega) ?_)
          intro A2 c2' w2 ho2 hc2 _
          have HX2 := Lib.hid (Same.more (HX.out.alloc _) hc2 fun g hg => by
            have hg : A' = some ⟨g, 0, none⟩ := hg
            subst hg
            rcases HO.out.2 with ⟨h2, _⟩ | ⟨g2, cap, cur, hv, hb2, _⟩
            · cases h2
            · injection hv with hv
              injection hv with hv
              injection hv with hv
              omega)
          have HO2 := Lib.hid ho2
          clear ho2 hc2
          go_wp2_with fail
          go_roundg GK
          case rel =>
            have hN := HN.out
            have hO := HO2.out
            refine ⟨j + 1, A2, n' + 1, c2', by omega, by go_num, ?_, by go_num, ?_, ?_, HX2.out⟩
            · rw [HTK.out, mem_snoc, decide_eq_false HE.out, Bool.or_false, HHAS.out]
            · rw [HTK.out, filter_snoc, if_neg HE.out, List.length_append]; simp; omega
            · rw [HTK.out, filter_snoc, if_neg HE.out, List.map_append]; exact hO
          case measure => omega

end Go.Proofs.YtikjkmomokhanaaDoor.Be
