/-

  Contracts of package flow (layer 10): may, Loops, Depth, Next; two rows of numbers, or of loops, held against each other.
-/
import Derived.Test.YtnlndkpjfgpodaaDoorFlowCk
import Derived.WalkKit
set_option linter.unusedVariables false
set_option linter.unusedSimpArgs false
namespace Go.Proofs.YtnlndkpjfgpodaaDoor.Fw
open Go.ChangeShapes Go.WideShapes Go.ChangeAt Go.RowKit Ws Fp
open Go.Proofs.YtnlndkpjfgpodaaDoor.Is (Tabs ins rightB leadB)

theorem ints_eq (A C : Option Addr) (n m c d : Nat) (xs ys : List Int) (w : World) (hn : xs.length = n) (hm : ys.length = m) (hx : Row w A (xs.map (Value.int .i64))) (hy : Row w C (ys.map (Value.int .i64)))
    (b1 : n ≤ 4294967296) (b2 : m ≤ 4294967296) :
    Calls Tryd.prog 33 #[.slice A n c, .slice C m d] w fun e w' => e = .returned (.bool (decide (xs = ys))) ∧ ∃ k, w' = w.drewN k := by
  by_cases hl : n = m
  · subst hl
    have HX := Lib.hid hn
    have HY := Lib.hid hm
    clear hn hm
    go_enter Tryd.func33, Tryd.ntmps33
    go_wp2
    go_loopw [5, 13] (fun _ i wr => ∃ k : Nat, k ≤ n ∧ i = .int .i64 k ∧ xs.take k = ys.take k ∧ ∃ q, wr = w.drewN q) (fun _ i _ => n - (intOf i).toNat)
    case atStart => exact ⟨0, Nat.zero_le _, rfl, by simp, 0, rfl⟩
    case round =>
      obtain ⟨k, hk, rfl, hp, q, rfl⟩ := hrel
      have HP := Lib.hid hp
      clear hp
      by_cases hlt : k < n
      · obtain ⟨b, o, rfl, hc1⟩ := hx.at_ (k := k) (by have := HX.out; simp; omega)
        obtain ⟨b', o', rfl, hc2⟩ := hy.at_ (k := k) (by have := HY.out; simp; omega)
        rw [List.getElem_map] at hc1 hc2
        have hkx : k < xs.length := by have := HX.out; omega
        have hky : k < ys.length := by have := HY.out; omega
        have hsx : xs.take (k + 1) = xs.take k ++ [xs[k]] := by rw [List.take_succ_eq_append_getElem hkx]
        have hsy : ys.take (k + 1) = ys.take k ++ [ys[k]] := by rw [List.take_succ_eq_append_getElem hky]
        obtain ⟨x, hxx⟩ : ∃ x, x = xs[k] := ⟨_, rfl⟩
        obtain ⟨y, hyy⟩ : ∃ y, y = ys[k] := ⟨_, rfl⟩
        rw [← hxx] at hc1 hsx
        rw [← hyy] at hc2 hsy
        have HSX := Lib.hid hsx
        have HSY := Lib.hid hsy
        clear hsx hsy hxx hyy
        by_cases hxy : x = y
        · have hb : (x != y) = false := by simpa using hxy
          have HXY := Lib.hid hxy
          clear hxy
          go_wp2
          go_quiet (fail)
          go_wp2
          go_roundw
          case rel => exact ⟨k + 1, by omega, by go_num, by rw [HSX.out, HSY.out, HP.out, HXY.out], _, rfl⟩
          case measure => simp [intOf]; omega
        · have hb : (x != y) = true := by simpa using hxy
          have hd : decide (xs = ys) = false := by
            rw [decide_eq_false_iff_not]
            rintro rfl
            have := HSX.out
            rw [HSY.out] at this
            have := List.append_cancel_left this
            injection this with this
            exact hxy this.symm
          have HD := Lib.hid hd
          clear hd hxy
          go_wp2
          go_quiet (fail)
          go_wp2
          go_ret
          exact ⟨ret_bool HD.out.symm, q + nq, by simp⟩
      · have hkn : k = n := by omega
        subst hkn
        have hd : decide (xs = ys) = true := by
          rw [decide_eq_true_iff]
          have h1 := HP.out
          rw [List.take_of_length_le (by have := HX.out; omega), List.take_of_length_le (by have := HY.out; omega)] at h1
          exact h1
        have HD := Lib.hid hd
        clear hd
        go_wp2
        go_ret
        exact ⟨ret_bool HD.out.symm, _, rfl⟩
  · have hd : decide (xs = ys) = false := by
      rw [decide_eq_false_iff_not]
      rintro rfl
      omega
    have HD := Lib.hid hd
    clear hd
    have hne : ((n : Int) != (m : Int)) = true := by simp; omega
    go_enter Tryd.func33, Tryd.ntmps33
    go_wp2
    go_ret
    exact ⟨ret_bool HD.out.symm, 0, rfl⟩

/-- does a program go where it may? -/
def okB (p : List Ins) : Bool := decide (ckE p = 0)
theorem okB_fine {p : List Ins} (h : okB p = true) : Fine rightI p := fine_of (of_decide_eq_true h)
theorem may_any (A : Option Addr) (m c : Nat) (p : List Ins) (w : World) (hl : p.length = m) (hm : m ≤ 5000) (hp : Prg w A p) (ht : Tabs w) :
    Calls Tryd.prog 90 #[.slice A m c] w fun e w' => e = .returned (.bool (okB p)) ∧ Same w w' := by
  have CK := Lib.hid (check_any A m c p w hl hm hp ht)
  have hE : (ckE p == 0) = okB p := by unfold okB; rw [Bool.eq_iff_iff]; simp
  have HE := Lib.hid hE
  clear hl hp ht hE
  go_enter Tryd.func90, Tryd.ntmps90
  go_wp2_with fail
  refine CK.out.mono ?_
  rintro e w1 ⟨rfl, s1⟩
  go_wp2_with fail
  go_ret
  exact ⟨ret_bool HE.out, s1⟩
/-- the loops that are told of a program -/
def toldL (p : List Ins) : List (Int × Int) := if okB p = true then loopsL p else []
def Told (w : World) (l : List (Int × Int)) (e : Ending) (w' : World) : Prop := ∃ A c, e = .returned (.slice A l.length c) ∧ Spn w' A l ∧ Same w w'
theorem spn_nil (w : World) (A : Option Addr) : Spn w A [] := fun k s h => by simp at h
theorem told_any (A : Option Addr) (m c : Nat) (p : List Ins) (w : World) (hl : p.length = m) (hm : m ≤ 5000) (hp : Prg w A p) (ht : Tabs w) :
    Calls Tryd.prog 60 #[.slice A m c] w (Told w (toldL p)) := by
  have MA := Lib.hid (may_any A m c p w hl hm hp ht)
  have LO := Lib.hid (fun w' (s : Same w w') => loops_any A m c p w' hl hm (hp.same s))
  unfold Told toldL
  clear hl hp ht
  cases hok : okB p
  · rw [hok] at MA
    rw [if_neg Bool.false_ne_true]
    clear hok
    go_enter Tryd.func60, Tryd.ntmps60
    go_wp2_with fail
    refine MA.out.mono ?_
    rintro e w1 ⟨rfl, s1⟩
    go_wp2_with fail
    go_ret
    exact ⟨none, 0, rfl, spn_nil _ _, s1⟩
  · rw [hok] at MA
    rw [if_pos rfl]
    clear hok
    go_enter Tryd.func60, Tryd.ntmps60
    go_wp2_with fail
    refine MA.out.mono ?_
    rintro e w1 ⟨rfl, s1⟩
    go_wp2_with fail
    refine (LO.out _ s1).mono ?_
    rintro e w2 ⟨A2, c2, rfl, ho, s2⟩
    have HSP := Lib.hid (spn_of ho.row)
    have HS2 := Lib.hid (s1.trans s2)
    clear ho s1 s2 LO MA
    generalize hnn : (loopsL p).length = n at *
    have HNN := Lib.hid hnn
    clear hnn
    go_wp2_with fail
    go_ret
    exact ⟨A2, c2, by rw [HNN.out]; rfl, HSP.out, HS2.out⟩

def depthI (l : List (Int × Int)) (x : Int) : Nat := cnt (fun k => hasB (lp l k) x) l.length
/-- the places to which one may come, as a row of numbers -/
def Nums (w : World) (l : List Int) (e : Ending) (w' : World) : Prop := ∃ A c, e = .returned (.slice A l.length c) ∧ Row w' A (l.map (Value.int .i64)) ∧ Same w w'
theorem next_any (A : Option Addr) (m c : Nat) (p : List Ins) (k : Nat) (w : World) (hl : p.length = m) (hm : m ≤ 5000) (hk : k < m) (hp : Prg w A p) :
    Calls Tryd.prog 115 #[.slice A m c, .int .i64 k] w (Nums w (nextL p k)) := by
  obtain ⟨hok, b, o, rfl, c0, _, _, _, c4⟩ := hp.at_ (k := k) (by omega)
  have hki : (k : Int) < m := by omega
  have hk0 : (0 : Int) ≤ k := by omega
  have hE : nextL p k = if (Fp.at_ p k).op = 21 then [] else if (Fp.at_ p k).op = 14 then [(Fp.at_ p k).n] else if (Fp.at_ p k).op = 15 then (if (k : Int) + 1 < (Fp.at_ p k).n then [(k : Int) + 1, (Fp.at_ p k).n] else [(k : Int) + 1]) else if (Fp.at_ p k).op = 16 then [(Fp.at_ p k).n, (k : Int) + 1] else [(k : Int) + 1] := rfl
  rw [hE]
  clear hE hp hl
  generalize Fp.at_ p k = x at *
  have hn := hok
  unfold Ins.ok at hn
  have f1 := i64_of x.n (by omega)
  have f2 := i64_of ((k : Int) + 1) (by omega)
  unfold Nums
  have n1 : ∀ a : Int, ∀ w' : World, Same w w' → Row (w'.alloc (.cells #[.int .i64 a] 3)) (some ⟨w'.heap.size, 0, none⟩) ([a].map (Value.int .i64)) := fun a w' _ => row_new _ _ _
  by_cases h21 : x.op = 21
  · rw [if_pos h21]
    have b1 : (x.op == 21) = true := by simpa using h21
    clear h21
    go_enter Tryd.func115, Tryd.ntmps115
    go_wp2_with fail
    go_ret
    exact ⟨none, 0, rfl, Row.nil _ _, Same.refl _⟩
  · rw [if_neg h21]
    have b1 : (x.op == 21) = false := by simpa using h21
    by_cases h14 : x.op = 14
    · rw [if_pos h14]
      have b2 : (x.op == 14) = true := by simpa using h14
      clear h21 h14
      go_enter Tryd.func115, Tryd.ntmps115
      go_wp2_with fail
      go_ret
      first | exact ⟨_, _, rfl, row_new _ _ _, (Same.refl _).alloc _⟩ | exact ⟨_, ⟨_, rfl⟩, row_new _ _ _, (Same.refl _).alloc _⟩
    · rw [if_neg h14]
      have b2 : (x.op == 14) = false := by simpa using h14
      by_cases h15 : x.op = 15
      · rw [if_pos h15]
        have b3 : (x.op == 15) = true := by simpa using h15
        clear h21 h14 h15
        by_cases hlt : (k : Int) + 1 < x.n
        · rw [if_pos hlt]
          go_enter Tryd.func115, Tryd.ntmps115
          go_wp2_with fail
          go_ret
          first | exact ⟨_, _, rfl, row_new _ _ _, (Same.refl _).alloc _⟩ | exact ⟨_, ⟨_, rfl⟩, row_new _ _ _, (Same.refl _).alloc _⟩
        · rw [if_neg hlt]
          go_enter Tryd.func115, Tryd.ntmps115
          go_wp2_with fail
          go_ret
          first | exact ⟨_, _, rfl, row_new _ _ _, (Same.refl _).alloc _⟩ | exact ⟨_, ⟨_, rfl⟩, row_new _ _ _, (Same.refl _).alloc _⟩
      · rw [if_neg h15]
        have b3 : (x.op == 15) = false := by simpa using h15
        by_cases h16 : x.op = 16
        · rw [if_pos h16]
          have b4 : (x.op == 16) = true := by simpa using h16
          clear h21 h14 h15 h16
          go_enter Tryd.func115, Tryd.ntmps115
          go_wp2_with fail
          go_ret
          first | exact ⟨_, _, rfl, row_new _ _ _, (Same.refl _).alloc _⟩ | exact ⟨_, ⟨_, rfl⟩, row_new _ _ _, (Same.refl _).alloc _⟩
        · rw [if_neg h16]
          have b4 : (x.op == 16) = false := by simpa using h16
          clear h21 h14 h15 h16
          go_enter Tryd.func115, Tryd.ntmps115
          go_wp2_with fail
          go_ret
          first | exact ⟨_, _, rfl, row_new _ _ _, (Same.refl _).alloc _⟩ | exact ⟨_, ⟨_, rfl⟩, row_new _ _ _, (Same.refl _).alloc _⟩
/-- what Next tells -/
def nextsL (p : List Ins) (x : Int) : List Int := if okB p = true ∧ 0 ≤ x ∧ x < p.length then nextL p x.toNat else []
theorem nexts_any (A : Option Addr) (m c : Nat) (p : List Ins) (x : Int) (w : World) (hl : p.length = m) (hm : m ≤ 5000) (hp : Prg w A p) (ht : Tabs w) :
    Calls Tryd.prog 93 #[.slice A m c, .int .i64 x] w (Nums w (nextsL p x)) := by
  have MA := Lib.hid (may_any A m c p w hl hm hp ht)
  have hE : nextsL p x = if okB p = true ∧ 0 ≤ x ∧ x < m then nextL p x.toNat else [] := by unfold nextsL; rw [hl]
  rw [hE]
  have NX := Lib.hid (fun (k : Nat) (hk : k < m) w' (s : Same w w') => next_any A m c p k w' hl hm hk (hp.same s))
  clear hE hl hp ht
  have nil : ∀ w', Same w w' → Nums w [] (.returned (.slice none 0 0)) w' := fun w' s => ⟨none, 0, rfl, Row.nil _ _, s⟩
  cases hok : okB p
  · rw [hok] at MA
    rw [if_neg (fun h => Bool.false_ne_true h.1)]
    clear hok
    go_enter Tryd.func93, Tryd.ntmps93
    go_wp2_with fail
    refine MA.out.mono ?_
    rintro e w1 ⟨rfl, s1⟩
    go_wp2_with fail
    go_ret
    exact nil _ s1
  · rw [hok] at MA
    clear hok
    by_cases h0 : x < 0
    · have b0 : decide (x < 0) = true := decide_eq_true h0
      rw [if_neg (fun h => by omega)]
      go_enter Tryd.func93, Tryd.ntmps93
      go_wp2_with fail
      refine MA.out.mono ?_
      rintro e w1 ⟨rfl, s1⟩
      go_wp2_with fail
      go_ret
      exact nil _ s1
    · have b0 : decide (x < 0) = false := decide_eq_false h0
      by_cases h1 : (m : Int) ≤ x
      · have b1 : decide ((m : Int) ≤ x) = true := decide_eq_true h1
        rw [if_neg (fun h => by omega)]
        go_enter Tryd.func93, Tryd.ntmps93
        go_wp2_with fail
        refine MA.out.mono ?_
        rintro e w1 ⟨rfl, s1⟩
        go_wp2_with fail
        go_ret
        exact nil _ s1
      · have b1 : decide ((m : Int) ≤ x) = false := decide_eq_false h1
        rw [if_pos ⟨rfl, by omega, by omega⟩]
        obtain ⟨k, rfl⟩ := Int.eq_ofNat_of_zero_le (show 0 ≤ x by omega)
        rw [Int.toNat_natCast]
        have NX2 := Lib.hid (NX.out k (by omega))
        clear NX
        go_enter Tryd.func93, Tryd.ntmps93
        go_wp2_with fail
        refine MA.out.mono ?_
        rintro e w1 ⟨rfl, s1⟩
        go_wp2_with fail
        refine (NX2.out _ s1).mono ?_
        rintro e w2 ⟨A2, c2, rfl, hr, s2⟩
        have HR := Lib.hid hr
        have HS := Lib.hid (s1.trans s2)
        clear hr s1 s2
        generalize hnn : (nextL p k).length = n at *
        have HNN := Lib.hid hnn
        clear hnn
        go_wp2_with fail
        go_ret
        exact ⟨A2, c2, by rw [HNN.out]; rfl, HR.out, HS.out⟩

end Go.Proofs.YtnlndkpjfgpodaaDoor.Fw
