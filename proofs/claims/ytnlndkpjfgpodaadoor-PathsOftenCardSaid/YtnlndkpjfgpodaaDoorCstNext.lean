/-

  Package flow (layer 10): Next tells in memory of its own.
-/
import Derived.Test.YtnlndkpjfgpodaaDoorFlowUse
set_option linter.unusedVariables false
set_option linter.unusedSimpArgs false
namespace Go.Proofs.YtnlndkpjfgpodaaDoor.Fw
open Go.ChangeShapes Go.WideShapes Go.ChangeAt Go.RowKit Ws Fp
open Go.Proofs.YtnlndkpjfgpodaaDoor.Is (Tabs ins rightB leadB)

def NumF (w : World) (l : List Int) (e : Ending) (w' : World) : Prop := ∃ A c, e = .returned (.slice A l.length c) ∧ Row w' A (l.map (Value.int .i64)) ∧ Same w w' ∧ ∀ b o, A = some ⟨b, o, none⟩ → w.heap.size ≤ b
theorem nextf_any (A : Option Addr) (m c : Nat) (p : List Ins) (k : Nat) (w : World) (hl : p.length = m) (hm : m ≤ 5000) (hk : k < m) (hp : Prg w A p) :
    Calls Tryd.prog 115 #[.slice A m c, .int .i64 k] w (NumF w (nextL p k)) := by
  obtain ⟨hok, b, o, rfl, c0, _, _, _, c4⟩ := hp.at_ (k := k) (by omega)
  have hki : (k : Int) < m := by omega
  have hk0 : (0 : Int) ≤ k := by omega
  have hE : nextL p k = if (Fp.at_ p k).op = 21 then [] else if (Fp.at_ p k).op = 14 then [(Fp.at_ p k).n] else if (Fp.at_ p k).op = 15 then (if (k : Int) + 1 < (Fp.at_ p k).n then [(k : Int) + 1, (Fp.at_ p k).n] else [(k : Int) + 1]) else if (Fp.at_ p k).op = 16 then [(Fp.at_ p k).n, (k : Int) + 1] else [(k : Int) + 1] := rfl
  rw [hE]
  clear hE hp hl
  generalize Fp.at_ p k = x at *
  have hn := hok
  unfold Ins.ok at hn
  have f1 := i64_of x.n (by omega)
  have f2 := i64_of ((k : Int) + 1) (by omega)
  unfold NumF
  have n1 : ∀ a : Int, ∀ w' : World, Same w w' → Row (w'.alloc (.cells #[.int .i64 a] 3)) (some ⟨w'.heap.size, 0, none⟩) ([a].map (Value.int .i64)) := fun a w' _ => row_new _ _ _
  by_cases h21 : x.op = 21
  · rw [if_pos h21]
    have b1 : (x.op == 21) = true := by simpa using h21
    clear h21
    go_enter Tryd.func115, Tryd.ntmps115
    go_wp2_with fail
    go_ret
    exact ⟨none, 0, rfl, Row.nil _ _, Same.refl _, fun b o e => by cases e⟩
  · rw [if_neg h21]
    have b1 : (x.op == 21) = false := by simpa using h21
    by_cases h14 : x.op = 14
    · rw [if_pos h14]
      have b2 : (x.op == 14) = true := by simpa using h14
      clear h21 h14
      go_enter Tryd.func115, Tryd.ntmps115
      go_wp2_with fail
      go_ret
      first | exact ⟨_, _, rfl, row_new _ _ _, (Same.refl _).alloc _, fun b o e => by injection e with e; injection e with e _; omega⟩ | exact ⟨_, ⟨_, rfl⟩, row_new _ _ _, (Same.refl _).alloc _, fun b o e => by injection e with e; injection e with e _; omega⟩
    · rw [if_neg h14]
      have b2 : (x.op == 14) = false := by simpa using h14
      by_cases h15 : x.op = 15
      · rw [if_pos h15]
        have b3 : (x.op == 15) = true := by simpa using h15
        clear h21 h14 h15
        by_cases hlt : (k : Int) + 1 < x.n
        · rw [if_pos hlt]
          go_enter Tryd.func115, Tryd.ntmps115
          go_wp2_with fail
          go_ret
          first | exact ⟨_, _, rfl, row_new _ _ _, (Same.refl _).alloc _, fun b o e => by injection e with e; injection e with e _; omega⟩ | exact ⟨_, ⟨_, rfl⟩, row_new _ _ _, (Same.refl _).alloc _, fun b o e => by injection e with e; injection e with e _; omega⟩
        · rw [if_neg hlt]
          go_enter Tryd.func115, Tryd.ntmps115
          go_wp2_with fail
          go_ret
          first | exact ⟨_, _, rfl, row_new _ _ _, (Same.refl _).alloc _, fun b o e => by injection e with e; injection e with e _; omega⟩ | exact ⟨_, ⟨_, rfl⟩, row_new _ _ _, (Same.refl _).alloc _, fun b o e => by injection e with e; injection e with e _; omega⟩
      · rw [if_neg h15]
        have b3 : (x.op == 15) = false := by simpa using h15
        by_cases h16 : x.op = 16
        · rw [if_pos h16]
          have b4 : (x.op == 16) = true := by simpa using h16
          clear h21 h14 h15 h16
          go_enter Tryd.func115, Tryd.ntmps115
          go_wp2_with fail
          go_ret
          first | exact ⟨_, _, rfl, row_new _ _ _, (Same.refl _).alloc _, fun b o e => by injection e with e; injection e with e _; omega⟩ | exact ⟨_, ⟨_, rfl⟩, row_new _ _ _, (Same.refl _).alloc _, fun b o e => by injection e with e; injection e with e _; omega⟩
        · rw [if_neg h16]
          have b4 : (x.op == 16) = false := by simpa using h16
          clear h21 h14 h15 h16
          go_enter Tryd.func115, Tryd.ntmps115
          go_wp2_with fail
          go_ret
          first | exact ⟨_, _, rfl, row_new _ _ _, (Same.refl _).alloc _, fun b o e => by injection e with e; injection e with e _; omega⟩ | exact ⟨_, ⟨_, rfl⟩, row_new _ _ _, (Same.refl _).alloc _, fun b o e => by injection e with e; injection e with e _; omega⟩
theorem nextsf_any (A : Option Addr) (m c : Nat) (p : List Ins) (x : Int) (w : World) (hl : p.length = m) (hm : m ≤ 5000) (hp : Prg w A p) (ht : Tabs w) :
    Calls Tryd.prog 93 #[.slice A m c, .int .i64 x] w (NumF w (nextsL p x)) := by
  have MA := Lib.hid (may_any A m c p w hl hm hp ht)
  have hE : nextsL p x = if okB p = true ∧ 0 ≤ x ∧ x < m then nextL p x.toNat else [] := by unfold nextsL; rw [hl]
  rw [hE]
  have NX := Lib.hid (fun (k : Nat) (hk : k < m) w' (s : Same w w') => nextf_any A m c p k w' hl hm hk (hp.same s))
  clear hE hl hp ht
  have nil : ∀ w', Same w w' → NumF w [] (.returned (.slice none 0 0)) w' := fun w' s => ⟨none, 0, rfl, Row.nil _ _, s, fun b o e => by cases e⟩
  cases hok : okB p
  · rw [hok] at MA
    rw [if_neg (fun h => Bool.false_ne_true h.1)]
    clear hok
    go_enter Tryd.func93, Tryd.ntmps93
    go_wp2_with fail
    refine MA.out.mono ?_
    rintro e w1 ⟨rfl, s1⟩
    go_wp2_with fail
    go_ret
    exact nil _ s1
  · rw [hok] at MA
    clear hok
    by_cases h0 : x < 0
    · have b0 : decide (x < 0) = true := decide_eq_true h0
      rw [if_neg (fun h => by omega)]
      go_enter Tryd.func93, Tryd.ntmps93
      go_wp2_with fail
      refine MA.out.mono ?_
      rintro e w1 ⟨rfl, s1⟩
      go_wp2_with fail
      go_ret
      exact nil _ s1
    · have b0 : decide (x < 0) = false := decide_eq_false h0
      by_cases h1 : (m : Int) ≤ x
      · have b1 : decide ((m : Int) ≤ x) = true := decide_eq_true h1
        rw [if_neg (fun h => by omega)]
        go_enter Tryd.func93, Tryd.ntmps93
        go_wp2_with fail
        refine MA.out.mono ?_
        rintro e w1 ⟨rfl, s1⟩
        go_wp2_with fail
        go_ret
        exact nil _ s1
      · have b1 : decide ((m : Int) ≤ x) = false := decide_eq_false h1
        rw [if_pos ⟨rfl, by omega, by omega⟩]
        obtain ⟨k, rfl⟩ := Int.eq_ofNat_of_zero_le (show 0 ≤ x by omega)
        rw [Int.toNat_natCast]
        have NX2 := Lib.hid (NX.out k (by omega))
        clear NX
        go_enter Tryd.func93, Tryd.ntmps93
        go_wp2_with fail
        refine MA.out.mono ?_
        rintro e w1 ⟨rfl, s1⟩
        go_wp2_with fail
        refine (NX2.out _ s1).mono ?_
        rintro e w2 ⟨A2, c2, rfl, hr, s2, hf⟩
        have HR := Lib.hid hr
        have HF := Lib.hid (fun b o e => Nat.le_trans s1.size (hf b o e))
        have HS := Lib.hid (s1.trans s2)
        clear hr s1 s2 hf
        generalize hnn : (nextL p k).length = n at *
        have HNN := Lib.hid hnn
        clear hnn
        go_wp2_with fail
        go_ret
        exact ⟨A2, c2, by rw [HNN.out]; rfl, HR.out, HS.out, HF.out⟩

end Go.Proofs.YtnlndkpjfgpodaaDoor.Fw
