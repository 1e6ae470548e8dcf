/-

  Contracts of package release (layer 27): what lets a release through, what passes and what does not.
-/
import Derived.Test.YtejajmdmfipplacRows
import Derived.Test.YtejajmdmfipplacRelPure
import Derived.Test.YtejajmdmfipplacWordsK
import Derived.ProofKit
import Derived.OpenShut
import Derived.WalkKit
import Derived.Deep.LoopGhost
import Derived.Deep.RegionHeld3
import Derived.BigQuiet
import Derived.Lib.Hide
set_option linter.unusedVariables false
set_option linter.unusedSimpArgs false
namespace Go.Proofs.Ytejajmdmfipplac.Rl
open Go.ChangeShapes Go.WideShapes Go.ChangeAt Go.RowKit Ws

theorem ret_bool {a b : Bool} (h : a = b) : Ending.returned (.bool a) = .returned (.bool b) := by rw [h]

theorem ints_eq (A C : Option Addr) (n m c d : Nat) (xs ys : List Int) (w : World) (hn : xs.length = n) (hm : ys.length = m) (hx : Row w A (xs.map (Value.int .i64))) (hy : Row w C (ys.map (Value.int .i64)))
    (b1 : n ≤ 4294967296) (b2 : m ≤ 4294967296) :
    Calls Try.prog 7 #[.slice A n c, .slice C m d] w fun e w' => e = .returned (.bool (decide (xs = ys))) ∧ ∃ k, w' = w.drewN k := by
  by_cases hl : n = m
  · subst hl
    have HX := Lib.hid hn
    have HY := Lib.hid hm
    clear hn hm
    go_enter Try.func7, Try.ntmps7
    go_wp2
    go_loopw [5, 13] (fun _ i wr => ∃ k : Nat, k ≤ n ∧ i = .int .i64 k ∧ xs.take k = ys.take k ∧ ∃ q, wr = w.drewN q) (fun _ i _ => n - (intOf i).toNat)
    case atStart => exact ⟨0, Nat.zero_le _, rfl, by simp, 0, rfl⟩
    case round =>
      obtain ⟨k, hk, rfl, hp, q, rfl⟩ := hrel
      have HP := Lib.hid hp
      clear hp
      by_cases hlt : k < n
      · obtain ⟨b, o, rfl, hc1⟩ := hx.at_ (k := k) (by have := HX.out; simp; omega)
        obtain ⟨b', o', rfl, hc2⟩ := hy.at_ (k := k) (by have := HY.out; simp; omega)
        rw [List.getElem_map] at hc1 hc2
        have hkx : k < xs.length := by have := HX.out; omega
        have hky : k < ys.length := by have := HY.out; omega
        have hsx : xs.take (k + 1) = xs.take k ++ [xs[k]] := by rw [List.take_succ_eq_append_getElem hkx]
        have hsy : ys.take (k + 1) = ys.take k ++ [ys[k]] := by rw [List.take_succ_eq_append_getElem hky]
        obtain ⟨x, hxx⟩ : ∃ x, x = xs[k] := ⟨_, rfl⟩
        obtain ⟨y, hyy⟩ : ∃ y, y = ys[k] := ⟨_, rfl⟩
        rw [← hxx] at hc1 hsx
        rw [← hyy] at hc2 hsy
        have HSX := Lib.hid hsx
        have HSY := Lib.hid hsy
        clear hsx hsy hxx hyy
        by_cases hxy : x = y
        · have hb : (x != y) = false := by simpa using hxy
          have HXY := Lib.hid hxy
          clear hxy
          go_wp2
          go_quiet (fail)
          go_wp2
          go_roundw
          case rel => exact ⟨k + 1, by omega, by go_num, by rw [HSX.out, HSY.out, HP.out, HXY.out], _, rfl⟩
          case measure => simp [intOf]; omega
        · have hb : (x != y) = true := by simpa using hxy
          have hd : decide (xs = ys) = false := by
            rw [decide_eq_false_iff_not]
            rintro rfl
            have := HSX.out
            rw [HSY.out] at this
            have := List.append_cancel_left this
            injection this with this
            exact hxy this.symm
          have HD := Lib.hid hd
          clear hd hxy
          go_wp2
          go_quiet (fail)
          go_wp2
          go_ret
          exact ⟨ret_bool HD.out.symm, q + nq, by simp⟩
      · have hkn : k = n := by omega
        subst hkn
        have hd : decide (xs = ys) = true := by
          rw [decide_eq_true_iff]
          have h1 := HP.out
          rw [List.take_of_length_le (by have := HX.out; omega), List.take_of_length_le (by have := HY.out; omega)] at h1
          exact h1
        have HD := Lib.hid hd
        clear hd
        go_wp2
        go_ret
        exact ⟨ret_bool HD.out.symm, _, rfl⟩
  · have hd : decide (xs = ys) = false := by
      rw [decide_eq_false_iff_not]
      rintro rfl
      omega
    have HD := Lib.hid hd
    clear hd
    have hne : ((n : Int) != (m : Int)) = true := by simp; omega
    go_enter Try.func7, Try.ntmps7
    go_wp2
    go_ret
    exact ⟨ret_bool HD.out.symm, 0, rfl⟩

theorem int_info : (Try.prog.info? 3).map (fun i => (i.zero, i.size, i.bytes)) = some (some (.int .i64 0), 1, 8) := by kernel_rfl
theorem own_nil (w : World) (B : Nat) (e : TypeId) : Own w B e none 0 [] := ⟨by simp, .inl ⟨rfl, rfl⟩⟩
theorem own_lt {w : World} {B : Nat} {e : TypeId} {g c : Nat} {l : List Value} (h : Own w B e (some ⟨g, 0, none⟩) c l) : B ≤ g ∧ g < w.heap.size := by
  rcases h.2 with ⟨h2, _⟩ | ⟨g2, cap, cur, hv, hb, hg, _⟩
  · cases h2
  · injection hv with hv
    injection hv with hv
    injection hv with hv
    subst hv
    exact ⟨hb, Blk.lt (t := e) hg⟩
theorem ints_one (t : Int) : ∀ u ∈ [Value.int .i64 t], u.oneCell' = true := by
  intro u hu
  simp at hu
  subst hu
  rfl

def LetsPost (P : Int) (p : Bool) (y t : Int) (q : Nat) (w : World) (e : Ending) (w' : World) : Prop :=
  e = .returned (.bool (okR P p y t)) ∧ (okR P p y t = true → Chg (fun i => i = q) w w' ∧ Blk w' q 33 #[.int .i64 P, .bool true, .int .i64 t]) ∧ (okR P p y t = false → Same w w')
theorem lets_no {P : Int} {p : Bool} {y t : Int} {q : Nat} {w w' : World} (h : okR P p y t = false) (hs : Same w w') : LetsPost P p y t q w (.returned (.bool false)) w' :=
  ⟨by rw [h], fun h' => absurd (h.symm.trans h') Bool.false_ne_true, fun _ => hs⟩
theorem lets_yes {P : Int} {p : Bool} {y t : Int} {q : Nat} {w w' : World} (h : okR P p y t = true) (hs : Chg (fun i => i = q) w w') (hb : Blk w' q 33 #[.int .i64 P, .bool true, .int .i64 t]) : LetsPost P p y t q w (.returned (.bool true)) w' :=
  ⟨by rw [h], fun _ => ⟨hs, hb⟩, fun h' => absurd (h'.symm.trans h) Bool.false_ne_true⟩
set_option maxRecDepth 100000 in
theorem lets_any (P : Int) (p : Bool) (y t : Int) (q : Nat) (w : World) (hy : Max y) (ht : -9223372036854775808 ≤ t ∧ t ≤ 9223372036854775807) (hb : Blk w q 33 #[.int .i64 P, .bool p, .int .i64 y]) :
    Calls Try.prog 10 #[.pointer (some ⟨q, 0, none⟩), .int .i64 t] w (LetsPost P p y t q w) := by
  have HB := Lib.hid hb
  have c0 : w.cell? ⟨q, 0, none⟩ = some (.int .i64 P) := hb.cell 0
  have c1 : w.cell? ⟨q, 1, none⟩ = some (.bool p) := hb.cell 1
  have c2 : w.cell? ⟨q, 2, none⟩ = some (.int .i64 y) := hb.cell 2
  have f1 := hb.thaw 1
  have f2 := hb.thaw 2
  obtain ⟨y0, y1⟩ := hy
  clear hb
  by_cases hP : P < 1
  · have e1 : decide (P < 1) = true := decide_eq_true hP
    have HN := Lib.hid (show okR P p y t = false by unfold okR; rw [decide_eq_false (by omega)]; rfl)
    clear hP
    go_enter Try.func10, Try.ntmps10
    go_wp2_with fail
    go_quiet (fail)
    go_wp2_with fail
    go_ret
    exact lets_no HN.out ((Same.refl _).drewN _)
  · have e1 : decide (P < 1) = false := decide_eq_false hP
    by_cases ht0 : t < 0
    · have e2 : decide (t < 0) = true := decide_eq_true ht0
      have HN := Lib.hid (show okR P p y t = false by unfold okR; rw [decide_eq_false (show ¬ 0 ≤ t by omega)]; simp)
      clear hP ht0
      go_enter Try.func10, Try.ntmps10
      go_wp2_with fail
      go_quiet (fail)
      go_wp2_with fail
      go_ret
      exact lets_no HN.out ((Same.refl _).drewN _)
    · have e2 : decide (t < 0) = false := decide_eq_false ht0
      cases p with
      | false =>
        have HY := Lib.hid (show okR P false y t = true by unfold okR; rw [decide_eq_true (show 1 ≤ P by omega), decide_eq_true (show 0 ≤ t by omega)]; rfl)
        clear hP ht0
        go_enter Try.func10, Try.ntmps10
        go_wp2_with fail
        go_quiet (fail)
        go_wp2_with fail
        go_ret
        refine lets_yes HY.out ((((Chg.refl (fun i => i = q) w).drewN _).set (p := ⟨q, 1, none⟩) (.inl rfl) _).set (p := ⟨q, 2, none⟩) (.inl rfl) _) ?_
        have h := (Blk.put (show Blk (w.drewN nq) q 33 _ from HB.out) 1 (.bool true)).put 2 (.int .i64 t)
        exact h
      | true =>
        have f3 : wrap64 (t - y) = t - y := Go.IntWalk.wrap64_in _ (by omega)
        by_cases hd : t - y < P
        · have e3 : decide (t - y < P) = true := decide_eq_true hd
          have HN := Lib.hid (show okR P true y t = false by unfold okR; rw [decide_eq_false (show ¬ P ≤ t - y by omega)]; simp)
          clear hP ht0 hd
          go_enter Try.func10, Try.ntmps10
          go_wp2_with fail
          go_quiet (fail)
          go_wp2_with fail
          go_ret
          exact lets_no HN.out ((Same.refl _).drewN _)
        · have e3 : decide (t - y < P) = false := decide_eq_false hd
          have HY := Lib.hid (show okR P true y t = true by unfold okR; rw [decide_eq_true (show 1 ≤ P by omega), decide_eq_true (show 0 ≤ t by omega), decide_eq_true (show P ≤ t - y by omega)]; rfl)
          clear hP ht0 hd
          go_enter Try.func10, Try.ntmps10
          go_wp2_with fail
          go_quiet (fail)
          go_wp2_with fail
          go_ret
          refine lets_yes HY.out ((((Chg.refl (fun i => i = q) w).drewN _).set (p := ⟨q, 1, none⟩) (.inl rfl) _).set (p := ⟨q, 2, none⟩) (.inl rfl) _) ?_
          have h := (Blk.put (show Blk (w.drewN nq) q 33 _ from HB.out) 1 (.bool true)).put 2 (.int .i64 t)
          exact h

end Go.Proofs.Ytejajmdmfipplac.Rl
