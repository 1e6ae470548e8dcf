/-

  Where a record stands among others, and whether it is made of others' words: package record and the document's own answers, as contracts of their calls.
-/
import Derived.Test.YtejajmdmfipplaaDoorRecBase
import Derived.Deep.LoopGhost
set_option linter.unusedSimpArgs false
set_option linter.unusedVariables false
namespace Go.Proofs.YtejajmdmfipplaaDoor.Rc
open Go.ChangeShapes Go.WideShapes Go.ChangeAt Go.RowKit Ws

/-- the slice at A holds slices of words, which read as l -/
def Recs (w : World) (A : Option Addr) (l : List (List Int)) : Prop :=
  ∀ (j : Nat) (r : List Int), l[j]? = some r → ∃ b o C c, A = some ⟨b, o, none⟩ ∧ w.cell? ⟨b, o + j, none⟩ = some (.slice C r.length c) ∧ Row w C (w32 r)
theorem Recs.same {w w' : World} {A : Option Addr} {l : List (List Int)} (h : Recs w A l) (hc : Same w w') : Recs w' A l := fun j r hj => by
  obtain ⟨b, o, C, c, hA, h1, h2⟩ := h j r hj
  exact ⟨b, o, C, c, hA, hc.cell h1, h2.same hc⟩

def Found (l : List (List Int)) (r : List Int) (i : Nat) : Prop := l[i]? = some r ∧ ∀ x ∈ l.take i, x ≠ r
theorem found_uniq {l : List (List Int)} {r : List Int} {i j : Nat} (hi : Found l r i) (hj : Found l r j) : i = j := by
  rcases Nat.lt_trichotomy i j with h | h | h
  · exact absurd rfl (hj.2 r (by
      rw [List.mem_take_iff_getElem]
      obtain ⟨h1, h2⟩ := List.getElem?_eq_some_iff.1 hi.1
      exact ⟨i, by omega, h2⟩))
  · exact h
  · exact absurd rfl (hi.2 r (by
      rw [List.mem_take_iff_getElem]
      obtain ⟨h1, h2⟩ := List.getElem?_eq_some_iff.1 hj.1
      exact ⟨j, by omega, h2⟩))
def FindPost (w : World) (l : List (List Int)) (r : List Int) (e : Ending) (w' : World) : Prop :=
  ((∃ i : Nat, Found l r i ∧ e = .returned (.tuple #[.int .i64 i, .bool true])) ∨ (r ∉ l ∧ e = .returned (.tuple #[.int .i64 0, .bool false]))) ∧ ∃ q, w' = w.drewN q
def FindRel (w : World) (l : List (List Int)) (r : List Int) (n : Nat) (i : Value) (wr : World) : Prop :=
  ∃ k : Nat, k ≤ n ∧ i = .int .i64 k ∧ (∀ x ∈ l.take k, x ≠ r) ∧ ∃ q, wr = w.drewN q
theorem find_step {l : List (List Int)} {r y : List Int} {k : Nat} (hy : l[k]? = some y) (h : ∀ x ∈ l.take k, x ≠ r) (hne : y ≠ r) : ∀ x ∈ l.take (k + 1), x ≠ r := by
  obtain ⟨h1, h2⟩ := List.getElem?_eq_some_iff.1 hy
  rw [List.take_succ_eq_append_getElem h1, h2]
  intro x hx
  rcases List.mem_append.1 hx with hx | hx
  · exact h x hx
  · rw [List.mem_singleton] at hx
    exact hx ▸ hne

theorem find_any (A C : Option Addr) (n c m d : Nat) (l : List (List Int)) (r : List Int) (w : World) (hn : l.length = n) (hm : r.length = m) (hm2 : m ≤ 4294967296) (hn2 : n ≤ 4294967296) (hs : ∀ x ∈ l, x.length ≤ 4294967296) (hl : Recs w A l) (hr : Row w C (w32 r)) :
    Calls Tryd.prog 26 #[.slice A n c, .slice C m d] w (FindPost w l r) := by
  have HN := Lib.hid hn
  have HM := Lib.hid hm
  clear hn hm
  go_enter Tryd.func26, Tryd.ntmps26
  go_wp2_with fail
  go_loopw [6, 7, 10] (fun _ _ i wr => FindRel w l r n i wr) (fun _ _ i _ => n - (intOf i).toNat)
  case atStart => exact ⟨0, Nat.zero_le _, rfl, fun x hx => by simp at hx, 0, rfl⟩
  case round =>
    obtain ⟨k, hk, rfl, hp, q, rfl⟩ := hrel
    by_cases hlt : k < n
    · have hkn : (k : Int) < n := by omega
      obtain ⟨y, hy⟩ : ∃ y, l[k]? = some y := ⟨_, List.getElem?_eq_getElem (by have := HN.out; omega)⟩
      obtain ⟨b, o, D, c', rfl, hc, hrow⟩ := hl k y hy
      have HP := Lib.hid hp
      have HY := Lib.hid hy
      have hyl := hs y (List.mem_of_getElem? hy)
      have HYL := Lib.hid hyl
      clear hp hy hyl
      go_wp2_with fail
      refine (same_any D C y.length m c' d y r _ rfl HM.out (hrow.drewN q) (hr.drewN q) HYL.out hm2).mono ?_
      rintro e w2 ⟨rfl, q2, rfl⟩
      by_cases hyr : y = r
      · have hb : decide (y = r) = true := decide_eq_true hyr
        have HYR := Lib.hid hyr
        clear hyr
        rw [hb]
        clear hb
        go_wp2_with fail
        go_ret2
        exact ⟨.inl ⟨k, ⟨by rw [HY.out, HYR.out], HP.out⟩, rfl⟩, q + q2, by simp⟩
      · have hb : decide (y = r) = false := decide_eq_false hyr
        have HYR := Lib.hid hyr
        clear hyr
        rw [hb]
        clear hb
        go_wp2_with fail
        go_roundw
        case rel => exact ⟨k + 1, by omega, by go_num, find_step HY.out HP.out HYR.out, q + q2, by simp⟩
        case measure => simp [intOf]; omega
    · have hkn : ¬ (k : Int) < n := by omega
      have hall : r ∉ l := fun h => hp r (by rw [List.take_of_length_le (by have := HN.out; omega)]; exact h) rfl
      have HA := Lib.hid hall
      clear hall hp
      go_wp2_with fail
      go_ret2
      exact ⟨.inr ⟨HA.out, rfl⟩, q, rfl⟩

/-- is the word at i some record's word at i? -/
def coverB (l : List (List Int)) (i : Nat) (x : Int) : Bool := l.any fun y => decide (y[i]? = some x)
def mixB (l : List (List Int)) (r : List Int) : Bool := !r.isEmpty && (decide (r ∉ l) && (List.range r.length).all fun i => coverB l i (r[i]?.getD 0))

theorem mixed_any (A C : Option Addr) (n c m d : Nat) (l : List (List Int)) (r : List Int) (w : World) (hn : l.length = n) (hm : r.length = m) (hm2 : m ≤ 4294967296) (hn2 : n ≤ 4294967296) (hs : ∀ x ∈ l, x.length ≤ 4294967296) (hl : Recs w A l) (hr : Row w C (w32 r)) :
    Calls Tryd.prog 28 #[.slice A n c, .slice C m d] w fun e w' => e = .returned (.bool (mixB l r)) ∧ ∃ q, w' = w.drewN q := by
  have HF := Lib.hid (find_any A C n c m d l r w hn hm hm2 hn2 hs hl hr)
  have HN := Lib.hid hn
  have HM := Lib.hid hm
  clear hn hm
  go_enter Tryd.func28, Tryd.ntmps28
  go_wp2_with fail
  go_step3
  go_wp2_with fail
  refine HF.out.mono ?_
  rintro e w1 ⟨hf, q, rfl⟩
  rcases hf with ⟨i, hi, rfl⟩ | ⟨hni, rfl⟩
  · have hb : mixB l r = false := by
      have : r ∈ l := List.mem_of_getElem? hi.1
      unfold mixB
      simp [this]
    have HB := Lib.hid hb
    clear hb
    go_wp2_with fail
    rw [Exit.noGoto_ret]
    go_ret
    exact ⟨ret_bool HB.out.symm, q, rfl⟩
  · have HNI := Lib.hid hni
    clear hni
    cases m with
    | zero =>
      have hr0 : r = [] := List.eq_nil_of_length_eq_zero HM.out
      have HB := Lib.hid (show mixB l r = false by rw [hr0]; rfl)
      clear hr0
      go_wp2_with fail
      rw [Exit.noGoto_ret]
      go_ret
      exact ⟨ret_bool HB.out.symm, q, rfl⟩
    | succ m0 =>
      obtain ⟨m, hm0⟩ : ∃ m, m = m0 + 1 := ⟨_, rfl⟩
      rw [← hm0] at HM hm2
      rw [← hm0]
      have hmp : (0 : Int) < (m : Int) := by omega
      have hmz : ((m : Int) == 0) = false := by simp; omega
      have HR0 := Lib.hid (show r.isEmpty = false by cases r with | nil => (have := HM.out; simp at this; omega) | cons => rfl)
      clear hm0
      go_wp2_with fail
      go_step3
      go_wp2_with fail
      go_loopg [7, 8, 10, 25, 32] m (fun g _ _ _ i _ wx => ∃ k : Nat, k + g = m ∧ i = .int .i64 k ∧ (∀ j, j < k → coverB l j (r[j]?.getD 0) = true) ∧ ∃ q, wx = w.drewN q)
      case atStart => exact ⟨0, by omega, rfl, fun j hj => absurd hj (by omega), q, rfl⟩
      case round =>
        obtain ⟨k, hkg, rfl, hcov, q1, rfl⟩ := hrel
        have HC := Lib.hid hcov
        clear hcov
        cases gk with
        | zero =>
          have hkm : ¬ (k : Int) < (m : Int) := by omega
          have hb : mixB l r = true := by
            unfold mixB
            rw [HR0.out, decide_eq_true HNI.out]
            simp only [Bool.not_false, Bool.true_and, List.all_eq_true, List.mem_range]
            intro j hj
            exact HC.out j (by have := HM.out; omega)
          have HB := Lib.hid hb
          clear hb
          go_wp2_with fail
          go_ret
          exact ⟨ret_bool HB.out.symm, q1, rfl⟩
        | succ g =>
          have hkm : (k : Int) < (m : Int) := by omega
          have hkr : k < r.length := by have := HM.out; omega
          obtain ⟨b, o, rfl, hc⟩ := hr.at_ (k := k) (by rw [w32_len]; exact hkr)
          simp only [w32, List.getElem_map] at hc
          obtain ⟨x, hx⟩ : ∃ x, x = r[k] := ⟨_, rfl⟩
          rw [← hx] at hc
          have HX := Lib.hid (show r[k]?.getD 0 = x by rw [List.getElem?_eq_getElem hkr, hx]; rfl)
          clear hx
          go_wp2_with fail
          go_loopg [10, 32] n (fun g2 _ i wx => ∃ p : Nat, p + g2 = n ∧ i = .int .i64 p ∧ (∀ y ∈ l.take p, y[k]? ≠ some x) ∧ wx = w.drewN q1)
          case atStart => exact ⟨0, by omega, rfl, fun y hy => by simp at hy, rfl⟩
          case round =>
            obtain ⟨p, hpg, rfl, hno, rfl⟩ := hrel
            cases gk with
            | zero =>
              have hpn : ¬ (p : Int) < (n : Int) := by omega
              have hb : mixB l r = false := by
                have hcv : coverB l k (r[k]?.getD 0) = false := by
                  rw [HX.out]
                  unfold coverB
                  rw [List.any_eq_false]
                  intro y hy
                  have := hno y (by rw [List.take_of_length_le (by have := HN.out; omega)]; exact hy)
                  simpa using this
                unfold mixB
                have hall : (List.range r.length).all (fun i => coverB l i (r[i]?.getD 0)) = false := by
                  rw [List.all_eq_false]
                  exact ⟨k, List.mem_range.2 hkr, by simp [hcv]⟩
                rw [hall]
                simp
              have HB := Lib.hid hb
              clear hb hno
              go_wp2_with fail
              go_ret
              exact ⟨ret_bool HB.out.symm, q1, rfl⟩
            | succ g2 =>
              have hpn : (p : Int) < (n : Int) := by omega
              obtain ⟨y, hy⟩ : ∃ y, l[p]? = some y := ⟨_, List.getElem?_eq_getElem (by have := HN.out; omega)⟩
              obtain ⟨b', o', D, c', rfl, hcy, hrow⟩ := hl p y hy
              have HY := Lib.hid hy
              have HNO := Lib.hid hno
              clear hy hno
              by_cases hky : k < y.length
              · obtain ⟨b2, o2, rfl, hc2⟩ := hrow.at_ (k := k) (by rw [w32_len]; exact hky)
                simp only [w32, List.getElem_map] at hc2
                obtain ⟨z, hz⟩ : ∃ z, z = y[k] := ⟨_, rfl⟩
                rw [← hz] at hc2
                have HZ := Lib.hid (show y[k]? = some z by rw [List.getElem?_eq_getElem hky, hz])
                clear hz
                have hki : (k : Int) < (y.length : Int) := by omega
                by_cases hzx : z = x
                · have hcv : coverB l k (r[k]?.getD 0) = true := by
                    rw [HX.out]
                    unfold coverB
                    rw [List.any_eq_true]
                    exact ⟨y, List.mem_of_getElem? HY.out, by rw [HZ.out, hzx]; simp⟩
                  have HCV := Lib.hid hcv
                  clear hcv
                  have hbz : (z == x) = true := by simpa using hzx
                  clear hzx
                  go_wp2_with fail
                  go_roundg g
                  case measure => omega
                  case rel =>
                    refine ⟨k + 1, by omega, by go_num, fun j hj => ?_, q1, rfl⟩
                    by_cases hjk : j = k
                    · rw [hjk]; exact HCV.out
                    · exact HC.out j (by omega)
                · have hbz : (z == x) = false := by simpa using hzx
                  have HZX := Lib.hid hzx
                  clear hzx
                  go_wp2_with fail
                  go_roundg g2
                  case measure => omega
                  case rel =>
                    refine ⟨p + 1, by omega, by go_num, fun v hv => ?_, rfl⟩
                    obtain ⟨h1, h2⟩ := List.getElem?_eq_some_iff.1 HY.out
                    rw [List.take_succ_eq_append_getElem h1, h2] at hv
                    rcases List.mem_append.1 hv with hv | hv
                    · exact HNO.out v hv
                    · rw [List.mem_singleton] at hv
                      subst hv
                      rw [HZ.out]
                      intro h
                      injection h with h
                      exact HZX.out h
              · have hki : ¬ (k : Int) < (y.length : Int) := by omega
                have HKY := Lib.hid hky
                clear hky
                go_wp2_with fail
                go_roundg g2
                case measure => omega
                case rel =>
                  refine ⟨p + 1, by omega, by go_num, fun v hv => ?_, rfl⟩
                  obtain ⟨h1, h2⟩ := List.getElem?_eq_some_iff.1 HY.out
                  rw [List.take_succ_eq_append_getElem h1, h2] at hv
                  rcases List.mem_append.1 hv with hv | hv
                  · exact HNO.out v hv
                  · rw [List.mem_singleton] at hv
                    subst hv
                    rw [List.getElem?_eq_none (by have := HKY.out; omega)]
                    exact fun h => by cases h

end Go.Proofs.YtejajmdmfipplaaDoor.Rc
