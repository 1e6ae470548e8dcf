/-

  Regions one behind the other: each two of them apart, each word in just one.
-/
import Derived.Test.YtaclphhbdfoaeaaLayCut
set_option linter.unusedVariables false
set_option linter.unusedSimpArgs false
namespace Go.Proofs.Ytaclphhbdfoaeaa.Ly
open Go.ChangeShapes Go.WideShapes Go.ChangeAt Go.RowKit Ws

theorem cut_at {L : List Int} {k : Nat} {x : Int} (h : L[k]? = some x) : (cutL L)[k]? = some (sumL (L.take k), x) := by
  unfold cutL
  rw [cutG_get L 0 k x h, Int.zero_add]
theorem cut_len (L : List Int) : (cutL L).length = L.length := cutG_len L 0
theorem sum_mono {L : List Int} (h : ∀ x ∈ L, 0 ≤ x) {a b : Nat} (hab : a ≤ b) : sumL (L.take a) ≤ sumL (L.take b) := by
  have h1 := sum_take_le (l := L.take b) (fun x hx => h x (List.mem_of_mem_take hx)) a
  rw [List.take_take, Nat.min_eq_left hab] at h1
  exact h1
/-- what each two of them have to do with one another -/
theorem cut_two {L : List Int} (h : ∀ x ∈ L, 0 ≤ x) (hs : sumL L ≤ 4096) {j i : Nat} (hji : j < i) {q r : Int × Int} (hq : (cutL L)[j]? = some q) (hr : (cutL L)[i]? = some r) :
    0 ≤ q.1 ∧ 0 ≤ q.2 ∧ 0 ≤ r.1 ∧ 0 ≤ r.2 ∧ q.1 + q.2 ≤ r.1 ∧ r.1 + r.2 ≤ 4096 := by
  have hi : i < L.length := by
    obtain ⟨h1, _⟩ := List.getElem?_eq_some_iff.1 hr
    rw [cut_len] at h1
    exact h1
  have gj := List.getElem?_eq_getElem (show j < L.length by omega)
  have gi := List.getElem?_eq_getElem hi
  rw [cut_at gj] at hq
  rw [cut_at gi] at hr
  injection hq with hq
  injection hr with hr
  subst hq
  subst hr
  have p1 := sum_pos (l := L.take j) (fun x hx => h x (List.mem_of_mem_take hx))
  have p2 := sum_pos (l := L.take i) (fun x hx => h x (List.mem_of_mem_take hx))
  have p3 := h _ (List.getElem_mem (show j < L.length by omega))
  have p4 := h _ (List.getElem_mem hi)
  have p5 := sum_next gj
  have p6 := sum_next gi
  have p7 := sum_mono h (show j + 1 ≤ i by omega)
  have p8 := sum_take_le h (i + 1)
  dsimp only
  omega
theorem cut_one {L : List Int} (h : ∀ x ∈ L, 0 ≤ x) (hs : sumL L ≤ 4096) {i : Nat} {r : Int × Int} (hr : (cutL L)[i]? = some r) : 0 ≤ r.1 ∧ 0 ≤ r.2 ∧ r.1 + r.2 ≤ 4096 := by
  have hi : i < L.length := by
    obtain ⟨h1, _⟩ := List.getElem?_eq_some_iff.1 hr
    rw [cut_len] at h1
    exact h1
  have gi := List.getElem?_eq_getElem hi
  rw [cut_at gi] at hr
  injection hr with hr
  subst hr
  have p2 := sum_pos (l := L.take i) (fun x hx => h x (List.mem_of_mem_take hx))
  have p4 := h _ (List.getElem_mem hi)
  have p6 := sum_next gi
  have p8 := sum_take_le h (i + 1)
  dsimp only
  omega
/-- how many of the regions have a place, and which was the last -/
def metS (x : Int) (u : Int × Int) (i : Nat) (r : Int × Int) : Int × Int := if r.1 ≤ x ∧ x < r.1 + r.2 then (u.1 + 1, (i : Int)) else u
def metK (x : Int) (l : List (Int × Int)) : Nat → Int × Int
  | 0 => (0, 0)
  | i + 1 => metS x (metK x l i) i (l.getD i (0, 0))
theorem reg_at {l : List (Int × Int)} {i : Nat} {r : Int × Int} (h : l[i]? = some r) : l.getD i (0, 0) = r := by
  rw [List.getD_eq_getElem?_getD, h]
  rfl
theorem met_inv {L : List Int} (h : ∀ x ∈ L, 0 ≤ x) (x : Int) : ∀ i, i ≤ L.length →
    (metK x (cutL L) i = (0, 0) ∧ ¬ (0 ≤ x ∧ x < sumL (L.take i)) ∧ ∀ j, j < i → ∀ r, (cutL L)[j]? = some r → hasB r x = false) ∨
    (∃ k r, k < i ∧ (cutL L)[k]? = some r ∧ hasB r x = true ∧ metK x (cutL L) i = (1, (k : Int)) ∧ 0 ≤ x ∧ x < sumL (L.take i) ∧ ∀ j, j < i → j ≠ k → ∀ r, (cutL L)[j]? = some r → hasB r x = false)
  | 0, _ => .inl ⟨rfl, by simp [sumL], fun j hj => by omega⟩
  | i + 1, hi => by
    have gi := List.getElem?_eq_getElem (show i < L.length by omega)
    generalize L[i]'(by omega) = y at gi
    have hy : 0 ≤ y := h y (List.mem_of_getElem? gi)
    have p1 := sum_next gi
    have p2 := sum_pos (l := L.take i) (fun x hx => h x (List.mem_of_mem_take hx))
    have hr := cut_at gi
    have hm : metK x (cutL L) (i + 1) = metS x (metK x (cutL L) i) i (sumL (L.take i), y) := by
      show metS x _ i _ = _
      rw [reg_at hr]
    have ih := met_inv h x i (by omega)
    rw [p1]
    generalize sumL (L.take i) = s at *
    have hno : (¬ (s ≤ x ∧ x < s + y)) → hasB (s, y) x = false := fun hn => by
      unfold hasB
      exact decide_eq_false (by dsimp only; omega)
    have hyes : (s ≤ x ∧ x < s + y) → hasB (s, y) x = true := fun hn => by
      unfold hasB
      exact decide_eq_true (by dsimp only; omega)
    rcases ih with ⟨h1, h2, h3⟩ | ⟨k, r, hk, hkr, hh, h1, hx0, hx1, h3⟩
    · by_cases hc : s ≤ x ∧ x < s + y
      · refine .inr ⟨i, (s, y), by omega, hr, hyes hc, ?_, by omega, by omega, fun j hj hji q hq => h3 j (by omega) q hq⟩
        rw [hm, h1]
        unfold metS
        rw [if_pos hc]
        rfl
      · refine .inl ⟨?_, by omega, fun j hj q hq => ?_⟩
        · rw [hm, h1]
          unfold metS
          rw [if_neg hc]
        · by_cases hji : j < i
          · exact h3 j hji q hq
          · obtain rfl : j = i := by omega
            rw [hr] at hq
            injection hq with hq
            rw [← hq]
            exact hno hc
    · have hc : ¬ (s ≤ x ∧ x < s + y) := by omega
      refine .inr ⟨k, r, by omega, hkr, hh, ?_, hx0, by omega, fun j hj hjk q hq => ?_⟩
      · rw [hm, h1]
        unfold metS
        rw [if_neg hc]
      · by_cases hji : j < i
        · exact h3 j hji hjk q hq
        · obtain rfl : j = i := by omega
          rw [hr] at hq
          injection hq with hq
          rw [← hq]
          exact hno hc
theorem met_bd {L : List Int} (h : ∀ x ∈ L, 0 ≤ x) (x : Int) {i : Nat} (hi : i ≤ L.length) : 0 ≤ (metK x (cutL L) i).1 ∧ (metK x (cutL L) i).1 ≤ 1 := by
  rcases met_inv h x i hi with ⟨h1, _⟩ | ⟨k, r, _, _, _, h1, _⟩
  · rw [h1]
    decide
  · rw [h1]
    dsimp only
    omega
theorem hold_no {l : List (Int × Int)} {x : Int} (h : ∀ (j : Nat) (r : Int × Int), l[j]? = some r → hasB r x = false) : holdF l x = -1 :=
  hold_none (fun r hr => by
    obtain ⟨j, hj, hjr⟩ := List.getElem_of_mem hr
    exact h j r (by rw [← hjr]; exact List.getElem?_eq_getElem hj))
/-- whose a word is -/
theorem met_end {L : List Int} (h : ∀ x ∈ L, 0 ≤ x) (x : Int) (n : Nat) (hn : n ≤ L.length) :
    (metK x (cutL L) L.length = (0, 0) ∧ ¬ (0 ≤ x ∧ x < sumL L) ∧ ownF ((cutL L).take n) ((cutL L).drop n) x = (-1, -1)) ∨
    (∃ k : Nat, k < L.length ∧ metK x (cutL L) L.length = (1, (k : Int)) ∧ 0 ≤ x ∧ x < sumL L ∧ ((k < n ∧ ownF ((cutL L).take n) ((cutL L).drop n) x = ((k : Int), -1)) ∨ (n ≤ k ∧ ownF ((cutL L).take n) ((cutL L).drop n) x = (-1, (k : Int) - n)))) := by
  have hall : ∀ (j : Nat) (r : Int × Int), (cutL L)[j]? = some r → j < L.length := fun j r hj => by
    obtain ⟨h1, _⟩ := List.getElem?_eq_some_iff.1 hj
    rw [cut_len] at h1
    exact h1
  have tk : ∀ (j : Nat) (r : Int × Int), ((cutL L).take n)[j]? = some r → j < n ∧ (cutL L)[j]? = some r := fun j r hj => by
    rw [List.getElem?_take] at hj
    by_cases hjn : j < n
    · rw [if_pos hjn] at hj
      exact ⟨hjn, hj⟩
    · rw [if_neg hjn] at hj
      cases hj
  have dr : ∀ (j : Nat) (r : Int × Int), ((cutL L).drop n)[j]? = some r → (cutL L)[n + j]? = some r := fun j r hj => by
    rw [List.getElem?_drop] at hj
    exact hj
  rcases met_inv h x L.length (Nat.le_refl _) with ⟨h1, h2, h3⟩ | ⟨k, r, hk, hkr, hh, h1, hx0, hx1, h3⟩
  · rw [List.take_length] at h2
    refine .inl ⟨h1, h2, ?_⟩
    unfold ownF
    rw [hold_no (l := (cutL L).take n) (fun j r hj => h3 j (hall _ _ (tk j r hj).2) r (tk j r hj).2), hold_no (l := (cutL L).drop n) (fun j r hj => h3 _ (hall _ _ (dr j r hj)) r (dr j r hj)), if_neg (by simp)]
  · rw [List.take_length] at hx1
    refine .inr ⟨k, hk, h1, hx0, hx1, ?_⟩
    by_cases hkn : k < n
    · refine .inl ⟨hkn, ?_⟩
      have hd : holdF ((cutL L).take n) x = k := hold_some (r := r) (by rw [List.getElem?_take, if_pos hkn]; exact hkr) hh (fun j hj q hq => h3 j (hall _ _ (tk j q hq).2) (by omega) q (tk j q hq).2)
      unfold ownF
      rw [hd, if_pos (by omega)]
    · refine .inr ⟨by omega, ?_⟩
      have hd : holdF ((cutL L).drop n) x = ((k - n : Nat) : Int) := hold_some (r := r) (by rw [List.getElem?_drop, show n + (k - n) = k by omega]; exact hkr) hh (fun j hj q hq => h3 _ (hall _ _ (dr j q hq)) (by omega) q (dr j q hq))
      unfold ownF
      rw [hold_no (l := (cutL L).take n) (fun j r hj => h3 j (hall _ _ (tk j r hj).2) (by have := (tk j r hj).1; omega) r (tk j r hj).2), if_neg (by simp), hd]
      rw [Int.ofNat_sub (by omega)]

end Go.Proofs.Ytaclphhbdfoaeaa.Ly
