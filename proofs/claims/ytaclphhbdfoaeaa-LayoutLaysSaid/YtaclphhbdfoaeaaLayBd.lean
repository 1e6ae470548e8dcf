/-

  All lengths of a system's words are small.
-/
import Derived.Test.YtaclphhbdfoaeaaLayCut
set_option linter.unusedVariables false
set_option linter.unusedSimpArgs false
namespace Go.Proofs.Ytaclphhbdfoaeaa.Ly
open Go.ChangeShapes Go.WideShapes Go.ChangeAt Go.RowKit Ws

theorem prod_bd {a b p q : Int} (h0 : 0 ≤ a) (h1 : a ≤ p) (h2 : 0 ≤ b) (h3 : b ≤ q) (hp : 0 ≤ p) : 0 ≤ a * b ∧ a * b ≤ p * q :=
  ⟨Int.mul_nonneg h0 h2, Int.mul_le_mul h1 h3 h2 hp⟩
theorem siz_bd (k wd sl cp sa : Int) (il rl : Nat) : 0 ≤ Fc.sizeF k wd sl cp sa il rl ∧ Fc.sizeF k wd sl cp sa il rl ≤ 1000000 := by
  by_cases h1 : k = 1
  · subst h1
    rw [Fc.size_1]
    by_cases h : Fo.rightB wd sl cp sa il rl = true
    · rw [if_pos h]
      have hq := of_decide_eq_true h
      omega
    · rw [if_neg h]
      omega
  by_cases h2 : k = 2
  · subst h2
    rw [Fc.size_2]
    by_cases h : Ch.rightB wd sl cp sa il rl = true
    · rw [if_pos h]
      have hq := of_decide_eq_true h
      have hp := prod_bd (a := (rl : Int) + 2) (b := wd) (p := 6) (q := 8) (by omega) (by omega) (by omega) (by omega) (by omega)
      omega
    · rw [if_neg h]
      omega
  by_cases h3 : k = 3
  · subst h3
    rw [Fc.size_3]
    by_cases h : Sq.rightB wd sl cp sa il rl = true
    · rw [if_pos h]
      have hq := of_decide_eq_true h
      omega
    · rw [if_neg h]
      omega
  by_cases h4 : k = 4
  · subst h4
    rw [Fc.size_4]
    by_cases h : Rg.rightB wd sl cp sa il rl = true
    · rw [if_pos h]
      have hq := of_decide_eq_true h
      have hp := prod_bd (a := sl) (b := wd) (p := 16) (q := 8) (by omega) (by omega) (by omega) (by omega) (by omega)
      omega
    · rw [if_neg h]
      omega
  by_cases h5 : k = 5
  · subst h5
    rw [Fc.size_5]
    by_cases h : Cb.rightB wd sl cp sa il rl = true
    · rw [if_pos h]
      have hq := of_decide_eq_true h
      have hp := prod_bd (a := sl) (b := wd) (p := 16) (q := 8) (by omega) (by omega) (by omega) (by omega) (by omega)
      omega
    · rw [if_neg h]
      omega
  by_cases h6 : k = 6
  · subst h6
    rw [Fc.size_6]
    by_cases h : Ff.rightB wd sl cp sa il rl = true
    · rw [if_pos h]
      have hq := Ff.HQ h
      have hp := prod_bd (a := sl) (b := wd) (p := 16) (q := 8) (by omega) (by omega) (by omega) (by omega) (by omega)
      omega
    · rw [if_neg h]
      omega
  rw [Fc.size_none0 wd sl cp sa il rl (by omega)]
  omega
theorem lens_bd {ts : List Tk.Task} {os : List Objt} {L : List Int} (h : lensF ts os = some L) : L.length = ts.length + os.length ∧ ∀ x ∈ L, 0 ≤ x ∧ x ≤ 1000000 := by
  unfold lensF at h
  by_cases hc : (ts.all ownOk && os.all shp) = true
  · rw [if_pos hc] at h
    injection h with h
    subst h
    rw [Bool.and_eq_true, List.all_eq_true] at hc
    refine ⟨by simp [tL, oL], fun x hx => ?_⟩
    rcases List.mem_append.1 hx with hx | hx
    · obtain ⟨t, ht, rfl⟩ := List.mem_map.1 hx
      have := of_decide_eq_true (hc.1 t ht)
      omega
    · obtain ⟨o, ho, rfl⟩ := List.mem_map.1 hx
      exact siz_bd _ _ _ _ _ _ _
  · rw [if_neg hc] at h
    cases h

end Go.Proofs.Ytaclphhbdfoaeaa.Ly
