/-
 Who goes ahead of whom by priorities (chapter 3), the order and the ranks: plain functions. Nothing here speaks of a program of the seat.
-/
import Derived.Test.YthhbhbfkbncegaaGreatDoorWords
set_option linter.unusedSimpArgs false
set_option linter.unusedVariables false
namespace Go.Proofs.YthhbhbfkbncegaaGreatDoor.Od

def pr (P : List Int) (k : Nat) : Int := P.getD k 0
theorem pr_get {P : List Int} {k : Nat} {x : Int} (h : P[k]? = some x) : pr P k = x := by
 unfold pr
 rw [List.getD_eq_getElem?_getD, h]
 rfl
theorem get_pr {P : List Int} {k : Nat} (h : k < P.length) : P[k]? = some (pr P k) := by
 unfold pr
 rw [List.getD_eq_getElem?_getD, List.getElem?_eq_getElem h]
 rfl
def aheadB (P : List Int) (a b : Nat) : Bool := decide (pr P b < pr P a ∨ pr P a = pr P b ∧ a < b)
theorem ahead_iff {P : List Int} {a b : Nat} : aheadB P a b = true ↔ (pr P b < pr P a ∨ pr P a = pr P b ∧ a < b) := by unfold aheadB; rw [decide_eq_true_iff]
theorem ahead_not {P : List Int} {a b : Nat} : aheadB P a b = false ↔ ¬ (pr P b < pr P a ∨ pr P a = pr P b ∧ a < b) := by unfold aheadB; rw [decide_eq_false_iff_not]
theorem ahead_irrefl (P : List Int) (a : Nat) : aheadB P a a = false := by rw [ahead_not]; omega
theorem ahead_asymm {P : List Int} {a b : Nat} (h : aheadB P a b = true) : aheadB P b a = false := by rw [ahead_iff] at h; rw [ahead_not]; omega
theorem ahead_trans {P : List Int} {a b c : Nat} (h : aheadB P a b = true) (k : aheadB P b c = true) : aheadB P a c = true := by rw [ahead_iff] at *; omega
theorem ahead_total {P : List Int} {a b : Nat} (h : a ≠ b) : aheadB P a b = true ∨ aheadB P b a = true := by rw [ahead_iff, ahead_iff]; omega

/-- how many of those below n go ahead of i -/
def rankTo (P : List Int) (i : Nat) : Nat → Nat
 | 0 => 0
 | n + 1 => rankTo P i n + if aheadB P n i then 1 else 0
def rankN (P : List Int) (i : Nat) : Nat := rankTo P i P.length
theorem rankTo_eq (P : List Int) (i n : Nat) : rankTo P i n = ((List.range n).filter fun k => aheadB P k i).length := by
 induction n with
 | zero => rfl
 | succ n ih =>
  rw [rankTo, ih, List.range_succ, List.filter_append, List.length_append]
  congr 1
  by_cases h : aheadB P n i = true
  ·simp [h]
  ·simp [h]
/-- who goes first, and who next -/
structure IsOrd (P : List Int) (L : List Nat) : Prop where
 perm : L.Perm (List.range P.length)
 order : L.Pairwise fun a b => aheadB P a b = true
section
variable {P : List Int} {L : List Nat}
theorem IsOrd.len (h : IsOrd P L) : L.length = P.length := by rw [h.perm.length_eq, List.length_range]
theorem IsOrd.lt (h : IsOrd P L) {j i : Nat} (hj : L[j]? = some i) : i < P.length := by
 have : i ∈ L := List.mem_of_getElem? hj
 rw [h.perm.mem_iff, List.mem_range] at this
 exact this
theorem IsOrd.rank (h : IsOrd P L) {j i : Nat} (hj : L[j]? = some i) : rankN P i = j := by
 obtain ⟨hlt, hget⟩ := List.getElem?_eq_some_iff.1 hj
 have hP : (List.filter (fun k => aheadB P k i) L).length = rankN P i := by
  unfold rankN
  rw [rankTo_eq]
  exact (h.perm.filter _).length_eq
 have hsplit : L = L.take j ++ (i :: L.drop (j + 1)) := by
  have e := List.take_append_drop j L
  rw [List.drop_eq_getElem_cons hlt, hget] at e
  exact e.symm
 have hpw := h.order
 rw [hsplit, List.pairwise_append] at hpw
 obtain ⟨_, h2, h3⟩ := hpw
 rw [List.pairwise_cons] at h2
 have f1 : List.filter (fun k => aheadB P k i) (L.take j) = L.take j := by
  rw [List.filter_eq_self]
  intro a ha
  exact h3 a ha i (List.mem_cons_self)
 have f2 : List.filter (fun k => aheadB P k i) (i :: L.drop (j + 1)) = [] := by
  rw [List.filter_eq_nil_iff]
  intro a ha
  rcases List.mem_cons.1 ha with rfl | ha
  ·rw [ahead_irrefl]; exact Bool.false_ne_true
  ·rw [ahead_asymm (h2.1 a ha)]; exact Bool.false_ne_true
 rw [← hP]
 conv => lhs; rw [hsplit]
 rw [List.filter_append, f1, f2, List.append_nil, List.length_take]
 omega
theorem IsOrd.at_rank (h : IsOrd P L) {i : Nat} (hi : i < P.length) : L[rankN P i]? = some i := by
 have hm : i ∈ L := by rw [h.perm.mem_iff, List.mem_range]; exact hi
 obtain ⟨j, hj⟩ := List.getElem?_of_mem hm
 rw [h.rank hj]
 exact hj
theorem IsOrd.rank_lt (h : IsOrd P L) {i : Nat} (hi : i < P.length) : rankN P i < P.length := by
 obtain ⟨hlt, _⟩ := List.getElem?_eq_some_iff.1 (h.at_rank hi)
 rw [← h.len]
 exact hlt
/-- a list in which each one stands at its rank is the order -/
theorem IsOrd.eq (h : IsOrd P L) {M : List Nat} (hl : M.length = P.length) (hM : ∀ i, i < P.length → M[rankN P i]? = some i) : M = L := by
 apply List.ext_getElem?
 intro j
 by_cases hj : j < P.length
 ·obtain ⟨i, hi⟩ : ∃ i, L[j]? = some i := ⟨_, List.getElem?_eq_getElem (by rw [h.len]; exact hj)⟩
  have := hM i (h.lt hi)
  rw [h.rank hi] at this
  rw [this, hi]
 ·rw [List.getElem?_eq_none (by omega), List.getElem?_eq_none (by rw [h.len]; omega)]
end
/-- the order is there -/
def le (P : List Int) (x y : Nat) : Bool := !(aheadB P y x)
def ordL (P : List Int) : List Nat := (List.range P.length).mergeSort (le P)
theorem ord_of {P : List Int} {L : List Nat} (hp : L.Perm (List.range P.length)) (hs : L.Pairwise fun a b => aheadB P b a = false) : IsOrd P L := by
 refine ⟨hp, ?_⟩
 have hn : L.Nodup := hp.symm.nodup (List.nodup_range)
 refine List.Pairwise.imp₂ ?_ hs hn
 intro a b h1 h2
 rcases ahead_total (P := P) h2 with h | h
 ·exact h
 ·rw [h1] at h; cases h
theorem isOrd_ordL (P : List Int) : IsOrd P (ordL P) := by
 unfold ordL
 refine ord_of (List.mergeSort_perm _ _) ?_
 refine (List.pairwise_mergeSort ?_ ?_ _).imp ?_
 ·intro a b c h1 h2
  unfold le at *
  rw [Bool.not_eq_true'] at *
  rw [ahead_not] at *
  omega
 ·intro a b
  unfold le
  rw [Bool.or_eq_true, Bool.not_eq_true', Bool.not_eq_true']
  cases h : aheadB P b a
  ·exact .inl rfl
  ·exact .inr (ahead_asymm h)
 ·intro a b h
  unfold le at h
  rw [Bool.not_eq_true'] at h
  exact h
theorem IsOrd.is {P : List Int} {L : List Nat} (h : IsOrd P L) : L = ordL P := (isOrd_ordL P).eq h.len fun _ hi => h.at_rank hi
def rankL (P : List Int) : List Nat := (List.range P.length).map (rankN P)
theorem rankL_len (P : List Int) : (rankL P).length = P.length := by unfold rankL; simp
theorem rankL_get {P : List Int} {i : Nat} (h : i < P.length) : (rankL P)[i]? = some (rankN P i) := by unfold rankL; simp [h]
theorem rank_lt {P : List Int} {i : Nat} (h : i < P.length) : rankN P i < P.length := (isOrd_ordL P).rank_lt h
/-- numbers, as cells -/
def nI (l : List Nat) : List Int := l.map fun (k : Nat) => (k : Int)
theorem nI_len (l : List Nat) : (nI l).length = l.length := by unfold nI; rw [List.length_map]

end Go.Proofs.YthhbhbfkbncegaaGreatDoor.Od
