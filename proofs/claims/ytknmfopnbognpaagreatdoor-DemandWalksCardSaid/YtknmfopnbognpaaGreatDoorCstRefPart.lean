/-

  The document's Part on layer 12: one part, its loops known (R12's Part).
-/
import Derived.Test.YtknmfopnbognpaaGreatDoorCstWeigh
import Derived.Test.YtknmfopnbognpaaGreatDoorRefFlow
import Derived.Test.YtknmfopnbognpaaGreatDoorCstRnext
section
set_option linter.unusedVariables false
set_option linter.unusedSimpArgs false
namespace Go.Proofs.YtknmfopnbognpaaGreatDoor.Cs
open Go.ChangeShapes Go.WideShapes Go.ChangeAt Go.RowKit Ws
open Go.Proofs.YtknmfopnbognpaaGreatDoor.Fp (Ins at_ Fine at_some lp loopsL nextL hasB)
open Go.Proofs.YtknmfopnbognpaaGreatDoor.Fw (Prg Spn spanCells spn_of)

theorem inner_take {l : List (Int × Int)} (s : Int × Int) {k : Nat} (h : k < l.length) : innerL (l.take (k + 1)) s = innerL (l.take k) s ++ (if lp l k ≠ s ∧ s.1 ≤ (lp l k).1 ∧ (lp l k).2 ≤ s.2 then [lp l k] else []) := by
  unfold innerL
  rw [List.take_add_one, Fp.lp_get h, List.filter_append]
  congr 1
  simp [List.filter_cons]
theorem inner_len (l : List (Int × Int)) (s : Int × Int) : (innerL l s).length ≤ l.length := List.length_filter_le _ _
def InnerPost (w : World) (l : List (Int × Int)) (s : Int × Int) : Ending → World → Prop := fun e w' =>
  ∃ A c, e = .returned (.slice A (innerL l s).length c) ∧ OwnK w' w.heap.size 65 2 A (innerL l s).length c (spanCells (innerL l s)) ∧ Same w w'
end Go.Proofs.YtknmfopnbognpaaGreatDoor.Cs
end
section
set_option linter.unusedVariables false
set_option linter.unusedSimpArgs false
namespace Go.Proofs.YtknmfopnbognpaaGreatDoor.Cs
open Go.ChangeShapes Go.WideShapes Go.ChangeAt Go.RowKit Ws
open Go.Proofs.YtknmfopnbognpaaGreatDoor.Fp (Ins at_ Fine at_some lp loopsL nextL hasB)
open Go.Proofs.YtknmfopnbognpaaGreatDoor.Fw (Prg Spn spanCells spn_of)

theorem g1_get {w : World} {B : Nat} {e : TypeId} {g c n k : Nat} {l : List Value} {u : Value} (h : OwnK w B e 1 (some ⟨g, 0, none⟩) n c l) (hk : l[k]? = some u) : w.cell? ⟨g, k, none⟩ = some u := by
  have := h.row.get hk
  rw [Nat.zero_add] at this
  exact this
theorem g1_thaw {w : World} {B : Nat} {e : TypeId} {s g c n : Nat} {l : List Value} (h : OwnK w B e s (some ⟨g, 0, none⟩) n c l) (j : Nat) : w.frozen? ⟨g, j, none⟩ = false := by
  rcases h.2 with ⟨h2, _⟩ | ⟨g2, cap, cur, hv, hb, hg, rest⟩
  · cases h2
  · injection hv with hv
    injection hv with hv
    injection hv with hv
    subst hv
    exact Blk.thaw (t := e) hg j
theorem g1_set {w : World} {B : Nat} {e : TypeId} {s g c n : Nat} {l : List Value} (h : OwnK w B e s (some ⟨g, 0, none⟩) n c l) (j : Nat) (u : Value) :
    OwnK (w.setCell ⟨g, j, none⟩ u) B e s (some ⟨g, 0, none⟩) n c (l.set j u) := (World.ownsRow.stored h j u).1
theorem g1_new (w : World) (n : Nat) (hn : n ≤ 100000) : OwnK (w.alloc (.cells (izr n) 3)) w.heap.size 3 1 (some ⟨w.heap.size, 0, none⟩) n n (izr n).toList := by
  have hz : (izr n).size = n := by
    have := congrArg List.length (izr_list n)
    simpa using this
  refine ⟨by simp [hz], .inr ⟨w.heap.size, n, (izr n).toList.toArray, rfl, Nat.le_refl _, Blk.new w _ _, Nat.le_refl _, by unfold maxLen; omega, by simp [hz], ?_⟩⟩
  simp only [Nat.mul_one]
  exact List.take_of_length_le (by simp [hz])
theorem grown_set {n j : Nat} (v : Int) (h : j < n) : (grown n j v).set j (.int .i64 v) = grown n (j + 1) v := by
  have := grown_more (n := n) (j := j) (k := 1) v (by omega)
  rw [← this]
  unfold splice
  have hl : (grown n j v).length = n := grown_len v (by omega)
  rw [List.set_eq_take_append_cons_drop, if_pos (by omega)]
  simp
theorem grown_at {n j : Nat} (v : Int) (h : j < n) : (grown n j v)[j]? = some (.int .i64 0) := by
  unfold grown
  rw [List.getElem?_map, List.getElem?_append_right (by simp), List.getElem?_replicate]
  simp
  omega
theorem grown_all (n : Nat) (v : Int) : grown n n v = (List.replicate n v).map (Value.int .i64) := by unfold grown; simp
/-- the last one that begins there, or none -/
def selN (L : List (Int × Int)) (k : Int) (j : Nat) : Int × Int := (fromIn (L.take j) k).getD (-1, 0)
theorem selN_next {L : List (Int × Int)} (k : Int) {j : Nat} (h : j < L.length) : selN L k (j + 1) = if (lp L j).1 = k then lp L j else selN L k j := by
  unfold selN fromIn
  rw [List.take_add_one, Fp.lp_get h]
  simp only [Option.toList_some, List.reverse_append, List.reverse_cons, List.reverse_nil, List.nil_append, List.singleton_append, List.find?_cons]
  by_cases e : (lp L j).1 = k
  · rw [if_pos e]
    simp [e]
  · rw [if_neg e]
    simp [e]
theorem fromIn_mem {L : List (Int × Int)} {k : Int} {x : Int × Int} (h : fromIn L k = some x) : x ∈ L ∧ x.1 = k := by
  unfold fromIn at h
  exact ⟨by simpa using List.mem_of_find?_eq_some h, by simpa using List.find?_some h⟩
theorem selN_all (L : List (Int × Int)) (k : Int) : selN L k L.length = (fromIn L k).getD (-1, 0) := by unfold selN; rw [List.take_length]
theorem nat1 (m : Nat) : ((m : Int) + 1) = ((m + 1 : Nat) : Int) := by omega
/-- a loop that may be -/
def Lok (p : List Ins) (x : Int × Int) : Prop := 0 ≤ x.1 ∧ x.1 ≤ x.2 ∧ x.2 < p.length ∧ 0 ≤ (at_ p x.2.toNat).c ∧ (at_ p x.2.toNat).c < 1099511627776
end Go.Proofs.YtknmfopnbognpaaGreatDoor.Cs
end
