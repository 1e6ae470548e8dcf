/-
 A region that draws its order, whose last operations wait for all others: what the walk holds of the world need not hold behind those last ones.
 Nothing here speaks of a program of the seat.
-/
import Derived.Deep.RegionHeld3
import Derived.Test.YthhbhbfkbncegaaGreatDoorRegionOff
set_option linter.unusedSimpArgs false
set_option linter.unusedVariables false
namespace Go.Proofs.YthhbhbfkbncegaaGreatDoor.Hb
open Go

section
variable {P : Program} {ops : Array Oper} {Q : Exit → Act → World → Prop} {md : Region.Mode} {S T : World → Prop} {Hd : Nat → Bool}
/-- whatever order is picked; behind each operation of the head S holds -/
def AnyB (P : Program) (md : Region.Mode) (ops : Array Oper) (Q : Exit → Act → World → Prop) (S T : World → Prop) (Hd : Nat → Bool) : Nat → Array Bool → Act → World → Prop
 | 0, listed, a, w => Region.ready md ops listed = [] ∧ Q .normal a w
 | fuel + 1, listed, a, w =>
  (Region.ready md ops listed = [] → Q .normal a w) ∧
  ∀ i ∈ Region.ready md ops listed, wpOp P ops Q i (fun a' w' => (S w' ∧ (Hd i = true → T w → T w')) ∧ AnyB P md ops Q S T Hd fuel (listed.setIfInBounds i true) a' w') a w
theorem any_of_b : ∀ (fuel : Nat) (listed : Array Bool) (a : Act) (w : World), AnyB P md ops Q S T Hd fuel listed a w → wpAny P md ops Q fuel listed a w
 | 0, _, _, _, h => h
 | fuel + 1, _, _, _, h => ⟨h.1, fun i hi => wpOp_mono (fun a' w' h' => any_of_b fuel _ a' w' h'.2) (h.2 i hi)⟩
/-- those that are not of the head wait for number i -/
def Waits (md : Region.Mode) (ops : Array Oper) (Hd : Nat → Bool) (i : Nat) : Prop :=
 ∀ j oj, ops[j]? = some oj → Hd j = false → ∃ e ∈ oj.after, Region.binds md e = true ∧ e.on = i
def waitsB (md : Region.Mode) (ops : Array Oper) (Hd : Nat → Bool) (i : Nat) : Bool :=
 (List.range ops.size).all fun j => Hd j || (match ops[j]? with | some oj => oj.after.toList.any fun e => Region.binds md e && e.on == i | none => true)
theorem waits_of {i : Nat} (h : waitsB md ops Hd i = true) : Waits md ops Hd i := by
 intro j oj hj hHj
 have hjl : j < ops.size := (Array.getElem?_eq_some_iff.1 hj).1
 unfold waitsB at h
 rw [List.all_eq_true] at h
 have h2 := h j (List.mem_range.2 hjl)
 rw [hHj, hj] at h2
 simp only [Bool.false_or, List.any_eq_true, Bool.and_eq_true, beq_iff_eq] at h2
 obtain ⟨e, he, hb, ho⟩ := h2
 exact ⟨e, by simpa using he, hb, ho⟩
theorem anyB_first {i : Nat} {oi : Oper} {v : Value} (need : Bool) (hW : need = true → Waits md ops Hd i) (hi : ops[i]? = some oi) (hsel : ∀ (j : Nat) (o : Oper) cs b, ops[j]? = some o → o.op ≠ .select cs b)
 (hQ : ∀ c a w, Q (.panic c) (a.put oi.dst v) w → Q (.panic c) a w) :
 ∀ (fuel : Nat) (listed : Array Bool) (a : Act) (w : World),
  (∀ j oj, ops[j]? = some oj → j ≠ i → listed.getD j true = false → (∀ e ∈ oj.after, Region.binds md e = true → e.on ≠ i) → oi.apart ops oj = true) →
  i ∈ Region.ready md ops listed → YieldsIf P ops (fun w => S w ∧ (need = true → T w)) oi v a → (S w ∧ (need = true → T w)) →
  AnyB P md ops Q S T Hd fuel (listed.setIfInBounds i true) (a.put oi.dst v) w → AnyB P md ops Q S T Hd (fuel + 1) listed a w := by
 intro fuel
 induction fuel with
 | zero =>
  intro listed a w _ hr hy hS H
  refine ⟨fun h => (by rw [h] at hr; cases hr), fun j hj => ?_⟩
  by_cases hji : j = i
  ·subst hji; exact hy.wpOp hi hS ⟨⟨hS.1, fun _ h => h⟩, H⟩
  ·have := ready_mono hj hji
   rw [H.1] at this
   cases this
 | succ fuel ih =>
  intro listed a w hfree hr hy hS H
  refine ⟨fun h => (by rw [h] at hr; cases hr), fun j hj => ?_⟩
  by_cases hji : j = i
  ·subst hji; exact hy.wpOp hi hS ⟨⟨hS.1, fun _ h => h⟩, H⟩
  ·have h1 := H.2 j (ready_mono hj hji)
   obtain ⟨hjun, oj, hoj, hall⟩ := mem_ready.1 hj
   have hnot : ∀ e ∈ oj.after, Region.binds md e = true → e.on ≠ i := fun e he hb heq => by
    have h1 := hall e he hb
    have h0 := (mem_ready.1 hr).1
    rw [heq] at h1
    rcases Nat.lt_or_ge i listed.size with h' | h'
    ·simp [h'] at h0 h1; rw [h0] at h1; cases h1
    ·simp [Array.getElem?_eq_none h'] at h1
   have h2 := wpOp_putIf hoj (hfree j oj hoj hji hjun hnot) (fun cs b => hsel i oi cs b hi) (fun cs b => hsel j oj cs b hoj) hQ hy h1
   have hT : ∀ w', (Hd j = true → T w → T w') → need = true → T w' := fun w' h hn => by
    refine h ?_ (hS.2 hn)
    cases hb : Hd j with
    | true => rfl
    | false =>
     obtain ⟨e, he, hb2, ho⟩ := hW hn j oj hoj hb
     exact absurd ho (hnot e he hb2)
   refine wpOp_mono (fun a' w' h3 => ⟨h3.2.1, ih (listed.setIfInBounds j true) a' w' (fun k ok hk hki hun hno => hfree k ok hk hki (by
    by_cases hjk : j = k
    ·subst hjk; exact hjun
    ·rwa [getD_set_ne true hjk] at hun) hno) (ready_mono hr (Ne.symm hji)) h3.1 ⟨h3.2.1.1, hT _ h3.2.1.2⟩ ?_⟩) h2
   rw [Array.setIfInBounds_comm _ _ hji]
   exact h3.2.2
theorem anyB_done {listed : Array Bool} {a : Act} {w : World} (hr : Region.ready md ops listed = []) (h : Q .normal a w) : ∀ fuel, AnyB P md ops Q S T Hd fuel listed a w
 | 0 => ⟨hr, h⟩
 | _ + 1 => ⟨fun _ => h, by rw [hr]; simp⟩
end
section
variable {P : Program} {l : List Oper} {Q : Exit → Act → World → Prop} {md : Region.Mode} {S T : World → Prop} {Hd : Nat → Bool}
/-- an operation that reads what never turns -/
theorem b_take {i : Nat} {oi : Oper} {rest : List Oper} {v : Value} {fuel : Nat} {listed : Array Bool} {a : Act} {w : World} (hd : l.drop i = oi :: rest)
 (hs : Region.noSelect l.toArray = true) (hf : Region.free md l.toArray listed i = true) (hr : (Region.ready md l.toArray listed).contains i = true)
 (hQ : ∀ c a w, Q (.panic c) (a.put oi.dst v) w → Q (.panic c) a w) (hw : Region.wanted oi (yielded l.toArray a.tmps) = true) (hS : S w)
 (hy : ∀ w, S w → (execOp a.eval oi).run P w = .ok (.value v) w)
 (h : AnyB P md l.toArray Q S T Hd fuel (listed.setIfInBounds i true) (a.put oi.dst v) w) : AnyB P md l.toArray Q S T Hd (fuel + 1) listed a w :=
 anyB_first false (fun h => by cases h) (Ro.at_drop hd) (Region.noSelect_spec hs) hQ fuel listed a w (Region.free_spec (Ro.at_drop hd) hf) (by simpa using hr) (.inl ⟨hw, fun w h => hy w h.1⟩) ⟨hS, fun h => by cases h⟩ h
/-- an operation that reads what the last ones turn, which wait for it -/
theorem b_take_t {i : Nat} {oi : Oper} {rest : List Oper} {v : Value} {fuel : Nat} {listed : Array Bool} {a : Act} {w : World} (hW : waitsB md l.toArray Hd i = true) (hd : l.drop i = oi :: rest)
 (hs : Region.noSelect l.toArray = true) (hf : Region.free md l.toArray listed i = true) (hr : (Region.ready md l.toArray listed).contains i = true)
 (hQ : ∀ c a w, Q (.panic c) (a.put oi.dst v) w → Q (.panic c) a w) (hw : Region.wanted oi (yielded l.toArray a.tmps) = true) (hS : S w) (hT : T w)
 (hy : ∀ w, S w → T w → (execOp a.eval oi).run P w = .ok (.value v) w)
 (h : AnyB P md l.toArray Q S T Hd fuel (listed.setIfInBounds i true) (a.put oi.dst v) w) : AnyB P md l.toArray Q S T Hd (fuel + 1) listed a w :=
 anyB_first true (fun _ => waits_of hW) (Ro.at_drop hd) (Region.noSelect_spec hs) hQ fuel listed a w (Region.free_spec (Ro.at_drop hd) hf) (by simpa using hr) (.inl ⟨hw, fun w h => hy w h.1 (h.2 rfl)⟩) ⟨hS, fun _ => hT⟩ h
theorem op_of {i : Nat} {o : Oper} {rest : List Oper} {a : Act} {w : World} {K : Act → World → Prop} (hd : l.drop i = o :: rest) (hw : Region.wanted o (yielded l.toArray a.tmps) = true) (h : Oper.wp P o a w K Q) : wpOp P l.toArray Q i K a w := by
 unfold wpOp
 rw [Ro.at_drop hd]
 simp only [hw, if_true]
 exact .inl h
theorem b_one {i : Nat} {o : Oper} {rest : List Oper} {fuel : Nat} {listed : Array Bool} {a : Act} {w : World} (hd : l.drop i = o :: rest)
 (hr : Region.ready md l.toArray listed = [i]) (hw : Region.wanted o (yielded l.toArray a.tmps) = true)
 (h : ∀ K : Act → World → Prop, Shut (∀ a w', S w' → (Hd i = true → T w → T w') → AnyB P md l.toArray Q S T Hd fuel (listed.setIfInBounds i true) a w' → K a w') → Oper.wp P o a w K Q) : AnyB P md l.toArray Q S T Hd (fuel + 1) listed a w := by
 refine ⟨fun h0 => (by rw [hr] at h0; cases h0), fun j hj => ?_⟩
 rw [hr, List.mem_singleton] at hj
 subst hj
 exact op_of hd hw (h _ fun a w' hS hT hk => ⟨⟨hS, hT⟩, hk⟩)
theorem b_two {i j : Nat} {oi oj : Oper} {ri rj : List Oper} {fuel : Nat} {listed : Array Bool} {a : Act} {w : World} (hi : l.drop i = oi :: ri) (hj : l.drop j = oj :: rj)
 (hr : Region.ready md l.toArray listed = [i, j]) (hwi : Region.wanted oi (yielded l.toArray a.tmps) = true) (hwj : Region.wanted oj (yielded l.toArray a.tmps) = true)
 (h1 : ∀ K : Act → World → Prop, Shut (∀ a w', S w' → (Hd i = true → T w → T w') → AnyB P md l.toArray Q S T Hd fuel (listed.setIfInBounds i true) a w' → K a w') → Oper.wp P oi a w K Q)
 (h2 : ∀ K : Act → World → Prop, Shut (∀ a w', S w' → (Hd j = true → T w → T w') → AnyB P md l.toArray Q S T Hd fuel (listed.setIfInBounds j true) a w' → K a w') → Oper.wp P oj a w K Q) : AnyB P md l.toArray Q S T Hd (fuel + 1) listed a w := by
 refine ⟨fun h0 => (by rw [hr] at h0; cases h0), fun k hk => ?_⟩
 rw [hr] at hk
 rcases List.mem_cons.1 hk with rfl | hk
 ·exact op_of hi hwi (h1 _ fun a w' hS hT hk => ⟨⟨hS, hT⟩, hk⟩)
 ·rw [List.mem_singleton] at hk
  subst hk
  exact op_of hj hwj (h2 _ fun a w' hS hT hk => ⟨⟨hS, hT⟩, hk⟩)
theorem region_b {id : Nat} {a : Act} {w : World} (hm : P.follows .mixedOrders = true) 
 (h : AnyB P .any l.toArray Q S T Hd l.toArray.size (Array.replicate l.toArray.size false) a w.drew) : (Code.region id l.toArray true).wp P Q a w :=
 wp_region_any hm (any_of_b _ _ _ _ h)
end
end Go.Proofs.YthhbhbfkbncegaaGreatDoor.Hb
