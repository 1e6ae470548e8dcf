/-
  A step that swaps a word, if it is what it is said to be (package operation): Swap.
-/
import Derived.Test.YtejajmdmfipplabDoorPartOps
import Derived.Test.YtejajmdmfipplabDoorOpPure
set_option linter.unusedSimpArgs false
set_option linter.unusedVariables false
namespace Go.Proofs.YtejajmdmfipplabDoor.Pa
open Go.ChangeShapes Go.WideShapes Go.ChangeAt Go.RowKit Ws Mm

/-- the words behind a swap -/
def swapped (l : List Int) (j : Nat) (v u : Int) : List Int := if Op.gd l j = v then l.set j u else l
theorem gd_get {l : List Int} {j : Nat} (hj : j < l.length) : Op.gd l j = l[j] := by
  unfold Op.gd
  rw [List.getD_eq_getElem?_getD, List.getElem?_eq_getElem hj]
  rfl
theorem cas_at {R : Nat → Prop} {g : Nat} {l : List Int} {s : Int} (w : World) (h : Mem w R g l s) (i v u : Int) (h0 : 0 ≤ i) (h1 : i < l.length) :
    Calls Tryd.prog 116 #[.pointer (some ⟨g, 0, none⟩), .int .i64 i, .int .u32 v, .int .u32 u] w fun e w' => (∃ b : Bool, e = .returned (.tuple #[.bool b, .int .i64 0])) ∧ Mem w' R g (swapped l i.toNat v u) (wrap64 (s + 1)) ∧ Chg R w w' := by
  obtain ⟨j, rfl⟩ := Int.eq_ofNat_of_zero_le h0
  rw [Int.toNat_natCast]
  have hj : j < l.length := by omega
  unfold swapped
  rw [gd_get hj]
  by_cases hv : l[j] = v
  · rw [if_pos hv]
    exact (cas_yes w h j hj v u (by simpa using hv)).mono fun e w' hh => ⟨⟨true, hh.1⟩, hh.2⟩
  · rw [if_neg hv]
    exact (cas_no w h j hj v u (by simpa using hv)).mono fun e w' hh => ⟨⟨false, hh.1⟩, hh.2⟩

section
variable {R : Nat → Prop} {g gm : Nat} {T : TypeId} {p : Pt} {ex : List Value} {l : List Int} {st : Int}
theorem pswap (w : World) (h : PB w g T p ex) (m : Mem w R gm l st) (hg : ¬ R g) (i v u : Int) (hs : 0 ≤ p.steps ∧ p.steps ≤ 100000) (hi : 0 ≤ p.at_ ∧ p.at_ ≤ 100000 ∧ 0 ≤ i ∧ i ≤ 100000) (hl : p.at_ + i < l.length) :
    Calls Tryd.prog 87 #[.pointer (some ⟨g, 0, none⟩), .pointer (some ⟨gm, 0, none⟩), .int .i64 i, .int .u32 v, .int .u32 u] w fun e w' => e = .returned (.tuple #[]) ∧
      Lft R g gm T { p with steps := p.steps + 1 } ex (swapped l (p.at_ + i).toNat v u) (wrap64 (st + 1)) w w' := by
  obtain ⟨_, _, _, _, _, c5, _⟩ := h.head
  obtain ⟨_, c16, _⟩ := h.last
  have f16 := h.thaw 16
  have L1 := (Lft.first h m).set hg 16 _ (h.put_steps (p.steps + 1))
  obtain ⟨hs1, hs2⟩ := hs
  obtain ⟨hi1, hi2, hi3, hi4⟩ := hi
  go_enter Tryd.func87, Tryd.ntmps87
  go_wp2_with fail
  refine (cas_at _ L1.mem _ v u (by omega) hl).mono ?_
  rintro e w1 ⟨⟨b, rfl⟩, m1, s1⟩
  have L2 : Lft R g gm T { p with steps := p.steps + 1 } ex (swapped l (p.at_ + i).toNat v u) (wrap64 (st + 1)) w w1 := L1.trans ⟨L1.op.chg s1 hg, m1, s1.weak fun i _ hi => .inl hi⟩
  clear m1 s1 L1
  go_wp2
  go_end0
  exact ⟨rfl, L2⟩
end

end Go.Proofs.YtejajmdmfipplabDoor.Pa
