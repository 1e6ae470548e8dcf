/-

  The contracts of the methods of an operation's part (package operation).
-/
import Derived.Test.YtikjkmomokhanabGreatPart
set_option linter.unusedSimpArgs false
set_option linter.unusedVariables false
namespace Go.Proofs.YtikjkmomokhanabGreat.Pa
open Go.ChangeShapes Go.WideShapes Go.ChangeAt Go.RowKit Ws Mm

theorem read_at {R : Nat → Prop} {g : Nat} {l : List Int} {s : Int} (w : World) (h : Mem w R g l s) (i : Int) (h0 : 0 ≤ i) (h1 : i < l.length) :
    Calls Tryz.prog 158 #[.pointer (some ⟨g, 0, none⟩), .int .i64 i] w fun e w' => e = .returned (.tuple #[.int .u32 (Op.gd l i.toNat), .int .i64 0]) ∧ Mem w' R g l (wrap64 (s + 1)) ∧ Chg R w w' := by
  obtain ⟨j, rfl⟩ := Int.eq_ofNat_of_zero_le h0
  have hj : j < l.length := by omega
  have := read_in w h j hj
  have e : Op.gd l (j : Int).toNat = l[j] := by unfold Op.gd; rw [Int.toNat_natCast, List.getD_eq_getElem?_getD, List.getElem?_eq_getElem hj]; rfl
  rw [e]
  exact this
theorem write_at {R : Nat → Prop} {g : Nat} {l : List Int} {s : Int} (w : World) (h : Mem w R g l s) (i u : Int) (h0 : 0 ≤ i) (h1 : i < l.length) :
    Calls Tryz.prog 50 #[.pointer (some ⟨g, 0, none⟩), .int .i64 i, .int .u32 u] w fun e w' => e = .returned (.int .i64 0) ∧ Mem w' R g (l.set i.toNat u) (wrap64 (s + 1)) ∧ Chg R w w' := by
  obtain ⟨j, rfl⟩ := Int.eq_ofNat_of_zero_le h0
  have := write_in w h j (by omega) u
  rw [Int.toNat_natCast]
  exact this

/-- what a step leaves: the operation, the memory, and all else as it was -/
structure Lft (R : Nat → Prop) (g gm : Nat) (T : TypeId) (p : Pt) (ex : List Value) (l : List Int) (st : Int) (w w' : World) : Prop where
  op : PB w' g T p ex
  mem : Mem w' R gm l st
  chg : Chg (fun i => R i ∨ i = g) w w'
theorem Lft.same {R : Nat → Prop} {g gm : Nat} {T : TypeId} {p : Pt} {ex : List Value} {l : List Int} {st : Int} {w w' w'' : World} (h : Lft R g gm T p ex l st w w') (s : Same w' w'') : Lft R g gm T p ex l st w w'' :=
  ⟨h.op.same s, h.mem.same s, h.chg.trans (s.chg _)⟩
theorem Lft.trans {R : Nat → Prop} {g gm : Nat} {T : TypeId} {p p' : Pt} {ex ex' : List Value} {l l' : List Int} {st st' : Int} {w w' w'' : World} (h : Lft R g gm T p ex l st w w') (k : Lft R g gm T p' ex' l' st' w' w'') : Lft R g gm T p' ex' l' st' w w'' :=
  ⟨k.op, k.mem, h.chg.trans k.chg⟩
theorem Lft.first {R : Nat → Prop} {g gm : Nat} {T : TypeId} {p : Pt} {ex : List Value} {l : List Int} {st : Int} {w : World} (h : PB w g T p ex) (m : Mem w R gm l st) : Lft R g gm T p ex l st w w := ⟨h, m, Chg.refl _ _⟩
/-- a cell of the operation was set -/
theorem Lft.set {R : Nat → Prop} {g gm : Nat} {T : TypeId} {p p' : Pt} {ex ex' : List Value} {l : List Int} {st : Int} {w w' : World} (h : Lft R g gm T p ex l st w w') (hg : ¬ R g) (k : Nat) (v : Value) (hp : PB (w'.setCell ⟨g, k, none⟩ v) g T p' ex') :
    Lft R g gm T p' ex' l st w (w'.setCell ⟨g, k, none⟩ v) :=
  ⟨hp, h.mem.chg ((Chg.refl (fun i => i = g) w').set (p := ⟨g, k, none⟩) (.inl rfl) v) (fun i hi he => hg (he ▸ hi)), h.chg.set (p := ⟨g, k, none⟩) (.inl (.inr rfl)) v⟩

section
variable {R : Nat → Prop} {g gm : Nat} {T : TypeId} {p : Pt} {ex : List Value} {l : List Int} {st : Int}

theorem pread (w : World) (h : PB w g T p ex) (m : Mem w R gm l st) (hg : ¬ R g) (i : Int) (hs : 0 ≤ p.steps ∧ p.steps ≤ 100000) (hi : 0 ≤ p.at_ ∧ p.at_ ≤ 100000 ∧ 0 ≤ i ∧ i ≤ 100000) (hl : p.at_ + i < l.length) :
    Calls Tryz.prog 150 #[.pointer (some ⟨g, 0, none⟩), .pointer (some ⟨gm, 0, none⟩), .int .i64 i] w fun e w' => e = .returned (.int .u32 (Op.gd l (p.at_ + i).toNat)) ∧
      Lft R g gm T { p with steps := p.steps + 1 } ex l (wrap64 (st + 1)) w w' := by
  obtain ⟨_, _, _, _, _, c5, _⟩ := h.head
  obtain ⟨_, c16, _⟩ := h.last
  have f16 := h.thaw 16
  have L1 := (Lft.first h m).set hg 16 _ (h.put_steps (p.steps + 1))
  obtain ⟨hs1, hs2⟩ := hs
  obtain ⟨hi1, hi2, hi3, hi4⟩ := hi
  go_enter Tryz.func150, Tryz.ntmps150
  go_wp2_with fail
  refine (read_at _ L1.mem _ (by omega) hl).mono ?_
  rintro e w1 ⟨rfl, m1, s1⟩
  have L2 : Lft R g gm T { p with steps := p.steps + 1 } ex l (wrap64 (st + 1)) w w1 := L1.trans ⟨L1.op.chg s1 hg, m1, s1.weak fun i _ hi => .inl hi⟩
  clear m1 s1 L1
  go_wp2
  go_ret
  exact ⟨rfl, L2⟩

theorem pwrite (w : World) (h : PB w g T p ex) (m : Mem w R gm l st) (hg : ¬ R g) (i u : Int) (hs : 0 ≤ p.steps ∧ p.steps ≤ 100000) (hi : 0 ≤ p.at_ ∧ p.at_ ≤ 100000 ∧ 0 ≤ i ∧ i ≤ 100000) (hl : p.at_ + i < l.length) :
    Calls Tryz.prog 152 #[.pointer (some ⟨g, 0, none⟩), .pointer (some ⟨gm, 0, none⟩), .int .i64 i, .int .u32 u] w fun e w' => e = .returned (.tuple #[]) ∧
      Lft R g gm T { p with steps := p.steps + 1 } ex (l.set (p.at_ + i).toNat u) (wrap64 (st + 1)) w w' := by
  obtain ⟨_, _, _, _, _, c5, _⟩ := h.head
  obtain ⟨_, c16, _⟩ := h.last
  have f16 := h.thaw 16
  have L1 := (Lft.first h m).set hg 16 _ (h.put_steps (p.steps + 1))
  obtain ⟨hs1, hs2⟩ := hs
  obtain ⟨hi1, hi2, hi3, hi4⟩ := hi
  go_enter Tryz.func152, Tryz.ntmps152
  go_wp2_with fail
  refine (write_at _ L1.mem _ u (by omega) hl).mono ?_
  rintro e w1 ⟨rfl, m1, s1⟩
  have L2 : Lft R g gm T { p with steps := p.steps + 1 } ex (l.set (p.at_ + i).toNat u) (wrap64 (st + 1)) w w1 := L1.trans ⟨L1.op.chg s1 hg, m1, s1.weak fun i _ hi => .inl hi⟩
  clear m1 s1 L1
  go_wp2
  go_end0
  exact ⟨rfl, L2⟩

theorem pnext (w : World) (h : PB w g T p ex) (m : Mem w R gm l st) (hg : ¬ R g) (hs : 0 ≤ p.stage ∧ p.stage ≤ 100000) :
    Calls Tryz.prog 151 #[.pointer (some ⟨g, 0, none⟩)] w fun e w' => e = .returned (.tuple #[]) ∧ Lft R g gm T { p with stage := p.stage + 1, turn := 0 } ex l st w w' := by
  obtain ⟨_, _, _, c3, c4, _, _⟩ := h.head
  have f3 := h.thaw 3
  have f4 := h.thaw 4
  have L1 := (Lft.first h m).set hg 3 _ (h.put_stage (p.stage + 1))
  have L2 := L1.set hg 4 _ (L1.op.put_turn 0)
  obtain ⟨hs1, hs2⟩ := hs
  go_enter Tryz.func151, Tryz.ntmps151
  go_wp2
  go_end0
  exact ⟨rfl, L2⟩

theorem pend (w : World) (h : PB w g T p ex) (m : Mem w R gm l st) (hg : ¬ R g) (code : Int) :
    Calls Tryz.prog 156 #[.pointer (some ⟨g, 0, none⟩), .int .i64 code] w fun e w' => e = .returned (.tuple #[]) ∧ Lft R g gm T { p with un := false, code := code } ex l st w w' := by
  obtain ⟨_, _, c17, c18⟩ := h.last
  have f3 := h.thaw 17
  have f4 := h.thaw 18
  have L1 := (Lft.first h m).set hg 17 _ (h.put_un false)
  have L2 := L1.set hg 18 _ (L1.op.put_code code)
  go_enter Tryz.func156, Tryz.ntmps156
  go_wp2
  go_end0
  exact ⟨rfl, L2⟩

theorem prepeat (w : World) (h : PB w g T p ex) (m : Mem w R gm l st) (hg : ¬ R g) (n : Int) (hs : 0 ≤ p.stage ∧ p.stage ≤ 100000) (ht : 0 ≤ p.turn ∧ p.turn ≤ 100000) :
    Calls Tryz.prog 159 #[.pointer (some ⟨g, 0, none⟩), .int .i64 n] w fun e w' => e = .returned (.bool (decide (n ≤ p.turn + 1))) ∧
      Lft R g gm T (if p.turn + 1 < n then { p with turn := p.turn + 1 } else { p with stage := p.stage + 1, turn := 0 }) ex l st w w' := by
  obtain ⟨_, _, _, c3, c4, _, _⟩ := h.head
  have f4 := h.thaw 4
  have L1 := (Lft.first h m).set hg 4 _ (h.put_turn (p.turn + 1))
  obtain ⟨ht1, ht2⟩ := ht
  by_cases hlt : p.turn + 1 < n
  · have e : decide (n ≤ p.turn + 1) = false := by simp; omega
    have E := Lib.hid e
    clear e
    rw [if_pos hlt]
    go_enter Tryz.func159, Tryz.ntmps159
    go_wp2
    go_ret
    exact ⟨ret_bool E.out.symm, L1⟩
  · have e : decide (n ≤ p.turn + 1) = true := by simp; omega
    have E := Lib.hid e
    clear e
    rw [if_neg hlt]
    go_enter Tryz.func159, Tryz.ntmps159
    go_wp2_with fail
    refine (pnext _ L1.op L1.mem hg hs).mono ?_
    rintro e w1 ⟨rfl, L2⟩
    have L3 := L1.trans L2
    go_wp2
    go_ret
    exact ⟨ret_bool E.out.symm, L3⟩
end

end Go.Proofs.YtikjkmomokhanabGreat.Pa
