/-

  The contracts of the methods of an operation's part (package operation): May where there is none, Over, Steps, Answer.
-/
import Derived.Test.YtikjkmomokhanabGreatPartRec
set_option linter.unusedSimpArgs false
set_option linter.unusedVariables false
namespace Go.Proofs.YtikjkmomokhanabGreat.Pa
open Go.ChangeShapes Go.WideShapes Go.ChangeAt Go.RowKit Ws Mm

section
variable {R : Nat → Prop} {g gm : Nat} {T : TypeId} {p : Pt} {ex : List Value} {l : List Int} {st : Int}

theorem pmay_no (w : World) (h : PB w g T p ex) (m : Option Addr) (hun : p.un = false) :
    Calls Tryz.prog 145 #[.pointer (some ⟨g, 0, none⟩), .pointer m] w fun e w' => e = .returned (.bool false) ∧ Same w w' := by
  obtain ⟨_, _, c17, _⟩ := h.last
  rw [hun] at c17
  clear hun
  go_enter Tryz.func145, Tryz.ntmps145
  go_wp2_with fail
  go_quiet (fail)
  go_wp2
  go_ret
  exact ⟨rfl, (Same.refl _).drewN _⟩

theorem pover (w : World) (h : PB w g T p ex) : Calls Tryz.prog 144 #[.pointer (some ⟨g, 0, none⟩)] w fun e w' => e = .returned (.bool (!p.un)) ∧ w = w' := by
  obtain ⟨_, _, c17, _⟩ := h.last
  go_enter Tryz.func144, Tryz.ntmps144
  go_wp2
  go_ret
  exact ⟨rfl, rfl⟩
theorem pover_nil (w : World) : Calls Tryz.prog 144 #[.pointer none] w fun e w' => e = .returned (.bool true) ∧ w = w' := by
  go_enter Tryz.func144, Tryz.ntmps144
  go_wp2
  go_ret
  exact ⟨rfl, rfl⟩
theorem psteps (w : World) (h : PB w g T p ex) : Calls Tryz.prog 148 #[.pointer (some ⟨g, 0, none⟩)] w fun e w' => e = .returned (.int .i64 p.steps) ∧ w = w' := by
  obtain ⟨_, c16, _, _⟩ := h.last
  go_enter Tryz.func148, Tryz.ntmps148
  go_wp2
  go_ret
  exact ⟨rfl, rfl⟩
theorem psteps_nil (w : World) : Calls Tryz.prog 148 #[.pointer none] w fun e w' => e = .returned (.int .i64 0) ∧ w = w' := by
  go_enter Tryz.func148, Tryz.ntmps148
  go_wp2
  go_ret
  exact ⟨rfl, rfl⟩

/-- what is answered: a record, and how it ended -/
def Says (r : List Int) (k : Int) (w : World) (e : Ending) (w' : World) : Prop :=
  ∃ A n c, e = .returned (.tuple #[.slice A n c, .int .i64 k]) ∧ Row w' A (r.map (Value.int .u32)) ∧ r.length = n ∧ Same w w'

theorem panswer_nil (w : World) : Calls Tryz.prog 143 #[.pointer none] w (Says [] 0 w) := by
  go_enter Tryz.func143, Tryz.ntmps143
  go_wp2
  go_ret2
  exact ⟨_, _, _, rfl, Row.nil _ _, rfl, Same.refl _⟩
theorem panswer_way (w : World) (h : PB w g T p ex) (hun : p.un = true) : Calls Tryz.prog 143 #[.pointer (some ⟨g, 0, none⟩)] w (Says [] 0 w) := by
  obtain ⟨_, _, c17, _⟩ := h.last
  rw [hun] at c17
  clear hun
  go_enter Tryz.func143, Tryz.ntmps143
  go_wp2
  go_ret2
  exact ⟨_, _, _, rfl, Row.nil _ _, rfl, Same.refl _⟩
theorem panswer_wr (w : World) (h : PB w g T p ex) (hun : p.un = false) (hrd : p.rd = false) : Calls Tryz.prog 143 #[.pointer (some ⟨g, 0, none⟩)] w (Says [] p.code w) := by
  obtain ⟨c0, _⟩ := h.head
  obtain ⟨_, _, c17, c18⟩ := h.last
  rw [hun] at c17
  rw [hrd] at c0
  clear hun hrd
  go_enter Tryz.func143, Tryz.ntmps143
  go_wp2_with fail
  go_quiet (fail)
  go_wp2
  go_ret2
  exact ⟨_, _, _, rfl, Row.nil _ _, rfl, (Same.refl _).drewN _⟩
theorem panswer_bad (w : World) (h : PB w g T p ex) (hun : p.un = false) (hrd : p.rd = true) (hc : (p.code != 0) = true) : Calls Tryz.prog 143 #[.pointer (some ⟨g, 0, none⟩)] w (Says [] p.code w) := by
  obtain ⟨c0, _⟩ := h.head
  obtain ⟨_, _, c17, c18⟩ := h.last
  rw [hun] at c17
  rw [hrd] at c0
  clear hun hrd
  go_enter Tryz.func143, Tryz.ntmps143
  go_wp2_with fail
  go_quiet (fail)
  go_wp2
  go_ret2
  exact ⟨_, _, _, rfl, Row.nil _ _, rfl, (Same.refl _).drewN _⟩
theorem panswer_good (w : World) (h : PB w g T p ex) (hun : p.un = false) (hrd : p.rd = true) (hc : p.code = 0) (n : Nat) (hw : p.width = (n : Int)) (hn : n ≤ 8) :
    Calls Tryz.prog 143 #[.pointer (some ⟨g, 0, none⟩)] w (Says (p.rc.take n) 0 w) := by
  obtain ⟨c0, _, c2, _⟩ := h.head
  obtain ⟨_, _, c17, c18⟩ := h.last
  rw [hun] at c17
  rw [hrd] at c0
  rw [hc] at c18
  rw [hw] at c2
  have hr : Row w (some ⟨g, 7, none⟩) ((p.rc.take n).map (Value.int .u32)) := by
    intro j u hj
    rw [List.getElem?_map, List.getElem?_take] at hj
    split at hj
    · rename_i hlt
      have h8 := h.1
      have := h.rec_ j (by omega)
      unfold Op.gd at this
      rw [List.getElem?_eq_getElem (by omega)] at hj
      rw [List.getD_eq_getElem?_getD, List.getElem?_eq_getElem (by omega)] at this
      simp at hj
      subst hj
      exact ⟨g, 7, rfl, this⟩
    · cases hj
  have hlen : (p.rc.take n).length = n := by rw [List.length_take, h.1]; omega
  have HL := Lib.hid hlen
  clear hun hrd hc hw hlen
  have b1 : (0 : Int) ≤ n := by omega
  have b2 : (n : Int) ≤ 8 := by omega
  have s0 : Same w w := Same.refl w
  go_enter Tryz.func143, Tryz.ntmps143
  go_wp2_with fail
  have f5 : ((n : Int)).toNat = n := Int.toNat_natCast n
  go_region_held3 (fun w' => w'.cell? ⟨g, 2, none⟩ = some (.int .i64 n) ∧ w'.cell? ⟨g, 18, none⟩ = some (.int .i64 0) ∧ Row w' (some ⟨g, 7, none⟩) ((p.rc.take n).map (Value.int .u32)) ∧ Same w w')
    (first | assumption | exact ⟨c2, c18, hr.drew, s0.drew⟩ | (rcases ‹_ ∧ _ ∧ _ ∧ Same _ _› with ⟨x1, x2, x3, x4⟩; exact ⟨hx.cell x1, hx.cell x2, x3.same hx, x4.trans hx⟩))
    (first | (go_at_call 109; refine (clone_words _ n _ _ _ (by rcases ‹_ ∧ _ ∧ _ ∧ Same _ _› with ⟨x1, x2, x3, x4⟩; exact x3) HL.out (by omega)).mono ?_; rintro e w' ⟨g', c', rfl, hx, ho⟩))
  rcases ‹_ ∧ _ ∧ _ ∧ Same _ _› with ⟨_, _, _, x4⟩
  have HO := Lib.hid ho.row
  clear ho
  go_wp2
  go_ret2
  exact ⟨_, _, _, rfl, HO.out, HL.out, x4⟩
end

end Go.Proofs.YtikjkmomokhanabGreat.Pa
