/-
  The walk of the law MemClones: it returns true whatever the words, the place and the word are.
-/
import Derived.Test.YtogaolnnkjkgdabMemMore
namespace Go.Proofs.Ytogaolnnkjkgdab.Mm
open Go.ChangeShapes Go.WideShapes Go.ChangeAt Go.RowKit Ws

/-- a slice of integers that came in, as the shell of the proof hands it over -/
def Came (k : IntKind) (w : World) (a : Option Addr) (len cap : Nat) (zs : List Int) : Prop :=
  (a = none ∧ len = 0 ∧ cap = 0 ∧ zs = []) ∨
  ∃ x, a = some x ∧ len ≤ cap ∧ cap ≤ maxLen ∧ zs.length = cap ∧ (∀ i, i < zs.length → w.cell? (x.add i) = some (.int k (zs.getD i 0))) ∧ ∀ n ∈ zs, (Lit.int k n).wf = true

theorem came_row {k : IntKind} {w : World} {a : Option Addr} {len cap : Nat} {zs : List Int} (h : Came k w a len cap zs) :
    ∃ l : List Int, l.length = len ∧ Row w a (l.map (Value.int k)) ∧ len ≤ 9223372036854775807 := by
  rcases h with ⟨rfl, rfl, rfl, rfl⟩ | ⟨x, rfl, h1, h2, h3, h4, _⟩
  · exact ⟨[], rfl, Row.nil _ _, by omega⟩
  · refine ⟨zs.take len, by rw [List.length_take]; omega, ?_, by unfold maxLen at h2; omega⟩
    intro j u hj
    rw [List.getElem?_map, List.getElem?_take] at hj
    by_cases hlt : j < len
    · rw [if_pos hlt, List.getElem?_eq_getElem (by omega)] at hj
      simp at hj
      have hc := h4 j (by omega)
      obtain ⟨b, o, spot⟩ := x
      have hc0 := h4 0 (by omega)
      have hs : spot = none := by simpa [Addr.add] using World.cell?_spot hc0
      subst hs
      refine ⟨b, o, rfl, ?_⟩
      rw [← hj]
      have e : zs.getD j 0 = zs[j]'(by omega) := by simp [List.getD, List.getElem?_eq_getElem (show j < zs.length by omega)]
      rw [e] at hc
      cases j with
      | zero => simpa [Addr.add] using hc
      | succ j => simpa [Addr.add] using hc
    · rw [if_neg hlt] at hj
      cases hj

theorem write_any {R : Nat → Prop} {g : Nat} {l : List Int} {s : Int} (w : World) (h : Mem w R g l s) (a u : Int) :
    Calls Try.prog 23 #[.pointer (some ⟨g, 0, none⟩), .int .i64 a, .int .u32 u] w fun e w' => ∃ r l' s', e = .returned (.int .i64 r) ∧ Mem w' R g l' s' ∧ l'.length = l.length ∧ Chg R w w' := by
  by_cases ha : a < 0 ∨ (l.length : Int) ≤ a
  · exact (write_out w h a ha u).mono fun e w' ⟨he, hs⟩ => ⟨_, l, s, he, h.same hs, rfl, hs.chg R⟩
  · obtain ⟨j, rfl⟩ := Int.eq_ofNat_of_zero_le (show 0 ≤ a by omega)
    exact (write_in w h j (by omega) u).mono fun e w' ⟨he, hm, hc⟩ => ⟨_, _, _, he, hm, by simp, hc⟩

theorem nil_len (w : World) : Calls Try.prog 30 #[.pointer none] w fun e w' => e = .returned (.int .i64 0) ∧ w = w' := by
  go_enter Try.func30, Try.ntmps30
  go_wp2
  go_ret
  exact ⟨rfl, rfl⟩
theorem nil_steps (w : World) : Calls Try.prog 25 #[.pointer none] w fun e w' => e = .returned (.int .i64 0) ∧ w = w' := by
  go_enter Try.func25, Try.ntmps25
  go_wp2
  go_ret
  exact ⟨rfl, rfl⟩
theorem nil_clone (w : World) : Calls Try.prog 22 #[.pointer none] w fun e w' => e = .returned (.pointer none) ∧ w = w' := by
  go_enter Try.func22, Try.ntmps22
  go_wp2
  go_ret
  exact ⟨rfl, rfl⟩

theorem clones_big (A : Option Addr) (n c : Nat) (a u : Int) (w : World) (hn : 200 < n) :
    Calls Try.prog 6 #[.slice A n c, .int .i64 a, .int .u32 u] w fun e w' => e = .returned (.bool true) ∧ Same w w' := by
  have h1 : (200 : Int) < (n : Int) := by omega
  go_enter Try.func6, Try.ntmps6
  go_wp2_with (go_at_call 19; refine (mawake _).mono ?_; rintro e w1 ⟨rfl, s1⟩)
  go_ret
  exact ⟨rfl, s1⟩

set_option maxRecDepth 100000 in
theorem clones_small (A : Option Addr) (n c : Nat) (l : List Int) (a u : Int) (w : World) (hl : l.length = n) (hr : Row w A (l.map (Value.int .u32))) (hn : n ≤ 200) :
    Calls Try.prog 6 #[.slice A n c, .int .i64 a, .int .u32 u] w fun e w' => e = .returned (.bool true) ∧ Same w w' := by
  have h1 : ¬ (200 : Int) < (n : Int) := by omega
  have HL := Lib.hid hl
  clear hl
  go_enter Try.func6, Try.ntmps6
  go_wp2_with fail
  refine (mawake _).mono ?_
  rintro e w1 ⟨rfl, s1⟩
  go_wp2_with fail
  refine (new_any n (by omega) _).mono ?_
  rintro e w2 ⟨rfl, s2, m2⟩
  have t2 := s1.trans s2
  have g0 := s1.size
  generalize w1.heap.size + 1 = g at *
  go_wp2_with fail
  refine (fill_all w2 m2 (by simp) A c l HL.out (hr.same t2)).mono ?_
  rintro e w3 ⟨rfl, m3, c3⟩
  have t3 : Same w w3 := t2.more c3 fun i hi => Nat.le_trans g0 hi
  go_wp2_with fail
  refine (mclone_any w3 m3 HL.out).mono ?_
  rintro e w4 ⟨g', rfl, s4, m4⟩
  have t4 := t3.trans s4
  have k4 := (m3.within).same s4
  go_wp2_with fail
  refine (write_any w4 k4 a u).mono ?_
  rintro e w5 ⟨r, l', s', rfl, m5, hl5, c5⟩
  have t5 : Same w w5 := t4.more c5 fun i hi => Nat.le_trans g0 hi.1
  have k5 : Mem w5 _ g' l 0 := m4.chg c5 fun i hi hh => by have := hh.2; omega
  go_wp2_with fail
  refine (same_all w5 k5 A n c HL.out (hr.same t5)).mono ?_
  rintro e w6 ⟨rfl, s6⟩
  have t6 := t5.trans s6
  go_wp2_with fail
  refine (steps_any _ (k5.same s6)).mono ?_
  rintro e w7 ⟨rfl, rfl⟩
  have HL5 : Hid (l'.length = n) := hl5.trans HL.out
  clear hl5
  go_wp2_with fail
  refine (look_all _ (m5.same s6) HL5.out).mono ?_
  rintro e w8 ⟨ga, ca, rfl, s8, oa⟩
  have t8 := t6.trans s8
  have k8 := ((k5.same s6).within).same s8
  have m8 := ((m5.same s6).same s8)
  go_wp2_with fail
  refine (write_any _ k8 a _).mono ?_
  rintro e w9 ⟨r9, l9, s9', rfl, m9, hl9, c9⟩
  clear hl9
  have u6 := s6.size
  have u8 := s8.size
  have t9 : Same w w9 := t8.more c9 fun i hi => by
    have := t3.size
    have := hi.1
    omega
  have oa9 := oa.chg c9 fun i hi hh => by
    have := (own_lt oa).1
    have := hh.2
    injection hi with hi
    injection hi with hi
    omega
  have k9 := m8.chg c9 fun i hi hh => by
    have := hi.2
    have := hh.1
    omega
  clear m9 c9
  go_wp2_with fail
  refine (look_all _ k9 HL5.out).mono ?_
  rintro e w10 ⟨gb, cb, rfl, s10, ob⟩
  have t10 := t9.trans s10
  have oa10 := oa9.same s10
  go_wp2_with fail
  refine (nil_read _ _).mono ?_
  rintro e w11 ⟨rfl, s11⟩
  go_wp2_with fail
  refine (nil_cas _ _ _ _).mono ?_
  rintro e w12 ⟨rfl, s12⟩
  go_wp2_with fail
  refine (nil_look _ _ _).mono ?_
  rintro e w13 ⟨rfl, s13⟩
  have v13 := (s11.trans s12).trans s13
  go_wp2_with fail
  refine (words_eq _ _ n n _ _ l' l' w13 HL5.out HL5.out (oa10.row.same v13) (ob.row.same v13) (by omega) (by omega)).mono ?_
  rintro e w14 ⟨rfl, q, rfl⟩
  have t14 := (t10.trans v13).drewN q
  go_wp2_with fail
  refine (nil_len _).mono ?_
  rintro e w15 ⟨rfl, rfl⟩
  go_wp2_with fail
  refine (nil_steps _).mono ?_
  rintro e w16 ⟨rfl, rfl⟩
  go_wp2_with fail
  refine (nil_clone _).mono ?_
  rintro e w17 ⟨rfl, rfl⟩
  go_wp2_with fail
  refine (nil_write _ _ _).mono ?_
  rintro e w18 ⟨rfl, s18⟩
  go_wp2_with fail
  refine (nil_fill _ _ _ _ _).mono ?_
  rintro e w19 ⟨rfl, s19⟩
  go_wp2
  go_ret
  exact ⟨rfl, (t14.trans s18).trans s19⟩

theorem clones_walk (A : Option Addr) (n c : Nat) (zs : List Int) (a u : Int) (w : World) (h : Came .u32 w A n c zs) :
    Calls Try.prog 6 #[.slice A n c, .int .i64 a, .int .u32 u] w fun e w' => e = .returned (.bool true) ∧ Below w.heap.size w w' := by
  obtain ⟨l, hl, hr, _⟩ := came_row h
  by_cases hn : n ≤ 200
  · exact (clones_small A n c l a u w hl hr hn).mono fun e w' ⟨he, hs⟩ => ⟨he, hs.below⟩
  · exact (clones_big A n c a u w (by omega)).mono fun e w' ⟨he, hs⟩ => ⟨he, hs.below⟩

end Go.Proofs.Ytogaolnnkjkgdab.Mm
