/-
  Layer 33: the next number of so many bytes, by the document (In.num).
-/
import Derived.Test.YtfpefkpbiioofabImgDec
import Derived.Test.YtfpefkpbiioofabImgTrip
set_option linter.unusedVariables false
set_option linter.unusedSimpArgs false
namespace Go.Proofs.Ytfpefkpbiioofab.Im
open Go.ChangeShapes Go.WideShapes Go.ChangeAt Go.RowKit Ws Cd

/-- the document's reader, in block g -/
def RIn (w : World) (g : Nat) (A : Option Addr) (n c : Nat) (r : Rs) : Prop := Blk w g 45 #[.slice A n c, .int .i64 r.k, .bool r.bad]
theorem stay_u {l : List Int} {n : Nat} {r : Rs} (h : r.bad = true) : rU l n r = (0, r) := by
  unfold rU tld aft
  obtain ⟨k, bad⟩ := r
  simp only at h
  subst h
  simp
theorem last_nu {l : List Int} {k m j : Nat} {x : Int} (hx : l[k + (m - 1 - j)]? = some x) (hj : j < m) : nu ((l.drop (k + (m - (j + 1)))).take (j + 1)) = 256 * nu ((l.drop (k + (m - j))).take j) + x := by
  have e : l.drop (k + (m - (j + 1))) = x :: l.drop (k + (m - j)) := by
    rw [show k + (m - (j + 1)) = k + (m - 1 - j) by omega]
    rw [List.drop_eq_getElem_cons (by
      rcases Nat.lt_or_ge (k + (m - 1 - j)) l.length with h | h
      · exact h
      · rw [List.getElem?_eq_none h] at hx; cases hx)]
    rw [List.getElem?_eq_getElem (by
      rcases Nat.lt_or_ge (k + (m - 1 - j)) l.length with h | h
      · exact h
      · rw [List.getElem?_eq_none h] at hx; cases hx)] at hx
    injection hx with hx
    rw [hx, show k + (m - 1 - j) + 1 = k + (m - j) by omega]
  rw [e, List.take_succ_cons]
  show x + 256 * nu _ = _
  omega
set_option maxRecDepth 100000 in
set_option maxHeartbeats 2000000 in
theorem rnum_any {l : List Int} (A : Option Addr) (n c g m : Nat) (r : Rs) (w : World) (hl : l.length = n) (hn : n ≤ 65536) (hb : By l) (hr : Row w A (by8 l)) (hg : RIn w g A n c r) (hk : r.k ≤ n) (hm : 1 ≤ m ∧ m ≤ 4) :
    Calls Try.prog 18 #[.pointer (some ⟨g, 0, none⟩), .int .i64 m] w fun e w' => e = .returned (.int .i64 (rU l m r).1) ∧ RIn w' g A n c (rU l m r).2 ∧ Chg (fun i => i = g) w w' := by
  obtain ⟨k, bad⟩ := r
  simp only at hk
  have HG := Lib.hid hg
  have a0 : w.cell? ⟨g, 0, none⟩ = some (.slice A n c) := hg.cell 0
  have a1 : w.cell? ⟨g, 1, none⟩ = some (.int .i64 k) := hg.cell 1
  have a2 : w.cell? ⟨g, 2, none⟩ = some (.bool bad) := hg.cell 2
  have t1 : w.frozen? ⟨g, 1, none⟩ = false := hg.thaw 1
  have t2 : w.frozen? ⟨g, 2, none⟩ = false := hg.thaw 2
  have HR := Lib.hid hr
  have HBY := Lib.hid hb
  have HL := Lib.hid hl
  have hx : IntKind.i64.wrap ((n : Int) - k) = n - k := Go.IntWalk.i64_in _ (by omega)
  clear hg hr hb hl
  cases bad with
  | true =>
    rw [stay_u rfl]
    have P2 := Lib.hid (fun NQ => (show RIn ((w.drewN NQ).setCell ⟨g, 2, none⟩ (.bool true)) g A n c ⟨k, true⟩ ∧ Chg (fun i => i = g) w ((w.drewN NQ).setCell ⟨g, 2, none⟩ (.bool true)) from ⟨by
      have h : Blk (w.drewN NQ) g 45 #[.slice A n c, .int .i64 k, .bool true] := HG.out
      simpa [RIn] using h.put 2 (.bool true), ((Chg.refl (fun i => i = g) w).drewN NQ).set (p := ⟨g, 2, none⟩) (.inl rfl) _⟩))
    go_enter Try.func18, Try.ntmps18
    go_wp2_with fail
    go_quiet (fail)
    have a2' : (w.drewN nq).cell? ⟨g, 2, none⟩ = some (.bool true) := a2
    have t2' : (w.drewN nq).frozen? ⟨g, 2, none⟩ = false := t2
    go_wp2_with fail
    go_ret
    exact ⟨rfl, (P2.out nq).1, (P2.out nq).2⟩
  | false =>
    by_cases hroom : (n : Int) - k < m
    · have HU := Lib.hid (show rU l m ⟨k, false⟩ = (0, ⟨k, true⟩) by
        unfold rU tld aft
        rw [if_neg (fun h => by have := h.2; simp only at this; have := HL.out; omega), if_neg (fun h => by have := h.2; simp only at this; have := HL.out; omega)])
      rw [HU.out]
      have P2 := Lib.hid (fun NQ => (show RIn ((w.drewN NQ).setCell ⟨g, 2, none⟩ (.bool true)) g A n c ⟨k, true⟩ ∧ Chg (fun i => i = g) w ((w.drewN NQ).setCell ⟨g, 2, none⟩ (.bool true)) from ⟨by
        have h : Blk (w.drewN NQ) g 45 #[.slice A n c, .int .i64 k, .bool false] := HG.out
        simpa [RIn] using h.put 2 (.bool true), ((Chg.refl (fun i => i = g) w).drewN NQ).set (p := ⟨g, 2, none⟩) (.inl rfl) _⟩))
      go_enter Try.func18, Try.ntmps18
      go_wp2_with fail
      go_quiet (fail)
      have a2' : (w.drewN nq).cell? ⟨g, 2, none⟩ = some (.bool false) := a2
      have t2' : (w.drewN nq).frozen? ⟨g, 2, none⟩ = false := t2
      go_wp2_with fail
      go_ret
      exact ⟨rfl, (P2.out nq).1, (P2.out nq).2⟩
    · have HU := Lib.hid (show rU l m ⟨k, false⟩ = (nu ((l.drop k).take m), ⟨k + m, false⟩) by
        unfold rU tld aft
        rw [if_pos ⟨rfl, by simp only; have := HL.out; omega⟩, if_pos ⟨rfl, by simp only; have := HL.out; omega⟩])
      rw [HU.out]
      obtain ⟨b, o, hAb⟩ : ∃ b o, A = some ⟨b, o, none⟩ := Row.addr HR.out (by rw [by8_len]; have := HL.out; omega)
      subst hAb
      have hm1 : IntKind.i64.wrap ((m : Int) - 1) = m - 1 := Go.IntWalk.i64_in _ (by omega)
      go_enter Try.func18, Try.ntmps18
      go_wp2_with fail
      go_quiet (fail)
      go_wp2_with fail
      clear hm1
      go_loopg [6, 5] m (fun gk iv sv wx => ∃ (j q : Nat), j + gk = m ∧ iv = .int .i64 ((m : Int) - 1 - j) ∧ sv = .int .i64 (nu ((l.drop (k + (m - j))).take j)) ∧ wx = w.drewN q)
      case atStart => exact ⟨0, nq, by omega, by simp, by simp [nu], rfl⟩
      case round =>
        obtain ⟨j, q, hj, rfl, rfl, rfl⟩ := hrel
        have hbd := nu_bd ((l.drop (k + (m - j))).take j) (fun y hy => HBY.out y (List.mem_of_mem_drop (List.mem_of_mem_take hy)))
        have hlen : ((l.drop (k + (m - j))).take j).length = j := by rw [List.length_take, List.length_drop]; have := HL.out; omega
        rw [hlen] at hbd
        have hp4 : (256 : Int) ^ j ≤ 4294967296 := by
          rcases (by omega : j = 0 ∨ j = 1 ∨ j = 2 ∨ j = 3 ∨ j = 4) with rfl | rfl | rfl | rfl | rfl <;> decide
        have a0' : (w.drewN q).cell? ⟨g, 0, none⟩ = some (.slice (some ⟨b, o, none⟩) n c) := a0
        have a1' : (w.drewN q).cell? ⟨g, 1, none⟩ = some (.int .i64 k) := a1
        have t1' : (w.drewN q).frozen? ⟨g, 1, none⟩ = false := t1
        cases gk with
        | zero =>
          obtain rfl : j = m := by omega
          rw [Nat.sub_self, Nat.add_zero] at hbd ⊢
          generalize hv : nu ((l.drop k).take j) = v at *
          have HV := Lib.hid hv
          clear hv
          have hge : ¬ (j : Int) - 1 - j ≥ 0 := by omega
          have hw : IntKind.i64.wrap ((k : Int) + j) = ((k + j : Nat) : Int) := by rw [Go.IntWalk.i64_in _ (by omega)]; omega
          have P1 := Lib.hid (show RIn ((w.drewN q).setCell ⟨g, 1, none⟩ (.int .i64 ((k + j : Nat) : Int))) g (some ⟨b, o, none⟩) n c ⟨k + j, false⟩ ∧ Chg (fun i => i = g) w ((w.drewN q).setCell ⟨g, 1, none⟩ (.int .i64 ((k + j : Nat) : Int))) from ⟨by
            have h : Blk (w.drewN q) g 45 #[.slice (some ⟨b, o, none⟩) n c, .int .i64 k, .bool false] := HG.out
            simpa [RIn] using h.put 1 (.int .i64 ((k + j : Nat) : Int)), ((Chg.refl (fun i => i = g) w).drewN q).set (p := ⟨g, 1, none⟩) (.inl rfl) _⟩)
          go_wp2_with fail
          go_ret
          exact ⟨by rw [HV.out]; rfl, P1.out.1, P1.out.2⟩
        | succ GK =>
          have hge : (m : Int) - 1 - j ≥ 0 := by omega
          obtain ⟨x, hx2⟩ : ∃ x, l[k + (m - 1 - j)]? = some x := ⟨_, List.getElem?_eq_getElem (by have := HL.out; omega)⟩
          have hx8 := HBY.out x (List.mem_of_getElem? hx2)
          obtain ⟨b2, o2, hA2, hc⟩ := HR.out (k + (m - 1 - j)) (.int .u8 x) (by unfold by8; rw [List.getElem?_map, hx2]; rfl)
          injection hA2 with hA2
          injection hA2 with e1 e2
          subst e1 e2
          have HN := Lib.hid (last_nu hx2 (by omega))
          clear hx2
          generalize nu ((l.drop (k + (m - j))).take j) = v at *
          have hidx : IntKind.i64.wrap ((k : Int) + ((m : Int) - 1 - j)) = ((k + (m - 1 - j) : Nat) : Int) := by rw [Go.IntWalk.i64_in _ (by omega)]; omega
          have hi0 : (0 : Int) ≤ ((k + (m - 1 - j) : Nat) : Int) := by omega
          have hi1 : ((k + (m - 1 - j) : Nat) : Int) < n := by omega
          have hc' : (w.drewN q).cell? ⟨b, o + (k + (m - 1 - j)), none⟩ = some (.int .u8 x) := hc
          go_wp2_with fail
          go_quiet (fail)
          go_wp2_with fail
          go_roundg GK
          case measure => omega
          case rel =>
            refine ⟨j + 1, q + nq, by omega, ?_, by rw [HN.out], by simp⟩
            congr 1
            omega
end Go.Proofs.Ytfpefkpbiioofab.Im
