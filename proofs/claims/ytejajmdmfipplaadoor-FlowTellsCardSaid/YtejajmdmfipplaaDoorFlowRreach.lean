/-

  The document's Reached (layer 10), of a program that may be.
-/
import Derived.Test.YtejajmdmfipplaaDoorFlowReach
import Derived.Test.YtejajmdmfipplaaDoorFlowMay
set_option linter.unusedVariables false
set_option linter.unusedSimpArgs false
set_option linter.unusedSectionVars false
namespace Go.Proofs.YtejajmdmfipplaaDoor.Fw
open Go.ChangeShapes Go.WideShapes Go.ChangeAt Go.RowKit Ws Fp
open Go.Proofs.YtejajmdmfipplaaDoor.Is (Tabs ins rightB leadB)

/-- what is surely reached ahead of the k-th place of a round -/
def lo (p : List Ins) (m a k x : Nat) : Bool := if a = 0 then R p k x else R p m x
structure Mid (p : List Ins) (m a k : Nat) (f : Nat → Bool) : Prop where
  up : ∀ x, x < m → f x = true → R p m x = true
  low : ∀ x, x < m → lo p m a k x = true → f x = true
structure Inn (p : List Ins) (m a k j : Nat) (f : Nat → Bool) : Prop where
  mid : Mid p m a k f
  seen : ∀ x, x < j → x < m → R p k k = true → mayB p k (x : Int) = true → f x = true
/-- a place is told anew -/
def upd (f : Nat → Bool) (j : Nat) (v : Bool) : Nat → Bool := fun x => if x = j then v else f x
theorem mid_start {p : List Ins} {m : Nat} : Mid p m 0 0 (R p 0) := ⟨fun x _ h => R_mono (Nat.zero_le m) h, fun x _ h => by unfold lo at h; rwa [if_pos rfl] at h⟩
theorem mid_round {p : List Ins} {m a : Nat} {f : Nat → Bool} (h : Mid p m a m f) : Mid p m (a + 1) 0 f := by
  refine ⟨h.up, fun x hx hl => h.low x hx ?_⟩
  unfold lo at hl ⊢
  rw [if_neg (by omega)] at hl
  split <;> exact hl
theorem mid_end {p : List Ins} {m a : Nat} {f : Nat → Bool} (h : Mid p m a 0 f) (ha : ¬ a = 0) : BL m f = BL m (R p m) := by
  apply BL_congr
  intro x hx
  rw [Bool.eq_iff_iff]
  exact ⟨h.up x hx, fun hr => h.low x hx (by unfold lo; rw [if_neg ha]; exact hr)⟩
theorem inn_start {p : List Ins} {m a k : Nat} {f : Nat → Bool} (h : Mid p m a k f) : Inn p m a k 0 f := ⟨h, fun x hx => by omega⟩
section
variable {p : List Ins} {m : Nat} (hF : Fine rightI p) (hn : ∀ j, j < p.length → 0 ≤ (Fp.at_ p j).n) (hl : p.length = m)
include hF hn hl
theorem may_in {k x : Nat} (hk : k < m) : mayB p k (x : Int) = true ↔ (x : Int) ∈ nextL p k :=
  may_next p k x (fun h => (hF.lead (by omega) (.inr h)).1)
theorem inn_end {a k : Nat} {f : Nat → Bool} (hk : k < m) (h : Inn p m a k m f) : Mid p m a (k + 1) f := by
  refine ⟨h.mid.up, fun x hx hlo => ?_⟩
  unfold lo at hlo
  by_cases ha : a = 0
  · rw [if_pos ha, R, Bool.or_eq_true, Bool.and_eq_true] at hlo
    rcases hlo with h1 | ⟨h1, h2⟩
    · exact h.mid.low x hx (by unfold lo; rw [if_pos ha]; exact h1)
    · exact h.seen x hx hx h1 ((may_in hF hn hl hk).2 (of_decide_eq_true h2))
  · rw [if_neg ha] at hlo
    exact h.mid.low x hx (by unfold lo; rw [if_neg ha]; exact hlo)
theorem inn_step {a k j : Nat} {f : Nat → Bool} (hk : k < m) (hj : j < m) (h : Inn p m a k j f) {v : Bool} (hv : v = (f j || (f k && mayB p k (j : Int)))) : Inn p m a k (j + 1) (upd f j v) := by
  have keep : ∀ x, f x = true → upd f j v x = true := by
    intro x hx
    unfold upd
    by_cases hxj : x = j
    · rw [if_pos hxj, hv, ← hxj, hx]
      rfl
    · rw [if_neg hxj]
      exact hx
  refine ⟨⟨fun x hx hu => ?_, fun x hx hlo => keep x (h.mid.low x hx hlo)⟩, fun x hx hxm hr hm => ?_⟩
  · unfold upd at hu
    by_cases hxj : x = j
    · rw [if_pos hxj, hv, Bool.or_eq_true, Bool.and_eq_true] at hu
      rcases hu with hu | ⟨h1, h2⟩
      · exact h.mid.up x hx (hxj ▸ hu)
      · have h3 := h.mid.up k hk h1
        have h4 := (may_in hF hn hl hk).1 h2
        have h5 := R_closed hF hn (y := k) (by omega) (by rw [hl]; exact h3) h4
        rw [hl, Int.toNat_natCast] at h5
        rw [hxj]
        exact h5
    · rw [if_neg hxj] at hu
      exact h.mid.up x hx hu
  · by_cases hxj : x = j
    · have hfk : f k = true := h.mid.low k hk (by
        unfold lo
        split
        · exact hr
        · exact R_mono (by omega) hr)
      unfold upd
      rw [if_pos hxj, hv, hfk, ← hxj, hm]
      simp
    · exact keep x (h.seen x (by omega) hxm hr hm)
end

set_option maxRecDepth 100000 in
set_option maxHeartbeats 1000000 in
theorem rreached_any (A : Option Addr) (m c : Nat) (p : List Ins) (w : World) (hl : p.length = m) (hm : m ≤ 5000) (hp : Prg w A p) (hok : okB p = true) :
    Calls Tryd.prog 45 #[.slice A m c] w (Bools w (reachL p)) := by
  have MY := Lib.hid (fun (k t : Nat) (hk : k < m) (ht : t < m) w' (s : Same w w') => rmay_any A m c p k t w' hl hm hk ht (hp.same s))
  have hnn : ∀ j, j < p.length → 0 ≤ (Fp.at_ p j).n := fun j hj => (hp.at_ hj).1.1
  have hF := okB_fine hok
  have hE : reachL p = BL m (R p m) := by unfold reachL; rw [hok, hl]; rfl
  rw [hE]
  have hpos : 0 < m := by have := hF.size; omega
  have ISTEP := Lib.hid (fun (a k j : Nat) (f : Nat → Bool) (v : Bool) (hk : k < m) (hj : j < m) (h : Inn p m a k j f) (hv : v = (f j || (f k && mayB p k (j : Int)))) => inn_step hF hnn hl hk hj h hv)
  have IEND := Lib.hid (fun (a k : Nat) (f : Nat → Bool) (hk : k < m) (h : Inn p m a k m f) => inn_end hF hnn hl hk h)
  clear hok hE hF hnn hl hp
  obtain ⟨i0, hi, hz0, hz1, hz2⟩ := info_parts bool_info
  go_enter Tryd.func45, Tryd.ntmps45
  go_wp2_with fail
  obtain ⟨w2, hrun, ho, hg⟩ := run_make_full (P := Tryd.prog) w w.heap.size 57 4 i0 _ 1 Tryd.underlying57 hi hz0 hz1 .i64 .i64 m (by rw [hz2]; omega) (by unfold maxLen; omega) (Nat.le_refl _)
  rw [hrun]
  clear hrun
  have s2 : Same w w2 := (Chg.of_grown hg).weak fun g _ h => by cases h
  rw [made_BL] at ho
  have HO2 := Lib.hid (show OwnK w2 w.heap.size 4 1 (some ⟨w.heap.size, 0, none⟩) m m (BL m fun _ => false) from ho)
  have HS2 := Lib.hid s2
  have HQ := Lib.hid (show w.heap.size ≤ w.heap.size from Nat.le_refl _)
  clear ho hg s2
  generalize hq : w.heap.size = q at *
  have HQ2 := Lib.hid hq
  clear hq HQ
  have c0 := own_get HO2.out hpos
  have t0 := own_thaw HO2.out 0
  have hpi : (0 : Int) < m := by omega
  have ho3 := own_set HO2.out 0 (.bool true)
  rw [reach_init p m hpos] at ho3
  have HO3 := Lib.hid ho3
  have HS3 := Lib.hid (HS2.out.set (p := ⟨q, 0, none⟩) (.inr (by have := HQ2.out; simp; omega)) (.bool true))
  clear ho3
  go_wp2_with fail
  go_loopg [4] m (fun gk iv wx => ∃ (a : Nat) (f : Nat → Bool), a + gk = m ∧ iv = .int .i64 a ∧ Mid p m a 0 f ∧ OwnK wx q 4 1 (some ⟨q, 0, none⟩) m m (BL m f) ∧ Same w wx)
  case atStart => exact ⟨0, R p 0, by omega, rfl, mid_start, HO3.out, HS3.out⟩
  case round =>
    clear c0 t0 HO2 HS2 HO3 HS3
    obtain ⟨a, f, hk, rfl, hmid, ho, sx⟩ := hrel
    have HM := Lib.hid hmid
    have HO := Lib.hid ho
    have HS := Lib.hid sx
    clear ho sx hmid
    cases gk with
    | zero =>
      obtain rfl : m = a := by omega
      have hge : ¬ (m : Int) < (m : Int) := by omega
      have hb := mid_end HM.out (by omega)
      have ho' := HO.out
      rw [hb] at ho'
      have HO' := Lib.hid ho'
      clear hb ho'
      go_wp2_with fail
      go_ret
      exact bools_mk (BL_len _ _).symm HO'.out.row HS.out
    | succ GA =>
      have hlta : (a : Int) < m := by omega
      go_wp2_with fail
      go_loopg [20] m (fun gk iv wx => ∃ (k : Nat) (f : Nat → Bool), k + gk = m ∧ iv = .int .i64 k ∧ Mid p m a k f ∧ OwnK wx q 4 1 (some ⟨q, 0, none⟩) m m (BL m f) ∧ Same w wx)
      case atStart => exact ⟨0, f, by omega, rfl, HM.out, HO.out, HS.out⟩
      case round =>
        clear HM HO HS
        obtain ⟨k, f, hk, rfl, hmid, ho, sx⟩ := hrel
        have HM := Lib.hid hmid
        have HO := Lib.hid ho
        have HS := Lib.hid sx
        clear ho sx hmid
        cases gk with
        | zero =>
          obtain rfl : m = k := by omega
          have hge : ¬ (m : Int) < (m : Int) := by omega
          go_wp2_with fail
          go_roundg GA
          case rel => exact ⟨a + 1, f, by omega, by go_num, mid_round HM.out, HO.out, HS.out⟩
          case measure => omega
        | succ GB =>
          have hltk : (k : Int) < m := by omega
          have hk0 : (0 : Int) ≤ k := by omega
          have hkm : k < m := by omega
          go_wp2_with fail
          go_loopg [25] m (fun gk iv wx => ∃ (j : Nat) (f : Nat → Bool), j + gk = m ∧ iv = .int .i64 j ∧ Inn p m a k j f ∧ OwnK wx q 4 1 (some ⟨q, 0, none⟩) m m (BL m f) ∧ Same w wx)
          case atStart => exact ⟨0, f, by omega, rfl, inn_start HM.out, HO.out, HS.out⟩
          case round =>
            clear HM HO HS
            obtain ⟨j, f, hj, rfl, hinn, ho, sx⟩ := hrel
            have HI := Lib.hid hinn
            have HO := Lib.hid ho
            have HS := Lib.hid sx
            clear ho sx hinn
            cases gk with
            | zero =>
              obtain rfl : m = j := by omega
              have hge : ¬ (m : Int) < (m : Int) := by omega
              go_wp2_with fail
              go_roundg GB
              case rel => exact ⟨k + 1, f, by omega, by go_num, IEND.out a k f hkm HI.out, HO.out, HS.out⟩
              case measure => omega
            | succ GC =>
              have hltj : (j : Int) < m := by omega
              have hj0 : (0 : Int) ≤ j := by omega
              have hjm : j < m := by omega
              have IST := Lib.hid (fun v hv => ISTEP.out a k j f v hkm hjm HI.out hv)
              have MYK := Lib.hid (MY.out k j hkm hjm)
              have cj := own_get HO.out hjm
              have ck := own_get HO.out hkm
              have tj := own_thaw HO.out j
              have SET := Lib.hid (fun v => own_set HO.out j (.bool v))
              have HSS := Lib.hid (fun v : Bool => HS.out.set (p := ⟨q, j, none⟩) (.inr (by have := HQ2.out; simp; omega)) (.bool v))
              cases hfj : f j
              · rw [hfj] at cj IST
                cases hfk : f k
                · rw [hfk] at ck IST
                  have ho6 := SET.out false
                  rw [BL_set _ _ hjm] at ho6
                  have HO6 := Lib.hid ho6
                  have HI6 := Lib.hid (IST.out false (by simp))
                  have HS6 := Lib.hid (HSS.out false)
                  clear ho6
                  go_wp2_with fail
                  go_roundg GC
                  case rel => exact ⟨j + 1, _, by omega, by go_num, HI6.out, HO6.out, HS6.out⟩
                  case measure => omega
                · rw [hfk] at ck IST
                  clear SET HSS
                  have HFK := Lib.hid (show Hid (f k = true) from Lib.hid hfk)
                  go_wp2_with fail
                  refine (MYK.out _ HS.out).mono ?_
                  rintro e w5 ⟨rfl, s5⟩
                  have HO5 := Lib.hid (HO.out.same s5)
                  have HS5 := Lib.hid (HS.out.trans s5)
                  have cj5 := own_get HO5.out hjm
                  rw [hfj] at cj5
                  have tj5 := own_thaw HO5.out j
                  have SET := Lib.hid (fun v => own_set HO5.out j (.bool v))
                  have HSS := Lib.hid (fun v : Bool => HS5.out.set (p := ⟨q, j, none⟩) (.inr (by have := HQ2.out; simp; omega)) (.bool v))
                  clear s5 cj ck tj
                  generalize mayB p k (j : Int) = v at *
                  have ho6 := SET.out v
                  rw [BL_set _ _ hjm] at ho6
                  have HO6 := Lib.hid ho6
                  have HI6 := Lib.hid (IST.out v (by simp))
                  have HS6 := Lib.hid (HSS.out v)
                  clear ho6
                  go_wp2_with fail
                  go_roundg GC
                  case rel => exact ⟨j + 1, _, by omega, by go_num, HI6.out, HO6.out, HS6.out⟩
                  case measure => omega
              · rw [hfj] at cj IST
                have ho6 := SET.out true
                rw [BL_set _ _ hjm] at ho6
                have HO6 := Lib.hid ho6
                have HI6 := Lib.hid (IST.out true (by simp))
                have HS6 := Lib.hid (HSS.out true)
                clear ho6
                go_wp2_with fail
                go_roundg GC
                case rel => exact ⟨j + 1, _, by omega, by go_num, HI6.out, HO6.out, HS6.out⟩
                case measure => omega

end Go.Proofs.YtejajmdmfipplaaDoor.Fw
