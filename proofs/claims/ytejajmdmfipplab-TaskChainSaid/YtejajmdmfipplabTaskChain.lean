/-

  TaskChain: of two tasks just one goes ahead of the other one; and who goes ahead, goes ahead of what that one goes ahead of.
-/
import Derived.Test.YtejajmdmfipplabTaskBase
set_option linter.unusedVariables false
set_option linter.unusedSimpArgs false
namespace Go.Proofs.Ytejajmdmfipplab.Tk
open Go.ChangeShapes Go.WideShapes Go.ChangeAt Go.RowKit Ws
open Go.Proofs.Ytejajmdmfipplab.Wd (ret_bool ret_int)

theorem ahead_self (ts : List Task) (a : Nat) : aheadB ts a a = false := by simp [aheadB]
theorem ahead_one (ts : List Task) (a b : Nat) (h : a ≠ b) : aheadB ts b a = !aheadB ts a b := by
  unfold aheadB
  generalize (at_ ts a).prio = x
  generalize (at_ ts b).prio = y
  by_cases hxy : x = y
  · subst hxy
    rw [if_pos rfl, if_pos rfl, Bool.eq_iff_iff]
    simp
    omega
  · rw [if_neg hxy, if_neg (fun h => hxy h.symm), Bool.eq_iff_iff]
    simp
    omega
theorem ahead_chain (ts : List Task) (a b c : Nat) (h1 : aheadB ts a b = true) (h2 : aheadB ts b c = true) : aheadB ts a c = true := by
  revert h1 h2
  unfold aheadB
  generalize (at_ ts a).prio = x
  generalize (at_ ts b).prio = y
  generalize (at_ ts c).prio = z
  intro h1 h2
  split at h1 <;> split at h2 <;> split <;> simp at h1 h2 ⊢ <;> omega

def AheadAt (A : Option Addr) (m c : Nat) (ts : List Task) (w : World) (a b : Nat) : Prop := ∀ w', Same w w' →
  Calls Try.prog 19 #[.slice A m c, .int .i64 a, .int .i64 b] w' fun e w'' => e = .returned (.bool (aheadB ts a b)) ∧ Same w' w''

set_option maxRecDepth 100000 in
theorem chain_walk (A : Option Addr) (m c : Nat) (ts : List Task) (w : World) (hl : ts.length = m) (ht : Tasks w A ts) :
    Calls Try.prog 4 #[.slice A m c] w fun e w' => e = .returned (.bool true) ∧ Same w w' := by
  have FEW := Lib.hid (few_any A m c ts 12 (by omega) w hl ht)
  have AH : Hid (∀ a b, a < m → b < m → AheadAt A m c ts w a b) := Lib.hid (fun a b ha hb w' s => ahead_any A m c ts a b w' hl ha hb (ht.same s))
  clear ht hl
  go_enter Try.func4, Try.ntmps4
  go_wp2_with fail
  refine FEW.out.mono ?_
  rintro e w1 ⟨⟨fb, rfl, hfm⟩, s1⟩
  have HS1 := Lib.hid s1
  clear s1 FEW
  cases fb with
  | false =>
    have AW := Lib.hid (awake26 w1)
    clear hfm AH
    go_wp2_with fail
    refine AW.out.mono ?_
    rintro e w2 ⟨rfl, s2⟩
    go_wp2
    go_ret
    exact ⟨rfl, HS1.out.trans s2⟩
  | true =>
    have hm := hfm rfl
    clear hfm
    go_wp2_with fail
    go_loopg [12] m (fun gk iv wx => ∃ k : Nat, k + gk = m ∧ iv = .int .i64 k ∧ Same w wx)
    case atStart => exact ⟨0, by omega, rfl, HS1.out⟩
    case round =>
      obtain ⟨a, hka, rfl, sx⟩ := hrel
      have HSA := Lib.hid sx
      clear sx
      cases gk with
      | zero =>
        obtain rfl : a = m := by omega
        have hge : ¬ (a : Int) < (a : Int) := by omega
        have AW := Lib.hid (awake26 wr)
        clear AH
        go_wp2_with fail
        refine AW.out.mono ?_
        rintro e w2 ⟨rfl, s2⟩
        go_wp2
        go_ret
        exact ⟨rfl, HSA.out.trans s2⟩
      | succ GA =>
        have hlta : (a : Int) < m := by omega
        have ham : a < m := by omega
        clear HS1
        go_wp2_with fail
        go_loopg [17] m (fun gk iv wx => ∃ k : Nat, k + gk = m ∧ iv = .int .i64 k ∧ Same w wx)
        case atStart => exact ⟨0, by omega, rfl, HSA.out⟩
        case round =>
          obtain ⟨b, hkb, rfl, sx⟩ := hrel
          have HSB := Lib.hid sx
          clear sx
          cases gk with
          | zero =>
            obtain rfl : b = m := by omega
            have hge : ¬ (b : Int) < (b : Int) := by omega
            go_wp2_with fail
            go_roundg GA
            case rel => exact ⟨a + 1, by omega, by go_num, HSB.out⟩
            case measure => omega
          | succ GB =>
            have hltb : (b : Int) < m := by omega
            have hbm : b < m := by omega
            clear HSA
            have AB := Lib.hid (AH.out a b ham hbm)
            have fin3 : ∀ (u : Bool), u = aheadB ts a b → True := fun _ _ => trivial
            by_cases hab : a = b
            · subst hab
              have AB2 := Lib.hid (AH.out a a ham ham)
              have hs := ahead_self ts a
              unfold AheadAt at AB2
              rw [hs] at AB2
              have e1 : ((a : Int) != (a : Int)) = false := by simp
              have e2 : ((a : Int) == (a : Int)) = true := by simp
              clear AB hs fin3
              go_wp2_with fail
              refine (AB2.out _ HSB.out).mono ?_
              rintro e w2 ⟨rfl, s2⟩
              have HSC := Lib.hid (HSB.out.trans s2)
              clear s2
              go_wp2_with fail
              go_loopg [47] m (fun gk iv wx => ∃ k : Nat, k + gk = m ∧ iv = .int .i64 k ∧ Same w wx)
              case atStart => exact ⟨0, by omega, rfl, HSC.out⟩
              case round =>
                obtain ⟨d, hkd, rfl, sx⟩ := hrel
                have HSD := Lib.hid sx
                clear sx
                cases gk with
                | zero =>
                  obtain rfl : d = m := by omega
                  have hge : ¬ (d : Int) < (d : Int) := by omega
                  go_wp2_with fail
                  go_roundg GB
                  case rel => exact ⟨a + 1, by omega, by go_num, HSD.out⟩
                  case measure => omega
                | succ GC =>
                  have hltd : (d : Int) < m := by omega
                  go_wp2_with fail
                  refine (AB2.out _ HSD.out).mono ?_
                  rintro e w3 ⟨rfl, s3⟩
                  have HSE := Lib.hid (HSD.out.trans s3)
                  clear s3
                  go_wp2_with fail
                  go_roundg GC
                  case rel => exact ⟨d + 1, by omega, by go_num, HSE.out⟩
                  case measure => omega
            · have BA := Lib.hid (AH.out b a hbm ham)
              have hone := ahead_one ts a b hab
              have e1 : ((a : Int) != (b : Int)) = true := by simp; omega
              have e2 : ((a : Int) == (b : Int)) = false := by simp; omega
              have HCH := Lib.hid (fun d => ahead_chain ts a b d)
              unfold AheadAt at AB BA
              clear hab fin3
              cases u : aheadB ts a b
              · rw [u] at AB hone
                rw [hone] at BA
                clear u hone HCH
                go_wp2_with fail
                refine (AB.out _ HSB.out).mono ?_
                rintro e w2 ⟨rfl, s2⟩
                have HSC := Lib.hid (HSB.out.trans s2)
                clear s2
                go_wp2_with fail
                refine (BA.out _ HSC.out).mono ?_
                rintro e w3 ⟨rfl, s3⟩
                have HSD := Lib.hid (HSC.out.trans s3)
                clear s3
                go_wp2_with fail
                go_loopg [47] m (fun gk iv wx => ∃ k : Nat, k + gk = m ∧ iv = .int .i64 k ∧ Same w wx)
                case atStart => exact ⟨0, by omega, rfl, HSD.out⟩
                case round =>
                  obtain ⟨d, hkd, rfl, sx⟩ := hrel
                  have HSE := Lib.hid sx
                  clear sx
                  cases gk with
                  | zero =>
                    obtain rfl : d = m := by omega
                    have hge : ¬ (d : Int) < (d : Int) := by omega
                    go_wp2_with fail
                    go_roundg GB
                    case rel => exact ⟨b + 1, by omega, by go_num, HSE.out⟩
                    case measure => omega
                  | succ GC =>
                    have hltd : (d : Int) < m := by omega
                    go_wp2_with fail
                    refine (AB.out _ HSE.out).mono ?_
                    rintro e w4 ⟨rfl, s4⟩
                    have HSF := Lib.hid (HSE.out.trans s4)
                    clear s4
                    go_wp2_with fail
                    go_roundg GC
                    case rel => exact ⟨d + 1, by omega, by go_num, HSF.out⟩
                    case measure => omega
              · rw [u] at AB hone
                rw [hone] at BA
                have HCH2 := Lib.hid (fun d => HCH.out d u)
                clear u hone HCH
                go_wp2_with fail
                refine (AB.out _ HSB.out).mono ?_
                rintro e w2 ⟨rfl, s2⟩
                have HSC := Lib.hid (HSB.out.trans s2)
                clear s2
                go_wp2_with fail
                refine (BA.out _ HSC.out).mono ?_
                rintro e w3 ⟨rfl, s3⟩
                have HSD := Lib.hid (HSC.out.trans s3)
                clear s3
                go_wp2_with fail
                go_loopg [47] m (fun gk iv wx => ∃ k : Nat, k + gk = m ∧ iv = .int .i64 k ∧ Same w wx)
                case atStart => exact ⟨0, by omega, rfl, HSD.out⟩
                case round =>
                  obtain ⟨d, hkd, rfl, sx⟩ := hrel
                  have HSE := Lib.hid sx
                  clear sx
                  cases gk with
                  | zero =>
                    obtain rfl : d = m := by omega
                    have hge : ¬ (d : Int) < (d : Int) := by omega
                    go_wp2_with fail
                    go_roundg GB
                    case rel => exact ⟨b + 1, by omega, by go_num, HSE.out⟩
                    case measure => omega
                  | succ GC =>
                    have hltd : (d : Int) < m := by omega
                    have BD := Lib.hid (AH.out b d hbm (by omega))
                    have AD := Lib.hid (AH.out a d ham (by omega))
                    unfold AheadAt at BD AD
                    go_wp2_with fail
                    refine (AB.out _ HSE.out).mono ?_
                    rintro e w4 ⟨rfl, s4⟩
                    have HSF := Lib.hid (HSE.out.trans s4)
                    clear s4
                    have hc := HCH2.out d
                    cases v : aheadB ts b d
                    · rw [v] at BD
                      clear hc v AD
                      go_wp2_with fail
                      refine (BD.out _ HSF.out).mono ?_
                      rintro e w5 ⟨rfl, s5⟩
                      have HSG := Lib.hid (HSF.out.trans s5)
                      clear s5
                      go_wp2_with fail
                      go_roundg GC
                      case rel => exact ⟨d + 1, by omega, by go_num, HSG.out⟩
                      case measure => omega
                    · rw [hc v] at AD
                      rw [v] at BD
                      clear hc v
                      go_wp2_with fail
                      refine (BD.out _ HSF.out).mono ?_
                      rintro e w5 ⟨rfl, s5⟩
                      have HSG := Lib.hid (HSF.out.trans s5)
                      clear s5
                      go_wp2_with fail
                      refine (AD.out _ HSG.out).mono ?_
                      rintro e w6 ⟨rfl, s6⟩
                      have HSH := Lib.hid (HSG.out.trans s6)
                      clear s6
                      go_wp2_with fail
                      go_roundg GC
                      case rel => exact ⟨d + 1, by omega, by go_num, HSH.out⟩
                      case measure => omega

end Go.Proofs.Ytejajmdmfipplab.Tk
