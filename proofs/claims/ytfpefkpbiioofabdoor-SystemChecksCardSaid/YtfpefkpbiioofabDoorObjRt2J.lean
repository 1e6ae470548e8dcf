/-

  Objects with their tasks: whether they may be (package object's Right, and the document's).
-/
import Derived.Test.YtfpefkpbiioofabDoorFace
import Derived.Test.YtfpefkpbiioofabDoorObjIdx
import Derived.Maps.OwnOps
import Derived.Maps.Views
section
set_option linter.unusedVariables false
set_option linter.unusedSimpArgs false
namespace Go.Proofs.YtfpefkpbiioofabDoor.Os
open Go.ChangeShapes Go.WideShapes Go.ChangeAt Go.RowKit Go.Maps Ws

/-- the numbers are tasks, no two of them the same -/
def GoodTo (l : List Int) (n : Nat) : Prop := ∀ (j : Nat) (t : Int), j < n → l[j]? = some t → (0 ≤ t ∧ t ≤ 7) ∧ ∀ (k : Nat) (q : Int), k < j → l[k]? = some q → q ≠ t
theorem good_next {l : List Int} {n : Nat} {t : Int} (h : GoodTo l n) (ht : l[n]? = some t) (h0 : 0 ≤ t ∧ t ≤ 7) (hn : ∀ (k : Nat) (q : Int), k < n → l[k]? = some q → q ≠ t) : GoodTo l (n + 1) := by
  intro j u hj hu
  by_cases hjn : j < n
  · exact h j u hjn hu
  · obtain rfl : j = n := by omega
    rw [ht] at hu
    injection hu with hu
    subst hu
    exact ⟨h0, hn⟩
noncomputable instance goodDec (l : List Int) (n : Nat) : Decidable (GoodTo l n) := Classical.propDecidable _
/-- may an object, and its tasks, be? -/
noncomputable def rightO (k wd sl cp sa : Int) (il rl : Nat) (l : List Int) : Bool := Fc.rightF k wd sl cp sa il rl && decide (GoodTo l l.length)
theorem righto_no {k wd sl cp sa : Int} {il rl : Nat} {l : List Int} (h : Fc.rightF k wd sl cp sa il rl = false) : rightO k wd sl cp sa il rl l = false := by
  unfold rightO
  rw [h]
  rfl
theorem righto_bad {k wd sl cp sa : Int} {il rl : Nat} {l : List Int} (h : ¬ GoodTo l l.length) : rightO k wd sl cp sa il rl l = false := by
  unfold rightO
  rw [decide_eq_false h, Bool.and_false]
theorem righto_yes {k wd sl cp sa : Int} {il rl : Nat} {l : List Int} (hr : Fc.rightF k wd sl cp sa il rl = true) (h : GoodTo l l.length) : rightO k wd sl cp sa il rl l = true := by
  unfold rightO
  rw [hr, decide_eq_true h]
  rfl

end Go.Proofs.YtfpefkpbiioofabDoor.Os
end
section
set_option linter.unusedVariables false
set_option linter.unusedSimpArgs false
namespace Go.Proofs.YtfpefkpbiioofabDoor.Os
open Go.ChangeShapes Go.WideShapes Go.ChangeAt Go.RowKit Go.Maps Ws

set_option maxRecDepth 100000 in
set_option maxHeartbeats 2000000 in
theorem rright_all (k wd sl cp sa ow : Int) (ia ra : Option Addr) (il ic rl rc : Nat) (rs : List Int) (w : World) (hl : rs.length = rl) (hrl : rl ≤ 100) (hr : Row w ra (rs.map (Value.int .i64))) (hsa : 0 ≤ sa ∧ sa < 4294967296) :
    Calls Tryd.prog 21 #[.agg #[.int .i64 k, .int .i64 wd, .int .i64 sl, .int .i64 cp, .int .u32 sa, .slice ia il ic, .int .i64 ow, .slice ra rl rc]] w fun e w' => e = .returned (.bool (rightO k wd sl cp sa il rl (ow :: rs))) ∧ Same w w' := by
  have hb := Blk.new w 43 #[.int .i64 k, .int .i64 wd, .int .i64 sl, .int .i64 cp, .int .u32 sa, .slice ia il ic, .int .i64 ow, .slice ra rl rc]
  have HB := Lib.hid hb
  have hs0 := (Same.refl w).alloc (.cells #[.int .i64 k, .int .i64 wd, .int .i64 sl, .int .i64 cp, .int .u32 sa, .slice ia il ic, .int .i64 ow, .slice ra rl rc] 43)
  have HS0 := Lib.hid hs0
  obtain ⟨d0, d1, d2, d3, d4, d5, d6, d7⟩ := ocs8 hb
  obtain ⟨i0, hi, hz0, hz1, hz2⟩ := info_parts int_info
  have HC := Lib.hid (fun w' => Fc.rright_any k wd sl cp sa ow ia ra il ic rl rc w' hsa)
  have HL := Lib.hid hl
  have HR := Lib.hid hr
  have YES := Lib.hid (fun (h1 : Fc.rightF k wd sl cp sa il rl = true) (h : GoodTo (ow :: rs) (ow :: rs).length) => righto_yes h1 h)
  have BAD := Lib.hid (fun (h : ¬ GoodTo (ow :: rs) (ow :: rs).length) => righto_bad (k := k) (wd := wd) (sl := sl) (cp := cp) (sa := sa) (il := il) (rl := rl) h)
  have NO := Lib.hid (fun (h1 : Fc.rightF k wd sl cp sa il rl = false) => righto_no (l := ow :: rs) h1)
  have HLL := Lib.hid (show (ow :: rs).length = rl + 1 by rw [List.length_cons, hl])
  have hone : ∀ u ∈ rs.map (Value.int .i64), u.oneCell' = true := by
    intro u hu
    obtain ⟨y, _, rfl⟩ := List.mem_map.1 hu
    rfl
  have HONE := Lib.hid hone
  clear hb hs0 hl hr hone
  generalize rightO k wd sl cp sa il rl (ow :: rs) = res at *
  cases hrt : Fc.rightF k wd sl cp sa il rl
  · have hres := NO.out hrt
    subst hres
    rw [hrt] at HC
    clear hrt YES BAD NO
    go_enter Tryd.func21, Tryd.ntmps21
    go_wp2_with fail
    refine (HC.out _).mono ?_
    rintro e w1 ⟨rfl, s1⟩
    have HS1 := Lib.hid (HS0.out.trans s1)
    clear s1
    go_wp2_with fail
    go_ret
    exact ⟨rfl, HS1.out⟩
  · have HY := Lib.hid (YES.out hrt)
    rw [hrt] at HC
    clear hrt YES NO
    go_enter Tryd.func21, Tryd.ntmps21
    go_wp2_with fail
    refine (HC.out _).mono ?_
    rintro e w1 ⟨rfl, s1⟩
    have HS1 := Lib.hid (HS0.out.trans s1)
    have HB1 := HB.out.same s1
    clear s1 d0 d1 d2 d3 d4 d5 d6 d7 HC
    obtain ⟨d0, d1, d2, d3, d4, d5, d6, d7⟩ := ocs8 HB1
    have d7' : (w1.alloc (.cells #[.int .i64 ow] 3)).cell? ⟨w.heap.size, 7, none⟩ = some (.slice ra rl rc) := ((Same.refl w1).alloc _).cell d7
    go_wp2_with (refine wpList_app rfl (.tmp 12) (.tmp 14) 41 rfl w1.heap.size 3 i0 _ 8 Tryd.underlying41 hi hz0 hz1 hz2 rfl (some ⟨w1.heap.size, 0, none⟩) 1 1 [.int .i64 ow] rfl rfl (own_lit w1 3 (.int .i64 ow)) ra rl rc (rs.map (Value.int .i64)) rfl (by rw [List.length_map]; exact HL.out) (HR.out.same (HS1.out.alloc _)) HONE.out (by rw [List.length_map]; have := HL.out; simp; omega) (by omega) (by simp) ?_)
    intro A3 c3 w3 ho3 hc3 _
    obtain ⟨N, hN⟩ : ∃ N, N = 1 + rl := ⟨_, rfl⟩
    rw [← hN]
    have hs3 : Same w1 w3 := Same.more ((Same.refl w1).alloc _) hc3 (fun g hg => by
      have h1 : w1.heap.size = g := by
        first
          | exact hg
          | (have h2 : (some ⟨w1.heap.size, 0, none⟩ : Option Addr) = some ⟨g, 0, none⟩ := hg
             injection h2 with h2
             injection h2)
      omega)
    have HS3 := Lib.hid (HS1.out.trans hs3)
    have RL := Lib.hid (show Row w3 A3 ((ow :: rs).map (Value.int .i64)) from ho3.row)
    have hNL : (ow :: rs).length = N := by have := HLL.out; omega
    have HNL := Lib.hid hNL
    have hN5 : N ≤ 101 := by omega
    clear hN
    clear ho3 hc3 hs3 d0 d1 d2 d3 d4 d5 d6 d7 d7' hNL
    generalize ow :: rs = L at *
    go_wp2_with fail
    go_loopg [18] N (fun gk iv wx => ∃ i : Nat, i + gk = N ∧ iv = .int .i64 i ∧ GoodTo L i ∧ Same w3 wx)
    case atStart => exact ⟨0, by omega, rfl, fun j t hj => by omega, Same.refl _⟩
    case round =>
      obtain ⟨i, hik, rfl, hg, sx⟩ := hrel
      have HG := Lib.hid hg
      have HSX := Lib.hid sx
      clear hg sx
      cases gk with
      | zero =>
        obtain rfl : N = i := by omega
        have hge : ¬ (N : Int) < (N : Int) := by omega
        go_wp2_with fail
        go_ret
        exact ⟨ret_bool (HY.out (by rw [HNL.out]; exact HG.out)).symm, HS3.out.trans HSX.out⟩
      | succ GK =>
        have hlt : (i : Int) < N := by omega
        have i0' : (0 : Int) ≤ i := by omega
        obtain ⟨t, hLt⟩ : ∃ t, L[i]? = some t := ⟨_, List.getElem?_eq_getElem (by have := HNL.out; omega)⟩
        obtain ⟨b, o, hA, c1⟩ := RL.out i (.int .i64 t) (by rw [List.getElem?_map, hLt]; rfl)
        subst hA
        replace c1 := HSX.out.cell c1
        have HLT := Lib.hid hLt
        have hin : i < L.length := by have := HNL.out; omega
        have HIN := Lib.hid hin
        clear hLt hin
        by_cases r0 : t < 0
        · go_wp2_with fail
          go_ret
          exact ⟨ret_bool (BAD.out (fun h => by have := (h i t HIN.out HLT.out).1.1; omega)).symm, HS3.out.trans HSX.out⟩
        by_cases r7 : 7 < t
        · go_wp2_with fail
          go_ret
          exact ⟨ret_bool (BAD.out (fun h => by have := (h i t HIN.out HLT.out).1.2; omega)).symm, HS3.out.trans HSX.out⟩
        have h07 : 0 ≤ t ∧ t ≤ 7 := by omega
        have H07 := Lib.hid h07
        clear h07
        go_wp2_with fail
        clear c1
        go_loopg [6] i (fun gj jv wy => ∃ j : Nat, j + gj = i ∧ jv = .int .i64 j ∧ (∀ (k : Nat) (q : Int), k < j → L[k]? = some q → q ≠ t) ∧ Same w3 wy)
        case atStart => exact ⟨0, by omega, rfl, fun k q hk => by omega, HSX.out⟩
        case round =>
          obtain ⟨j, hj, rfl, hne, sy⟩ := hrel
          have HNE := Lib.hid hne
          have HSY := Lib.hid sy
          clear hne sy
          cases gk with
          | zero =>
            obtain rfl : i = j := by omega
            have hge : ¬ (i : Int) < (i : Int) := by omega
            go_wp2_with fail
            go_roundg GK
            case rel => exact ⟨i + 1, by omega, by go_num, good_next HG.out HLT.out H07.out HNE.out, HSY.out⟩
            case measure => omega
          | succ GJ =>
            have hltj : (j : Int) < i := by omega
            have hltN : (j : Int) < N := by omega
            have j0 : (0 : Int) ≤ j := by omega
            obtain ⟨q, hLq⟩ : ∃ q, L[j]? = some q := ⟨_, List.getElem?_eq_getElem (by have := HNL.out; omega)⟩
            obtain ⟨b', o', hA, e1⟩ := RL.out j (.int .i64 q) (by rw [List.getElem?_map, hLq]; rfl)
            injection hA with hA
            injection hA with hA1 hA2
            subst hA1
            subst hA2
            replace e1 := HSY.out.cell e1
            have HLQ := Lib.hid hLq
            clear hLq
            by_cases hqt : q = t
            · have HQT := Lib.hid hqt
              have hq2 : (q == t) = true := by simpa using hqt
              clear hqt
              go_wp2_with fail
              go_ret
              exact ⟨ret_bool (BAD.out (fun h => (h i t HIN.out HLT.out).2 j q (by omega) HLQ.out HQT.out)).symm, HS3.out.trans HSY.out⟩
            · have HQT := Lib.hid hqt
              have hq2 : (q == t) = false := by simpa using hqt
              clear hqt
              go_wp2_with fail
              go_roundg GJ
              case rel => exact ⟨j + 1, by omega, by go_num, fun k u hk hu => by
                by_cases hkj : k < j
                · exact HNE.out k u hkj hu
                · obtain rfl : k = j := by omega
                  rw [HLQ.out] at hu
                  injection hu with hu
                  rw [← hu]
                  exact HQT.out, HSY.out⟩
              case measure => omega

end Go.Proofs.YtfpefkpbiioofabDoor.Os
end
