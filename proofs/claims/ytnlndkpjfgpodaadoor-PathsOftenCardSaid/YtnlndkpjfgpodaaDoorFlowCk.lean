/-

  The contract of package flow's Check (layer 10).
-/
import Derived.Test.YtnlndkpjfgpodaaDoorFlow
section
section
set_option linter.unusedVariables false
set_option linter.unusedSimpArgs false
namespace Go.Proofs.YtnlndkpjfgpodaaDoor.Fw
open Go.ChangeShapes Go.WideShapes Go.ChangeAt Go.RowKit Ws Fp
open Go.Proofs.YtnlndkpjfgpodaaDoor.Is (Tabs ins rightB leadB target_any right_any ret2i)

theorem span_info : (Tryd.prog.info? 78).map (fun i => (i.zero, i.size, i.bytes)) = some (some (.agg #[.int .i64 0, .int .i64 0]), 2, 16) := by kernel_rfl
theorem span_one (a b : Int) : ∀ u ∈ [Value.int .i64 a, Value.int .i64 b], u.oneCell' = true := by
  intro u hu
  simp at hu
  rcases hu with rfl | rfl <;> rfl
theorem loopsTo_le {p : List Ins} {k : Nat} : (loopsTo p k).length ≤ k := loopsTo_len k

def LoopsPost (w : World) (p : List Ins) (e : Ending) (w' : World) : Prop :=
  ∃ A c, e = .returned (.slice A (loopsL p).length c) ∧ OwnK w' w.heap.size 78 2 A (loopsL p).length c (spanCells (loopsL p)) ∧ Same w w'

set_option maxRecDepth 100000 in
theorem loops_any (A : Option Addr) (m c : Nat) (p : List Ins) (w : World) (hl : p.length = m) (hm : m ≤ 5000) (hp : Prg w A p) :
    Calls Tryd.prog 83 #[.slice A m c] w (LoopsPost w p) := by
  obtain ⟨i0, hi, hz0, hz1, hz2⟩ := info_parts span_info
  have HL := Lib.hid hl
  have HP := Lib.hid hp
  clear hl hp
  unfold LoopsPost
  go_enter Tryd.func83, Tryd.ntmps83
  go_wp2_with fail
  go_loopg [8, 3] m (fun gk iv lv wx => ∃ (k : Nat) (A' : Option Addr) (n' c' : Nat), k + gk = m ∧ iv = .int .i64 k ∧ lv = .slice A' n' c' ∧ n' = (loopsTo p k).length ∧ OwnK wx w.heap.size 78 2 A' n' c' (spanCells (loopsTo p k)) ∧ Same w wx)
  case atStart => exact ⟨0, none, 0, 0, by omega, rfl, rfl, rfl, OwnK.none _ _ _ _, Same.refl _⟩
  case round =>
    obtain ⟨k, A', n', c', hk, rfl, rfl, hn, ho, sx⟩ := hrel
    have HO := Lib.hid ho
    have HS := Lib.hid sx
    have HN := Lib.hid hn
    clear ho sx hn
    cases gk with
    | zero =>
      obtain rfl : k = m := by omega
      have hge : ¬ (k : Int) < (k : Int) := by omega
      go_wp2_with fail
      go_ret
      have e : loopsTo p k = loopsL p := by unfold loopsL; rw [HL.out]
      have h1 := HO.out
      have h2 := HN.out
      rw [e] at h1 h2
      subst h2
      exact ⟨A', c', rfl, h1, HS.out⟩
    | succ GK =>
      have hlt : (k : Int) < m := by omega
      obtain ⟨hok, b, o, rfl, c0, c1, c2, c3, c4⟩ := (HP.out.same HS.out).at_ (k := k) (by have := HL.out; omega)
      have hE : loopsTo p (k + 1) = loopsTo p k ++ (if (Fp.at_ p k).op = 16 then [((Fp.at_ p k).n, (k : Int))] else []) := rfl
      have HE := Lib.hid hE
      clear hE
      generalize Fp.at_ p k = x at *
      have hn := hok
      unfold Ins.ok at hn
      have f1 := i64_of x.n (by omega)
      have hs1 := (Same.refl wr).alloc (.cells #[.int .i64 x.op, .int .i64 x.a, .int .i64 x.b, .int .i64 x.c, .int .u32 x.n] 67)
      have HS1 := Lib.hid (HS.out.trans hs1)
      have HO1 := Lib.hid (HO.out.same hs1)
      clear hs1
      by_cases h16 : x.op = 16
      · have b16 : (x.op == 16) = true := by simpa using h16
        have hE := HE.out
        rw [if_pos h16] at hE
        have HE' := Lib.hid hE
        clear hE h16
        go_wp2_with (at_builtin; go_loud (refine wpList_appK rfl (.tmp 16) (.tmp 22) 70 rfl w.heap.size 78 i0 _ 2 16 Tryd.underlying70 hi hz0 hz1 hz2 rfl (by omega) A' n' c' (spanCells (loopsTo p k)) rfl (HO1.out.same ((Same.refl _).alloc _)) _ 1 1 [.int .i64 x.n, .int .i64 k] rfl rfl (row_new2 _ _ _ _) (span_one _ _) ?c3 (by omega) ?c2 ?_))
        case c2 => have := HS1.out.size; simp at this ⊢; omega
        case c3 => have := HN.out; have := loopsTo_len (p := p) k; omega
        intro A2 c2' w2 ho2 hc2
        have HS2 := Lib.hid (Same.more (HS1.out.alloc _) hc2 fun g hg => by
          have hg : A' = some ⟨g, 0, none⟩ := hg
          subst hg
          exact HO.out.lt.1)
        rw [show spanCells (loopsTo p k) ++ [.int .i64 x.n, .int .i64 (k : Int)] = spanCells (loopsTo p (k + 1)) by rw [HE'.out, spanCells_app]; rfl] at ho2
        have HO2 := Lib.hid ho2
        clear ho2 hc2
        go_wp2_with fail
        go_roundg GK
        case rel => exact ⟨k + 1, A2, n' + 1, c2', by omega, by go_num, rfl, by rw [HE'.out, List.length_append, HN.out]; rfl, HO2.out, HS2.out⟩
        case measure => omega
      · have b16 : (x.op == 16) = false := by simpa using h16
        have hE := HE.out
        rw [if_neg h16, List.append_nil] at hE
        have HE' := Lib.hid hE
        clear hE h16
        go_wp2_with fail
        go_roundg GK
        case rel => exact ⟨k + 1, A', n', c', by omega, by go_num, rfl, by rw [HE'.out]; exact HN.out, by rw [HE'.out]; exact HO1.out, HS1.out⟩
        case measure => omega

/-- the first Back whose loop overlaps one of a Back ahead -/
def ovlI (l : List (Int × Int)) : Int := match first l.length (overAt l) with | some k => (lp l k).2 | none => 0
def ovlB (l : List (Int × Int)) : Bool := (first l.length (overAt l)).isSome
theorem overAt_yes {l : List (Int × Int)} {j k : Nat} (hj : j < k) (h : overB (lp l j) (lp l k) = true) : overAt l k = true := by
  unfold overAt
  rw [List.any_eq_true]
  exact ⟨j, List.mem_range.2 hj, h⟩
theorem overAt_no {l : List (Int × Int)} {k : Nat} (h : ∀ j, j < k → overB (lp l j) (lp l k) = false) : overAt l k = false := by
  unfold overAt
  rw [List.any_eq_false]
  intro j hj
  rw [h j (List.mem_range.1 hj)]
  exact Bool.false_ne_true

set_option maxRecDepth 100000 in
theorem overlapping_any (A : Option Addr) (n c : Nat) (l : List (Int × Int)) (w : World) (hl : l.length = n) (hm : n ≤ 5000) (hc : n ≤ c) (hs : Spn w A l) :
    Calls Tryd.prog 84 #[.slice A n c] w fun e w' => e = .returned (.tuple #[.int .i64 (ovlI l), .bool (ovlB l)]) ∧ Same w w' := by
  have HL := Lib.hid hl
  have HP := Lib.hid hs
  have HC := Lib.hid hc
  clear hl hs
  go_enter Tryd.func84, Tryd.ntmps84
  go_wp2_with fail
  go_loopg [10] n (fun gk iv wx => ∃ k : Nat, k + gk = n ∧ iv = .int .i64 k ∧ (∀ j, j < k → overAt l j = false) ∧ Same w wx)
  case atStart => exact ⟨0, by omega, rfl, fun j hj => by omega, Same.refl _⟩
  case round =>
    obtain ⟨k, hk, rfl, hno, sx⟩ := hrel
    have HNO := Lib.hid hno
    have HS := Lib.hid sx
    clear hno sx
    cases gk with
    | zero =>
      obtain rfl : k = n := by omega
      have hge : ¬ (k : Int) < (k : Int) := by omega
      go_wp2_with fail
      go_ret2
      have e : first l.length (overAt l) = none := first_none fun j hj => HNO.out j (by have := HL.out; omega)
      exact ⟨ret_ib (by unfold ovlI; rw [e]) (by unfold ovlB; rw [e]; rfl), HS.out⟩
    | succ GK =>
      have hlt : (k : Int) < n := by omega
      have hk0 : (0 : Int) ≤ k := by omega
      have hkc : (k : Int) ≤ c := by omega
      have hkcn : k ≤ c := by omega
      obtain ⟨b, o, rfl, c0, c1⟩ := (HP.out.same HS.out).at_ (k := k) (by have := HL.out; omega)
      obtain ⟨s, hsx⟩ : ∃ s, s = lp l k := ⟨_, rfl⟩
      rw [← hsx] at c0 c1
      have HX := Lib.hid hsx
      clear hsx
      have hb1 := Blk.new wr 78 #[.int .i64 s.1, .int .i64 s.2]
      have hs1 := (Same.refl wr).alloc (.cells #[.int .i64 s.1, .int .i64 s.2] 78)
      have HB1 := Lib.hid hb1
      have HS1 := Lib.hid (HS.out.trans hs1)
      clear hb1 hs1
      go_wp2_with fail
      generalize wr.heap.size = q at *
      generalize wr.alloc (.cells #[.int .i64 s.1, .int .i64 s.2] 78) = w1 at *
      clear c0 c1
      go_loopg [19] k (fun g2 jv wx => ∃ j : Nat, j + g2 = k ∧ jv = .int .i64 j ∧ (∀ i, i < j → overB (lp l i) s = false) ∧ Same w wx ∧ Blk wx q 78 #[.int .i64 s.1, .int .i64 s.2])
      case atStart => exact ⟨0, by omega, rfl, fun j hj => by omega, HS1.out, HB1.out⟩
      case round =>
        obtain ⟨j, hj, rfl, hno2, sx2, hb2⟩ := hrel
        have HN2 := Lib.hid hno2
        have HS2 := Lib.hid sx2
        have HB2 := Lib.hid hb2
        clear hno2 sx2 hb2 HS1 HB1
        cases gk with
        | zero =>
          obtain rfl : j = k := by omega
          have hge : ¬ (j : Int) < (j : Int) := by omega
          go_wp2_with fail
          go_roundg GK
          case rel =>
            refine ⟨j + 1, by omega, by go_num, ?_, HS2.out⟩
            intro i hi
            rcases Nat.lt_or_ge i j with h1 | h1
            · exact HNO.out i h1
            · have : i = j := by omega
              subst this
              exact overAt_no fun i' hi' => by rw [← HX.out]; exact HN2.out i' hi'
          case measure => omega
        | succ G2 =>
          have hjlt : (j : Int) < k := by omega
          obtain ⟨b', o', hA, d0, d1⟩ := (HP.out.same HS2.out).at_ (k := j) (by have := HL.out; omega)
          injection hA with hA
          injection hA with e1 e2
          subst e1
          subst e2
          obtain ⟨t, htx⟩ : ∃ t, t = lp l j := ⟨_, rfl⟩
          rw [← htx] at d0 d1
          have HT := Lib.hid htx
          have k0 := HB2.out.cell 0
          have k1 := HB2.out.cell 1
          have hs3 := (Same.refl wr).alloc (.cells #[.int .i64 t.1, .int .i64 t.2] 78)
          have HB3 := Lib.hid (HB2.out.same hs3)
          have HS3 := Lib.hid (HS2.out.trans hs3)
          have j0 := HB3.out.cell 0
          have j1 := HB3.out.cell 1
          clear htx hs3
          have OV := Lib.hid (over_any t.1 t.2 s.1 s.2 (wr.alloc (.cells #[.int .i64 t.1, .int .i64 t.2] 78)))
          go_wp2_with fail
          refine OV.out.mono ?_
          rintro e w4 ⟨rfl, s4⟩
          have HB4 := Lib.hid (HB3.out.same s4)
          have HS4 := Lib.hid (HS3.out.trans s4)
          have i1 := HB4.out.cell 1
          cases hov : overB (t.1, t.2) (s.1, s.2)
          · have HOV := Lib.hid hov
            clear hov
            go_wp2_with fail
            go_roundg G2
            case rel =>
              refine ⟨j + 1, by omega, by go_num, ?_, HS4.out, HB4.out⟩
              intro i hi
              rcases Nat.lt_or_ge i j with h1 | h1
              · exact HN2.out i h1
              · have : i = j := by omega
                subst this
                rw [← HT.out]
                exact HOV.out
            case measure => omega
          · have HOV := Lib.hid hov
            clear hov
            go_wp2_with fail
            go_ret2
            have e : first l.length (overAt l) = some k := first_some (by have := HL.out; omega) (overAt_yes (j := j) (by omega) (by rw [← HT.out, ← HX.out]; exact HOV.out)) HNO.out
            exact ⟨ret_ib (by unfold ovlI; rw [e, HX.out]) (by unfold ovlB; rw [e]; rfl), HS4.out⟩

end Go.Proofs.YtnlndkpjfgpodaaDoor.Fw
end
section
set_option linter.unusedVariables false
set_option linter.unusedSimpArgs false
namespace Go.Proofs.YtnlndkpjfgpodaaDoor.Fw
open Go.ChangeShapes Go.WideShapes Go.ChangeAt Go.RowKit Ws Fp
open Go.Proofs.YtnlndkpjfgpodaaDoor.Is (Tabs ins rightB leadB target_any right_any ret2i)

def crsI (p : List Ins) (l : List (Int × Int)) : Int := match first p.length (crossAt p l) with | some k => (k : Int) | none => 0
def crsB (p : List Ins) (l : List (Int × Int)) : Bool := (first p.length (crossAt p l)).isSome
theorem crossAt_yes {p : List Ins} {l : List (Int × Int)} {j k : Nat} (ho : (Fp.at_ p k).op = 14 ∨ (Fp.at_ p k).op = 15) (hj : j < l.length) (h : (hasB (lp l j) (k : Int) != hasB (lp l j) (Fp.at_ p k).n) = true) : crossAt p l k = true := by
  unfold crossAt
  rw [decide_eq_true ho, Bool.true_and, List.any_eq_true]
  exact ⟨j, List.mem_range.2 hj, h⟩
theorem crossAt_no {p : List Ins} {l : List (Int × Int)} {k : Nat} (h : ∀ j, j < l.length → (hasB (lp l j) (k : Int) != hasB (lp l j) (Fp.at_ p k).n) = false) : crossAt p l k = false := by
  unfold crossAt
  rw [Bool.and_eq_false_iff]
  right
  rw [List.any_eq_false]
  intro j hj
  rw [h j (List.mem_range.1 hj)]
  exact Bool.false_ne_true
theorem crossAt_not {p : List Ins} {l : List (Int × Int)} {k : Nat} (h : ¬ ((Fp.at_ p k).op = 14 ∨ (Fp.at_ p k).op = 15)) : crossAt p l k = false := by
  unfold crossAt
  rw [decide_eq_false h, Bool.false_and]

set_option maxRecDepth 100000 in
set_option maxHeartbeats 1000000 in
theorem crossing_any (A : Option Addr) (m c : Nat) (p : List Ins) (LA : Option Addr) (n lc : Nat) (l : List (Int × Int)) (w : World) (hl : p.length = m) (hm : m ≤ 5000) (hp : Prg w A p) (ht : Tabs w) (hr : ∀ j, j < p.length → rightI (Fp.at_ p j) = true) (hn : l.length = n) (hn5 : n ≤ 5000) (hs : Spn w LA l) :
    Calls Tryd.prog 85 #[.slice A m c, .slice LA n lc] w fun e w' => e = .returned (.tuple #[.int .i64 (crsI p l), .bool (crsB p l)]) ∧ Same w w' := by
  have HL := Lib.hid hl
  have HP := Lib.hid hp
  have HT := Lib.hid ht
  have HR := Lib.hid hr
  have HN := Lib.hid hn
  have HSP := Lib.hid hs
  clear hl hp ht hr hn hs
  go_enter Tryd.func85, Tryd.ntmps85
  go_wp2_with fail
  go_loopg [14] m (fun gk iv wx => ∃ k : Nat, k + gk = m ∧ iv = .int .i64 k ∧ (∀ j, j < k → crossAt p l j = false) ∧ Same w wx)
  case atStart => exact ⟨0, by omega, rfl, fun j hj => by omega, Same.refl _⟩
  case round =>
    obtain ⟨k, hk, rfl, hno, sx⟩ := hrel
    have HNO := Lib.hid hno
    have HS := Lib.hid sx
    clear hno sx
    cases gk with
    | zero =>
      obtain rfl : k = m := by omega
      have hge : ¬ (k : Int) < (k : Int) := by omega
      go_wp2_with fail
      go_ret2
      have e : first p.length (crossAt p l) = none := first_none fun j hj => HNO.out j (by have := HL.out; omega)
      exact ⟨ret_ib (by unfold crsI; rw [e]) (by unfold crsB; rw [e]; rfl), HS.out⟩
    | succ GK =>
      have hlt : (k : Int) < m := by omega
      have hkp : k < p.length := by have := HL.out; omega
      have hrt := HR.out k hkp
      obtain ⟨hok, b, o, rfl, c0, c1, c2, c3, c4⟩ := (HP.out.same HS.out).at_ (k := k) hkp
      have hYES := fun {j : Nat} => crossAt_yes (p := p) (l := l) (j := j) (k := k)
      have hNOT := crossAt_not (p := p) (l := l) (k := k)
      have hNO := crossAt_no (p := p) (l := l) (k := k)
      have HYES := Lib.hid (fun (j : Nat) => hYES (j := j))
      have HNOT := Lib.hid hNOT
      have HNO2 := Lib.hid hNO
      have NEXT : Hid (crossAt p l k = false → ∀ j, j < k + 1 → crossAt p l j = false) := Lib.hid (fun h i hi => by
        rcases Nat.lt_or_ge i k with h1 | h1
        · exact HNO.out i h1
        · have : i = k := by omega
          subst this
          exact h)
      clear hYES hNOT hNO hkp
      generalize Fp.at_ p k = x at *
      have hn := hok
      unfold Ins.ok at hn
      have hs1 := (Same.refl wr).alloc (.cells (cells x).toArray 67)
      unfold cells at hs1
      have HS1 := Lib.hid (HS.out.trans hs1)
      have HT1 := Lib.hid (HT.out.same HS1.out)
      have HX0 : Hid ((wr.alloc (.cells #[.int .i64 x.op, .int .i64 x.a, .int .i64 x.b, .int .i64 x.c, .int .u32 x.n] 67)).cell? ⟨wr.heap.size, 0, none⟩ = some (.int .i64 x.op)) := Lib.hid ((Same.refl _).new (i := 0) rfl)
      clear hs1
      cases hle : leadB x.op
      · have hop : ¬ (x.op = 14 ∨ x.op = 15) := by unfold leadB at hle; simp at hle; omega
        have TG := Lib.hid (tgt_not x hok hle _ HT1.out)
        have HC := Lib.hid (HNOT.out hop)
        unfold ins at TG
        clear hop hle hrt
        go_wp2_with fail
        refine TG.out.mono ?_
        rintro e w1 ⟨rfl, s1⟩
        go_wp2_with fail
        go_roundg GK
        case rel => exact ⟨k + 1, by omega, by go_num, NEXT.out HC.out, HS1.out.trans s1⟩
        case measure => omega
      · have hop : x.op = 14 ∨ x.op = 15 ∨ x.op = 16 := by unfold leadB at hle; simp at hle; omega
        have TG := Lib.hid (tgt_lead x hok hrt hle _ HT1.out)
        unfold ins at TG
        clear hle hrt
        by_cases h16 : x.op = 16
        · have b16 : (x.op == 16) = true := by simpa using h16
          have HC := Lib.hid (HNOT.out (by omega))
          clear hop h16
          go_wp2_with fail
          refine TG.out.mono ?_
          rintro e w1 ⟨rfl, s1⟩
          have k0 := s1.cell HX0.out
          go_wp2_with fail
          go_roundg GK
          case rel => exact ⟨k + 1, by omega, by go_num, NEXT.out HC.out, HS1.out.trans s1⟩
          case measure => omega
        · have b16 : (x.op == 16) = false := by simpa using h16
          have HOP : Hid (x.op = 14 ∨ x.op = 15) := Lib.hid (by omega)
          clear hop h16
          go_wp2_with fail
          refine TG.out.mono ?_
          rintro e w1 ⟨rfl, s1⟩
          have k0 := s1.cell HX0.out
          go_wp2_with fail
          have HS2 := Lib.hid (HS1.out.trans s1)
          clear s1 k0 TG HX0 c0 c1 c2 c3 c4
          go_loopg [33] n (fun gk jv wx => ∃ j : Nat, j + gk = n ∧ jv = .int .i64 j ∧ (∀ i, i < j → (hasB (lp l i) (k : Int) != hasB (lp l i) x.n) = false) ∧ Same w wx)
          case atStart => exact ⟨0, by omega, rfl, fun j hj => by omega, HS2.out⟩
          case round =>
            obtain ⟨j, hj, rfl, hno2, sx2⟩ := hrel
            have HN2 := Lib.hid hno2
            have HS3 := Lib.hid sx2
            clear hno2 sx2 HS2
            cases gk with
            | zero =>
              obtain rfl : j = n := by omega
              have hge : ¬ (j : Int) < (j : Int) := by omega
              go_wp2_with fail
              go_roundg GK
              case rel => exact ⟨k + 1, by omega, by go_num, NEXT.out (HNO2.out fun i hi => HN2.out i (by have := HN.out; omega)), HS3.out⟩
              case measure => omega
            | succ G2 =>
              have hjlt : (j : Int) < n := by omega
              obtain ⟨b', o', rfl, d0, d1⟩ := (HSP.out.same HS3.out).at_ (k := j) (by have := HN.out; omega)
              obtain ⟨t, htx⟩ : ∃ t, t = lp l j := ⟨_, rfl⟩
              rw [← htx] at d0 d1
              have HTX := Lib.hid htx
              clear htx
              have hs4 := (Same.refl wr).alloc (.cells #[.int .i64 t.1, .int .i64 t.2] 78)
              have hb4 := Blk.new wr 78 #[.int .i64 t.1, .int .i64 t.2]
              have HS4 := Lib.hid (HS3.out.trans hs4)
              have HB4 := Lib.hid hb4
              have HA := fun w' => has_any t.1 t.2 k w'
              have HB := fun w' => has_any t.1 t.2 x.n w'
              obtain ⟨u, hu⟩ : ∃ u, u = hasB (t.1, t.2) (k : Int) := ⟨_, rfl⟩
              obtain ⟨v, hv⟩ : ∃ v, v = hasB (t.1, t.2) x.n := ⟨_, rfl⟩
              rw [← hu] at HA
              rw [← hv] at HB
              have HU := Lib.hid hu
              have HV := Lib.hid hv
              clear hs4 hb4 hu hv
              go_wp2_with fail
              generalize wr.heap.size = q at *
              generalize wr.alloc (.cells #[.int .i64 t.1, .int .i64 t.2] 78) = w4 at *
              have q0 := HB4.out.cell 0
              have q1 := HB4.out.cell 1
              clear d0 d1
              go_region_held3 (fun w' => w'.cell? ⟨q, 0, none⟩ = some (.int .i64 t.1) ∧ w'.cell? ⟨q, 1, none⟩ = some (.int .i64 t.2) ∧ Same w4 w')
                (first | (with_reducible assumption) | exact ⟨q0, q1, (Same.refl w4).drew⟩ | (rcases ‹_ ∧ _ ∧ Same w4 _› with ⟨x0, x1, x9⟩; exact ⟨hs.cell x0, hs.cell x1, x9.trans hs⟩))
                (first | (go_at_call 109; ((with_reducible refine (HA _).mono ?_); rintro e w' ⟨rfl, hs⟩)) | (go_at_call 109; ((with_reducible refine (HB _).mono ?_); rintro e w' ⟨rfl, hs⟩)))
              rcases ‹_ ∧ _ ∧ Same w4 _› with ⟨_, _, x9⟩
              have HS5 := Lib.hid (HS4.out.trans x9)
              clear x9
              cases u <;> cases v
              · go_wp2_with fail
                go_roundg G2
                case rel =>
                  refine ⟨j + 1, by omega, by go_num, ?_, HS5.out⟩
                  intro i hi
                  rcases Nat.lt_or_ge i j with h1 | h1
                  · exact HN2.out i h1
                  · have : i = j := by omega
                    subst this
                    rw [← HTX.out]
                    show (hasB (t.1, t.2) (k : Int) != hasB (t.1, t.2) x.n) = false
                    rw [← HU.out, ← HV.out]
                    rfl
                case measure => omega
              · go_wp2_with fail
                go_ret2
                have hy : crossAt p l k = true := HYES.out j HOP.out (by have := HN.out; omega) (by rw [← HTX.out]; show (hasB (t.1, t.2) (k : Int) != hasB (t.1, t.2) x.n) = true; rw [← HU.out, ← HV.out]; rfl)
                have e : first p.length (crossAt p l) = some k := first_some (by have := HL.out; omega) hy HNO.out
                exact ⟨ret_ib (by unfold crsI; rw [e]) (by unfold crsB; rw [e]; rfl), HS5.out⟩
              · go_wp2_with fail
                go_ret2
                have hy : crossAt p l k = true := HYES.out j HOP.out (by have := HN.out; omega) (by rw [← HTX.out]; show (hasB (t.1, t.2) (k : Int) != hasB (t.1, t.2) x.n) = true; rw [← HU.out, ← HV.out]; rfl)
                have e : first p.length (crossAt p l) = some k := first_some (by have := HL.out; omega) hy HNO.out
                exact ⟨ret_ib (by unfold crsI; rw [e]) (by unfold crsB; rw [e]; rfl), HS5.out⟩
              · go_wp2_with fail
                go_roundg G2
                case rel =>
                  refine ⟨j + 1, by omega, by go_num, ?_, HS5.out⟩
                  intro i hi
                  rcases Nat.lt_or_ge i j with h1 | h1
                  · exact HN2.out i h1
                  · have : i = j := by omega
                    subst this
                    rw [← HTX.out]
                    show (hasB (t.1, t.2) (k : Int) != hasB (t.1, t.2) x.n) = false
                    rw [← HU.out, ← HV.out]
                    rfl
                case measure => omega

end Go.Proofs.YtnlndkpjfgpodaaDoor.Fw
end
end
section
set_option linter.unusedVariables false
set_option linter.unusedSimpArgs false
namespace Go.Proofs.YtnlndkpjfgpodaaDoor.Fw
open Go.ChangeShapes Go.WideShapes Go.ChangeAt Go.RowKit Ws Fp
open Go.Proofs.YtnlndkpjfgpodaaDoor.Is (Tabs ins rightB leadB target_any right_any ret2i)

def ckI (p : List Ins) : Int := (check rightI p).1
def ckE (p : List Ins) : Int := (check rightI p).2
theorem ck_of {p : List Ins} {a e : Int} (h : check rightI p = (a, e)) : ckI p = a ∧ ckE p = e := by unfold ckI ckE; rw [h]; exact ⟨rfl, rfl⟩

set_option maxRecDepth 100000 in
set_option maxHeartbeats 1000000 in
theorem check_any (A : Option Addr) (m c : Nat) (p : List Ins) (w : World) (hl : p.length = m) (hm : m ≤ 5000) (hp : Prg w A p) (ht : Tabs w) :
    Calls Tryd.prog 53 #[.slice A m c] w fun e w' => e = .returned (.tuple #[.int .i64 (ckI p), .int .i64 (ckE p)]) ∧ Same w w' := by
  have HL := Lib.hid hl
  have HP := Lib.hid hp
  have HT := Lib.hid ht
  by_cases hsz : m < 1 ∨ 64 < m
  · have hck := ck_of (check_size (right := rightI) (p := p) (by rw [hl]; exact hsz))
    rw [hck.1, hck.2]
    by_cases h0 : m = 0
    · subst h0
      clear hl hp ht hsz hck hm
      go_enter Tryd.func53, Tryd.ntmps53
      go_wp2_with fail
      go_ret2
      exact ⟨rfl, Same.refl _⟩
    · have b0 : ((m : Int) == 0) = false := by simp; omega
      have b1 : decide ((64 : Int) < (m : Int)) = true := by simp; omega
      clear hl hp ht hsz hck h0
      go_enter Tryd.func53, Tryd.ntmps53
      go_wp2_with fail
      go_ret2
      exact ⟨rfl, Same.refl _⟩
  · have hs1 : 1 ≤ p.length ∧ p.length ≤ 64 := by omega
    have HSZ := Lib.hid hs1
    have b0 : ((m : Int) == 0) = false := by simp; omega
    have b1 : decide ((64 : Int) < (m : Int)) = false := by simp; omega
    have h64 : m ≤ 64 := by omega
    clear hl hp ht hsz hs1
    go_enter Tryd.func53, Tryd.ntmps53
    go_wp2_with fail
    go_loopg [23] m (fun gk iv wx => ∃ k : Nat, k + gk = m ∧ iv = .int .i64 k ∧ (∀ j, j < k → rightI (Fp.at_ p j) = true) ∧ Same w wx)
    case atStart => exact ⟨0, by omega, rfl, fun j hj => by omega, Same.refl _⟩
    case round =>
      obtain ⟨k, hk, rfl, hri, sx⟩ := hrel
      have HRI := Lib.hid hri
      have HS := Lib.hid sx
      clear hri sx
      cases gk with
      | succ GK =>
        have hlt : (k : Int) < m := by omega
        have hkp : k < p.length := by have := HL.out; omega
        obtain ⟨hok, b, o, rfl, c0, c1, c2, c3, c4⟩ := (HP.out.same HS.out).at_ (k := k) hkp
        have hx := rfl (a := Fp.at_ p k)
        have HKP := Lib.hid hkp
        clear hkp hx
        obtain ⟨x, hx⟩ : ∃ x, x = Fp.at_ p k := ⟨_, rfl⟩
        rw [← hx] at c0 c1 c2 c3 c4 hok
        have HX := Lib.hid hx
        clear hx
        have hs2 := (Same.refl wr).alloc (.cells #[.int .i64 x.op, .int .i64 x.a, .int .i64 x.b, .int .i64 x.c, .int .u32 x.n] 67)
        have HS2 := Lib.hid (HS.out.trans hs2)
        have RA := Lib.hid (right_any x.op x.a x.b x.c x.n hok _ (HT.out.same HS2.out))
        unfold ins at RA
        clear hs2
        go_wp2_with fail
        refine RA.out.mono ?_
        rintro e w1 ⟨rfl, s1⟩
        cases hr : rightB x.op x.a x.b x.c x.n
        · have HRF : Hid (rightI (Fp.at_ p k) = false) := Lib.hid (by rw [← HX.out]; exact hr)
          clear hr
          go_wp2_with fail
          go_ret2
          have := ck_of (check_form HSZ.out HKP.out HRF.out HRI.out)
          exact ⟨ret_ii this.1.symm this.2.symm, HS2.out.trans s1⟩
        · have HRT : Hid (rightI (Fp.at_ p k) = true) := Lib.hid (by rw [← HX.out]; exact hr)
          clear hr
          go_wp2_with fail
          go_roundg GK
          case rel =>
            refine ⟨k + 1, by omega, by go_num, ?_, HS2.out.trans s1⟩
            intro i hi
            rcases Nat.lt_or_ge i k with h1 | h1
            · exact HRI.out i h1
            · have : i = k := by omega
              subst this
              exact HRT.out
          case measure => omega
      | zero =>
        obtain rfl : k = m := by omega
        have hge : ¬ (k : Int) < (k : Int) := by omega
        have HR1 : Hid (∀ j, j < p.length → rightI (Fp.at_ p j) = true) := Lib.hid (fun j hj => HRI.out j (by have := HL.out; omega))
        clear HRI
        go_wp2_with fail
        go_loopg [35] k (fun gk iv wx => ∃ i : Nat, i + gk = k ∧ iv = .int .i64 i ∧ (∀ j, j < i → strayB p j = false) ∧ Same w wx)
        case atStart => exact ⟨0, by omega, rfl, fun j hj => by omega, HS.out⟩
        case round =>
          obtain ⟨i, hi, rfl, hst, sx⟩ := hrel
          have HST := Lib.hid hst
          have HS3 := Lib.hid sx
          clear hst sx HS
          cases gk with
          | succ GK =>
            have hlt : (i : Int) < k := by omega
            have hik : i < k := by omega
            have HIP : Hid (i < p.length) := Lib.hid (by have := HL.out; omega)
            have SA := Lib.hid (stray_any A k c p i wr HL.out hm (HP.out.same HS3.out) (HT.out.same HS3.out) hik (HR1.out i HIP.out))
            go_wp2_with fail
            refine SA.out.mono ?_
            rintro e w1 ⟨rfl, s1⟩
            cases hst : strayB p i
            · have HSF := Lib.hid hst
              clear hst
              go_wp2_with fail
              go_roundg GK
              case rel =>
                refine ⟨i + 1, by omega, by go_num, ?_, HS3.out.trans s1⟩
                intro j hj
                rcases Nat.lt_or_ge j i with h1 | h1
                · exact HST.out j h1
                · have : j = i := by omega
                  subst this
                  exact HSF.out
              case measure => omega
            · have HSF := Lib.hid hst
              clear hst
              go_wp2_with fail
              go_ret2
              have := ck_of (check_flow HSZ.out HR1.out HIP.out HSF.out HST.out)
              exact ⟨ret_ii this.1.symm this.2.symm, HS3.out.trans s1⟩
          | zero =>
            obtain rfl : i = k := by omega
            have hge : ¬ (i : Int) < (i : Int) := by omega
            have HR2 : Hid (∀ j, j < p.length → strayB p j = false) := Lib.hid (fun j hj => HST.out j (by have := HL.out; omega))
            clear HST
            have LO := Lib.hid (loops_any A i c p wr HL.out hm (HP.out.same HS3.out))
            go_wp2_with fail
            refine LO.out.mono ?_
            rintro e w1 ⟨LA, lc, rfl, ho, s1⟩
            have HS4 := Lib.hid (HS3.out.trans s1)
            have HSP := Lib.hid (spn_of ho.row)
            have hlen := loopsTo_len (p := p) p.length
            have HLE : Hid ((loopsL p).length ≤ i) := Lib.hid (by have := HL.out; unfold loopsL; omega)
            have hcap : (loopsL p).length ≤ lc := by
              rcases ho.2 with ⟨h2, hz⟩ | ⟨g, cap, cur, hv, _, _, hnc, _⟩
              · omega
              · injection hv with _ _ hc
                omega
            have OV := Lib.hid (overlapping_any LA (loopsL p).length lc (loopsL p) w1 rfl (by have := HLE.out; omega) hcap HSP.out)
            have hlw : (loopsL p).length ≤ 5000 := by have := HLE.out; omega
            have HLW := Lib.hid hlw
            clear ho hlen hcap hlw s1 LO
            obtain ⟨ln, hln⟩ : ∃ ln, ln = (loopsL p).length := ⟨_, rfl⟩
            rw [← hln] at OV ⊢
            have HLN := Lib.hid hln
            clear hln
            go_wp2_with fail
            refine OV.out.mono ?_
            rintro e w2 ⟨rfl, s2⟩
            have HS5 := Lib.hid (HS4.out.trans s2)
            have CR := Lib.hid (crossing_any A i c p LA ln lc (loopsL p) w2 HL.out hm (HP.out.same HS5.out) (HT.out.same HS5.out) HR1.out HLN.out.symm (by have := HLN.out; have := HLW.out; omega) (HSP.out.same s2))
            clear s2 OV
            cases hov : ovlB (loopsL p)
            · have HR3 : Hid (∀ j, j < (loopsL p).length → overAt (loopsL p) j = false) := Lib.hid (first_no (by unfold ovlB at hov; simpa using hov))
              clear hov
              go_wp2_with fail
              refine CR.out.mono ?_
              rintro e w3 ⟨rfl, s3⟩
              have HS6 := Lib.hid (HS5.out.trans s3)
              clear s3 CR
              cases hcr : crsB p (loopsL p)
              · have HR4 : Hid (∀ j, j < p.length → crossAt p (loopsL p) j = false) := Lib.hid (first_no (by unfold crsB at hcr; simpa using hcr))
                clear hcr
                have hi1 : 1 ≤ i := by have := HSZ.out; have := HL.out; omega
                obtain ⟨hok, b, o, rfl, c0, _⟩ := (HP.out.same HS6.out).at_ (k := i - 1) (by have := HL.out; omega)
                have f1 := i64_of ((i : Int) - 1) (by omega)
                have f2 : ((i : Int) - 1).toNat = i - 1 := by omega
                have f3 : (0 : Int) ≤ (i : Int) - 1 := by omega
                have f4 : (i : Int) - 1 < i := by omega
                have hck := ck_of (check_last HSZ.out HR1.out HR2.out HR3.out HR4.out)
                have HE : Hid (p.length - 1 = i - 1 ∧ (p.length : Int) - 1 = (i : Int) - 1) := Lib.hid (by have := HL.out; omega)
                have hck' := check_last HSZ.out HR1.out HR2.out HR3.out HR4.out
                rw [HE.out.1, HE.out.2] at hck'
                have HCK := Lib.hid hck'
                clear hck hck' hok
                generalize Fp.at_ p (i - 1) = x at *
                by_cases h21 : x.op = 21
                · have b21 : (x.op != 21) = false := by simpa using h21
                  have := HCK.out
                  rw [if_pos h21] at this
                  have HC2 := Lib.hid (ck_of this)
                  clear this h21
                  go_wp2_with fail
                  go_ret2
                  exact ⟨ret_ii HC2.out.1.symm HC2.out.2.symm, HS6.out⟩
                · have b21 : (x.op != 21) = true := by simpa using h21
                  have := HCK.out
                  rw [if_neg h21] at this
                  have HC2 := Lib.hid (ck_of this)
                  clear this h21
                  go_wp2_with fail
                  go_ret2
                  exact ⟨ret_ii HC2.out.1.symm HC2.out.2.symm, HS6.out⟩
              · obtain ⟨j, hj⟩ := Option.isSome_iff_exists.1 (show (first p.length (crossAt p (loopsL p))).isSome = true from hcr)
                have h3 := first_yes hj
                have HC2 := Lib.hid (ck_of (check_cross HSZ.out HR1.out HR2.out HR3.out h3.1 h3.2.1 h3.2.2))
                have HV : Hid (crsI p (loopsL p) = (j : Int)) := Lib.hid (by unfold crsI; rw [hj])
                clear hcr hj h3
                go_wp2_with fail
                go_ret2
                exact ⟨ret_ii (HV.out.trans HC2.out.1.symm) HC2.out.2.symm, HS6.out⟩
            · obtain ⟨j, hj⟩ := Option.isSome_iff_exists.1 (show (first (loopsL p).length (overAt (loopsL p))).isSome = true from hov)
              have h3 := first_yes hj
              have HC2 := Lib.hid (ck_of (check_over HSZ.out HR1.out HR2.out h3.1 h3.2.1 h3.2.2))
              have HV : Hid (ovlI (loopsL p) = (lp (loopsL p) j).2) := Lib.hid (by unfold ovlI; rw [hj])
              clear hov hj h3
              go_wp2_with fail
              go_ret2
              exact ⟨ret_ii (HV.out.trans HC2.out.1.symm) HC2.out.2.symm, HS5.out⟩

end Go.Proofs.YtnlndkpjfgpodaaDoor.Fw
end
