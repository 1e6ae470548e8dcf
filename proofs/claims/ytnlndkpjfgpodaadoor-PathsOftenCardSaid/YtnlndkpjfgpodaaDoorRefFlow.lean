/-

  The document's own answers on layer 10: its loops, and whether two overlap.
-/
import Derived.Test.YtnlndkpjfgpodaaDoorFlowCk
import Derived.Test.YtnlndkpjfgpodaaDoorIsaRef
import Derived.Test.YtnlndkpjfgpodaaDoorRegionOff
set_option linter.unusedVariables false
set_option linter.unusedSimpArgs false
namespace Go.Proofs.YtnlndkpjfgpodaaDoor.Fw
open Go.ChangeShapes Go.WideShapes Go.ChangeAt Go.RowKit Ws Fp
open Go.Proofs.YtnlndkpjfgpodaaDoor.Is (Tabs ins rightB leadB rright_any)

theorem rin_any (a b x : Int) (w : World) :
    Calls Tryd.prog 41 #[.agg #[.int .i64 a, .int .i64 b], .int .i64 x] w fun e w' => e = .returned (.bool (hasB (a, b) x)) ∧ Same w w' := by
  unfold hasB
  by_cases h1 : a ≤ x
  · have e1 : decide ((a, b).1 ≤ x ∧ x ≤ (a, b).2) = decide (x ≤ b) := by rw [decide_eq_decide]; exact ⟨fun h => h.2, fun h => ⟨h1, h⟩⟩
    rw [e1]
    have b1 : decide (a ≤ x) = true := decide_eq_true h1
    clear e1
    go_enter Tryd.func41, Tryd.ntmps41
    go_wp2
    go_ret
    exact ⟨rfl, (Same.refl _).alloc _⟩
  · have e1 : decide ((a, b).1 ≤ x ∧ x ≤ (a, b).2) = false := decide_eq_false fun h => h1 h.1
    rw [e1]
    have b1 : decide (a ≤ x) = false := decide_eq_false h1
    clear e1
    go_enter Tryd.func41, Tryd.ntmps41
    go_wp2
    go_ret
    exact ⟨rfl, (Same.refl _).alloc _⟩

set_option maxRecDepth 100000 in
theorem rloops_any (A : Option Addr) (m c : Nat) (p : List Ins) (w : World) (hl : p.length = m) (hm : m ≤ 5000) (hp : Prg w A p) :
    Calls Tryd.prog 39 #[.slice A m c] w (LoopsPost w p) := by
  obtain ⟨i0, hi, hz0, hz1, hz2⟩ := info_parts span_info
  have HL := Lib.hid hl
  have HP := Lib.hid hp
  clear hl hp
  unfold LoopsPost
  go_enter Tryd.func39, Tryd.ntmps39
  go_wp2_with fail
  go_loopg [8, 3] m (fun gk iv lv wx => ∃ (k : Nat) (A' : Option Addr) (n' c' : Nat), k + gk = m ∧ iv = .int .i64 k ∧ lv = .slice A' n' c' ∧ n' = (loopsTo p k).length ∧ OwnK wx w.heap.size 78 2 A' n' c' (spanCells (loopsTo p k)) ∧ Same w wx)
  case atStart => exact ⟨0, none, 0, 0, by omega, rfl, rfl, rfl, OwnK.none _ _ _ _, Same.refl _⟩
  case round =>
    obtain ⟨k, A', n', c', hk, rfl, rfl, hn, ho, sx⟩ := hrel
    have HO := Lib.hid ho
    have HS := Lib.hid sx
    have HN := Lib.hid hn
    clear ho sx hn
    cases gk with
    | zero =>
      obtain rfl : k = m := by omega
      have hge : ¬ (k : Int) < (k : Int) := by omega
      go_wp2_with fail
      go_ret
      have e : loopsTo p k = loopsL p := by unfold loopsL; rw [HL.out]
      have h1 := HO.out
      have h2 := HN.out
      rw [e] at h1 h2
      subst h2
      exact ⟨A', c', rfl, h1, HS.out⟩
    | succ GK =>
      have hlt : (k : Int) < m := by omega
      obtain ⟨hok, b, o, rfl, c0, c1, c2, c3, c4⟩ := (HP.out.same HS.out).at_ (k := k) (by have := HL.out; omega)
      have hE : loopsTo p (k + 1) = loopsTo p k ++ (if (Fp.at_ p k).op = 16 then [((Fp.at_ p k).n, (k : Int))] else []) := rfl
      have HE := Lib.hid hE
      clear hE
      generalize Fp.at_ p k = x at *
      have hn := hok
      unfold Ins.ok at hn
      have f1 := i64_of x.n (by omega)
      have hs1 := (Same.refl wr).alloc (.cells #[.int .i64 x.op, .int .i64 x.a, .int .i64 x.b, .int .i64 x.c, .int .u32 x.n] 67)
      have HS1 := Lib.hid (HS.out.trans hs1)
      have HO1 := Lib.hid (HO.out.same hs1)
      clear hs1
      by_cases h16 : x.op = 16
      · have b16 : (x.op == 16) = true := by simpa using h16
        have hE := HE.out
        rw [if_pos h16] at hE
        have HE' := Lib.hid hE
        clear hE h16
        go_wp2_with (at_builtin; go_loud (refine wpList_appK rfl (.tmp 16) (.tmp 22) 70 rfl w.heap.size 78 i0 _ 2 16 Tryd.underlying70 hi hz0 hz1 hz2 rfl (by omega) A' n' c' (spanCells (loopsTo p k)) rfl (HO1.out.same ((Same.refl _).alloc _)) _ 1 1 [.int .i64 x.n, .int .i64 k] rfl rfl (row_new2 _ _ _ _) (span_one _ _) ?c3 (by omega) ?c2 ?_))
        case c2 => have := HS1.out.size; simp at this ⊢; omega
        case c3 => have := HN.out; have := loopsTo_len (p := p) k; omega
        intro A2 c2' w2 ho2 hc2
        have HS2 := Lib.hid (Same.more (HS1.out.alloc _) hc2 fun g hg => by
          have hg : A' = some ⟨g, 0, none⟩ := hg
          subst hg
          exact HO.out.lt.1)
        rw [show spanCells (loopsTo p k) ++ [.int .i64 x.n, .int .i64 (k : Int)] = spanCells (loopsTo p (k + 1)) by rw [HE'.out, spanCells_app]; rfl] at ho2
        have HO2 := Lib.hid ho2
        clear ho2 hc2
        go_wp2_with fail
        go_roundg GK
        case rel => exact ⟨k + 1, A2, n' + 1, c2', by omega, by go_num, rfl, by rw [HE'.out, List.length_append, HN.out]; rfl, HO2.out, HS2.out⟩
        case measure => omega
      · have b16 : (x.op == 16) = false := by simpa using h16
        have hE := HE.out
        rw [if_neg h16, List.append_nil] at hE
        have HE' := Lib.hid hE
        clear hE h16
        go_wp2_with fail
        go_roundg GK
        case rel => exact ⟨k + 1, A', n', c', by omega, by go_num, rfl, by rw [HE'.out]; exact HN.out, by rw [HE'.out]; exact HO1.out, HS1.out⟩
        case measure => omega


set_option maxRecDepth 100000 in
theorem roverlap_any (a1 a2 c1 c2 : Int) (w : World) :
    Calls Tryd.prog 40 #[.agg #[.int .i64 a1, .int .i64 a2], .agg #[.int .i64 c1, .int .i64 c2]] w fun e w' => e = .returned (.bool (overR (a1, a2) (c1, c2))) ∧ Same w w' := by
  have hs0 := ((Same.refl w).alloc (.cells #[.int .i64 a1, .int .i64 a2] 78)).alloc (.cells #[.int .i64 c1, .int .i64 c2] 78)
  have b1 := (Blk.new w 78 #[.int .i64 a1, .int .i64 a2]).same ((Same.refl _).alloc (.cells #[.int .i64 c1, .int .i64 c2] 78))
  have b2 := Blk.new (w.alloc (.cells #[.int .i64 a1, .int .i64 a2] 78)) 78 #[.int .i64 c1, .int .i64 c2]
  rw [show (w.alloc (.cells #[.int .i64 a1, .int .i64 a2] 78)).heap.size = w.heap.size + 1 by simp] at b2
  have HS0 := Lib.hid hs0
  have B1 := Lib.hid b1
  have B2 := Lib.hid b2
  clear hs0 b1 b2
  go_enter Tryd.func40, Tryd.ntmps40
  go_wp2_with fail
  go_loopg [8, 5, 6, 7] 64 (fun gk iv v1 v2 v3 wx => ∃ k : Nat, k + gk = 64 ∧ iv = .int .i64 k ∧ v1 = .int .i64 ((cnt (bothF (a1, a2) (c1, c2)) k : Nat) : Int) ∧ v2 = .int .i64 ((cnt (justF (a1, a2) (c1, c2)) k : Nat) : Int) ∧ v3 = .int .i64 ((cnt (otherF (a1, a2) (c1, c2)) k : Nat) : Int) ∧ Same w wx ∧ Blk wx w.heap.size 78 #[.int .i64 a1, .int .i64 a2] ∧ Blk wx (w.heap.size + 1) 78 #[.int .i64 c1, .int .i64 c2])
  case atStart => exact ⟨0, by omega, rfl, rfl, rfl, rfl, HS0.out, B1.out, B2.out⟩
  case round =>
    obtain ⟨k, hk, rfl, rfl, rfl, rfl, sx, x1, x2⟩ := hrel
    have HS := Lib.hid sx
    have HX1 := Lib.hid x1
    have HX2 := Lib.hid x2
    clear sx x1 x2 HS0 B1 B2
    obtain ⟨n1, hn1⟩ : ∃ n, n = cnt (bothF (a1, a2) (c1, c2)) k := ⟨_, rfl⟩
    obtain ⟨n2, hn2⟩ : ∃ n, n = cnt (justF (a1, a2) (c1, c2)) k := ⟨_, rfl⟩
    obtain ⟨n3, hn3⟩ : ∃ n, n = cnt (otherF (a1, a2) (c1, c2)) k := ⟨_, rfl⟩
    have l1 := cnt_le (bothF (a1, a2) (c1, c2)) k
    have l2 := cnt_le (justF (a1, a2) (c1, c2)) k
    have l3 := cnt_le (otherF (a1, a2) (c1, c2)) k
    rw [← hn1, ← hn2, ← hn3]
    rw [← hn1] at l1
    rw [← hn2] at l2
    rw [← hn3] at l3
    have H1 := Lib.hid hn1
    have H2 := Lib.hid hn2
    have H3 := Lib.hid hn3
    clear hn1 hn2 hn3
    cases gk with
    | zero =>
      obtain rfl : k = 64 := by omega
      have hge : ¬ ((64 : Nat) : Int) < 64 := by omega
      have hov : overR (a1, a2) (c1, c2) = (decide ((0 : Int) < n1) && decide ((0 : Int) < n2) && decide ((0 : Int) < n3)) := by
        unfold overR
        rw [← H1.out, ← H2.out, ← H3.out, Bool.eq_iff_iff]
        simp
        omega
      have HOV := Lib.hid hov
      clear hov
      go_wp2_with fail
      all_goals
        go_ret
        refine ⟨ret_bool ?_, HS.out⟩
        rw [HOV.out, Bool.eq_iff_iff]
        simp
        try omega
    | succ GK =>
      have hlt : (k : Int) < 64 := by omega
      have N1 : Hid (cnt (bothF (a1, a2) (c1, c2)) (k + 1) = n1 + if bothF (a1, a2) (c1, c2) k then 1 else 0) := Lib.hid (by rw [H1.out]; rfl)
      have N2 : Hid (cnt (justF (a1, a2) (c1, c2)) (k + 1) = n2 + if justF (a1, a2) (c1, c2) k then 1 else 0) := Lib.hid (by rw [H2.out]; rfl)
      have N3 : Hid (cnt (otherF (a1, a2) (c1, c2)) (k + 1) = n3 + if otherF (a1, a2) (c1, c2) k then 1 else 0) := Lib.hid (by rw [H3.out]; rfl)
      have HA := fun w' => rin_any a1 a2 k w'
      have HB := fun w' => rin_any c1 c2 k w'
      have F1 : Hid (bothF (a1, a2) (c1, c2) k = (hasB (a1, a2) k && hasB (c1, c2) k)) := Lib.hid rfl
      have F2 : Hid (justF (a1, a2) (c1, c2) k = (hasB (a1, a2) k && !hasB (c1, c2) k)) := Lib.hid rfl
      have F3 : Hid (otherF (a1, a2) (c1, c2) k = (!hasB (a1, a2) k && hasB (c1, c2) k)) := Lib.hid rfl
      have y0 := HX1.out.cell 0
      have y1 := HX1.out.cell 1
      have z0 := HX2.out.cell 0
      have z1 := HX2.out.cell 1
      cases u : hasB (a1, a2) (k : Int) <;> cases v : hasB (c1, c2) (k : Int)
      all_goals
        rw [u] at HA
        rw [v] at HB
        have G1 := F1.out
        have G2 := F2.out
        have G3 := F3.out
        rw [u, v] at G1 G2 G3
        have M1 := N1.out
        have M2 := N2.out
        have M3 := N3.out
        rw [G1] at M1
        rw [G2] at M2
        rw [G3] at M3
        have HM1 := Lib.hid M1
        have HM2 := Lib.hid M2
        have HM3 := Lib.hid M3
        clear G1 G2 G3 M1 M2 M3 N1 N2 N3 F1 F2 F3 u v
      · go_wp2_with fail
        refine (HA _).mono ?_
        rintro e w1 ⟨rfl, s1⟩
        have HX3 := Lib.hid (HX1.out.same s1)
        have HX4 := Lib.hid (HX2.out.same s1)
        have HS1 := Lib.hid (HS.out.trans s1)
        have p0 := HX3.out.cell 0
        have p1 := HX3.out.cell 1
        have r0 := HX4.out.cell 0
        have r1 := HX4.out.cell 1
        clear y0 y1 z0 z1
        go_wp2_with fail
        refine (HA _).mono ?_
        rintro e w2 ⟨rfl, s2⟩
        have HX5 := Lib.hid (HX3.out.same s2)
        have HX6 := Lib.hid (HX4.out.same s2)
        have HS2 := Lib.hid (HS1.out.trans s2)
        have i0 := HX5.out.cell 0
        have i1 := HX5.out.cell 1
        have j0 := HX6.out.cell 0
        have j1 := HX6.out.cell 1
        clear p0 p1 r0 r1
        go_wp2_with fail
        refine (HB _).mono ?_
        rintro e w3 ⟨rfl, s3⟩
        have HX7 := Lib.hid (HX5.out.same s3)
        have HX8 := Lib.hid (HX6.out.same s3)
        have HS3 := Lib.hid (HS2.out.trans s3)
        clear i0 i1 j0 j1
        go_wp2_with fail
        go_roundg GK
        case rel => exact ⟨k + 1, by omega, by go_num, by rw [HM1.out]; go_num, by rw [HM2.out]; go_num, by rw [HM3.out]; go_num, HS3.out, HX7.out, HX8.out⟩
        case measure => omega
      · go_wp2_with fail
        refine (HA _).mono ?_
        rintro e w1 ⟨rfl, s1⟩
        have HX3 := Lib.hid (HX1.out.same s1)
        have HX4 := Lib.hid (HX2.out.same s1)
        have HS1 := Lib.hid (HS.out.trans s1)
        have p0 := HX3.out.cell 0
        have p1 := HX3.out.cell 1
        have r0 := HX4.out.cell 0
        have r1 := HX4.out.cell 1
        clear y0 y1 z0 z1
        go_wp2_with fail
        refine (HA _).mono ?_
        rintro e w2 ⟨rfl, s2⟩
        have HX5 := Lib.hid (HX3.out.same s2)
        have HX6 := Lib.hid (HX4.out.same s2)
        have HS2 := Lib.hid (HS1.out.trans s2)
        have i0 := HX5.out.cell 0
        have i1 := HX5.out.cell 1
        have j0 := HX6.out.cell 0
        have j1 := HX6.out.cell 1
        clear p0 p1 r0 r1
        go_wp2_with fail
        refine (HB _).mono ?_
        rintro e w3 ⟨rfl, s3⟩
        have HX7 := Lib.hid (HX5.out.same s3)
        have HX8 := Lib.hid (HX6.out.same s3)
        have HS3 := Lib.hid (HS2.out.trans s3)
        clear i0 i1 j0 j1
        go_wp2_with fail
        go_roundg GK
        case rel => exact ⟨k + 1, by omega, by go_num, by rw [HM1.out]; go_num, by rw [HM2.out]; go_num, by rw [HM3.out]; go_num, HS3.out, HX7.out, HX8.out⟩
        case measure => omega
      · go_wp2_with fail
        refine (HA _).mono ?_
        rintro e w1 ⟨rfl, s1⟩
        have HX3 := Lib.hid (HX1.out.same s1)
        have HX4 := Lib.hid (HX2.out.same s1)
        have HS1 := Lib.hid (HS.out.trans s1)
        have p0 := HX3.out.cell 0
        have p1 := HX3.out.cell 1
        have r0 := HX4.out.cell 0
        have r1 := HX4.out.cell 1
        clear y0 y1 z0 z1
        go_wp2_with fail
        refine (HB _).mono ?_
        rintro e w2 ⟨rfl, s2⟩
        have HX5 := Lib.hid (HX3.out.same s2)
        have HX6 := Lib.hid (HX4.out.same s2)
        have HS2 := Lib.hid (HS1.out.trans s2)
        have i0 := HX5.out.cell 0
        have i1 := HX5.out.cell 1
        have j0 := HX6.out.cell 0
        have j1 := HX6.out.cell 1
        clear p0 p1 r0 r1
        go_wp2_with fail
        refine (HA _).mono ?_
        rintro e w3 ⟨rfl, s3⟩
        have HX7 := Lib.hid (HX5.out.same s3)
        have HX8 := Lib.hid (HX6.out.same s3)
        have HS3 := Lib.hid (HS2.out.trans s3)
        clear i0 i1 j0 j1
        go_wp2_with fail
        go_roundg GK
        case rel => exact ⟨k + 1, by omega, by go_num, by rw [HM1.out]; go_num, by rw [HM2.out]; go_num, by rw [HM3.out]; go_num, HS3.out, HX7.out, HX8.out⟩
        case measure => omega
      · go_wp2_with fail
        refine (HA _).mono ?_
        rintro e w1 ⟨rfl, s1⟩
        have HX3 := Lib.hid (HX1.out.same s1)
        have HX4 := Lib.hid (HX2.out.same s1)
        have HS1 := Lib.hid (HS.out.trans s1)
        have p0 := HX3.out.cell 0
        have p1 := HX3.out.cell 1
        have r0 := HX4.out.cell 0
        have r1 := HX4.out.cell 1
        clear y0 y1 z0 z1
        go_wp2_with fail
        refine (HB _).mono ?_
        rintro e w2 ⟨rfl, s2⟩
        have HX5 := Lib.hid (HX3.out.same s2)
        have HX6 := Lib.hid (HX4.out.same s2)
        have HS2 := Lib.hid (HS1.out.trans s2)
        have i0 := HX5.out.cell 0
        have i1 := HX5.out.cell 1
        have j0 := HX6.out.cell 0
        have j1 := HX6.out.cell 1
        clear p0 p1 r0 r1
        go_wp2_with fail
        go_roundg GK
        case rel => exact ⟨k + 1, by omega, by go_num, by rw [HM1.out]; go_num, by rw [HM2.out]; go_num, by rw [HM3.out]; go_num, HS2.out, HX5.out, HX6.out⟩
        case measure => omega

end Go.Proofs.YtnlndkpjfgpodaaDoor.Fw
