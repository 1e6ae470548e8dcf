/-

  LayoutLays: where all stands, and all words at the beginning.
-/
import Derived.Test.YtaclphhbdfoaeaaLayLay
import Derived.Test.YtaclphhbdfoaeaaLayRlay
import Derived.Test.YtaclphhbdfoaeaaLaySame
import Derived.Test.YtaclphhbdfoaeaaLayAwake
import Derived.Test.YtaclphhbdfoaeaaSysFew
import Derived.Test.YtaclphhbdfoaeaaSysIn2
set_option linter.unusedVariables false
set_option linter.unusedSimpArgs false
namespace Go.Proofs.Ytaclphhbdfoaeaa.Ly
open Go.Proofs.Ytaclphhbdfoaeaa.Im (PT PO PS TsAt OsAt SysAt SysWf)
open Go.ChangeShapes Go.WideShapes Go.ChangeAt Go.RowKit Ws

theorem obs_of {w : World} {A : Option Addr} {os : List PO} (h : OsAt w A os) : ∃ (obs : List Ly.Objt) (ins : List (List Int)), obs.length = os.length ∧ Ly.Objs w A obs ∧ Inis w obs ins := by
  have hch : ∀ i : Nat, ∃ t : Ly.Objt, i < os.length → ((0 ≤ t.sa ∧ t.sa < 4294967296) ∧ ∃ b o, A = some ⟨b, o, none⟩ ∧ ∀ j v, (Ly.ocells t)[j]? = some v → w.cell? ⟨b, o + i * 8 + j, none⟩ = some v) ∧ ∃ p, os[i]? = some p ∧ Row w t.ia (p.ini.map (Value.int .u32)) ∧ p.ini.length = t.il := by
    intro i
    by_cases hi : i < os.length
    · obtain ⟨b, o, h1, X, c, Y, d, h2, h3, h4, _⟩ := h i _ (List.getElem?_eq_getElem hi)
      exact ⟨⟨os[i].k, os[i].wd, os[i].sl, os[i].cp, os[i].sa, X, os[i].ini.length, c, os[i].ow, Y, os[i].rd.length, d⟩, fun _ => ⟨⟨h3, b, o, h1, fun j v hv => h2 j v hv⟩, os[i], List.getElem?_eq_getElem hi, h4, rfl⟩⟩
    · exact ⟨default, fun h => absurd h hi⟩
  have hget : ∀ i (hi : i < os.length), ((List.range os.length).map fun i => Classical.choose (hch i))[i]? = some (Classical.choose (hch i)) := fun i hi => by
    rw [List.getElem?_map, List.getElem?_range hi]
    rfl
  refine ⟨(List.range os.length).map fun i => Classical.choose (hch i), os.map (·.ini), by simp, fun i r hr => ?_, fun i hi => ?_⟩
  · have hlt : i < os.length := by
      rcases Nat.lt_or_ge i os.length with hlt | hge
      · exact hlt
      · rw [List.getElem?_eq_none (by simpa using hge)] at hr
        cases hr
    rw [hget i hlt] at hr
    injection hr with hr
    rw [← hr]
    exact (Classical.choose_spec (hch i) hlt).1
  · have hlt : i < os.length := by simpa using hi
    obtain ⟨_, p, hp, h1, h2⟩ := Classical.choose_spec (hch i) hlt
    have e1 : oat ((List.range os.length).map fun i => Classical.choose (hch i)) i = Classical.choose (hch i) := by
      unfold oat
      rw [hget i hlt]
      rfl
    have e2 : inat (os.map (·.ini)) i = p.ini := by
      unfold inat
      rw [List.getElem?_map, hp]
      rfl
    rw [e1, e2]
    exact ⟨h1, h2⟩
theorem regs_nil (w : World) (A : Option Addr) : Regs w A [] := fun k r h => by simp at h
set_option maxRecDepth 100000 in
set_option maxHeartbeats 4000000 in
theorem lays_walk (A B : Option Addr) (n c m d : Nat) (s : PS) (w : World) (hs : SysAt w A n B m s) (hw : SysWf s) (hnm : n ≤ maxLen ∧ m ≤ maxLen) :
    Calls Try.prog 3 #[.agg #[.slice A n c, .slice B m d]] w fun e w' => e = .returned (.bool true) ∧ Same w w' := by
  obtain ⟨tks, hl1, htk⟩ := Im.tk_of hs.ht hw.ts
  obtain ⟨obs, ins, hl2, hob, hin⟩ := obs_of hs.ho
  rw [hs.hn] at hl1
  rw [hs.hm] at hl2
  have hs0 := (Same.refl w).alloc (.cells #[.slice A n c, .slice B m d] 25)
  have HS0 := Lib.hid hs0
  have hb0 := Blk.new w 25 #[.slice A n c, .slice B m d]
  have HB0 := Lib.hid hb0
  have FW := Lib.hid (Sy.few31 A B n c m d s 60 _ (hs.same hs0) hnm)
  have AW := Lib.hid awake31
  have HTN := Lib.hid hs.hn
  have HTM := Lib.hid hs.hm
  have OF := Lib.hid (fun w' (h : Same w w') (hn6 : n ≤ 60) (hm6 : m ≤ 60) => of_any A B n c m d tks obs w' hl1 hl2 (by omega) (by omega) (htk.same h) (hob.same h) (fun L hL => by have := lens_bd hL; rw [hl1, hl2] at this; exact this))
  have RO := Lib.hid (fun w' (h : Same w w') (hn6 : n ≤ 60) (hm6 : m ≤ 60) => rof_any A B n c m d tks obs w' hl1 hl2 hn6 hm6 (htk.same h) (hob.same h))
  have LL := Lib.hid (fun w' (h : Same w w') (hn6 : n ≤ 60) (hm6 : m ≤ 60) => llay_any A B n c m d tks obs ins w' hl1 hl2 hn6 hm6 (htk.same h) (hob.same h) (hin.same h))
  have RL := Lib.hid (fun w' (h : Same w w') (hn6 : n ≤ 60) (hm6 : m ≤ 60) L (hL : lensF tks obs = some L) (hsum : sumL L ≤ 4096) => rllay_any A B n c m d tks obs ins L w' hl1 hl2 hn6 hm6 (htk.same h) (hob.same h) (hin.same h) hL hsum)
  have LB := Lib.hid (fun L (hL : lensF tks obs = some L) => show L.length = n + m by have := (lens_bd hL).1; rw [hl1, hl2] at this; exact this)
  have LFA := Lib.hid (fun L (hL : lensF tks obs = some L) (hn6 : n ≤ 60) => lay_facts ins hL (show tks.length ≤ 60 by omega))
  have HL2 := Lib.hid hl2
  obtain ⟨a0, a1⟩ := (⟨hb0.cell 0, hb0.cell 1⟩ : _ ∧ _)
  simp only [List.getElem?_toArray, List.getElem?_cons_zero, List.getElem?_cons_succ] at a0 a1
  clear hs0 hb0 hs hw hnm hl1 hl2 htk hob hin
  go_enter Try.func3, Try.ntmps3
  go_wp2_with fail
  refine FW.out.mono ?_
  rintro e w1 ⟨⟨b, rfl, hb⟩, s1⟩
  have HS1 := Lib.hid (HS0.out.trans s1)
  have HB1 := Lib.hid (HB0.out.same s1)
  have HBB := Lib.hid hb
  clear s1 hb FW HS0 HB0 a0 a1
  cases b with
  | false =>
    go_wp2_with fail
    refine (AW.out _).mono ?_
    rintro e w2 ⟨rfl, s2⟩
    have HS2 := Lib.hid (HS1.out.trans s2)
    clear s2
    go_wp2_with fail
    go_ret
    exact ⟨rfl, HS2.out⟩
  | true =>
    obtain ⟨hf1, hf2⟩ := HBB.out (by first | rfl | trivial)
    have hn6 : n ≤ 60 := by have := hf1.1; have := HTN.out; omega
    have hm6 : m ≤ 60 := by have := hf2.1; have := HTM.out; omega
    have OF1 := Lib.hid (fun w' h => OF.out w' h hn6 hm6)
    have RO1 := Lib.hid (fun w' h => RO.out w' h hn6 hm6)
    have LL1 := Lib.hid (fun w' h => LL.out w' h hn6 hm6)
    have RL1 := Lib.hid (fun w' h => RL.out w' h hn6 hm6)
    have LFB := Lib.hid (fun L hL => LFA.out L hL hn6)
    clear OF RO LL RL LFA hf1 hf2 HBB
    unfold OfP at OF1 RO1
    unfold LLP at LL1
    have hcase : (∃ z : Int, (z = 1 ∨ z = 6) ∧ (∀ w', Same w w' → Calls Try.prog 6 #[.agg #[.slice A n c, .slice B m d]] w' fun e w'' => e = .returned (.tuple #[.agg #[.slice none 0 0, .slice none 0 0, .int .i64 0], .int .i64 z]) ∧ Same w' w'') ∧ (∀ w', Same w w' → Calls Try.prog 8 #[.agg #[.slice A n c, .slice B m d]] w' fun e w'' => e = .returned (.tuple #[.agg #[.slice none 0 0, .slice none 0 0, .int .i64 0], .int .i64 z]) ∧ Same w' w'') ∧ (∀ w', Same w w' → Calls Try.prog 7 #[.agg #[.slice A n c, .slice B m d]] w' fun e w'' => e = .returned (.tuple #[.pointer none, .agg #[.slice none 0 0, .slice none 0 0, .int .i64 0], .int .i64 z]) ∧ Same w' w'')) ∨ (∃ L, lensF tks obs = some L ∧ sumL L ≤ 4096) := by
      cases hR : lensF tks obs with
      | none =>
        rw [hR] at OF1 RO1 LL1
        exact .inl ⟨1, .inl rfl, OF1.out, RO1.out, LL1.out⟩
      | some L =>
        by_cases hsum : sumL L ≤ 4096
        · exact .inr ⟨L, rfl, hsum⟩
        · rw [hR] at OF1 RO1 LL1
          dsimp only at OF1 RO1 LL1
          simp only [if_neg hsum] at OF1 RO1 LL1
          exact .inl ⟨6, .inr rfl, OF1.out, RO1.out, LL1.out⟩
    obtain ⟨a0, a1⟩ := (⟨HB1.out.cell 0, HB1.out.cell 1⟩ : _ ∧ _)
    simp only [List.getElem?_toArray, List.getElem?_cons_zero, List.getElem?_cons_succ] at a0 a1
    rcases hcase with ⟨z, hz, h1, h2, h3⟩ | ⟨L, hL, hsum⟩
    · have H1 := Lib.hid h1
      have H2 := Lib.hid h2
      have H3 := Lib.hid h3
      clear h1 h2 h3 OF1 RO1 LL1 RL1 LFB
      rcases hz with rfl | rfl
      · skip
        go_wp2_with fail
        refine (H1.out _ HS1.out).mono ?_
        rintro e w2 ⟨rfl, s2⟩
        have s2a := s2.trans ((Same.refl w2).alloc (.cells #[.slice none 0 0, .slice none 0 0, .int .i64 0] 30))
        have HS2 := Lib.hid (HS1.out.trans s2a)
        have HB2 := Lib.hid (HB1.out.same s2a)
        have HX3 := Lib.hid (Blk.new w2 30 #[.slice none 0 0, .slice none 0 0, .int .i64 0])
        clear s2 s2a a0 a1
        obtain ⟨a0, a1⟩ := (⟨HB2.out.cell 0, HB2.out.cell 1⟩ : _ ∧ _)
        simp only [List.getElem?_toArray, List.getElem?_cons_zero, List.getElem?_cons_succ] at a0 a1
        go_wp2_with fail
        refine (H3.out _ HS2.out).mono ?_
        rintro e w3 ⟨rfl, s3⟩
        have s3a := s3.trans ((Same.refl w3).alloc (.cells #[.slice none 0 0, .slice none 0 0, .int .i64 0] 30))
        have HS3 := Lib.hid (HS2.out.trans s3a)
        have HB3 := Lib.hid (HB2.out.same s3a)
        have HX33 := Lib.hid (HX3.out.same s3a)
        have HX6 := Lib.hid (Blk.new w3 30 #[.slice none 0 0, .slice none 0 0, .int .i64 0])
        clear s3 s3a a0 a1 HX3
        obtain ⟨a0, a1⟩ := (⟨HB3.out.cell 0, HB3.out.cell 1⟩ : _ ∧ _)
        simp only [List.getElem?_toArray, List.getElem?_cons_zero, List.getElem?_cons_succ] at a0 a1
        go_wp2_with fail
        refine (H2.out _ HS3.out).mono ?_
        rintro e w4 ⟨rfl, s4⟩
        have s4a := s4.trans ((Same.refl w4).alloc (.cells #[.slice none 0 0, .slice none 0 0, .int .i64 0] 30))
        have HS4 := Lib.hid (HS3.out.trans s4a)
        have HB4 := Lib.hid (HB3.out.same s4a)
        have HX34 := Lib.hid (HX33.out.same s4a)
        have HX64 := Lib.hid (HX6.out.same s4a)
        have HX8 := Lib.hid (Blk.new w4 30 #[.slice none 0 0, .slice none 0 0, .int .i64 0])
        clear s4 s4a a0 a1 HX33 HX6
        obtain ⟨x0, x1, x2⟩ := layout_cells HX34.out
        obtain ⟨y0, y1, y2⟩ := layout_cells HX8.out
        have SA := Lib.hid (rsame_any none none none none 0 0 0 0 0 0 0 [] [] (w4.alloc (.cells #[.slice none 0 0, .slice none 0 0, .int .i64 0] 30)) rfl rfl (by omega) (by omega) (regs_nil _ _) (regs_nil _ _) (regs_nil _ _) (regs_nil _ _))
        go_wp2_with fail
        refine SA.out.mono ?_
        rintro e w5 ⟨rfl, s5⟩
        have HS5 := Lib.hid (HS4.out.trans s5)
        have HB5 := Lib.hid (HB4.out.same s5)
        have SB := Lib.hid (rsame_any none none none none 0 0 0 0 0 0 0 [] [] w5 rfl rfl (by omega) (by omega) (regs_nil _ _) (regs_nil _ _) (regs_nil _ _) (regs_nil _ _))
        clear x0 x1 x2 y0 y1 y2
        obtain ⟨x0, x1, x2⟩ := layout_cells (HX64.out.same s5)
        obtain ⟨y0, y1, y2⟩ := layout_cells (HX8.out.same s5)
        clear s5 HX34 HX64 HX8
        go_wp2_with fail
        refine SB.out.mono ?_
        rintro e w6 ⟨rfl, s6⟩
        have HS6 := Lib.hid (HS5.out.trans s6)
        have HB6 := Lib.hid (HB5.out.same s6)
        clear s6 x0 x1 x2 y0 y1 y2
        go_wp2_with fail
        refine (AW.out _).mono ?_
        rintro e w7 ⟨rfl, s7⟩
        have HS7 := Lib.hid (HS6.out.trans s7)
        clear s7
        go_wp2_with fail
        go_ret
        exact ⟨rfl, HS7.out⟩
      · skip
        go_wp2_with fail
        refine (H1.out _ HS1.out).mono ?_
        rintro e w2 ⟨rfl, s2⟩
        have s2a := s2.trans ((Same.refl w2).alloc (.cells #[.slice none 0 0, .slice none 0 0, .int .i64 0] 30))
        have HS2 := Lib.hid (HS1.out.trans s2a)
        have HB2 := Lib.hid (HB1.out.same s2a)
        have HX3 := Lib.hid (Blk.new w2 30 #[.slice none 0 0, .slice none 0 0, .int .i64 0])
        clear s2 s2a a0 a1
        obtain ⟨a0, a1⟩ := (⟨HB2.out.cell 0, HB2.out.cell 1⟩ : _ ∧ _)
        simp only [List.getElem?_toArray, List.getElem?_cons_zero, List.getElem?_cons_succ] at a0 a1
        go_wp2_with fail
        refine (H3.out _ HS2.out).mono ?_
        rintro e w3 ⟨rfl, s3⟩
        have s3a := s3.trans ((Same.refl w3).alloc (.cells #[.slice none 0 0, .slice none 0 0, .int .i64 0] 30))
        have HS3 := Lib.hid (HS2.out.trans s3a)
        have HB3 := Lib.hid (HB2.out.same s3a)
        have HX33 := Lib.hid (HX3.out.same s3a)
        have HX6 := Lib.hid (Blk.new w3 30 #[.slice none 0 0, .slice none 0 0, .int .i64 0])
        clear s3 s3a a0 a1 HX3
        obtain ⟨a0, a1⟩ := (⟨HB3.out.cell 0, HB3.out.cell 1⟩ : _ ∧ _)
        simp only [List.getElem?_toArray, List.getElem?_cons_zero, List.getElem?_cons_succ] at a0 a1
        go_wp2_with fail
        refine (H2.out _ HS3.out).mono ?_
        rintro e w4 ⟨rfl, s4⟩
        have s4a := s4.trans ((Same.refl w4).alloc (.cells #[.slice none 0 0, .slice none 0 0, .int .i64 0] 30))
        have HS4 := Lib.hid (HS3.out.trans s4a)
        have HB4 := Lib.hid (HB3.out.same s4a)
        have HX34 := Lib.hid (HX33.out.same s4a)
        have HX64 := Lib.hid (HX6.out.same s4a)
        have HX8 := Lib.hid (Blk.new w4 30 #[.slice none 0 0, .slice none 0 0, .int .i64 0])
        clear s4 s4a a0 a1 HX33 HX6
        obtain ⟨x0, x1, x2⟩ := layout_cells HX34.out
        obtain ⟨y0, y1, y2⟩ := layout_cells HX8.out
        have SA := Lib.hid (rsame_any none none none none 0 0 0 0 0 0 0 [] [] (w4.alloc (.cells #[.slice none 0 0, .slice none 0 0, .int .i64 0] 30)) rfl rfl (by omega) (by omega) (regs_nil _ _) (regs_nil _ _) (regs_nil _ _) (regs_nil _ _))
        go_wp2_with fail
        refine SA.out.mono ?_
        rintro e w5 ⟨rfl, s5⟩
        have HS5 := Lib.hid (HS4.out.trans s5)
        have HB5 := Lib.hid (HB4.out.same s5)
        have SB := Lib.hid (rsame_any none none none none 0 0 0 0 0 0 0 [] [] w5 rfl rfl (by omega) (by omega) (regs_nil _ _) (regs_nil _ _) (regs_nil _ _) (regs_nil _ _))
        clear x0 x1 x2 y0 y1 y2
        obtain ⟨x0, x1, x2⟩ := layout_cells (HX64.out.same s5)
        obtain ⟨y0, y1, y2⟩ := layout_cells (HX8.out.same s5)
        clear s5 HX34 HX64 HX8
        go_wp2_with fail
        refine SB.out.mono ?_
        rintro e w6 ⟨rfl, s6⟩
        have HS6 := Lib.hid (HS5.out.trans s6)
        have HB6 := Lib.hid (HB5.out.same s6)
        clear s6 x0 x1 x2 y0 y1 y2
        go_wp2_with fail
        refine (AW.out _).mono ?_
        rintro e w7 ⟨rfl, s7⟩
        have HS7 := Lib.hid (HS6.out.trans s7)
        clear s7
        go_wp2_with fail
        go_ret
        exact ⟨rfl, HS7.out⟩
    · have HLL := Lib.hid (LB.out L hL)
      have LF0 := Lib.hid (LFB.out L hL)
      have RL2 := Lib.hid (fun w' h => RL1.out w' h L hL hsum)
      rw [hL] at OF1 RO1 LL1
      dsimp only at OF1 RO1 LL1
      simp only [if_pos hsum] at OF1 RO1 LL1
      unfold RLP at RL2
      have HLN := Lib.hid (show ((cutL L).take n).length = n by rw [List.length_take, cut_len]; have := HLL.out; omega)
      have HLM := Lib.hid (show ((cutL L).drop n).length = m by rw [List.length_drop, cut_len]; have := HLL.out; omega)
      have HN5 := Lib.hid (show n ≤ 5000 by omega)
      have HM5 := Lib.hid (show m ≤ 5000 by omega)
      have hzl : (zws tks obs ins m).length ≤ 4096 := by rw [zws_len]; have h1 := LF0.out.all; rw [HL2.out] at h1; omega
      rw [show (List.replicate (tT tks) (0 : Int) ++ wsL obs ins m) = zws tks obs ins m from rfl] at LL1
      generalize zws tks obs ins m = Z at *
      obtain ⟨NZ, hNZ⟩ : ∃ NZ, Z.length = NZ := ⟨_, rfl⟩
      rw [hNZ] at RL2 hzl
      have HNZ := Lib.hid hNZ
      have HZL := Lib.hid hzl
      clear hNZ hzl
      obtain ⟨z, hz⟩ : ∃ z, z = sumL L := ⟨_, rfl⟩
      rw [← hz] at OF1 RO1 LL1
      have H1 := Lib.hid OF1.out
      have H2 := Lib.hid RO1.out
      have H3 := Lib.hid LL1.out
      clear OF1 RO1 LL1 RL1 LFB hz hL hsum
      go_wp2_with fail
      refine (H1.out _ HS1.out).mono ?_
      rintro e w2 ⟨A3, c3, B3, d3, rfl, ra3, rb3, s2⟩
      have s2a := s2.trans ((Same.refl w2).alloc (.cells #[.slice A3 n c3, .slice B3 m d3, .int .i64 z] 30))
      have HS2 := Lib.hid (HS1.out.trans s2a)
      have HB2 := Lib.hid (HB1.out.same s2a)
      have HX3 := Lib.hid (Blk.new w2 30 #[.slice A3 n c3, .slice B3 m d3, .int .i64 z])
      have RA3 := Lib.hid (ra3.same ((Same.refl w2).alloc (.cells #[.slice A3 n c3, .slice B3 m d3, .int .i64 z] 30)))
      have RB3 := Lib.hid (rb3.same ((Same.refl w2).alloc (.cells #[.slice A3 n c3, .slice B3 m d3, .int .i64 z] 30)))
      clear ra3 rb3
      clear s2 s2a a0 a1
      obtain ⟨a0, a1⟩ := (⟨HB2.out.cell 0, HB2.out.cell 1⟩ : _ ∧ _)
      simp only [List.getElem?_toArray, List.getElem?_cons_zero, List.getElem?_cons_succ] at a0 a1
      go_wp2_with fail
      refine (H3.out _ HS2.out).mono ?_
      rintro e w3 ⟨gm, A6, c6, B6, d6, rfl, ra6, rb6, ⟨RM, hm6'⟩, s3⟩
      have s3a := s3.trans ((Same.refl w3).alloc (.cells #[.slice A6 n c6, .slice B6 m d6, .int .i64 z] 30))
      have HS3 := Lib.hid (HS2.out.trans s3a)
      have HB3 := Lib.hid (HB2.out.same s3a)
      have HX33 := Lib.hid (HX3.out.same s3a)
      have HX6 := Lib.hid (Blk.new w3 30 #[.slice A6 n c6, .slice B6 m d6, .int .i64 z])
      have RA33 := Lib.hid (RA3.out.same s3a)
      have RB33 := Lib.hid (RB3.out.same s3a)
      have RA6 := Lib.hid (ra6.same ((Same.refl w3).alloc (.cells #[.slice A6 n c6, .slice B6 m d6, .int .i64 z] 30)))
      have RB6 := Lib.hid (rb6.same ((Same.refl w3).alloc (.cells #[.slice A6 n c6, .slice B6 m d6, .int .i64 z] 30)))
      have HMM := Lib.hid (hm6'.same ((Same.refl w3).alloc (.cells #[.slice A6 n c6, .slice B6 m d6, .int .i64 z] 30)))
      clear ra6 rb6 hm6' RA3 RB3
      clear s3 s3a a0 a1 HX3
      obtain ⟨a0, a1⟩ := (⟨HB3.out.cell 0, HB3.out.cell 1⟩ : _ ∧ _)
      simp only [List.getElem?_toArray, List.getElem?_cons_zero, List.getElem?_cons_succ] at a0 a1
      go_wp2_with fail
      refine (H2.out _ HS3.out).mono ?_
      rintro e w4 ⟨A8, c8, B8, d8, rfl, ra8, rb8, s4⟩
      have s4a := s4.trans ((Same.refl w4).alloc (.cells #[.slice A8 n c8, .slice B8 m d8, .int .i64 z] 30))
      have HS4 := Lib.hid (HS3.out.trans s4a)
      have HB4 := Lib.hid (HB3.out.same s4a)
      have HX34 := Lib.hid (HX33.out.same s4a)
      have HX64 := Lib.hid (HX6.out.same s4a)
      have HX8 := Lib.hid (Blk.new w4 30 #[.slice A8 n c8, .slice B8 m d8, .int .i64 z])
      have RA34 := Lib.hid (RA33.out.same s4a)
      have RB34 := Lib.hid (RB33.out.same s4a)
      have RA64 := Lib.hid (RA6.out.same s4a)
      have RB64 := Lib.hid (RB6.out.same s4a)
      have HM4 := Lib.hid (HMM.out.same s4a)
      have RA8 := Lib.hid (ra8.same ((Same.refl w4).alloc (.cells #[.slice A8 n c8, .slice B8 m d8, .int .i64 z] 30)))
      have RB8 := Lib.hid (rb8.same ((Same.refl w4).alloc (.cells #[.slice A8 n c8, .slice B8 m d8, .int .i64 z] 30)))
      clear ra8 rb8 RA33 RB33 RA6 RB6 HMM
      clear s4 s4a a0 a1 HX33 HX6
      obtain ⟨x0, x1, x2⟩ := layout_cells HX34.out
      obtain ⟨y0, y1, y2⟩ := layout_cells HX8.out
      have SA := Lib.hid (rsame_any A3 A8 B3 B8 n c3 c8 m d3 d8 z ((cutL L).take n) ((cutL L).drop n) (w4.alloc (.cells #[.slice A8 n c8, .slice B8 m d8, .int .i64 z] 30)) HLN.out HLM.out HN5.out HM5.out RA34.out RA8.out RB34.out RB8.out)
      go_wp2_with fail
      refine SA.out.mono ?_
      rintro e w5 ⟨rfl, s5⟩
      have HS5 := Lib.hid (HS4.out.trans s5)
      have HB5 := Lib.hid (HB4.out.same s5)
      have SB := Lib.hid (rsame_any A6 A8 B6 B8 n c6 c8 m d6 d8 z ((cutL L).take n) ((cutL L).drop n) w5 HLN.out HLM.out HN5.out HM5.out (RA64.out.same s5) (RA8.out.same s5) (RB64.out.same s5) (RB8.out.same s5))
      have HM5M := Lib.hid (HM4.out.same s5)
      clear HM4
      clear x0 x1 x2 y0 y1 y2
      obtain ⟨x0, x1, x2⟩ := layout_cells (HX64.out.same s5)
      obtain ⟨y0, y1, y2⟩ := layout_cells (HX8.out.same s5)
      clear s5 HX34 HX64 HX8
      go_wp2_with fail
      refine SB.out.mono ?_
      rintro e w6 ⟨rfl, s6⟩
      have HS6 := Lib.hid (HS5.out.trans s6)
      have HB6 := Lib.hid (HB5.out.same s6)
      have HM6M := Lib.hid (HM5M.out.same s6)
      clear HM5M
      clear s6 x0 x1 x2 y0 y1 y2
      obtain ⟨a0, a1⟩ := (⟨HB6.out.cell 0, HB6.out.cell 1⟩ : _ ∧ _)
      simp only [List.getElem?_toArray, List.getElem?_cons_zero, List.getElem?_cons_succ] at a0 a1
      go_upto_region 10 with fail
      have SW := Lib.hid (fun w' (h : Same w6 w') => (show w'.cell? ⟨w.heap.size, 0, none⟩ = some (.slice A n c) ∧ w'.cell? ⟨w.heap.size, 1, none⟩ = some (.slice B m d) from ⟨h.cell a0, h.cell a1⟩))
      have SD := Lib.hid (SW.out _ (Same.refl w6).drew)
      refine wp_region_held_drew (S := fun w' => w'.cell? ⟨w.heap.size, 0, none⟩ = some (.slice A n c) ∧ w'.cell? ⟨w.heap.size, 1, none⟩ = some (.slice B m d)) (by kernel_rfl) ?_ (fun hH => ?_)
      · exact SD.out
      clear hH
      refine Ro.take_on (i := 0) (v := ?_) rfl (by kernel_rfl) (by kernel_rfl) (by kernel_rfl) (fun _ _ _ h => h) (by rfl) (SD.out) ?_ ?_
      rotate_left
      · intro wS hSw; (try dsimp only at hSw); go_simp; try with_reducible rfl
      try simp only [Act.put, List.setIfInBounds_toArray, List.set_cons_zero, List.set_cons_succ]
      refine Ro.take_on (i := 2) (v := ?_) rfl (by kernel_rfl) (by kernel_rfl) (by kernel_rfl) (fun _ _ _ h => h) (by rfl) (SD.out) ?_ ?_
      rotate_left
      · intro wS hSw; (try dsimp only at hSw); go_simp; try with_reducible rfl
      try simp only [Act.put, List.setIfInBounds_toArray, List.set_cons_zero, List.set_cons_succ]
      refine Ro.one_on (i := 1) rfl (by kernel_rfl) (by rfl) (fun K hK => ?_)
      go_simp
      go_at_call 11
      refine (Mm.words_any _ (HM6M.out.same (Same.refl w6).drew)).mono ?_
      rintro e w7 ⟨gw, cw, rfl, s7, o7⟩
      rw [HNZ.out]
      have HC7 := Lib.hid ((Same.refl w6).drew.trans s7)
      have HS7 := Lib.hid (HS6.out.trans ((Same.refl w6).drew.trans s7))
      have R7 := Lib.hid o7.row
      clear s7 o7
      refine hK.out _ _ (SW.out _ HC7.out) (fun hNew => ?_)
      clear hK K
      try simp only [Act.put, List.setIfInBounds_toArray, List.set_cons_zero, List.set_cons_succ]
      refine Ro.one_on (i := 3) rfl (by kernel_rfl) (by rfl) (fun K hK => ?_)
      go_simp
      go_at_call 12
      refine (RL2.out _ HS7.out).mono ?_
      rintro e w8 ⟨A9, N9, c9, rfl, rfl, r9, s8⟩
      have HC8 := Lib.hid (HC7.out.trans s8)
      have HS8 := Lib.hid (HS7.out.trans s8)
      have R8 := Lib.hid r9
      have R78 := Lib.hid (R7.out.same s8)
      clear s8 r9
      refine hK.out _ _ (SW.out _ HC8.out) (fun hNew => ?_)
      clear hK K
      try simp only [Act.put, List.setIfInBounds_toArray, List.set_cons_zero, List.set_cons_succ]
      have WE := Lib.hid (Mm.words_eq (some ⟨gw, 0, none⟩) A9 N9 N9 cw c9 Z Z w8 HNZ.out HNZ.out R78.out R8.out (by have := HZL.out; omega) (by have := HZL.out; omega))
      refine Ro.one_on (i := 4) rfl (by kernel_rfl) (by rfl) (fun K hK => ?_)
      go_simp
      go_at_call 10
      refine WE.out.mono ?_
      rintro e w9 ⟨rfl, q9, rfl⟩
      have HQ9 := Lib.hid ((Same.refl w8).drewN q9)
      rw [show decide (Z = Z) = true from decide_eq_true rfl]
      refine hK.out _ _ (SW.out _ (HC8.out.trans HQ9.out)) (fun hNew => ?_)
      clear hK K
      try simp only [Act.put, List.setIfInBounds_toArray, List.set_cons_zero, List.set_cons_succ]
      refine Ro.take_on (i := 5) (v := ?_) rfl (by kernel_rfl) (by kernel_rfl) (by kernel_rfl) (fun _ _ _ h => h) (by rfl) (SW.out _ (HC8.out.trans HQ9.out)) ?_ ?_
      rotate_left
      · intro wS hSw; (try dsimp only at hSw); go_simp; try with_reducible rfl
      try simp only [Act.put, List.setIfInBounds_toArray, List.set_cons_zero, List.set_cons_succ]
      refine Ro.one_on (i := 6) rfl (by kernel_rfl) (by rfl) (fun K hK => ?_)
      go_simp
      go_at_call 5
      refine (AW.out _).mono ?_
      rintro e w10 ⟨rfl, s10⟩
      have HC10 := Lib.hid ((HC8.out.trans HQ9.out).trans s10)
      have HS10 := Lib.hid ((HS8.out.trans HQ9.out).trans s10)
      clear s10
      refine hK.out _ _ (SW.out _ HC10.out) (fun hNew => ?_)
      clear hK K
      try simp only [Act.put, List.setIfInBounds_toArray, List.set_cons_zero, List.set_cons_succ]
      refine Ro.take_on (i := 7) (v := ?_) rfl (by kernel_rfl) (by kernel_rfl) (by kernel_rfl) (fun _ _ _ h => h) (by rfl) (SW.out _ HC10.out) ?_ ?_
      rotate_left
      · intro wS hSw; (try dsimp only at hSw); go_simp; try with_reducible rfl
      try simp only [Act.put, List.setIfInBounds_toArray, List.set_cons_zero, List.set_cons_succ]
      refine Ro.take_on (i := 8) (v := ?_) rfl (by kernel_rfl) (by kernel_rfl) (by kernel_rfl) (fun _ _ _ h => h) (by rfl) (SW.out _ HC10.out) ?_ ?_
      rotate_left
      · intro wS hSw; (try dsimp only at hSw); go_simp; try with_reducible rfl
      try simp only [Act.put, List.setIfInBounds_toArray, List.set_cons_zero, List.set_cons_succ]
      refine wpAnyH_done (by kernel_rfl) ?_ _
      go_wp2_with fail
      go_ret
      exact ⟨rfl, HS10.out⟩

end Go.Proofs.Ytaclphhbdfoaeaa.Ly
