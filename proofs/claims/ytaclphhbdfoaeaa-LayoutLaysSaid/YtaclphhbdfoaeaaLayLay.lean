/-

  A memory in which all stands as at the beginning (layout.Lay).
-/
import Derived.Test.YtaclphhbdfoaeaaLayWords
import Derived.Deep.RegionHeld3
set_option linter.unusedVariables false
set_option linter.unusedSimpArgs false
namespace Go.Proofs.Ytaclphhbdfoaeaa.Ly
open Go.ChangeShapes Go.WideShapes Go.ChangeAt Go.RowKit Ws

set_option maxRecDepth 100000 in
set_option maxHeartbeats 4000000 in
theorem llay_any (A B : Option Addr) (n c m d : Nat) (ts : List Tk.Task) (os : List Objt) (ins : List (List Int)) (w : World) (hn : ts.length = n) (hm : os.length = m) (hn6 : n ≤ 60) (hm6 : m ≤ 60) (ht : Tk.Tasks w A ts) (ho : Objs w B os) (hin : Inis w os ins) :
    Calls Try.prog 7 #[.agg #[.slice A n c, .slice B m d]] w (LLP w n m (wsL os ins m) (tT ts) (lensF ts os)) := by
  have OF := Lib.hid (fun w' (s : Same w w') => of_any A B n c m d ts os w' hn hm (by omega) (by omega) (ht.same s) (ho.same s) (fun L hL => by have h := lens_bd hL; rw [hn, hm] at h; exact h))
  have LF0 := Lib.hid (fun L (h : lensF ts os = some L) => lay_facts ins h (by omega))
  generalize lensF ts os = R at *
  have hb0 := Blk.new w 25 #[.slice A n c, .slice B m d]
  have hs0 := (Same.refl w).alloc (.cells #[.slice A n c, .slice B m d] 25)
  have hb1 := Blk.new (w.alloc (.cells #[.slice A n c, .slice B m d] 25)) 30 #[.slice none 0 0, .slice none 0 0, .int .i64 0]
  rw [World.size_alloc] at hb1
  have hsz0 := World.size_alloc (w.alloc (.cells #[.slice A n c, .slice B m d] 25)) (.cells #[.slice none 0 0, .slice none 0 0, .int .i64 0] 30)
  rw [World.size_alloc] at hsz0
  have HS1 := Lib.hid (hs0.alloc (.cells #[.slice none 0 0, .slice none 0 0, .int .i64 0] 30))
  have HB0 := Lib.hid (hb0.same ((Same.refl _).alloc (.cells #[.slice none 0 0, .slice none 0 0, .int .i64 0] 30)))
  have HB1 := Lib.hid hb1
  have a0 := HB0.out.cell 0
  have a1 := HB0.out.cell 1
  simp only [List.getElem?_toArray, List.getElem?_cons_zero, List.getElem?_cons_succ] at a0 a1
  have HN := Lib.hid hn
  have HM := Lib.hid hm
  have HT := Lib.hid ht
  have HO := Lib.hid ho
  have HI := Lib.hid hin
  clear hb0 hs0 hb1 hn hm ht ho hin
  obtain ⟨e, he⟩ : ∃ e, e = (Ending.returned (.int .i64 0)) := ⟨_, rfl⟩
  clear he e
  cases R with
  | none =>
    go_enter Try.func7, Try.ntmps7
    go_wp2_with fail
    refine (OF.out _ HS1.out).mono ?_
    rintro e w1 ⟨rfl, s1⟩
    have S1 := Lib.hid s1
    clear s1 a0 a1
    have hbx := (HB1.out.same S1.out).same ((Same.refl w1).alloc (.cells #[.slice none 0 0, .slice none 0 0, .int .i64 0] 30))
    have k0 := hbx.thaw 0
    have k1 := hbx.thaw 1
    have k2 := hbx.thaw 2
    obtain ⟨y0, y1, y2⟩ := layout_cells hbx
    clear hbx
    go_wp2_with fail
    refine bodyPost_ret (v := .tuple #[.pointer none, .agg #[.slice none 0 0, .slice none 0 0, .int .i64 0], .int .i64 1]) (results_cell3 Try.results7 _ _ (w.heap.size + 1) 30 #[.slice none 0 0, .slice none 0 0, .int .i64 0] (0, 0) _ rfl (three_blk ((HB1.out.same S1.out).same ((Same.refl _).alloc _)) _ _ _) Try.underlying30 rfl layout_size) rfl ?_
    exact ll_none (three_same ((HS1.out.trans S1.out).alloc _) (by omega) _ _ _)
  | some L =>
    have LFL := Lib.hid (LF0.out L rfl)
    clear LF0
    by_cases hsum : sumL L ≤ 4096
    rotate_left
    · have HNS := Lib.hid hsum
      go_enter Try.func7, Try.ntmps7
      go_wp2_with fail
      refine (OF.out _ HS1.out).mono ?_
      intro e w1 hP
      unfold OfP at hP
      dsimp only at hP
      rw [if_neg (Int.not_le.2 HNS.out)] at hP
      obtain ⟨rfl, s1⟩ := hP
      have S1 := Lib.hid s1
      clear s1 a0 a1
      have hbx := (HB1.out.same S1.out).same ((Same.refl w1).alloc (.cells #[.slice none 0 0, .slice none 0 0, .int .i64 0] 30))
      have k0 := hbx.thaw 0
      have k1 := hbx.thaw 1
      have k2 := hbx.thaw 2
      obtain ⟨y0, y1, y2⟩ := layout_cells hbx
      clear hbx
      go_wp2_with fail
      refine bodyPost_ret (v := .tuple #[.pointer none, .agg #[.slice none 0 0, .slice none 0 0, .int .i64 0], .int .i64 6]) (results_cell3 Try.results7 _ _ (w.heap.size + 1) 30 #[.slice none 0 0, .slice none 0 0, .int .i64 0] (0, 0) _ rfl (three_blk ((HB1.out.same S1.out).same ((Same.refl _).alloc _)) _ _ _) Try.underlying30 rfl layout_size) rfl ?_
      exact ll_room (Int.not_le.2 HNS.out) (three_same ((HS1.out.trans S1.out).alloc _) (by omega) _ _ _)
    obtain ⟨N, hN⟩ : ∃ N : Nat, sumL L = N := ⟨(sumL L).toNat, by have h1 := LFL.out.tas; have h2 := LFL.out.all; omega⟩
    have hN4 : N ≤ 4096 := by omega
    have HSUM := Lib.hid hsum
    have HNN := Lib.hid hN
    go_enter Try.func7, Try.ntmps7
    go_wp2_with fail
    refine (OF.out _ HS1.out).mono ?_
    intro e w1 hP
    unfold OfP at hP
    dsimp only at hP
    rw [if_pos hsum, hN] at hP
    obtain ⟨A5, c5, B5, d5, rfl, hra, hrb, s1⟩ := hP
    have S1 := Lib.hid (HS1.out.trans s1)
    have RA := Lib.hid hra
    have RB := Lib.hid hrb
    have B01 := Lib.hid (HB0.out.same s1)
    have B11 := Lib.hid (HB1.out.same s1)
    have hszw : w.heap.size + 1 + 1 ≤ w1.heap.size := by have h1 := s1.size; simp only [World.size_alloc] at h1; omega
    have HSZW := Lib.hid hszw
    clear s1 hra hrb a0 a1 OF hN hsum HB0 HB1 HS1
    have hb5 := Blk.new w1 30 #[.slice A5 n c5, .slice B5 m d5, .int .i64 (N : Int)]
    have hs5 := (Same.refl w1).alloc (.cells #[.slice A5 n c5, .slice B5 m d5, .int .i64 (N : Int)] 30)
    obtain ⟨l0, l1, l2⟩ := layout_cells hb5
    have NW := Lib.hid (Mm.new_any N hN4)
    go_wp2_with fail
    refine (NW.out _).mono ?_
    rintro e w2 ⟨rfl, s2, m2⟩
    have C2 := Lib.hid (hs5.trans s2)
    have B52 := Lib.hid (hb5.same s2)
    obtain ⟨g, hg⟩ : ∃ g, g = (w1.alloc (.cells #[.slice A5 n c5, .slice B5 m d5, .int .i64 (N : Int)] 30)).heap.size + 1 := ⟨_, rfl⟩
    rw [← hg] at m2 ⊢
    have hm2 := m2.within
    obtain ⟨MR, hMR⟩ : ∃ MR : Nat → Prop, MR = (fun i => (w1.alloc (.cells #[.slice A5 n c5, .slice B5 m d5, .int .i64 (N : Int)] 30)).heap.size ≤ i ∧ i < w2.heap.size) := ⟨_, rfl⟩
    rw [← hMR] at hm2
    have HMR := Lib.hid (show ∀ i, MR i → w1.heap.size + 1 ≤ i ∧ i < w2.heap.size from fun i hi => by rw [hMR, World.size_alloc] at hi; exact hi)
    obtain ⟨G, hG⟩ : ∃ G, G = w1.heap.size := ⟨_, rfl⟩
    rw [← hG] at HMR B52 HSZW ⊢
    have hm0 : memK N (tT ts) [] = List.replicate N 0 := memK_nil (by have h1 := LFL.out.le 0 (by omega); have h2 := HNN.out; omega)
    rw [← hm0] at hm2
    have M2 := Lib.hid hm2
    have S2 := Lib.hid (S1.out.trans C2.out)
    have R1A := Lib.hid (RA.out.same C2.out)
    have R1B := Lib.hid (RB.out.same C2.out)
    have B02 := Lib.hid (B01.out.same C2.out)
    have B12 := Lib.hid (B11.out.same C2.out)
    have RBL := Lib.hid (show ∀ b o, B5 = some ⟨b, o, none⟩ → 0 < m → b < G from fun b o hb h0 => by
      have hk := (LFL.out.at_ (k := 0) (by have := HM.out; omega)).1
      rw [HN.out] at hk
      obtain ⟨b2, o2, h1, h2, _⟩ := RB.out 0 _ hk
      rw [hb] at h1
      injection h1 with h1
      injection h1 with h1
      subst h1
      rw [hG]
      exact World.block_lt_of_cell? _ _ h2)
    have a1 : w2.cell? ⟨w.heap.size, 1, none⟩ = some (.slice B m d) := B02.out.cell 1
    clear s2 m2 hm2 hb5 hs5 l0 l1 l2 hMR hm0 B01 hszw NW S1 hg hsz0
    have HGG := Lib.hid hG
    clear hG
    go_wp2_with fail
    clear a1
    go_loopg [32] m (fun gk kv wx => ∃ k : Nat, k + gk = m ∧ kv = .int .i64 k ∧ Mm.Mem wx MR g (memK N (tT ts) (wsL os ins k)) 0 ∧ Chg MR w2 wx)
    case atStart => exact ⟨0, by omega, rfl, M2.out, Chg.refl _ _⟩
    case round =>
      obtain ⟨k, hk, rfl, hmk, hck⟩ := hrel
      have MK := Lib.hid hmk
      have CK := Lib.hid hck
      have SK := Lib.hid (S2.out.more hck (fun i hi => by have h1 := (HMR.out i hi).1; have := HSZW.out; omega))
      have B5K := Lib.hid (B52.out.chg hck (fun hi => by have h1 := (HMR.out G hi).1; omega))
      have hszk := hck.size
      have HSK := Lib.hid hszk
      clear hmk hck hszk
      cases gk with
      | zero =>
        obtain rfl : m = k := by omega
        have hge : ¬ (m : Int) < (m : Int) := by omega
        obtain ⟨l0, l1, l2⟩ := layout_cells B5K.out
        have B1K := Lib.hid (B12.out.chg CK.out (fun hi => by have h1 := (HMR.out _ hi).1; have := HSZW.out; omega))
        have k0 := B1K.out.thaw 0
        have k1 := B1K.out.thaw 1
        have k2 := B1K.out.thaw 2
        obtain ⟨y0, y1, y2⟩ := layout_cells B1K.out
        go_upto_region 12 with fail
        have SL := Lib.hid (show wr.drew.cell? ⟨G, 0, none⟩ = some (.slice A5 n c5) ∧ wr.drew.cell? ⟨G, 1, none⟩ = some (.slice B5 m d5) ∧ wr.drew.cell? ⟨G, 2, none⟩ = some (.int .i64 (N : Int)) from ⟨l0, l1, l2⟩)
        refine wp_region_held_drew (S := fun w' => w'.cell? ⟨G, 0, none⟩ = some (.slice A5 n c5) ∧ w'.cell? ⟨G, 1, none⟩ = some (.slice B5 m d5) ∧ w'.cell? ⟨G, 2, none⟩ = some (.int .i64 (N : Int))) (by kernel_rfl) ?_ (fun hH => ?_)
        · exact SL.out
        clear hH
        refine Ro.take_on (i := 0) (v := ?_) rfl (by kernel_rfl) (by kernel_rfl) (by kernel_rfl) (fun _ _ _ h => h) (by rfl) (SL.out) ?_ ?_
        rotate_left
        · intro wS hSw; (try dsimp only at hSw); go_simp; try with_reducible rfl
        try simp only [Act.put, List.setIfInBounds_toArray, List.set_cons_zero, List.set_cons_succ]
        refine Ro.take_on (i := 1) (v := ?_) rfl (by kernel_rfl) (by kernel_rfl) (by kernel_rfl) (fun _ _ _ h => h) (by rfl) (SL.out) ?_ ?_
        rotate_left
        · intro wS hSw; (try dsimp only at hSw); go_simp; try with_reducible rfl
        try simp only [Act.put, List.setIfInBounds_toArray, List.set_cons_zero, List.set_cons_succ]
        refine Ro.take_on (i := 2) (v := ?_) rfl (by kernel_rfl) (by kernel_rfl) (by kernel_rfl) (fun _ _ _ h => h) (by rfl) (SL.out) ?_ ?_
        rotate_left
        · intro wS hSw; (try dsimp only at hSw); go_simp; try with_reducible rfl
        try simp only [Act.put, List.setIfInBounds_toArray, List.set_cons_zero, List.set_cons_succ]
        refine Ro.one_on (i := 3) rfl (by kernel_rfl) (by rfl) (fun K hK => ?_)
        go_simp
        refine hK.out _ _ ((by obtain ⟨x0, x1, x2⟩ := layout_cells ((show Blk wr.drew G 30 _ from B5K.out).chg (three_chg wr.drew (w.heap.size + 1) (.slice A5 n c5) (.slice B5 m d5) (.int .i64 (N : Int))) (fun h => by have h1 : G = w.heap.size + 1 := h; have := HSZW.out; omega)); exact ⟨x0, x1, x2⟩)) (fun hNew => ?_)
        clear hK K
        try simp only [Act.put, List.setIfInBounds_toArray, List.set_cons_zero, List.set_cons_succ]
        refine Ro.take_on (i := 4) (v := ?_) rfl (by kernel_rfl) (by kernel_rfl) (by kernel_rfl) (fun _ _ _ h => h) (by rfl) (hNew) ?_ ?_
        rotate_left
        · intro wS hSw; (try dsimp only at hSw); go_simp; try with_reducible rfl
        try simp only [Act.put, List.setIfInBounds_toArray, List.set_cons_zero, List.set_cons_succ]
        refine wpAnyH_done (by kernel_rfl) ?_ _
        go_wp2_with fail
        refine bodyPost_ret (v := .tuple #[.pointer (some ⟨g, 0, none⟩), .agg #[.slice A5 n c5, .slice B5 m d5, .int .i64 (N : Int)], .int .i64 0]) (results_cell3 Try.results7 _ _ (w.heap.size + 1) 30 #[.slice A5 n c5, .slice B5 m d5, .int .i64 (N : Int)] (0, 0) _ rfl (three_blk (show Blk wr.drew (w.heap.size + 1) 30 _ from B1K.out) _ _ _) Try.underlying30 rfl layout_size) rfl ?_
        have hch := three_chg wr.drew (w.heap.size + 1) (.slice A5 n c5) (.slice B5 m d5) (.int .i64 (N : Int))
        have hnot : ∀ i, MR i → ¬ i = w.heap.size + 1 := fun i hi h => by have h1 := (HMR.out i hi).1; have := HSZW.out; omega
        have hfull : memK N (tT ts) (wsL os ins m) = List.replicate (tT ts) 0 ++ wsL os ins m := memK_full (by have h1 := LFL.out.all; rw [HM.out] at h1; have := HNN.out; omega)
        have hmem := ((MK.out.same (Same.refl wr).drew).chg hch hnot)
        rw [hfull] at hmem
        have hfin : Chg (fun i => i = w.heap.size + 1 ∨ w1.heap.size ≤ i) w1 _ := (((C2.out.chg _).trans (chg_mono CK.out (fun i hi => .inr (by have h1 := (HMR.out i hi).1; rw [HGG.out] at h1; omega)))).trans ((Same.refl wr).drew.chg _)).trans (chg_mono hch (fun i hi => .inl hi))
        refine ll_yes HSUM.out HNN.out.symm ?_ ?_ hmem (three_same (SK.out.trans (Same.refl wr).drew) (by omega) _ _ _)
        · exact regs_three RA.out B11.out hfin (fun i hi => hi)
        · exact regs_three RB.out B11.out hfin (fun i hi => hi)
      | succ GK =>
        have hlt : (k : Int) < m := by omega
        have k0' : (0 : Int) ≤ k := by omega
        have hkl : k < os.length := by have := HM.out; omega
        have FA := Lib.hid (LFL.out.at_ hkl)
        rw [HN.out] at FA
        obtain ⟨hsa, b, o, hB, d0, d1, d2, d3, d4, d5', d6, d7⟩ := (HO.out.same SK.out).at_ hkl
        have HIK := Lib.hid ((HI.out.same SK.out) k hkl)
        have HSP := Lib.hid (LFL.out.shp k hkl)
        obtain ⟨a, ha⟩ : ∃ a : Nat, a = tT ts + (wsL os ins k).length := ⟨_, rfl⟩
        have hws : wsL os ins (k + 1) = wsL os ins k ++ wd1 (oat os k) (inat ins k) := rfl
        have HWS := Lib.hid hws
        have HA := Lib.hid ha
        clear hws
        obtain ⟨b5, o5, hB5, q0, _⟩ := R1B.out k _ FA.out.1
        rw [← ha] at q0
        have hb5G := RBL.out b5 o5 hB5 (by omega)
        subst hB5
        have q0k := CK.out.cell q0 (fun hi => by have h1 := (HMR.out _ hi).1; have h2 : b5 < G := hb5G; have h3 : G + 1 ≤ b5 := h1; omega)
        clear q0 ha
        generalize hy : wd1 (oat os k) (inat ins k) = ys at *
        have HY := Lib.hid hy
        clear hy
        have HSPU := Lib.hid (show Fc.rightF (oat os k).k (oat os k).wd (oat os k).sl (oat os k).cp (oat os k).sa (oat os k).il (oat os k).rl = true from HSP.out)
        have HYU := Lib.hid (show Fc.layF (oat os k).k (oat os k).wd.toNat (oat os k).sl.toNat (oat os k).rl (oat os k).sa (inat ins k) = ys from HY.out)
        clear HSP HY
        generalize siz (oat os k) = z at *
        generalize inat ins k = init at *
        generalize oat os k = x at *
        obtain ⟨k_, wd, sl, cp, sa, ia, il, ic, ow, ra, rl, rc⟩ := x
        simp only at hsa d0 d1 d2 d3 d4 d5' d6 d7 HSPU HYU HIK
        subst hB
        have hs2 := (Same.refl wr).alloc (.cells #[.int .i64 k_, .int .i64 wd, .int .i64 sl, .int .i64 cp, .int .u32 sa, .slice ia il ic, .int .i64 ow, .slice ra rl rc] 47)
        have hb2 := Blk.new wr 47 #[.int .i64 k_, .int .i64 wd, .int .i64 sl, .int .i64 cp, .int .u32 sa, .slice ia il ic, .int .i64 ow, .slice ra rl rc]
        have LAY := Lib.hid (fun w' (s : Same wr w') => Fc.lay_any k_ wd sl cp sa ow ia ra il ic rl rc init w' HSPU.out (HIK.out.1.same s) HIK.out.2 hsa)
        rw [HYU.out] at LAY
        unfold Fc.LayP at LAY
        have B52' := Lib.hid (B5K.out.same hs2)
        have q0w := hs2.cell q0k
        have CW := Lib.hid (CK.out.trans (hs2.chg _))
        have hgO : w2.heap.size ≤ wr.heap.size := HSK.out
        obtain ⟨gO, hgOe⟩ : ∃ gO, gO = wr.heap.size := ⟨_, rfl⟩
        have MW := Lib.hid (MK.out.same hs2)
        have HS2 := Lib.hid hs2
        go_upto_region 10 with fail
        rw [← hgOe] at hb2 hgO ⊢
        have HGO := Lib.hid hgOe
        clear hgOe
        generalize hwa : wr.alloc (.cells #[.int .i64 k_, .int .i64 wd, .int .i64 sl, .int .i64 cp, .int .u32 sa, .slice ia il ic, .int .i64 ow, .slice ra rl rc] 47) = wa at *
        have HWA := Lib.hid hwa
        clear hwa
        have SW := Lib.hid (fun w' (s : Chg MR wa w') => (show w'.cell? ⟨G, 1, none⟩ = some (.slice (some ⟨b5, o5, none⟩) m d5) ∧ w'.cell? ⟨b5, o5 + k * 2, none⟩ = some (.int .i64 (a : Int)) ∧ w'.cell? ⟨gO, 0, none⟩ = some (.int .i64 k_) ∧ w'.cell? ⟨gO, 1, none⟩ = some (.int .i64 wd) ∧ w'.cell? ⟨gO, 2, none⟩ = some (.int .i64 sl) ∧ w'.cell? ⟨gO, 3, none⟩ = some (.int .i64 cp) ∧ w'.cell? ⟨gO, 4, none⟩ = some (.int .u32 sa) ∧ w'.cell? ⟨gO, 5, none⟩ = some (.slice ia il ic) ∧ w'.cell? ⟨gO, 6, none⟩ = some (.int .i64 ow) ∧ w'.cell? ⟨gO, 7, none⟩ = some (.slice ra rl rc) from ⟨(layout_cells (B52'.out.chg s (fun hi => by have h1 := (HMR.out G hi).1; omega))).2.1, s.cell q0w (fun hi => by have h1 : G + 1 ≤ b5 := (HMR.out _ hi).1; omega), s.cell (hb2.cell 0) (fun hi => by have h1 : gO < w2.heap.size := (HMR.out _ hi).2; omega), s.cell (hb2.cell 1) (fun hi => by have h1 : gO < w2.heap.size := (HMR.out _ hi).2; omega), s.cell (hb2.cell 2) (fun hi => by have h1 : gO < w2.heap.size := (HMR.out _ hi).2; omega), s.cell (hb2.cell 3) (fun hi => by have h1 : gO < w2.heap.size := (HMR.out _ hi).2; omega), s.cell (hb2.cell 4) (fun hi => by have h1 : gO < w2.heap.size := (HMR.out _ hi).2; omega), s.cell (hb2.cell 5) (fun hi => by have h1 : gO < w2.heap.size := (HMR.out _ hi).2; omega), s.cell (hb2.cell 6) (fun hi => by have h1 : gO < w2.heap.size := (HMR.out _ hi).2; omega), s.cell (hb2.cell 7) (fun hi => by have h1 : gO < w2.heap.size := (HMR.out _ hi).2; omega)⟩))
        have SD := Lib.hid (SW.out _ (((Same.refl wa).drew).chg _))
        clear d0 d1 d2 d3 d4 d5' d6 d7 q0w q0k hb2 hs2
        refine wp_region_held_drew (S := fun w' => w'.cell? ⟨G, 1, none⟩ = some (.slice (some ⟨b5, o5, none⟩) m d5) ∧ w'.cell? ⟨b5, o5 + k * 2, none⟩ = some (.int .i64 (a : Int)) ∧ w'.cell? ⟨gO, 0, none⟩ = some (.int .i64 k_) ∧ w'.cell? ⟨gO, 1, none⟩ = some (.int .i64 wd) ∧ w'.cell? ⟨gO, 2, none⟩ = some (.int .i64 sl) ∧ w'.cell? ⟨gO, 3, none⟩ = some (.int .i64 cp) ∧ w'.cell? ⟨gO, 4, none⟩ = some (.int .u32 sa) ∧ w'.cell? ⟨gO, 5, none⟩ = some (.slice ia il ic) ∧ w'.cell? ⟨gO, 6, none⟩ = some (.int .i64 ow) ∧ w'.cell? ⟨gO, 7, none⟩ = some (.slice ra rl rc)) (by kernel_rfl) ?_ (fun hH => ?_)
        · exact SD.out
        clear hH
        refine Ro.take_on (i := 0) (v := ?_) rfl (by kernel_rfl) (by kernel_rfl) (by kernel_rfl) (fun _ _ _ h => h) (by rfl) (SD.out) ?_ ?_
        rotate_left
        · intro wS hSw; (try dsimp only at hSw); go_simp; try with_reducible rfl
        try simp only [Act.put, List.setIfInBounds_toArray, List.set_cons_zero, List.set_cons_succ]
        refine Ro.take_on (i := 1) (v := ?_) rfl (by kernel_rfl) (by kernel_rfl) (by kernel_rfl) (fun _ _ _ h => h) (by rfl) (SD.out) ?_ ?_
        rotate_left
        · intro wS hSw; (try dsimp only at hSw); go_simp; try with_reducible rfl
        try simp only [Act.put, List.setIfInBounds_toArray, List.set_cons_zero, List.set_cons_succ]
        refine Ro.take_on (i := 2) (v := ?_) rfl (by kernel_rfl) (by kernel_rfl) (by kernel_rfl) (fun _ _ _ h => h) (by rfl) (SD.out) ?_ ?_
        rotate_left
        · intro wS hSw; (try dsimp only at hSw); go_simp; try with_reducible rfl
        try simp only [Act.put, List.setIfInBounds_toArray, List.set_cons_zero, List.set_cons_succ]
        refine Ro.take_on (i := 3) (v := ?_) rfl (by kernel_rfl) (by kernel_rfl) (by kernel_rfl) (fun _ _ _ h => h) (by rfl) (SD.out) ?_ ?_
        rotate_left
        · intro wS hSw; (try dsimp only at hSw); go_simp; try with_reducible rfl
        try simp only [Act.put, List.setIfInBounds_toArray, List.set_cons_zero, List.set_cons_succ]
        refine Ro.take_on (i := 4) (v := ?_) rfl (by kernel_rfl) (by kernel_rfl) (by kernel_rfl) (fun _ _ _ h => h) (by rfl) (SD.out) ?_ ?_
        rotate_left
        · intro wS hSw; (try dsimp only at hSw); go_simp; try with_reducible rfl
        try simp only [Act.put, List.setIfInBounds_toArray, List.set_cons_zero, List.set_cons_succ]
        refine Ro.take_on (i := 5) (v := ?_) rfl (by kernel_rfl) (by kernel_rfl) (by kernel_rfl) (fun _ _ _ h => h) (by rfl) (SD.out) ?_ ?_
        rotate_left
        · intro wS hSw; (try dsimp only at hSw); go_simp; try with_reducible rfl
        try simp only [Act.put, List.setIfInBounds_toArray, List.set_cons_zero, List.set_cons_succ]
        refine Ro.take_on (i := 6) (v := ?_) rfl (by kernel_rfl) (by kernel_rfl) (by kernel_rfl) (fun _ _ _ h => h) (by rfl) (SD.out) ?_ ?_
        rotate_left
        · intro wS hSw; (try dsimp only at hSw); go_simp; try with_reducible rfl
        try simp only [Act.put, List.setIfInBounds_toArray, List.set_cons_zero, List.set_cons_succ]
        refine Ro.take_on (i := 7) (v := ?_) rfl (by kernel_rfl) (by kernel_rfl) (by kernel_rfl) (fun _ _ _ h => h) (by rfl) (SD.out) ?_ ?_
        rotate_left
        · intro wS hSw; (try dsimp only at hSw); go_simp; try with_reducible rfl
        try simp only [Act.put, List.setIfInBounds_toArray, List.set_cons_zero, List.set_cons_succ]
        refine Ro.one_on (i := 8) rfl (by kernel_rfl) (by rfl) (fun K hK => ?_)
        go_simp
        go_at_call 21
        refine (LAY.out _ (HS2.out.trans (Same.refl wa).drew)).mono ?_
        rintro e w4 ⟨gC, _, rfl, rfl, s4, r4⟩
        have C4 := Lib.hid ((Same.refl wa).drew.trans s4)
        have R4 := Lib.hid r4
        clear s4 r4
        refine hK.out _ _ (SW.out _ (C4.out.chg _)) (fun hNew => ?_)
        clear hK K
        try simp only [Act.put, List.setIfInBounds_toArray, List.set_cons_zero, List.set_cons_succ]
        have FL := Lib.hid (Mm.fill_at w4 (MW.out.same C4.out) (memK_len (N := N) (T := tT ts) (ws := wsL os ins k) (by have h1 := LFL.out.le k (by omega); have := HNN.out; omega)) (some ⟨gC, 0, none⟩) ys.length ys.length ys rfl a (by have h1 := FA.out.2.2.2; have := HNN.out; have := HA.out; omega) (by have := FA.out.2.2.1; omega) R4.out)
        refine Ro.one_on (i := 9) rfl (by kernel_rfl) (by rfl) (fun K hK => ?_)
        go_simp
        go_at_call 20
        refine FL.out.mono ?_
        rintro e w5 ⟨rfl, m5, c5'⟩
        have C5 := Lib.hid (Chg.trans (C4.out.chg _) c5')
        rw [memK_next HA.out (by have h1 := FA.out.2.2.2; have := HNN.out; omega), ← HWS.out] at m5
        have M5 := Lib.hid m5
        clear m5 c5'
        refine hK.out _ _ (SW.out _ C5.out) (fun hNew => ?_)
        clear hK K
        try simp only [Act.put, List.setIfInBounds_toArray, List.set_cons_zero, List.set_cons_succ]
        refine wpAnyH_done (by kernel_rfl) ?_ _
        go_wp2_with fail
        go_roundg GK
        case rel => exact ⟨k + 1, by omega, by go_num, M5.out, CW.out.trans C5.out⟩
        case measure => omega

end Go.Proofs.Ytaclphhbdfoaeaa.Ly
