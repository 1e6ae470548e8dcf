/-

  The document's Calls (layer 36); demand.Writes and demand.Reads.
-/
import Derived.Test.YthhbhbfkbncegabGreatDoorCstRefPart
import Derived.Test.YthhbhbfkbncegabGreatDoorCstMost
import Derived.Test.YthhbhbfkbncegabGreatDoorDmdRd
section
set_option linter.unusedVariables false
set_option linter.unusedSimpArgs false
namespace Go.Proofs.YthhbhbfkbncegabGreatDoor.Cs
open Go.ChangeShapes Go.WideShapes Go.ChangeAt Go.RowKit Ws
open Go.Proofs.YthhbhbfkbncegabGreatDoor.Fp (Ins at_ Fine at_some lp loopsL nextL hasB)
open Go.Proofs.YthhbhbfkbncegabGreatDoor.Fw (Prg Spn spanCells spn_of)

theorem part_ref (A : Option Addr) (m c : Nat) (p : List Ins) (Wt : Option Addr) (cW : Nat) (ws : List Int) (hl : p.length = m) (hm : m ≤ 64) (hwl : ws.length = m) (hnx : ∀ k, k < m → Fp.rnextL p k = nextL p k) :
    ∀ (f : Nat) (l : List (Int × Int)) (a b : Nat) (LA : Option Addr) (n cL : Nat) (w : World), Prg w A p → Row w Wt (ws.map (Value.int .i64)) → l.length = n → n < f → n ≤ 64 → Row w LA (spanCells l) → (∀ x ∈ l, Lok p x) → a ≤ b → b < m →
      Calls Tryz.prog 81 #[.slice A m c, .slice Wt m cW, .slice LA n cL, .agg #[.int .i64 a, .int .i64 b]] w fun e w' => e = .returned (.agg #[.int .i64 (partF p ws f l (a, b)).thru, .int .i64 (partF p ws f l (a, b)).fin]) ∧ Same w w'
  | 0, l, a, b, LA, n, cL, w, _, _, _, h, _, _, _, _, _ => absurd h (Nat.not_lt_zero _)
  | f + 1, l, a, b, LA, n, cL, w, hp, hW, hln, hnf, hn, hL, hok, hab, hbm => by
    have h := part_step A m c p Wt cW ws LA n cL l a b (fun x => partF p ws f (innerL l x) x) w hl hm hp hW hwl hln hn hL hok hab hbm hnx (fun x hx W B cB s r => by
      have hlk := hok x hx
      have hsh := inner_short hx
      obtain ⟨x1, x2⟩ := x
      obtain ⟨h1, h2, h3, h4, h5⟩ := hlk
      simp only at h1 h2 h3
      obtain ⟨a', rfl⟩ : ∃ a' : Nat, x1 = (a' : Int) := ⟨x1.toNat, by omega⟩
      obtain ⟨b', rfl⟩ : ∃ b' : Nat, x2 = (b' : Int) := ⟨x2.toNat, by omega⟩
      exact part_ref A m c p Wt cW ws hl hm hwl hnx f (innerL l (a', b')) a' b' B _ cB W (hp.same s) (hW.same s) rfl (by omega) (by omega) r (fun y hy => hok y (innerL_mem.1 hy).1) (by omega) (by omega))
    have e : partF p ws (f + 1) l ((a : Int), (b : Int)) = (partT (fun x => partF p ws f (innerL l x) x) p ws (innerL l ((a : Int), (b : Int))) a (b + 1 - a)).all := by
      rw [partF]
      simp only [Int.toNat_natCast]
      rw [show ((b : Int) + 1 - (a : Int)).toNat = b + 1 - a by omega]
    rw [e]
    exact h
theorem way_field (x y : Int) (w : World) : (Instr.field 98 (.agg #[.int .i64 x, .int .i64 y]) 1).run Tryz.prog w = .ok (.int .i64 y) w := by kernel_rfl
theorem lok_loops {p : List Ins} (hF : Fine Fw.rightI p) (hn : ∀ j, j < p.length → 0 ≤ (at_ p j).n) (hC : ∀ k, k < p.length → (at_ p k).op = 16 → 0 ≤ (at_ p k).c ∧ (at_ p k).c < 1099511627776) : ∀ x ∈ loopsL p, Lok p x := by
  intro x hx
  obtain ⟨j, hj, rfl⟩ := mem_lp hx
  have h1 := lp_in hF hn hj
  have h2 := lp_back hF hn hj
  have h3 := hC (lp (loopsL p) j).2.toNat (by omega) h2
  exact ⟨h1.1, by omega, h1.2.2, h3.1, h3.2⟩
set_option maxRecDepth 100000 in
theorem rmost_any (A : Option Addr) (m c : Nat) (p : List Ins) (Wt : Option Addr) (cW : Nat) (ws : List Int) (w : World) (hl : p.length = m) (hp : Prg w A p) (hW : Row w Wt (ws.map (Value.int .i64))) (hwl : ws.length = m) (hok : Fw.okB p = true) :
    Calls Tryz.prog 65 #[.slice A m c, .slice Wt m cW] w fun e w' => e = .returned (.int .i64 (weighW btG p ws)) ∧ Same w w' := by
  have hF := Fw.okB_fine hok
  have hnn := hp.nn
  have hsz := hF.size
  have hm1 : 1 ≤ m ∧ m ≤ 64 := by omega
  have hC : ∀ k, k < p.length → (at_ p k).op = 16 → 0 ≤ (at_ p k).c ∧ (at_ p k).c < 1099511627776 := by
    intro k hk ho
    have := back_c (hF.right k hk) ho
    omega
  have hPW := part_weigh hF hnn hC ws
  have hln : (loopsL p).length ≤ 64 := Nat.le_trans (Fp.loopsTo_len p.length) (by omega)
  have LO := Lib.hid (Fw.rloops_any A m c p w hl (by omega) hp)
  have PT := Lib.hid (fun W (s : Same w W) LA cL (r : Row W LA (spanCells (loopsL p))) => part_ref A m c p Wt cW ws hl hm1.2 hwl (fun k hk => Fp.rnext_eq hF hnn (by omega)) ((loopsL p).length + 1) (loopsL p) 0 (m - 1) LA (loopsL p).length cL W (hp.same s) (hW.same s) rfl (Nat.lt_succ_self _) hln r (lok_loops hF hnn hC) (by omega) (by omega))
  rw [show ((m - 1 : Nat) : Int) = (m : Int) - 1 by omega, show ((0 : Nat) : Int) = 0 from rfl] at PT
  rw [hl] at hPW
  have HPW := Lib.hid hPW
  have f1 : IntKind.i64.wrap ((m : Int) - 1) = (m : Int) - 1 := Go.IntWalk.i64_in _ (by omega)
  clear hp hW hl hwl hok hF hnn hsz hC hPW
  unfold Fw.LoopsPost at LO
  go_enter Tryz.func65, Tryz.ntmps65
  go_wp2_with fail
  refine LO.out.mono ?_
  rintro e w1 ⟨LA, cL, rfl, ho, s1⟩
  have PT1 := Lib.hid (PT.out w1 s1 LA cL ho.row)
  have WF := way_field
  have S1 := Lib.hid s1
  clear ho s1 LO PT
  go_wp2_with fail
  refine PT1.out.mono ?_
  rintro e w2 ⟨rfl, s2⟩
  have S2 := Lib.hid (S1.out.trans s2)
  clear s2
  go_wp2_with fail
  go_ret
  exact ⟨by rw [HPW.out]; rfl, S2.out⟩
end Go.Proofs.YthhbhbfkbncegabGreatDoor.Cs
end
section
set_option linter.unusedVariables false
set_option linter.unusedSimpArgs false
namespace Go.Proofs.YthhbhbfkbncegabGreatDoor.Dm
open Go.ChangeShapes Go.WideShapes Go.ChangeAt Go.RowKit Ws
open Im (PT PO PS TsAt OsAt SysAt tcells ocells)
open Go.Proofs.YthhbhbfkbncegabGreatDoor.Is (callB callV rightB)

def kx (wr : Bool) : Int := if wr then 18 else 17
def ky (wr : Bool) : Int := if wr then 19 else 20
def cntR (k x y : Int) (i : Fp.Ins) : Int := if (i.op = x ∨ i.op = y) ∧ i.b = k then 1 else 0
theorem cnt_eq {P : List Fp.Ins} (hok : Fw.okB P = true) (k : Int) (wr : Bool) : P.map (cntI k (kx wr) (ky wr)) = P.map (cntR k (kx wr) (ky wr)) := by
  apply List.map_congr_left
  intro i hi
  obtain ⟨j, hj, rfl⟩ := List.getElem_of_mem hi
  have hr := (Fw.okB_fine hok).right j hj
  rw [Fp.at_eq (List.getElem?_eq_getElem hj)] at hr
  have hr' : rightB P[j].op P[j].a P[j].b P[j].c P[j].n = true := hr
  unfold cntI cntR
  rw [hr', Bool.true_and]
  by_cases h : P[j].op = kx wr ∨ P[j].op = ky wr
  · have hc : callB P[j].op = true := by
      unfold callB
      rw [decide_eq_true_eq]
      cases wr <;> (unfold kx ky at h; simp at h; omega)
    by_cases hb : P[j].b = k
    · rw [if_pos ⟨hc, hb, h⟩, if_pos ⟨h, hb⟩]
    · rw [if_neg (fun h' => hb h'.2.1), if_neg (fun h' => hb h'.2)]
  · rw [if_neg (fun h' => h h'.2.2), if_neg (fun h' => h h'.1)]
theorem wei_ok {P : List Fp.Ins} (hok : Fw.okB P = true) (k : Int) (wr : Bool) : Cs.weI true P (P.map (cntI k (kx wr) (ky wr))) = Cs.weighW Cs.btG P (P.map (cntR k (kx wr) (ky wr))) := by
  have he : Cs.weE P (P.map (cntI k (kx wr) (ky wr))).length = 0 := by
    unfold Cs.weE
    rw [if_pos (of_decide_eq_true hok), List.length_map, if_pos rfl]
  unfold Cs.weI
  rw [if_pos he, cnt_eq hok]
  rfl
theorem wei_no {P : List Fp.Ins} (hok : Fw.okB P = false) (k x y : Int) : Cs.weI true P (P.map (cntI k x y)) = 0 := by
  have hc : ¬ Fw.ckE P = 0 := fun h => by unfold Fw.okB at hok; rw [h] at hok; cases hok
  have he : ¬ Cs.weE P (P.map (cntI k x y)).length = 0 := by
    unfold Cs.weE
    rw [if_neg hc]
    exact hc
  exact Cs.wei_bad he

set_option maxRecDepth 100000 in
set_option maxHeartbeats 8000000 in
theorem rcalls_true (A B : Option Addr) (n c m d : Nat) (s : PS) (i k : Int) (w : World) (hs : SysAt w A n B m s) (hnm : n ≤ maxLen ∧ m ≤ maxLen) (hf : ∀ p ∈ s.ts, p.code.length ≤ 200) :
    Calls Tryz.prog 53 #[.agg #[.slice A n c, .slice B m d], .int .i64 i, .int .i64 k, .bool true] w fun e w' => e = .returned (.int .i64 (demI s i k (kx true) (ky true))) ∧ Same w w' := by
  obtain ⟨i0, hi, hz0, hz1, hz2⟩ := info_parts int_inf
  have hbn : (n : Int) ≤ 9223372036854775807 ∧ (m : Int) ≤ 9223372036854775807 := by unfold maxLen at hnm; omega
  have s0 := (Same.refl w).alloc (.cells #[.slice A n c, .slice B m d] 25)
  have b0 := Blk.new w 25 #[.slice A n c, .slice B m d]
  obtain ⟨w0, hw0⟩ : ∃ w0, w0 = w.alloc (.cells #[.slice A n c, .slice B m d] 25) := ⟨_, rfl⟩
  rw [← hw0] at s0 b0
  have HE := Lib.hid hw0
  have c0 := b0.cell 0
  have c1 := b0.cell 1
  simp only [List.getElem?_toArray, List.getElem?_cons_zero, List.getElem?_cons_succ] at c0 c1
  have HS := Lib.hid hs
  have HF := Lib.hid hf
  have S0 := Lib.hid s0
  clear hs hf hw0 s0 b0
  go_enter Tryz.func53, Tryz.ntmps53
  go_upto_region 1 with fail
  rw [← HE.out]
  clear HE
  by_cases h1 : i < 0
  · have HD := Lib.hid (show demI s i k (kx true) (ky true) = 0 from dem_out (.inl (.inl h1)))
    go_wp2_with fail
    go_ret
    exact ⟨by rw [HD.out]; rfl, S0.out⟩
  · by_cases h2 : i ≥ n
    · have HD := Lib.hid (show demI s i k (kx true) (ky true) = 0 from dem_out (.inl (.inr (by rw [HS.out.hn]; exact h2))))
      go_wp2_with fail
      go_ret
      exact ⟨by rw [HD.out]; rfl, S0.out⟩
    · by_cases h3 : k < 0
      · have HD := Lib.hid (show demI s i k (kx true) (ky true) = 0 from dem_out (.inr (.inl h3)))
        go_wp2_with fail
        go_ret
        exact ⟨by rw [HD.out]; rfl, S0.out⟩
      · by_cases h4 : k ≥ m
        · have HD := Lib.hid (show demI s i k (kx true) (ky true) = 0 from dem_out (.inr (.inr (by rw [HS.out.hm]; exact h4))))
          go_wp2_with fail
          go_ret
          exact ⟨by rw [HD.out]; rfl, S0.out⟩
        · obtain ⟨ki, rfl⟩ : ∃ ki : Nat, i = ki := ⟨i.toNat, by omega⟩
          obtain ⟨kk, rfl⟩ : ∃ kk : Nat, k = kk := ⟨k.toNat, by omega⟩
          have hki : ki < s.ts.length := by rw [HS.out.hn]; omega
          obtain ⟨p, hp⟩ : ∃ p, s.ts[ki]? = some p := ⟨s.ts[ki], List.getElem?_eq_getElem hki⟩
          have HP := Lib.hid hp
          have HLE := Lib.hid (HF.out p (List.mem_of_getElem? hp))
          have HD := Lib.hid (dem_in (x := kx true) (y := ky true) hp (show kk < s.os.length by rw [HS.out.hm]; omega))
          obtain ⟨bA, oA, rfl, X, cX, _, _, _, _, _, _, t6, hcode, _⟩ := (HS.out.ht.same S0.out).at_ hp
          have HCW := Lib.hid hcode
          have FI := Lib.hid (Fw.rfine_any X p.code.length cX (pI p) w0 (by unfold pI; rw [List.length_map]) (by have := HLE.out; omega) (prgI hcode))
          have h1' : (0 : Int) ≤ ki := by omega
          have h2' : (ki : Int) < n := by omega
          clear hp hki hcode
          go_wp2_with fail
          refine FI.out.mono ?_
          rintro e w4 ⟨rfl, s4⟩
          cases hok : Fw.okB (pI p) with
          | false =>
            have HDZ := Lib.hid (HD.out.trans (wei_no hok _ _ _))
            clear hok HD
            have S04 := Lib.hid (S0.out.trans s4)
            clear s4
            go_wp2_with fail
            go_ret
            exact ⟨by rw [HDZ.out]; rfl, S04.out⟩
          | true =>
            have HOK := Lib.hid hok
            have HS4a := Lib.hid s4
            have c0 := s4.cell c0
            have c1 := s4.cell c1
            have t6 := s4.cell t6
            have HS4 := Lib.hid (S0.out.trans s4)
            clear hok s4 FI
            have HLE2 := HLE.out
            obtain ⟨CN, hCN⟩ : ∃ CN : Im.Ins → Value, CN = fun i => Value.int .i64 (cntR kk (kx true) (ky true) (fpI i)) := ⟨_, rfl⟩
            have HCN := Lib.hid (fun i => (show Value.int .i64 (cntR kk (kx true) (ky true) (fpI i)) = CN i by rw [hCN]))
            obtain ⟨b4, hb4⟩ : ∃ b4, b4 = w4.heap.size := ⟨_, rfl⟩
            have HB4 := Lib.hid hb4
            clear hb4
            have HLN := Lib.hid (show (p.code.map CN) = ((pI p).map (cntR kk (kx true) (ky true))).map (Value.int .i64) by rw [hCN]; unfold pI; rw [List.map_map, List.map_map]; rfl)
            clear hCN
            go_wp2_with fail
            go_loopg [9, 50] p.code.length (fun gk lv iv wx => ∃ (j : Nat) (A' : Option Addr) (c' : Nat), j + gk = p.code.length ∧ iv = .int .i64 j ∧ lv = .slice A' j c' ∧ Ws.Own wx b4 3 A' c' ((p.code.map CN).take j) ∧ Same w4 wx)
            case atStart => exact ⟨0, none, 0, by omega, rfl, rfl, own_nil _ _ _, Same.refl _⟩
            case round =>
              obtain ⟨j, A', c', hk, rfl, rfl, ho, sx⟩ := hrel
              have HO := Lib.hid ho
              have HSX := Lib.hid sx
              have HSW := Lib.hid (HS4.out.trans sx)
              have HS0W := Lib.hid (HS4a.out.trans sx)
              have c0' := sx.cell c0
              have c1' := sx.cell c1
              have t6' := sx.cell t6
              clear ho sx c0 c1 t6
              cases gk with
              | zero =>
                obtain rfl : j = p.code.length := by omega
                have hge : ¬ (p.code.length : Int) < (p.code.length : Int) := by omega
                have HR := Lib.hid (show Row wr A' (((pI p).map (cntR kk (kx true) (ky true))).map (Value.int .i64)) from by rw [← HLN.out]; have := HO.out.row; rwa [show p.code.length = (p.code.map CN).length from (List.length_map ..).symm, List.take_length] at this)
                have MO := Lib.hid (Cs.rmost_any X p.code.length cX (pI p) A' c' ((pI p).map (cntR kk (kx true) (ky true))) wr (by unfold pI; rw [List.length_map]) (prgI (HCW.out.same HS0W.out)) HR.out (by unfold pI; rw [List.length_map, List.length_map]) HOK.out)
                rw [← wei_ok HOK.out kk true] at MO
                generalize Cs.weI true (pI p) ((pI p).map (cntI kk (kx true) (ky true))) = wv at *
                go_wp2_with fail
                refine MO.out.mono ?_
                rintro e w5 ⟨rfl, s5⟩
                go_wp2_with fail
                go_ret
                exact ⟨by rw [HD.out]; rfl, HSW.out.trans s5⟩
              | succ GK =>
                have hlt : (j : Int) < p.code.length := by omega
                have hj0 : (0 : Int) ≤ j := by omega
                have HJL := Lib.hid (show j < p.code.length by omega)
                have HJK := Lib.hid hk
                clear hk
                obtain ⟨xj, hxj⟩ : ∃ xj, p.code[j]? = some xj := ⟨p.code[j], List.getElem?_eq_getElem HJL.out⟩
                have HJ := Lib.hid hxj
                clear hxj
                obtain ⟨hxn, bX, oX, rfl, y0, y1, y2, y3, y4⟩ := (HCW.out.same HS0W.out).at_ HJ.out
                have HQ5 := Lib.hid (Blk.new wr 49 #[.int .i64 xj.op, .int .i64 xj.a, .int .i64 xj.b, .int .i64 xj.c, .int .u32 xj.n])
                have HO5 := Lib.hid (HO.out.same ((Same.refl wr).alloc (.cells #[.int .i64 xj.op, .int .i64 xj.a, .int .i64 xj.b, .int .i64 xj.c, .int .u32 xj.n] 49)))
                have HX5 := Lib.hid (HSX.out.alloc (.cells #[.int .i64 xj.op, .int .i64 xj.a, .int .i64 xj.b, .int .i64 xj.c, .int .u32 xj.n] 49))
                go_upto_region 8 with fail
                generalize wr.alloc (.cells #[.int .i64 xj.op, .int .i64 xj.a, .int .i64 xj.b, .int .i64 xj.c, .int .u32 xj.n] 49) = w5 at *
                generalize wr.heap.size = q5 at *
                obtain ⟨v0, v2⟩ := (⟨HQ5.out.cell 0, HQ5.out.cell 2⟩ : _ ∧ _)
                simp only [List.getElem?_toArray, List.getElem?_cons_zero, List.getElem?_cons_succ] at v0 v2
                clear y0 y1 y2 y3 y4 HSX HSW c0' c1' t6'
                by_cases ha : xj.op = 18
                · have ea : (xj.op == 18) = true := by simpa using ha
                  have HA := Lib.hid ha
                  clear ha
                  by_cases hb : xj.b = (kk : Int)
                  · have eb : (xj.b == (kk : Int)) = true := by simpa using hb
                    have HBK := Lib.hid hb
                    clear hb
                    have HV := Lib.hid (show cntR kk (kx true) (ky true) (fpI xj) = 1 from by unfold cntR fpI kx ky; simp only; exact if_pos ⟨.inl HA.out, HBK.out⟩)
                    go_wp2_with (at_builtin; go_loud (refine wpList_app rfl (.tmp 91) (.tmp 93) 26 rfl b4 3 i0 _ 8 Tryz.underlying26 hi hz0 hz1 hz2 rfl A' j c' ((p.code.map CN).take j) rfl ?c1 (HO5.out.same ((Same.refl _).alloc _)) _ 1 1 [.int .i64 1] rfl rfl (row_new _ _ _) ?c2 ?c3 (by omega) ?c4 ?_))
                    case c1 => rw [List.length_take, List.length_map]; have := HJL.out; omega
                    case c2 => intro u hu; simp at hu; subst hu; rfl
                    case c3 => rw [List.length_take, List.length_map]; simp; omega
                    case c4 => have := HB4.out; have := HX5.out.size; simp; omega
                    intro A2 c2' w8 ho2 hc2 _
                    have HS8 := Lib.hid (Same.more (HX5.out.alloc _) hc2 (fun g hg => by have := own_low HO.out hg; have := HB4.out; omega))
                    rw [show (p.code.map CN).take j ++ [.int .i64 1] = (p.code.map CN).take (j + 1) from by rw [take_snoc (p.code.map CN) (v := CN xj) (by rw [List.getElem?_map, HJ.out]; rfl), ← HCN.out, HV.out]] at ho2
                    have HO8 := Lib.hid ho2
                    clear ho2 hc2
                    go_wp2_with fail
                    go_roundg GK
                    case rel => exact ⟨j + 1, A2, c2', by have := HJK.out; omega, by go_num, rfl, HO8.out, HS8.out⟩
                    case measure => omega
                  · have eb : (xj.b == (kk : Int)) = false := by simpa using hb
                    have HBK := Lib.hid hb
                    clear hb
                    have HV := Lib.hid (show cntR kk (kx true) (ky true) (fpI xj) = 0 from by unfold cntR fpI kx ky; simp only; exact if_neg (fun h => HBK.out h.2))
                    go_wp2_with (at_builtin; go_loud (refine wpList_app rfl (.tmp 91) (.tmp 93) 26 rfl b4 3 i0 _ 8 Tryz.underlying26 hi hz0 hz1 hz2 rfl A' j c' ((p.code.map CN).take j) rfl ?c1 (HO5.out.same ((Same.refl _).alloc _)) _ 1 1 [.int .i64 0] rfl rfl (row_new _ _ _) ?c2 ?c3 (by omega) ?c4 ?_))
                    case c1 => rw [List.length_take, List.length_map]; have := HJL.out; omega
                    case c2 => intro u hu; simp at hu; subst hu; rfl
                    case c3 => rw [List.length_take, List.length_map]; simp; omega
                    case c4 => have := HB4.out; have := HX5.out.size; simp; omega
                    intro A2 c2' w8 ho2 hc2 _
                    have HS8 := Lib.hid (Same.more (HX5.out.alloc _) hc2 (fun g hg => by have := own_low HO.out hg; have := HB4.out; omega))
                    rw [show (p.code.map CN).take j ++ [.int .i64 0] = (p.code.map CN).take (j + 1) from by rw [take_snoc (p.code.map CN) (v := CN xj) (by rw [List.getElem?_map, HJ.out]; rfl), ← HCN.out, HV.out]] at ho2
                    have HO8 := Lib.hid ho2
                    clear ho2 hc2
                    go_wp2_with fail
                    go_roundg GK
                    case rel => exact ⟨j + 1, A2, c2', by have := HJK.out; omega, by go_num, rfl, HO8.out, HS8.out⟩
                    case measure => omega
                · have ea : (xj.op == 18) = false := by simpa using ha
                  have HA := Lib.hid ha
                  clear ha
                  by_cases hc : xj.op = 19
                  · have ec : (xj.op == 19) = true := by simpa using hc
                    have HCC := Lib.hid hc
                    clear hc
                    by_cases hb : xj.b = (kk : Int)
                    · have eb : (xj.b == (kk : Int)) = true := by simpa using hb
                      have HBK := Lib.hid hb
                      clear hb
                      have HV := Lib.hid (show cntR kk (kx true) (ky true) (fpI xj) = 1 from by unfold cntR fpI kx ky; simp only; exact if_pos ⟨.inr HCC.out, HBK.out⟩)
                      go_wp2_with (at_builtin; go_loud (refine wpList_app rfl (.tmp 91) (.tmp 93) 26 rfl b4 3 i0 _ 8 Tryz.underlying26 hi hz0 hz1 hz2 rfl A' j c' ((p.code.map CN).take j) rfl ?c1 (HO5.out.same ((Same.refl _).alloc _)) _ 1 1 [.int .i64 1] rfl rfl (row_new _ _ _) ?c2 ?c3 (by omega) ?c4 ?_))
                      case c1 => rw [List.length_take, List.length_map]; have := HJL.out; omega
                      case c2 => intro u hu; simp at hu; subst hu; rfl
                      case c3 => rw [List.length_take, List.length_map]; simp; omega
                      case c4 => have := HB4.out; have := HX5.out.size; simp; omega
                      intro A2 c2' w8 ho2 hc2 _
                      have HS8 := Lib.hid (Same.more (HX5.out.alloc _) hc2 (fun g hg => by have := own_low HO.out hg; have := HB4.out; omega))
                      rw [show (p.code.map CN).take j ++ [.int .i64 1] = (p.code.map CN).take (j + 1) from by rw [take_snoc (p.code.map CN) (v := CN xj) (by rw [List.getElem?_map, HJ.out]; rfl), ← HCN.out, HV.out]] at ho2
                      have HO8 := Lib.hid ho2
                      clear ho2 hc2
                      go_wp2_with fail
                      go_roundg GK
                      case rel => exact ⟨j + 1, A2, c2', by have := HJK.out; omega, by go_num, rfl, HO8.out, HS8.out⟩
                      case measure => omega
                    · have eb : (xj.b == (kk : Int)) = false := by simpa using hb
                      have HBK := Lib.hid hb
                      clear hb
                      have HV := Lib.hid (show cntR kk (kx true) (ky true) (fpI xj) = 0 from by unfold cntR fpI kx ky; simp only; exact if_neg (fun h => HBK.out h.2))
                      go_wp2_with (at_builtin; go_loud (refine wpList_app rfl (.tmp 91) (.tmp 93) 26 rfl b4 3 i0 _ 8 Tryz.underlying26 hi hz0 hz1 hz2 rfl A' j c' ((p.code.map CN).take j) rfl ?c1 (HO5.out.same ((Same.refl _).alloc _)) _ 1 1 [.int .i64 0] rfl rfl (row_new _ _ _) ?c2 ?c3 (by omega) ?c4 ?_))
                      case c1 => rw [List.length_take, List.length_map]; have := HJL.out; omega
                      case c2 => intro u hu; simp at hu; subst hu; rfl
                      case c3 => rw [List.length_take, List.length_map]; simp; omega
                      case c4 => have := HB4.out; have := HX5.out.size; simp; omega
                      intro A2 c2' w8 ho2 hc2 _
                      have HS8 := Lib.hid (Same.more (HX5.out.alloc _) hc2 (fun g hg => by have := own_low HO.out hg; have := HB4.out; omega))
                      rw [show (p.code.map CN).take j ++ [.int .i64 0] = (p.code.map CN).take (j + 1) from by rw [take_snoc (p.code.map CN) (v := CN xj) (by rw [List.getElem?_map, HJ.out]; rfl), ← HCN.out, HV.out]] at ho2
                      have HO8 := Lib.hid ho2
                      clear ho2 hc2
                      go_wp2_with fail
                      go_roundg GK
                      case rel => exact ⟨j + 1, A2, c2', by have := HJK.out; omega, by go_num, rfl, HO8.out, HS8.out⟩
                      case measure => omega
                  · have ec : (xj.op == 19) = false := by simpa using hc
                    have HCC := Lib.hid hc
                    clear hc
                    have HV := Lib.hid (show cntR kk (kx true) (ky true) (fpI xj) = 0 from by unfold cntR fpI kx ky; simp only; exact if_neg (fun h => h.1.elim HA.out HCC.out))
                    go_wp2_with (at_builtin; go_loud (refine wpList_app rfl (.tmp 91) (.tmp 93) 26 rfl b4 3 i0 _ 8 Tryz.underlying26 hi hz0 hz1 hz2 rfl A' j c' ((p.code.map CN).take j) rfl ?c1 (HO5.out.same ((Same.refl _).alloc _)) _ 1 1 [.int .i64 0] rfl rfl (row_new _ _ _) ?c2 ?c3 (by omega) ?c4 ?_))
                    case c1 => rw [List.length_take, List.length_map]; have := HJL.out; omega
                    case c2 => intro u hu; simp at hu; subst hu; rfl
                    case c3 => rw [List.length_take, List.length_map]; simp; omega
                    case c4 => have := HB4.out; have := HX5.out.size; simp; omega
                    intro A2 c2' w8 ho2 hc2 _
                    have HS8 := Lib.hid (Same.more (HX5.out.alloc _) hc2 (fun g hg => by have := own_low HO.out hg; have := HB4.out; omega))
                    rw [show (p.code.map CN).take j ++ [.int .i64 0] = (p.code.map CN).take (j + 1) from by rw [take_snoc (p.code.map CN) (v := CN xj) (by rw [List.getElem?_map, HJ.out]; rfl), ← HCN.out, HV.out]] at ho2
                    have HO8 := Lib.hid ho2
                    clear ho2 hc2
                    go_wp2_with fail
                    go_roundg GK
                    case rel => exact ⟨j + 1, A2, c2', by have := HJK.out; omega, by go_num, rfl, HO8.out, HS8.out⟩
                    case measure => omega

set_option maxRecDepth 100000 in
set_option maxHeartbeats 8000000 in
theorem rcalls_false (A B : Option Addr) (n c m d : Nat) (s : PS) (i k : Int) (w : World) (hs : SysAt w A n B m s) (hnm : n ≤ maxLen ∧ m ≤ maxLen) (hf : ∀ p ∈ s.ts, p.code.length ≤ 200) :
    Calls Tryz.prog 53 #[.agg #[.slice A n c, .slice B m d], .int .i64 i, .int .i64 k, .bool false] w fun e w' => e = .returned (.int .i64 (demI s i k (kx false) (ky false))) ∧ Same w w' := by
  obtain ⟨i0, hi, hz0, hz1, hz2⟩ := info_parts int_inf
  have hbn : (n : Int) ≤ 9223372036854775807 ∧ (m : Int) ≤ 9223372036854775807 := by unfold maxLen at hnm; omega
  have s0 := (Same.refl w).alloc (.cells #[.slice A n c, .slice B m d] 25)
  have b0 := Blk.new w 25 #[.slice A n c, .slice B m d]
  obtain ⟨w0, hw0⟩ : ∃ w0, w0 = w.alloc (.cells #[.slice A n c, .slice B m d] 25) := ⟨_, rfl⟩
  rw [← hw0] at s0 b0
  have HE := Lib.hid hw0
  have c0 := b0.cell 0
  have c1 := b0.cell 1
  simp only [List.getElem?_toArray, List.getElem?_cons_zero, List.getElem?_cons_succ] at c0 c1
  have HS := Lib.hid hs
  have HF := Lib.hid hf
  have S0 := Lib.hid s0
  clear hs hf hw0 s0 b0
  go_enter Tryz.func53, Tryz.ntmps53
  go_upto_region 1 with fail
  rw [← HE.out]
  clear HE
  by_cases h1 : i < 0
  · have HD := Lib.hid (show demI s i k (kx false) (ky false) = 0 from dem_out (.inl (.inl h1)))
    go_wp2_with fail
    go_ret
    exact ⟨by rw [HD.out]; rfl, S0.out⟩
  · by_cases h2 : i ≥ n
    · have HD := Lib.hid (show demI s i k (kx false) (ky false) = 0 from dem_out (.inl (.inr (by rw [HS.out.hn]; exact h2))))
      go_wp2_with fail
      go_ret
      exact ⟨by rw [HD.out]; rfl, S0.out⟩
    · by_cases h3 : k < 0
      · have HD := Lib.hid (show demI s i k (kx false) (ky false) = 0 from dem_out (.inr (.inl h3)))
        go_wp2_with fail
        go_ret
        exact ⟨by rw [HD.out]; rfl, S0.out⟩
      · by_cases h4 : k ≥ m
        · have HD := Lib.hid (show demI s i k (kx false) (ky false) = 0 from dem_out (.inr (.inr (by rw [HS.out.hm]; exact h4))))
          go_wp2_with fail
          go_ret
          exact ⟨by rw [HD.out]; rfl, S0.out⟩
        · obtain ⟨ki, rfl⟩ : ∃ ki : Nat, i = ki := ⟨i.toNat, by omega⟩
          obtain ⟨kk, rfl⟩ : ∃ kk : Nat, k = kk := ⟨k.toNat, by omega⟩
          have hki : ki < s.ts.length := by rw [HS.out.hn]; omega
          obtain ⟨p, hp⟩ : ∃ p, s.ts[ki]? = some p := ⟨s.ts[ki], List.getElem?_eq_getElem hki⟩
          have HP := Lib.hid hp
          have HLE := Lib.hid (HF.out p (List.mem_of_getElem? hp))
          have HD := Lib.hid (dem_in (x := kx false) (y := ky false) hp (show kk < s.os.length by rw [HS.out.hm]; omega))
          obtain ⟨bA, oA, rfl, X, cX, _, _, _, _, _, _, t6, hcode, _⟩ := (HS.out.ht.same S0.out).at_ hp
          have HCW := Lib.hid hcode
          have FI := Lib.hid (Fw.rfine_any X p.code.length cX (pI p) w0 (by unfold pI; rw [List.length_map]) (by have := HLE.out; omega) (prgI hcode))
          have h1' : (0 : Int) ≤ ki := by omega
          have h2' : (ki : Int) < n := by omega
          clear hp hki hcode
          go_wp2_with fail
          refine FI.out.mono ?_
          rintro e w4 ⟨rfl, s4⟩
          cases hok : Fw.okB (pI p) with
          | false =>
            have HDZ := Lib.hid (HD.out.trans (wei_no hok _ _ _))
            clear hok HD
            have S04 := Lib.hid (S0.out.trans s4)
            clear s4
            go_wp2_with fail
            go_ret
            exact ⟨by rw [HDZ.out]; rfl, S04.out⟩
          | true =>
            have HOK := Lib.hid hok
            have HS4a := Lib.hid s4
            have c0 := s4.cell c0
            have c1 := s4.cell c1
            have t6 := s4.cell t6
            have HS4 := Lib.hid (S0.out.trans s4)
            clear hok s4 FI
            have HLE2 := HLE.out
            obtain ⟨CN, hCN⟩ : ∃ CN : Im.Ins → Value, CN = fun i => Value.int .i64 (cntR kk (kx false) (ky false) (fpI i)) := ⟨_, rfl⟩
            have HCN := Lib.hid (fun i => (show Value.int .i64 (cntR kk (kx false) (ky false) (fpI i)) = CN i by rw [hCN]))
            obtain ⟨b4, hb4⟩ : ∃ b4, b4 = w4.heap.size := ⟨_, rfl⟩
            have HB4 := Lib.hid hb4
            clear hb4
            have HLN := Lib.hid (show (p.code.map CN) = ((pI p).map (cntR kk (kx false) (ky false))).map (Value.int .i64) by rw [hCN]; unfold pI; rw [List.map_map, List.map_map]; rfl)
            clear hCN
            go_wp2_with fail
            go_loopg [9, 50] p.code.length (fun gk lv iv wx => ∃ (j : Nat) (A' : Option Addr) (c' : Nat), j + gk = p.code.length ∧ iv = .int .i64 j ∧ lv = .slice A' j c' ∧ Ws.Own wx b4 3 A' c' ((p.code.map CN).take j) ∧ Same w4 wx)
            case atStart => exact ⟨0, none, 0, by omega, rfl, rfl, own_nil _ _ _, Same.refl _⟩
            case round =>
              obtain ⟨j, A', c', hk, rfl, rfl, ho, sx⟩ := hrel
              have HO := Lib.hid ho
              have HSX := Lib.hid sx
              have HSW := Lib.hid (HS4.out.trans sx)
              have HS0W := Lib.hid (HS4a.out.trans sx)
              have c0' := sx.cell c0
              have c1' := sx.cell c1
              have t6' := sx.cell t6
              clear ho sx c0 c1 t6
              cases gk with
              | zero =>
                obtain rfl : j = p.code.length := by omega
                have hge : ¬ (p.code.length : Int) < (p.code.length : Int) := by omega
                have HR := Lib.hid (show Row wr A' (((pI p).map (cntR kk (kx false) (ky false))).map (Value.int .i64)) from by rw [← HLN.out]; have := HO.out.row; rwa [show p.code.length = (p.code.map CN).length from (List.length_map ..).symm, List.take_length] at this)
                have MO := Lib.hid (Cs.rmost_any X p.code.length cX (pI p) A' c' ((pI p).map (cntR kk (kx false) (ky false))) wr (by unfold pI; rw [List.length_map]) (prgI (HCW.out.same HS0W.out)) HR.out (by unfold pI; rw [List.length_map, List.length_map]) HOK.out)
                rw [← wei_ok HOK.out kk false] at MO
                generalize Cs.weI true (pI p) ((pI p).map (cntI kk (kx false) (ky false))) = wv at *
                go_wp2_with fail
                refine MO.out.mono ?_
                rintro e w5 ⟨rfl, s5⟩
                go_wp2_with fail
                go_ret
                exact ⟨by rw [HD.out]; rfl, HSW.out.trans s5⟩
              | succ GK =>
                have hlt : (j : Int) < p.code.length := by omega
                have hj0 : (0 : Int) ≤ j := by omega
                have HJL := Lib.hid (show j < p.code.length by omega)
                have HJK := Lib.hid hk
                clear hk
                obtain ⟨xj, hxj⟩ : ∃ xj, p.code[j]? = some xj := ⟨p.code[j], List.getElem?_eq_getElem HJL.out⟩
                have HJ := Lib.hid hxj
                clear hxj
                obtain ⟨hxn, bX, oX, rfl, y0, y1, y2, y3, y4⟩ := (HCW.out.same HS0W.out).at_ HJ.out
                have HQ5 := Lib.hid (Blk.new wr 49 #[.int .i64 xj.op, .int .i64 xj.a, .int .i64 xj.b, .int .i64 xj.c, .int .u32 xj.n])
                have HO5 := Lib.hid (HO.out.same ((Same.refl wr).alloc (.cells #[.int .i64 xj.op, .int .i64 xj.a, .int .i64 xj.b, .int .i64 xj.c, .int .u32 xj.n] 49)))
                have HX5 := Lib.hid (HSX.out.alloc (.cells #[.int .i64 xj.op, .int .i64 xj.a, .int .i64 xj.b, .int .i64 xj.c, .int .u32 xj.n] 49))
                go_upto_region 8 with fail
                generalize wr.alloc (.cells #[.int .i64 xj.op, .int .i64 xj.a, .int .i64 xj.b, .int .i64 xj.c, .int .u32 xj.n] 49) = w5 at *
                generalize wr.heap.size = q5 at *
                obtain ⟨v0, v2⟩ := (⟨HQ5.out.cell 0, HQ5.out.cell 2⟩ : _ ∧ _)
                simp only [List.getElem?_toArray, List.getElem?_cons_zero, List.getElem?_cons_succ] at v0 v2
                clear y0 y1 y2 y3 y4 HSX HSW c0' c1' t6'
                by_cases ha : xj.op = 17
                · have ea : (xj.op == 17) = true := by simpa using ha
                  have HA := Lib.hid ha
                  clear ha
                  by_cases hb : xj.b = (kk : Int)
                  · have eb : (xj.b == (kk : Int)) = true := by simpa using hb
                    have HBK := Lib.hid hb
                    clear hb
                    have HV := Lib.hid (show cntR kk (kx false) (ky false) (fpI xj) = 1 from by unfold cntR fpI kx ky; simp only; exact if_pos ⟨.inl HA.out, HBK.out⟩)
                    go_wp2_with (at_builtin; go_loud (refine wpList_app rfl (.tmp 91) (.tmp 93) 26 rfl b4 3 i0 _ 8 Tryz.underlying26 hi hz0 hz1 hz2 rfl A' j c' ((p.code.map CN).take j) rfl ?c1 (HO5.out.same ((Same.refl _).alloc _)) _ 1 1 [.int .i64 1] rfl rfl (row_new _ _ _) ?c2 ?c3 (by omega) ?c4 ?_))
                    case c1 => rw [List.length_take, List.length_map]; have := HJL.out; omega
                    case c2 => intro u hu; simp at hu; subst hu; rfl
                    case c3 => rw [List.length_take, List.length_map]; simp; omega
                    case c4 => have := HB4.out; have := HX5.out.size; simp; omega
                    intro A2 c2' w8 ho2 hc2 _
                    have HS8 := Lib.hid (Same.more (HX5.out.alloc _) hc2 (fun g hg => by have := own_low HO.out hg; have := HB4.out; omega))
                    rw [show (p.code.map CN).take j ++ [.int .i64 1] = (p.code.map CN).take (j + 1) from by rw [take_snoc (p.code.map CN) (v := CN xj) (by rw [List.getElem?_map, HJ.out]; rfl), ← HCN.out, HV.out]] at ho2
                    have HO8 := Lib.hid ho2
                    clear ho2 hc2
                    go_wp2_with fail
                    go_roundg GK
                    case rel => exact ⟨j + 1, A2, c2', by have := HJK.out; omega, by go_num, rfl, HO8.out, HS8.out⟩
                    case measure => omega
                  · have eb : (xj.b == (kk : Int)) = false := by simpa using hb
                    have HBK := Lib.hid hb
                    clear hb
                    have HV := Lib.hid (show cntR kk (kx false) (ky false) (fpI xj) = 0 from by unfold cntR fpI kx ky; simp only; exact if_neg (fun h => HBK.out h.2))
                    go_wp2_with (at_builtin; go_loud (refine wpList_app rfl (.tmp 91) (.tmp 93) 26 rfl b4 3 i0 _ 8 Tryz.underlying26 hi hz0 hz1 hz2 rfl A' j c' ((p.code.map CN).take j) rfl ?c1 (HO5.out.same ((Same.refl _).alloc _)) _ 1 1 [.int .i64 0] rfl rfl (row_new _ _ _) ?c2 ?c3 (by omega) ?c4 ?_))
                    case c1 => rw [List.length_take, List.length_map]; have := HJL.out; omega
                    case c2 => intro u hu; simp at hu; subst hu; rfl
                    case c3 => rw [List.length_take, List.length_map]; simp; omega
                    case c4 => have := HB4.out; have := HX5.out.size; simp; omega
                    intro A2 c2' w8 ho2 hc2 _
                    have HS8 := Lib.hid (Same.more (HX5.out.alloc _) hc2 (fun g hg => by have := own_low HO.out hg; have := HB4.out; omega))
                    rw [show (p.code.map CN).take j ++ [.int .i64 0] = (p.code.map CN).take (j + 1) from by rw [take_snoc (p.code.map CN) (v := CN xj) (by rw [List.getElem?_map, HJ.out]; rfl), ← HCN.out, HV.out]] at ho2
                    have HO8 := Lib.hid ho2
                    clear ho2 hc2
                    go_wp2_with fail
                    go_roundg GK
                    case rel => exact ⟨j + 1, A2, c2', by have := HJK.out; omega, by go_num, rfl, HO8.out, HS8.out⟩
                    case measure => omega
                · have ea : (xj.op == 17) = false := by simpa using ha
                  have HA := Lib.hid ha
                  clear ha
                  by_cases hc : xj.op = 20
                  · have ec : (xj.op == 20) = true := by simpa using hc
                    have HCC := Lib.hid hc
                    clear hc
                    by_cases hb : xj.b = (kk : Int)
                    · have eb : (xj.b == (kk : Int)) = true := by simpa using hb
                      have HBK := Lib.hid hb
                      clear hb
                      have HV := Lib.hid (show cntR kk (kx false) (ky false) (fpI xj) = 1 from by unfold cntR fpI kx ky; simp only; exact if_pos ⟨.inr HCC.out, HBK.out⟩)
                      go_wp2_with (at_builtin; go_loud (refine wpList_app rfl (.tmp 91) (.tmp 93) 26 rfl b4 3 i0 _ 8 Tryz.underlying26 hi hz0 hz1 hz2 rfl A' j c' ((p.code.map CN).take j) rfl ?c1 (HO5.out.same ((Same.refl _).alloc _)) _ 1 1 [.int .i64 1] rfl rfl (row_new _ _ _) ?c2 ?c3 (by omega) ?c4 ?_))
                      case c1 => rw [List.length_take, List.length_map]; have := HJL.out; omega
                      case c2 => intro u hu; simp at hu; subst hu; rfl
                      case c3 => rw [List.length_take, List.length_map]; simp; omega
                      case c4 => have := HB4.out; have := HX5.out.size; simp; omega
                      intro A2 c2' w8 ho2 hc2 _
                      have HS8 := Lib.hid (Same.more (HX5.out.alloc _) hc2 (fun g hg => by have := own_low HO.out hg; have := HB4.out; omega))
                      rw [show (p.code.map CN).take j ++ [.int .i64 1] = (p.code.map CN).take (j + 1) from by rw [take_snoc (p.code.map CN) (v := CN xj) (by rw [List.getElem?_map, HJ.out]; rfl), ← HCN.out, HV.out]] at ho2
                      have HO8 := Lib.hid ho2
                      clear ho2 hc2
                      go_wp2_with fail
                      go_roundg GK
                      case rel => exact ⟨j + 1, A2, c2', by have := HJK.out; omega, by go_num, rfl, HO8.out, HS8.out⟩
                      case measure => omega
                    · have eb : (xj.b == (kk : Int)) = false := by simpa using hb
                      have HBK := Lib.hid hb
                      clear hb
                      have HV := Lib.hid (show cntR kk (kx false) (ky false) (fpI xj) = 0 from by unfold cntR fpI kx ky; simp only; exact if_neg (fun h => HBK.out h.2))
                      go_wp2_with (at_builtin; go_loud (refine wpList_app rfl (.tmp 91) (.tmp 93) 26 rfl b4 3 i0 _ 8 Tryz.underlying26 hi hz0 hz1 hz2 rfl A' j c' ((p.code.map CN).take j) rfl ?c1 (HO5.out.same ((Same.refl _).alloc _)) _ 1 1 [.int .i64 0] rfl rfl (row_new _ _ _) ?c2 ?c3 (by omega) ?c4 ?_))
                      case c1 => rw [List.length_take, List.length_map]; have := HJL.out; omega
                      case c2 => intro u hu; simp at hu; subst hu; rfl
                      case c3 => rw [List.length_take, List.length_map]; simp; omega
                      case c4 => have := HB4.out; have := HX5.out.size; simp; omega
                      intro A2 c2' w8 ho2 hc2 _
                      have HS8 := Lib.hid (Same.more (HX5.out.alloc _) hc2 (fun g hg => by have := own_low HO.out hg; have := HB4.out; omega))
                      rw [show (p.code.map CN).take j ++ [.int .i64 0] = (p.code.map CN).take (j + 1) from by rw [take_snoc (p.code.map CN) (v := CN xj) (by rw [List.getElem?_map, HJ.out]; rfl), ← HCN.out, HV.out]] at ho2
                      have HO8 := Lib.hid ho2
                      clear ho2 hc2
                      go_wp2_with fail
                      go_roundg GK
                      case rel => exact ⟨j + 1, A2, c2', by have := HJK.out; omega, by go_num, rfl, HO8.out, HS8.out⟩
                      case measure => omega
                  · have ec : (xj.op == 20) = false := by simpa using hc
                    have HCC := Lib.hid hc
                    clear hc
                    have HV := Lib.hid (show cntR kk (kx false) (ky false) (fpI xj) = 0 from by unfold cntR fpI kx ky; simp only; exact if_neg (fun h => h.1.elim HA.out HCC.out))
                    go_wp2_with (at_builtin; go_loud (refine wpList_app rfl (.tmp 91) (.tmp 93) 26 rfl b4 3 i0 _ 8 Tryz.underlying26 hi hz0 hz1 hz2 rfl A' j c' ((p.code.map CN).take j) rfl ?c1 (HO5.out.same ((Same.refl _).alloc _)) _ 1 1 [.int .i64 0] rfl rfl (row_new _ _ _) ?c2 ?c3 (by omega) ?c4 ?_))
                    case c1 => rw [List.length_take, List.length_map]; have := HJL.out; omega
                    case c2 => intro u hu; simp at hu; subst hu; rfl
                    case c3 => rw [List.length_take, List.length_map]; simp; omega
                    case c4 => have := HB4.out; have := HX5.out.size; simp; omega
                    intro A2 c2' w8 ho2 hc2 _
                    have HS8 := Lib.hid (Same.more (HX5.out.alloc _) hc2 (fun g hg => by have := own_low HO.out hg; have := HB4.out; omega))
                    rw [show (p.code.map CN).take j ++ [.int .i64 0] = (p.code.map CN).take (j + 1) from by rw [take_snoc (p.code.map CN) (v := CN xj) (by rw [List.getElem?_map, HJ.out]; rfl), ← HCN.out, HV.out]] at ho2
                    have HO8 := Lib.hid ho2
                    clear ho2 hc2
                    go_wp2_with fail
                    go_roundg GK
                    case rel => exact ⟨j + 1, A2, c2', by have := HJK.out; omega, by go_num, rfl, HO8.out, HS8.out⟩
                    case measure => omega
end Go.Proofs.YthhbhbfkbncegabGreatDoor.Dm
end
