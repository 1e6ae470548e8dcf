/-

  Layer 11, the document: Walk.
-/
import Derived.Test.YtnlndkpjfgpodaaDoorSpot
import Derived.Test.YtnlndkpjfgpodaaDoorWlkRun
import Derived.Test.YtnlndkpjfgpodaaDoorFlowUse
import Derived.Test.YtnlndkpjfgpodaaDoorCstRep
set_option linter.unusedVariables false
set_option linter.unusedSimpArgs false
namespace Go.Proofs.YtnlndkpjfgpodaaDoor.Wk
open Go.ChangeShapes Go.WideShapes Go.ChangeAt Go.RowKit Ws
open Go.Proofs.YtnlndkpjfgpodaaDoor.Fp (Ins at_ Fine at_some lp loopsL nextL hasB)
open Go.Proofs.YtnlndkpjfgpodaaDoor.Fw (Prg Spn spanCells spn_of okB okB_fine rightI)

/-- a walk of at most M places, and whether it came to a Done -/
def WalkP (w : World) (p : List Ins) (ch : List Bool) (M : Nat) (e : Ending) (w' : World) : Prop :=
  ∃ (A : Option Addr) (c n : Nat) (ok : Bool), e = .returned (.tuple #[.slice A n c, .bool ok]) ∧ Row w' A ((pcs p ch n).map (Value.int .i64)) ∧ Same w w' ∧ (ok = true → 1 ≤ n ∧ n ≤ M ∧ NoD p ch (n - 1) ∧ (at_ p (wk p ch (n - 1)).1.pc).op = 21) ∧ (ok = false → n = M ∧ NoD p ch n)
theorem walk_done {w w' : World} {p : List Ins} {ch : List Bool} {M : Nat} {A : Option Addr} {c n : Nat} (hr : Row w' A ((pcs p ch (n + 1)).map (Value.int .i64))) (hs : Same w w') (h1 : n + 1 ≤ M) (h2 : NoD p ch n) (h3 : (at_ p (wk p ch n).1.pc).op = 21) :
    WalkP w p ch M (.returned (.tuple #[.slice A (n + 1) c, .bool true])) w' := ⟨A, c, n + 1, true, rfl, hr, hs, fun _ => ⟨by omega, h1, h2, h3⟩, fun h => (by cases h)⟩
theorem walk_out {w w' : World} {p : List Ins} {ch : List Bool} {M : Nat} {A : Option Addr} {c : Nat} (hr : Row w' A ((pcs p ch M).map (Value.int .i64))) (hs : Same w w') (h2 : NoD p ch M) :
    WalkP w p ch M (.returned (.tuple #[.slice A M c, .bool false])) w' := ⟨A, c, M, false, rfl, hr, hs, fun h => (by cases h), fun _ => ⟨rfl, h2⟩⟩
theorem int_inf : (Tryd.prog.info? 3).map (fun i => (i.zero, i.size, i.bytes)) = some (some (.int .i64 0), 1, 8) := by kernel_rfl
theorem zeros_eq : Tryd.zeroCells84 = spC Sp0 := by rw [spC_start]; kernel_rfl
theorem own_nil (w : World) (B : Nat) (e : TypeId) : Own w B e none 0 [] := ⟨by simp, .inl ⟨rfl, rfl⟩⟩
theorem own_ge {w : World} {B : Nat} {e : TypeId} {A : Option Addr} {c : Nat} {l : List Value} (h : Own w B e A c l) {g : Nat} (hA : A = some ⟨g, 0, none⟩) : B ≤ g := by
  subst hA
  rcases h.2 with ⟨h2, _⟩ | ⟨g2, cap, cur, hv, hb2, _⟩
  · cases h2
  · injection hv with hv
    injection hv with hv
    injection hv with hv
    omega
theorem slice_none (q : Nat) : ¬ (none : Option Addr) = some ⟨q, 0, none⟩ := by simp
set_option maxRecDepth 100000 in
set_option maxHeartbeats 8000000 in
theorem rwalk_any (A : Option Addr) (m c : Nat) (p : List Ins) (CA : Option Addr) (cn cc : Nat) (ch : List Bool) (most : Int) (w : World) (hl : p.length = m) (hp : Prg w A p) (hC : Row w CA (ch.map Value.bool)) (hcl : ch.length = cn) (hok : okB p = true) (hmo : most ≤ 100000)
    (hbc : ∀ k, k < p.length → (at_ p k).op = 16 → 0 ≤ (at_ p k).c ∧ (at_ p k).c < 1099511627776) :
    Calls Tryd.prog 16 #[.slice A m c, .slice CA cn cc, .int .i64 most] w (WalkP w p ch most.toNat) := by
  have hF := okB_fine hok
  have hn := hp.nn
  have hm64 : m ≤ 64 := by have := hF.size; omega
  obtain ⟨M, hM⟩ : ∃ M, M = most.toNat := ⟨_, rfl⟩
  rw [← hM]
  obtain ⟨i0, hi, hz0, hz1, hz2⟩ := info_parts int_inf
  have hCl : ∀ j, j < (loopsL p).length → 0 ≤ (at_ p (lp (loopsL p) j).2.toNat).c := fun j hj => by
    have h1 := Cs.lp_in hF hn hj
    exact (hbc _ (by omega) (Cs.lp_back hF hn hj)).1
  have GD := Lib.hid (fun i (h : NoD p ch i) => good_wk hF hn hCl ch h)
  have NX := Lib.hid (fun (s : Sp) (jump : Bool) w' (hs : Same w w') (hg : Good p s) => next_any A m c p s jump w' hl hm64 (hp.same hs) (hl ▸ hg.pc) (good_back hF hbc hg))
  have HP := Lib.hid hp
  have HC := Lib.hid hC
  have HL := Lib.hid hl
  have HCL := Lib.hid hcl
  have HM := Lib.hid hM
  have HST := Lib.hid (Blk.new w 84 Tryd.zeroCells84)
  have HIF := Lib.hid (show (Tryd.prog.info? 84).map (·.size) = some (Tryd.zeroCells84).size by rw [zeros_size]; exact spot_info)
  have HON := Lib.hid (show (Tryd.zeroCells84).all (·.oneCell') = true by rw [zeros_eq]; exact spC_one _)
  have HIS := Lib.hid (fun s => (show (Tryd.prog.info? 84).map (·.size) = some (spC s).size by rw [spC_size]; exact spot_info))
  obtain ⟨w1, hw1⟩ : ∃ w1, w1 = (w.alloc (.cells Tryd.zeroCells84 84)).setRow w.heap.size Tryd.zeroCells84 := ⟨_, rfl⟩
  have HB1 := Lib.hid (show Blk w1 w.heap.size 84 (spC Sp0) by rw [hw1, ← zeros_eq]; exact row_blk (Blk.new w _ _))
  have HS1 := Lib.hid (show Same w w1 by rw [hw1]; exact chg_setRow ((Same.refl w).alloc _) (.inr (Nat.le_refl _)) _)
  have HW1 := Lib.hid hw1
  clear hp hC hl hcl hF hn hCl hbc hok hM hw1
  go_enter Tryd.func16, Tryd.ntmps16
  go_wp2_with (refine wpList_store_row rfl 84 (.tmp 9) (.tmp 12) rfl w.heap.size Tryd.zeroCells84 rfl rfl 84 Tryd.zeroCells84 HST.out HIF.out rfl HON.out ?_)
  rw [← HW1.out]
  clear HW1 HST HIF HON
  generalize hq : w.heap.size = q at *
  have HQ := Lib.hid (show w.heap.size ≤ q by omega)
  clear hq
  go_wp2_with fail
  go_loopg [8, 10] M (fun gk ov kv wx => ∃ (i : Nat) (A' : Option Addr) (c' : Nat), i + gk = M ∧ ov = .slice A' i c' ∧ kv = .int .i64 (((wk p ch i).2 : Nat) : Int) ∧ NoD p ch i ∧ Own wx (q + 1) 3 A' c' ((pcs p ch i).map (Value.int .i64)) ∧ Blk wx q 84 (spC (wk p ch i).1) ∧ Same w wx)
  case atStart => exact ⟨0, none, 0, by omega, rfl, rfl, (fun i hi => by omega), own_nil _ _ _, HB1.out, HS1.out⟩
  case round =>
    clear HB1 HS1
    obtain ⟨i, A', c', hk, rfl, rfl, hnd, ho, hb, sx⟩ := hrel
    have HO := Lib.hid ho
    have HB := Lib.hid hb
    have HS := Lib.hid sx
    have HND := Lib.hid hnd
    have HG := Lib.hid (GD.out i hnd)
    have hM2 : M ≤ 100000 := by have := HM.out; omega
    clear ho hb sx hnd
    cases gk with
    | zero =>
      obtain rfl : M = i := by omega
      have hge : ¬ (M : Int) < most := by have := HM.out; omega
      go_wp2_with fail
      go_ret2
      exact walk_out HO.out.row HS.out HND.out
    | succ GK =>
      have hlt : (i : Int) < most := by have := HM.out; omega
      have d0 := (HB.out.cell 0).trans (spC_zero _)
      have hkn := wk_num p ch i
      obtain ⟨s, hs⟩ : ∃ s, s = (wk p ch i).1 := ⟨_, rfl⟩
      obtain ⟨kn, hkn'⟩ : ∃ kn, kn = (wk p ch i).2 := ⟨_, rfl⟩
      have HSE := Lib.hid hs
      have HKE := Lib.hid hkn'
      have HPS := Lib.hid (show (pcs p ch i).map (Value.int .i64) ++ [.int .i64 (s.pc : Int)] = (pcs p ch (i + 1)).map (Value.int .i64) by rw [pcs_succ, List.map_append, hs]; rfl)
      have HNX' := Lib.hid (show wk p ch (i + 1) = wkN p ch (s, kn) by rw [hs, hkn']; rfl)
      rw [← hs] at HG HB d0
      rw [← hkn'] at hkn ⊢
      clear hs hkn'
      have hpc : (s.pc : Int) < m := by have := HG.out.pc; have := HL.out; omega
      have hpc0 : (0 : Int) ≤ s.pc := by omega
      go_wp2_with (at_builtin; go_loud (refine wpList_app rfl (.tmp 17) (.tmp 20) 23 rfl (q + 1) 3 i0 _ 8 Tryd.underlying23 hi hz0 hz1 hz2 rfl A' i c' ((pcs p ch i).map (Value.int .i64)) rfl ?c1 (HO.out.same ((Same.refl _).alloc _)) _ 1 1 [.int .i64 (s.pc : Int)] rfl rfl (row_new _ _ _) ?c2 ?c3 (by omega) ?c4 ?_))
      case c1 => rw [List.length_map, pcs_len]
      case c2 => intro u hu; simp at hu; subst hu; rfl
      case c3 => rw [List.length_map, pcs_len]; simp; omega
      case c4 => have := HB.out.lt; simp; omega
      intro A2 c2' w2 ho2 hc2 _
      have hA : ∀ g, A' = some ⟨g, 0, none⟩ → q + 1 ≤ g := fun g hg => by
        subst hg
        rcases HO.out.2 with ⟨h2, _⟩ | ⟨g2, cap, cur, hv, hb2, _⟩
        · cases h2
        · injection hv with hv
          injection hv with hv
          injection hv with hv
          omega
      have HB2 := Lib.hid ((HB.out.same ((Same.refl _).alloc _)).chg hc2 (fun h => by have := hA _ h; omega))
      have HS2 := Lib.hid (Same.more (HS.out.alloc _) hc2 (fun g hg => by have := hA g hg; have := HQ.out; omega))
      rw [HPS.out] at ho2
      have HO2 := Lib.hid ho2
      clear ho2 hc2 hA HO HB HS d0 HPS
      obtain ⟨hok, bI, oI, rfl, z0, z1, z2, z3, z4⟩ := (HP.out.same HS2.out).at_ (k := s.pc) (by have := HG.out.pc; omega)
      obtain ⟨x, hx⟩ : ∃ x, x = at_ p s.pc := ⟨_, rfl⟩
      rw [← hx] at z0
      have HX := Lib.hid hx
      clear hx hok z1 z2 z3 z4
      have d0 := (HB2.out.cell 0).trans (spC_zero _)
      by_cases h21 : x.op = 21
      · have e21 : (x.op == 21) = true := by simpa using h21
        have H21 := Lib.hid h21
        clear h21
        go_wp2_with fail
        go_ret2
        exact walk_done HO2.out.row HS2.out (by omega) HND.out (by rw [← HSE.out, ← HX.out]; exact H21.out)
      · have e21 : (x.op == 21) = false := by simpa using h21
        have HND1 := Lib.hid (HND.out.succ (by rw [← HSE.out, ← HX.out]; exact h21))
        clear h21
        by_cases h15 : x.op = 15
        · have e15 : (x.op == 15) = true := by simpa using h15
          have HWN := Lib.hid (show wkN p ch (s, kn) = (nx p s (ch.getD kn false), kn + 1) by unfold wkN; rw [if_pos (by rw [← HX.out]; exact h15)])
          clear h15
          by_cases hkc : kn < cn
          · have hkc' : (kn : Int) < (cn : Int) := by omega
            have hgd : ch[kn]? = some (ch.getD kn false) := by
              rw [List.getD_eq_getElem?_getD, List.getElem?_eq_getElem (by have := HCL.out; omega)]; rfl
            obtain ⟨bC, oC, rfl, cC⟩ := (HC.out.same HS2.out) kn (.bool (ch.getD kn false)) (by rw [List.getElem?_map, hgd]; rfl)
            clear hgd
            generalize ch.getD kn false = bv at *
            obtain ⟨s', hs'⟩ : ∃ s', s' = nx p s bv := ⟨_, rfl⟩
            have NXJ := Lib.hid (NX.out s bv _ HS2.out HG.out)
            rw [← hs'] at NXJ
            have HSN := Lib.hid hs'
            clear hs'
            have HI1 := Lib.hid (HIS.out s)
            have HI2 := Lib.hid (HIS.out s')
            have HON2 := Lib.hid (spC_one s')
            go_wp2_with (refine wpList_load_row rfl 84 (.tmp 9) rfl q rfl 84 (spC s) (0, 0) _ HB2.out Tryd.underlying84 rfl HI1.out ?_)
            refine NXJ.out.mono ?_
            rintro e w3 ⟨rfl, s3⟩
            have HS3 := Lib.hid (HS2.out.trans s3)
            have HB3 := Lib.hid (HB2.out.same s3)
            have HO3 := Lib.hid (HO2.out.same s3)
            have hsz : (spC s).size = (spC s').size := by rw [spC_size, spC_size]
            clear s3 NXJ
            have HC4 := Lib.hid (chg_setRow (S := fun i => i = q) (Chg.refl _ w3) (g := q) (.inl rfl) (spC s'))
            have HB4 := Lib.hid (show Blk (w3.setRow q (spC s')) q 84 (spC s') from row_blk HB3.out)
            have HS4 := Lib.hid (show Same w (w3.setRow q (spC s')) from chg_setRow HS3.out (.inr HQ.out) _)
            have HO4 := Lib.hid (HO3.out.chg HC4.out (fun g hg h => by have : g = q := h; have := own_ge HO3.out hg; omega))
            go_wp2_with (refine wpList_store_row rfl 84 (.tmp 9) (.tmp 52) rfl q (spC s') rfl rfl 84 (spC s) HB3.out HI2.out hsz HON2.out ?_)
            go_roundg GK
            case rel =>
              have e : wk p ch (i + 1) = (s', kn + 1) := by rw [HNX'.out, HSN.out]; exact HWN.out
              exact ⟨i + 1, A2, c2', by omega, rfl, by rw [e] <;> go_num, HND1.out, HO4.out, by rw [e]; exact HB4.out, HS4.out⟩
            case measure => omega
          · have hkc' : ¬ (kn : Int) < (cn : Int) := by omega
            have hgd : ch.getD kn false = false := by
              rw [List.getD_eq_getElem?_getD, List.getElem?_eq_none (by have := HCL.out; omega)]; rfl
            rw [hgd] at HWN
            clear hgd
            obtain ⟨s', hs'⟩ : ∃ s', s' = nx p s false := ⟨_, rfl⟩
            have NXJ := Lib.hid (NX.out s false _ HS2.out HG.out)
            rw [← hs'] at NXJ
            have HSN := Lib.hid hs'
            clear hs'
            have HI1 := Lib.hid (HIS.out s)
            have HI2 := Lib.hid (HIS.out s')
            have HON2 := Lib.hid (spC_one s')
            go_wp2_with (refine wpList_load_row rfl 84 (.tmp 9) rfl q rfl 84 (spC s) (0, 0) _ HB2.out Tryd.underlying84 rfl HI1.out ?_)
            refine NXJ.out.mono ?_
            rintro e w3 ⟨rfl, s3⟩
            have HS3 := Lib.hid (HS2.out.trans s3)
            have HB3 := Lib.hid (HB2.out.same s3)
            have HO3 := Lib.hid (HO2.out.same s3)
            have hsz : (spC s).size = (spC s').size := by rw [spC_size, spC_size]
            clear s3 NXJ
            have HC4 := Lib.hid (chg_setRow (S := fun i => i = q) (Chg.refl _ w3) (g := q) (.inl rfl) (spC s'))
            have HB4 := Lib.hid (show Blk (w3.setRow q (spC s')) q 84 (spC s') from row_blk HB3.out)
            have HS4 := Lib.hid (show Same w (w3.setRow q (spC s')) from chg_setRow HS3.out (.inr HQ.out) _)
            have HO4 := Lib.hid (HO3.out.chg HC4.out (fun g hg h => by have : g = q := h; have := own_ge HO3.out hg; omega))
            go_wp2_with (refine wpList_store_row rfl 84 (.tmp 9) (.tmp 52) rfl q (spC s') rfl rfl 84 (spC s) HB3.out HI2.out hsz HON2.out ?_)
            go_roundg GK
            case rel =>
              have e : wk p ch (i + 1) = (s', kn + 1) := by rw [HNX'.out, HSN.out]; exact HWN.out
              exact ⟨i + 1, A2, c2', by omega, rfl, by rw [e] <;> go_num, HND1.out, HO4.out, by rw [e]; exact HB4.out, HS4.out⟩
            case measure => omega
        · have e15 : (x.op == 15) = false := by simpa using h15
          have HWN := Lib.hid (show wkN p ch (s, kn) = (nx p s false, kn) by unfold wkN; rw [if_neg (by rw [← HX.out]; exact h15)])
          clear h15
          obtain ⟨s', hs'⟩ : ∃ s', s' = nx p s false := ⟨_, rfl⟩
          have NXJ := Lib.hid (NX.out s false _ HS2.out HG.out)
          rw [← hs'] at NXJ
          have HSN := Lib.hid hs'
          clear hs'
          have HI1 := Lib.hid (HIS.out s)
          have HI2 := Lib.hid (HIS.out s')
          have HON2 := Lib.hid (spC_one s')
          go_wp2_with (refine wpList_load_row rfl 84 (.tmp 9) rfl q rfl 84 (spC s) (0, 0) _ HB2.out Tryd.underlying84 rfl HI1.out ?_)
          refine NXJ.out.mono ?_
          rintro e w3 ⟨rfl, s3⟩
          have HS3 := Lib.hid (HS2.out.trans s3)
          have HB3 := Lib.hid (HB2.out.same s3)
          have HO3 := Lib.hid (HO2.out.same s3)
          have hsz : (spC s).size = (spC s').size := by rw [spC_size, spC_size]
          clear s3 NXJ
          have HC4 := Lib.hid (chg_setRow (S := fun i => i = q) (Chg.refl _ w3) (g := q) (.inl rfl) (spC s'))
          have HB4 := Lib.hid (show Blk (w3.setRow q (spC s')) q 84 (spC s') from row_blk HB3.out)
          have HS4 := Lib.hid (show Same w (w3.setRow q (spC s')) from chg_setRow HS3.out (.inr HQ.out) _)
          have HO4 := Lib.hid (HO3.out.chg HC4.out (fun g hg h => by have : g = q := h; have := own_ge HO3.out hg; omega))
          go_wp2_with (refine wpList_store_row rfl 84 (.tmp 9) (.tmp 52) rfl q (spC s') rfl rfl 84 (spC s) HB3.out HI2.out hsz HON2.out ?_)
          go_roundg GK
          case rel =>
            have e : wk p ch (i + 1) = (s', kn) := by rw [HNX'.out, HSN.out]; exact HWN.out
            exact ⟨i + 1, A2, c2', by omega, rfl, by rw [e] <;> go_num, HND1.out, HO4.out, by rw [e]; exact HB4.out, HS4.out⟩
          case measure => omega
end Go.Proofs.YtnlndkpjfgpodaaDoor.Wk
