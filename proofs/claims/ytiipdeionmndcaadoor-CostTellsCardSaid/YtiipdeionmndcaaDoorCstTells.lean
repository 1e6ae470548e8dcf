/-

  CostTells returns true for every program and all weights: the walk.
-/
import Derived.Test.YtiipdeionmndcaaDoorCstRefMost
import Derived.Test.YtiipdeionmndcaaDoorCstWalks
import Derived.Test.YtiipdeionmndcaaDoorCstMinMax
import Derived.Test.YtiipdeionmndcaaDoorFollow
set_option linter.unusedVariables false
set_option linter.unusedSimpArgs false
namespace Go.Proofs.YtiipdeionmndcaaDoor.Wk
open Go.ChangeShapes Go.WideShapes Go.ChangeAt Go.RowKit Ws
open Go.Proofs.YtiipdeionmndcaaDoor.Fp (Ins at_ Fine at_some lp loopsL nextL hasB)
open Go.Proofs.YtiipdeionmndcaaDoor.Fw (Prg Spn spanCells spn_of okB okB_fine rightI ckI ckE)
open Go.Proofs.YtiipdeionmndcaaDoor.Cs (adI weI weE weighW btG btB)

theorem follow_any (A : Option Addr) (m c : Nat) (p : List Ins) (Wt : Option Addr) (cW : Nat) (ws : List Int) (w0 : World) (b : Nat) (hl : p.length = m) (hp : Prg w0 A p) (hW : Row w0 Wt (ws.map (Value.int .i64))) (hwl : ws.length = m) (hok : okB p = true) (hb0 : w0.heap.size ≤ b)
    (hbc : ∀ k, k < p.length → (at_ p k).op = 16 → 0 ≤ (at_ p k).c ∧ (at_ p k).c < 1099511627776) (N : Nat) : ∀ (x : Sn) (s0 : Sp) (sum0 : Int) (w : World), x.lf < N → SnOk x → Good p s0 → 0 ≤ sum0 ∧ sum0 ≤ 1099511627776 → Same w0 w → Blk w b 30 (snC x) →
      Calls Tryd.prog 39 #[.pointer (some ⟨b, 0, none⟩), .slice A m c, .slice Wt m cW, .agg (spC s0), .int .i64 sum0] w (FolP w b x (gV p ws sum0 s0) (lV p ws sum0 s0)) := by
  induction N with
  | zero => intro x s0 sum0 w h hx; have := hx.lf; omega
  | succ N ih =>
    intro x s0 sum0 w h hx hg hs h0 hb
    exact follow_step A m c p Wt cW ws w0 b hl hp hW hwl hok hb0 hbc x s0 sum0 w (fun x' s' sum' w1 hlt hx' hg' hs' h1 hb' => ih x' s' sum' w1 (by omega) hx' hg' hs' h1 hb') hx hg hs h0 hb
/-- all walks -/
def AllP (w : World) (p : List Ins) (ws : List Int) (n : Int) (e : Ending) (w' : World) : Prop := ∃ y, e = .returned (.agg (snC y)) ∧ Same w w' ∧ Told ⟨0, 0, 0, n⟩ (weighW btG p ws) (weighW btL p ws) y
theorem all_mk {w w' : World} {p : List Ins} {ws : List Int} {n : Int} {y : Sn} (hs : Same w w') (h : Told ⟨0, 0, 0, n⟩ (weighW btG p ws) (weighW btL p ws) y) : AllP w p ws n (.returned (.agg (snC y))) w' := ⟨y, rfl, hs, h⟩
set_option maxRecDepth 100000 in
set_option maxHeartbeats 2000000 in
theorem all_any (A : Option Addr) (m c : Nat) (p : List Ins) (Wt : Option Addr) (cW : Nat) (ws : List Int) (n : Int) (w : World) (hl : p.length = m) (hp : Prg w A p) (hW : Row w Wt (ws.map (Value.int .i64))) (hwl : ws.length = m) (hok : okB p = true) (hn : 0 ≤ n ∧ n ≤ 1000000)
    (hbc : ∀ k, k < p.length → (at_ p k).op = 16 → 0 ≤ (at_ p k).c ∧ (at_ p k).c < 1099511627776) :
    Calls Tryd.prog 11 #[.slice A m c, .slice Wt m cW, .int .i64 n] w (AllP w p ws n) := by
  have hF := okB_fine hok
  have hnn := hp.nn
  have hCl : ∀ j, j < (loopsL p).length → 0 ≤ (at_ p (lp (loopsL p) j).2.toNat).c := fun j hj => by
    have h1 := Cs.lp_in hF hnn hj
    exact (hbc _ (by omega) (Cs.lp_back hF hnn hj)).1
  obtain ⟨w1, hw1⟩ : ∃ w1, w1 = (w.alloc (.cells #[.int .i64 0, .int .i64 0, .int .i64 0, .int .i64 0] 30)).alloc (.cells #[.int .i64 0, .int .i64 0, .int .i64 0, .int .i64 n] 30) := ⟨_, rfl⟩
  have hs1 : Same w w1 := hw1 ▸ ((Same.refl w).alloc _).alloc _
  have hb1 : Blk w1 (w.heap.size + 1) 30 (snC ⟨0, 0, 0, n⟩) := by
    have h := Blk.new (w.alloc (.cells #[.int .i64 0, .int .i64 0, .int .i64 0, .int .i64 0] 30)) 30 (snC ⟨0, 0, 0, n⟩)
    rw [hw1]
    simpa [snC] using h
  have hb0 : Blk w1 w.heap.size 30 #[.int .i64 0, .int .i64 0, .int .i64 0, .int .i64 0] := hw1 ▸ (Blk.new w _ _).same ((Same.refl _).alloc _)
  have FA := Lib.hid (follow_any A m c p Wt cW ws w (w.heap.size + 1) hl hp hW hwl hok (by omega) hbc (n.toNat + 1) ⟨0, 0, 0, n⟩ Sp0 0 w1 (by simp only; omega) ⟨⟨by simp only; omega, by simp only; omega⟩, ⟨by simp only; omega, by simp only; omega⟩, ⟨by simp only; omega, by simp only; omega⟩, hn.1⟩ (good_start hF hnn hCl) (by omega) hs1 hb1)
  rw [(gV_start hF hnn hCl ws).1, (gV_start hF hnn hCl ws).2, ← zeros_eq] at FA
  have HS1 := Lib.hid hs1
  have HB0 := Lib.hid hb0
  have E1 := Lib.hid hw1
  clear hF hnn hCl hw1 hs1 hb1 hb0 hl hp hW hwl hok hn hbc
  go_enter Tryd.func11, Tryd.ntmps11
  go_wp2_with fail
  rw [← E1.out]
  clear E1
  refine FA.out.mono ?_
  rintro e w2 ⟨y, rfl, hby, hch, hty⟩
  have HT := Lib.hid hty
  have HS2 := Lib.hid (same_b HS1.out hch (by omega))
  have hb2 := HB0.out.chg hch (fun h => by omega)
  obtain ⟨y0, y1, y2, y3⟩ := (⟨hby.cell 0, hby.cell 1, hby.cell 2, hby.cell 3⟩ : _ ∧ _ ∧ _ ∧ _)
  unfold snC at y0 y1 y2 y3
  simp only [List.getElem?_toArray, List.getElem?_cons_zero, List.getElem?_cons_succ] at y0 y1 y2 y3
  obtain ⟨t0, t1, t2, t3⟩ := (⟨hb2.thaw 0, hb2.thaw 1, hb2.thaw 2, hb2.thaw 3⟩ : _ ∧ _ ∧ _ ∧ _)
  have hz := hb2.lt
  have HB2 := Lib.hid hb2
  generalize hq : w.heap.size = q at *
  have HQ := Lib.hid (show w.heap.size ≤ q by omega)
  clear hty hch hby hb2 FA HS1 HB0 hq
  have HIF := Lib.hid (show (Tryd.prog.info? 30).map (·.size) = some (snC y).size by kernel_rfl)
  have HON := Lib.hid (show (snC y).all (·.oneCell') = true by simp [snC, Value.oneCell'])
  have HOL := Lib.hid (show (#[Value.int .i64 0, .int .i64 0, .int .i64 0, .int .i64 0] : Array Value).size = (snC y).size by simp [snC])
  go_wp2_with (refine wpList_store_row rfl 30 (.tmp 6) (.tmp 18) rfl q (snC y) rfl rfl 30 _ HB2.out HIF.out HOL.out HON.out ?_)
  refine bodyPost_ret (v := .agg (snC y)) (results_cell_row Tryd.results11 _ _ q 30 (snC y) (0, 0) _ rfl (row_blk HB2.out) Tryd.underlying30 rfl HIF.out) rfl ?_
  exact all_mk (chg_setRow HS2.out (.inr HQ.out) _) HT.out
set_option maxRecDepth 100000 in
set_option maxHeartbeats 4000000 in
theorem tells_walk (A : Option Addr) (m c : Nat) (p : List Ins) (Wt : Option Addr) (wn cW : Nat) (ws : List Int) (w : World) (hl : p.length = m) (hp : Prg w A p) (hW : Row w Wt (ws.map (Value.int .i64))) (hwl : ws.length = wn) (hT : Is.Tabs w) :
    Calls Tryd.prog 3 #[.slice A m c, .slice Wt wn cW] w fun e w' => e = .returned (.bool true) ∧ Same w w' := by
  have HT := Lib.hid hT
  by_cases h1 : (200 : Int) < m ∨ (200 : Int) < wn
  · have AW := Lib.hid (Cs.awake12 w hT)
    clear hl hp hW hwl hT
    by_cases a1 : (200 : Int) < m
    · clear h1
      go_enter Tryd.func3, Tryd.ntmps3
      go_wp2_with fail
      refine AW.out.mono ?_
      rintro e w1 ⟨rfl, s1⟩
      go_wp2_with fail
      go_ret
      exact ⟨rfl, s1⟩
    · have a2 : (200 : Int) < wn := by omega
      clear h1
      go_enter Tryd.func3, Tryd.ntmps3
      go_wp2_with fail
      refine AW.out.mono ?_
      rintro e w1 ⟨rfl, s1⟩
      go_wp2_with fail
      go_ret
      exact ⟨rfl, s1⟩
  have a1 : ¬ (200 : Int) < m := fun h => h1 (.inl h)
  have a2 : ¬ (200 : Int) < wn := fun h => h1 (.inr h)
  clear h1
  have MO := Lib.hid (Cs.most_any A m c p Wt wn cW ws w hl (by omega) hp hW hwl hT)
  have LE := Lib.hid (fun W (s : Same w W) => Cs.least_any A m c p Wt wn cW ws W hl (by omega) (hp.same s) (hW.same s) hwl (hT.same s))
  have CK := Lib.hid (fun W (s : Same w W) => Fw.rcheck_any A m c p W hl (by omega) (hp.same s))
  have AW := Lib.hid (fun W (s : Same w W) => Cs.awake12 W (hT.same s))
  by_cases hbad : okB p = false ∨ ¬ wn = m
  · have he : ¬ weE p ws.length = 0 := bad_awake (by rw [hwl, hl]; exact hbad)
    have hi0 : weI true p ws = 0 := Cs.wei_bad he
    have hi1 : weI false p ws = 0 := Cs.wei_bad he
    rw [hi0] at MO
    rw [hi1] at LE
    by_cases hok : okB p = true
    · have hck : ckE p = 0 := of_decide_eq_true hok
      have hwm : ¬ wn = m := hbad.resolve_left (by rw [hok]; simp)
      have hwe : weE p ws.length = 1 := by unfold weE; rw [if_pos hck, if_neg (by rw [hwl, hl]; exact hwm)]
      rw [hwe] at MO LE
      rw [hck] at CK
      have hne : ((wn : Int) != (m : Int)) = true := by simp; omega
      have e0 : ((0 : Int) == 0) = true := rfl
      have e1 : ((1 : Int) != 0) = true := rfl
      have e2 : ((1 : Int) == 1) = true := rfl
      clear he hi0 hi1 hbad hl hp hW hwl hT hok hck hwm hwe
      generalize ckI p = ci at *
      go_enter Tryd.func3, Tryd.ntmps3
      go_wp2_with fail
      refine MO.out.mono ?_
      rintro e w1 ⟨rfl, s1⟩
      have HS1 := Lib.hid s1
      clear s1 MO
      go_wp2_with fail
      refine (LE.out _ HS1.out).mono ?_
      rintro e w2 ⟨rfl, s2⟩
      have HS2 := Lib.hid (HS1.out.trans s2)
      clear s2 LE HS1
      go_wp2_with fail
      refine (CK.out _ HS2.out).mono ?_
      rintro e w3 ⟨rfl, s3⟩
      have HS3 := Lib.hid (HS2.out.trans s3)
      clear s3 CK HS2
      go_wp2_with fail
      refine (AW.out _ HS3.out).mono ?_
      rintro e w4 ⟨rfl, s4⟩
      go_wp2_with fail
      go_ret
      exact ⟨rfl, HS3.out.trans s4⟩
    · have hck : ¬ ckE p = 0 := fun h => hok (by unfold okB; rw [h]; rfl)
      have hwe : weE p ws.length = ckE p := by unfold weE; rw [if_neg hck]
      rw [hwe] at MO LE
      have e0 : (ckE p == 0) = false := by simpa using hck
      have e1 : (ckE p != 0) = true := by simpa using hck
      have e2 : (ckE p == ckE p) = true := by simp
      clear he hi0 hi1 hbad hl hp hW hwl hT hok hck hwe
      generalize ckI p = ci at *
      generalize ckE p = ce at *
      go_enter Tryd.func3, Tryd.ntmps3
      go_wp2_with fail
      refine MO.out.mono ?_
      rintro e w1 ⟨rfl, s1⟩
      have HS1 := Lib.hid s1
      clear s1 MO
      go_wp2_with fail
      refine (LE.out _ HS1.out).mono ?_
      rintro e w2 ⟨rfl, s2⟩
      have HS2 := Lib.hid (HS1.out.trans s2)
      clear s2 LE HS1
      go_wp2_with fail
      refine (CK.out _ HS2.out).mono ?_
      rintro e w3 ⟨rfl, s3⟩
      have HS3 := Lib.hid (HS2.out.trans s3)
      clear s3 CK HS2
      go_wp2_with fail
      refine (AW.out _ HS3.out).mono ?_
      rintro e w4 ⟨rfl, s4⟩
      go_wp2_with fail
      go_ret
      exact ⟨rfl, HS3.out.trans s4⟩
  · have hok : okB p = true := by
      cases h : okB p
      · exact absurd (.inl h) hbad
      · rfl
    have hwm : wn = m := Classical.byContradiction fun h => hbad (.inr h)
    clear hbad
    subst hwm
    have hck : ckE p = 0 := of_decide_eq_true hok
    have he : weE p ws.length = 0 := by
      unfold weE
      rw [if_pos hck, hwl, hl, if_pos rfl]
    have hi0 : weI true p ws = weighW btG p ws := by unfold weI; rw [if_pos he]; rfl
    have hi1 : weI false p ws = weighW btL p ws := by unfold weI; rw [if_pos he]; rfl
    rw [hi0, he] at MO
    rw [hi1, he] at LE
    rw [hck] at CK
    have hF := okB_fine hok
    have hn := hp.nn
    have hbc : ∀ k, k < p.length → (at_ p k).op = 16 → 0 ≤ (at_ p k).c ∧ (at_ p k).c < 1099511627776 := fun k hk h16 => by
      have := Cs.back_c (hF.right k hk) h16
      omega
    have hCl : ∀ j, j < (loopsL p).length → 0 ≤ (at_ p (lp (loopsL p) j).2.toNat).c := fun j hj => by
      have h1 := Cs.lp_in hF hn hj
      exact (hbc _ (by omega) (Cs.lp_back hF hn hj)).1
    have AL := Lib.hid (fun W (s : Same w W) => all_any A wn c p Wt cW ws 30000 W hl (hp.same s) (hW.same s) hwl hok (by omega) hbc)
    have RM := Lib.hid (fun W (s : Same w W) => Cs.rmost_any A wn c p Wt cW ws W hl (hp.same s) (hW.same s) hwl hok)
    have hlo : 0 ≤ weighW btL p ws := by
      rw [weigh_V bt_lt hF hn hCl ws]
      exact (V_pos bt_lt hF hn ws (good_start hF hn hCl)).1
    have hle : weighW btL p ws ≤ weighW btG p ws := Cs.lf_weigh Cs.mono_lg
    have e0 : ((0 : Int) == 0) = true := rfl
    have enn : ((wn : Int) != (wn : Int)) = false := by simp
    clear hi0 hi1 he hF hn hbc hCl hl hp hW hwl hT hck hok
    unfold AllP at AL
    generalize weighW btG p ws = mx at *
    generalize weighW btL p ws = mn at *
    generalize ckI p = ci at *
    go_enter Tryd.func3, Tryd.ntmps3
    go_wp2_with fail
    refine MO.out.mono ?_
    rintro e w1 ⟨rfl, s1⟩
    have HS1 := Lib.hid s1
    clear s1 MO
    go_wp2_with fail
    refine (LE.out _ HS1.out).mono ?_
    rintro e w2 ⟨rfl, s2⟩
    have HS2 := Lib.hid (HS1.out.trans s2)
    clear s2 LE HS1
    go_wp2_with fail
    refine (CK.out _ HS2.out).mono ?_
    rintro e w3 ⟨rfl, s3⟩
    have HS3 := Lib.hid (HS2.out.trans s3)
    clear s3 CK HS2
    go_wp2_with fail
    refine (AL.out _ HS3.out).mono ?_
    rintro e w4 ⟨y, rfl, s4, hty⟩
    have HY := Lib.hid (show y.lf = 0 ∨ (y.mx = mx ∧ y.mn = mn) from hty.all.imp id fun h => ⟨h.2.1, h.2.2⟩)
    have HS4 := Lib.hid (HS3.out.trans s4)
    clear s4 hty AL HS3
    obtain ⟨w5, hw5⟩ : ∃ w5, w5 = w4.alloc (.cells #[.int .i64 y.cnt, .int .i64 y.mx, .int .i64 y.mn, .int .i64 y.lf] 30) := ⟨_, rfl⟩
    have hs5 : Same w4 w5 := hw5 ▸ (Same.refl w4).alloc _
    have hb5 : Blk w5 w4.heap.size 30 #[.int .i64 y.cnt, .int .i64 y.mx, .int .i64 y.mn, .int .i64 y.lf] := hw5 ▸ Blk.new w4 _ _
    have HB5 := Lib.hid hb5
    have HS5 := Lib.hid (HS4.out.trans hs5)
    have E5 := Lib.hid hw5
    clear hs5 hb5 hw5
    unfold snC
    go_wp2_with fail
    rw [← E5.out]
    clear E5
    refine (RM.out _ HS5.out).mono ?_
    rintro e w6 ⟨rfl, s6⟩
    have HS6 := Lib.hid (HS5.out.trans s6)
    obtain ⟨y1, y2, y3⟩ := (⟨(HB5.out.same s6).cell 1, (HB5.out.same s6).cell 2, (HB5.out.same s6).cell 3⟩ : _ ∧ _ ∧ _)
    simp only [List.getElem?_toArray, List.getElem?_cons_zero, List.getElem?_cons_succ] at y1 y2 y3
    clear s6 HB5 HS5 RM HS4
    have emx : (mx == mx) = true := by simp
    have emn : (mn == mn) = true := by simp
    generalize w4.heap.size = q at *
    by_cases hlf : y.lf = 0
    · have elf : (y.lf == 0) = true := by simpa using hlf
      clear hlf HY
      go_wp2_with fail
      refine (AW.out _ HS6.out).mono ?_
      rintro e w7 ⟨rfl, s7⟩
      go_wp2_with fail
      go_ret
      exact ⟨rfl, HS6.out.trans s7⟩
    · have elf : (y.lf == 0) = false := by simpa using hlf
      obtain ⟨h1, h2⟩ := HY.out.resolve_left hlf
      rw [h1] at y1
      rw [h2] at y2
      clear hlf HY h1 h2
      go_wp2_with fail
      refine (AW.out _ HS6.out).mono ?_
      rintro e w7 ⟨rfl, s7⟩
      go_wp2_with fail
      go_ret
      exact ⟨rfl, HS6.out.trans s7⟩
theorem tells_any (A : Option Addr) (m c : Nat) (rows : List (List Int)) (Wt : Option Addr) (wn cW : Nat) (ws : List Int) (w : World) (hr : Fl.Rows w A [.i64, .i64, .i64, .i64, .u32] rows) (hl : rows.length = m)
    (hW : Row w Wt (ws.map (Value.int .i64))) (hwl : ws.length = wn) (ht : Is.Tabs w) :
    Calls Tryd.prog 3 #[.slice A m c, .slice Wt wn cW] w fun e w' => e = .returned (.bool true) ∧ Same w w' := by
  obtain ⟨p, hp, hP⟩ := Fw.prg_in hr
  exact tells_walk A m c p Wt wn cW ws w (hp.trans hl) hP hW hwl ht
end Go.Proofs.YtiipdeionmndcaaDoor.Wk
