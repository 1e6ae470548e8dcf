/-

  PathsCounts returns true for every program: the walk.
-/
import Derived.Test.YtnlndkpjfgpodaaDoorPthWalk
import Derived.Test.YtnlndkpjfgpodaaDoorPthCount
import Derived.Test.YtnlndkpjfgpodaaDoorPthVisO
import Derived.Test.YtnlndkpjfgpodaaDoorRefWalk
import Derived.Test.YtnlndkpjfgpodaaDoorFlowMay
import Derived.Test.YtnlndkpjfgpodaaDoorFlowAwake
import Derived.Test.YtnlndkpjfgpodaaDoorFlat
import Derived.Test.YtnlndkpjfgpodaaDoorFlowChecks
import Derived.Test.YtnlndkpjfgpodaaDoorPthFollow
section
set_option linter.unusedVariables false
set_option linter.unusedSimpArgs false
namespace Go.Proofs.YtnlndkpjfgpodaaDoor.Pt
open Go.ChangeShapes Go.WideShapes Go.ChangeAt Go.RowKit Ws
open Go.Proofs.YtnlndkpjfgpodaaDoor.Fp (Ins at_ Fine at_some lp loopsL nextL hasB)
open Go.Proofs.YtnlndkpjfgpodaaDoor.Fw (Prg Spn spanCells spn_of okB okB_fine rightI)
open Go.Proofs.YtnlndkpjfgpodaaDoor.Wk (wk pcs pcs_len pcs_at NoD WalkP rwalk_any good_wk countI)

theorem walk_uniq {p : List Ins} {ch : List Bool} {M n1 n2 : Nat} {ok1 ok2 : Bool} (hy1 : ok1 = true → 1 ≤ n1 ∧ n1 ≤ M ∧ NoD p ch (n1 - 1) ∧ (at_ p (wk p ch (n1 - 1)).1.pc).op = 21) (hz1 : ok1 = false → n1 = M ∧ NoD p ch n1)
    (hy2 : ok2 = true → 1 ≤ n2 ∧ n2 ≤ M ∧ NoD p ch (n2 - 1) ∧ (at_ p (wk p ch (n2 - 1)).1.pc).op = 21) (hz2 : ok2 = false → n2 = M ∧ NoD p ch n2) : n1 = n2 ∧ ok1 = ok2 := by
  cases ok1 with
  | true =>
    obtain ⟨a1, a2, a3, a4⟩ := hy1 rfl
    cases ok2 with
    | true =>
      obtain ⟨b1, b2, b3, b4⟩ := hy2 rfl
      refine ⟨?_, rfl⟩
      rcases Nat.lt_trichotomy (n1 - 1) (n2 - 1) with h | h | h
      · exact absurd a4 (b3 _ h)
      · omega
      · exact absurd b4 (a3 _ h)
    | false =>
      obtain ⟨b1, b2⟩ := hz2 rfl
      exact absurd a4 (b2 _ (by omega))
  | false =>
    obtain ⟨a1, a2⟩ := hz1 rfl
    cases ok2 with
    | true =>
      obtain ⟨b1, b2, b3, b4⟩ := hy2 rfl
      exact absurd b4 (a2 _ (by omega))
    | false =>
      obtain ⟨b1, b2⟩ := hz2 rfl
      exact ⟨by omega, rfl⟩
theorem ints_same {f : FuncId} {l : Array Value} {w : World} {xs ys : List Int} (h : Calls Tryd.prog f l w fun e w' => e = .returned (.bool (decide (xs = ys))) ∧ ∃ k, w' = w.drewN k) (he : xs = ys) : Calls Tryd.prog f l w fun e w' => e = .returned (.bool true) ∧ ∃ k, w' = w.drewN k :=
  h.mono fun e w' h => ⟨by rw [h.1, decide_eq_true he], h.2⟩
/-! ### the chapter's example -/
def p11 : List Ins := [⟨0, 0, 0, 0, 0⟩, ⟨16, 0, 0, 3, 0⟩, ⟨21, 0, 0, 0, 0⟩]
theorem p11_ok : okB p11 = true := by decide +kernel
theorem p11_count : countI p11 = 1 := by decide +kernel
theorem p11_often : oftenI p11 0 = 4 := by decide +kernel
theorem p11_pcs : pcs p11 [] 9 = [0, 1, 0, 1, 0, 1, 0, 1, 2] := by decide +kernel
theorem p11_nod : NoD p11 [] 8 := by unfold NoD; decide +kernel
theorem p11_done : (at_ p11 (wk p11 [] 8).1.pc).op = 21 := by decide +kernel
set_option maxRecDepth 100000 in
theorem awake11 (w : World) (ht : Is.Tabs w) : Calls Tryd.prog 29 #[] w fun e w' => e = .returned (.bool true) ∧ Same w w' := by
  have hcl : (Fw.prgCells p11).toArray = #[.int .i64 0, .int .i64 0, .int .i64 0, .int .i64 0, .int .u32 0, .int .i64 16, .int .i64 0, .int .i64 0, .int .i64 3, .int .u32 0, .int .i64 21, .int .i64 0, .int .i64 0, .int .i64 0, .int .u32 0] := rfl
  have hr := row_new w (Fw.prgCells p11).toArray 67
  have HPR : Hid (Prg (w.alloc (.cells (Fw.prgCells p11).toArray 67)) (some ⟨w.heap.size, 0, none⟩) p11) := Lib.hid (Fw.prg_of (by simpa using hr) (by intro x hx; simp [p11] at hx; rcases hx with rfl | rfl | rfl <;> (unfold Ins.ok; simp)))
  have HS0 := Lib.hid ((Same.refl w).alloc (.cells (Fw.prgCells p11).toArray 67))
  have HT := Lib.hid ht
  clear hr ht
  rw [hcl] at HPR HS0
  clear hcl
  go_enter Tryd.func29, Tryd.ntmps29
  go_upto_region 2 with fail
  generalize w.alloc (.cells #[.int .i64 0, .int .i64 0, .int .i64 0, .int .i64 0, .int .u32 0, .int .i64 16, .int .i64 0, .int .i64 0, .int .i64 3, .int .u32 0, .int .i64 21, .int .i64 0, .int .i64 0, .int .i64 0, .int .u32 0] 67) = w0 at *
  generalize w.heap.size = q at *
  have WA := Lib.hid (walk_any (some ⟨q, 0, none⟩) 3 3 p11 none 0 0 [] 20 w0 rfl (by omega) HPR.out (Row.nil _ _) rfl ⟨Nat.le_refl _, Nat.zero_le _⟩ (by omega) (HT.out.same HS0.out))
  go_wp2_with fail
  refine WA.out.mono ?_
  rintro e w2 ⟨hbad, hgood⟩
  obtain ⟨LA, cL, n, ok, rfl, hr, s2, hy, hz⟩ := hgood p11_ok
  obtain ⟨rfl, rfl⟩ := walk_uniq (n2 := 9) (ok2 := true) hy hz (fun _ => ⟨by omega, by decide, p11_nod, p11_done⟩) (fun h => by cases h)
  rw [p11_pcs] at hr
  have HR := Lib.hid hr
  have S2 := Lib.hid (HS0.out.trans s2)
  have P2 := Lib.hid (HPR.out.same s2)
  clear hbad hgood hy hz hr s2 WA HPR HS0
  have s3 := (Same.refl w2).alloc (.cells #[.int .i64 0, .int .i64 1, .int .i64 0, .int .i64 1, .int .i64 0, .int .i64 1, .int .i64 0, .int .i64 1, .int .i64 2] 3)
  have IE := Lib.hid (ints_same (Fw.ints_eq LA (some ⟨w2.heap.size, 0, none⟩) 9 9 cL 9 [0, 1, 0, 1, 0, 1, 0, 1, 2] [0, 1, 0, 1, 0, 1, 0, 1, 2] _ rfl rfl (HR.out.same s3) (row_new w2 #[.int .i64 0, .int .i64 1, .int .i64 0, .int .i64 1, .int .i64 0, .int .i64 1, .int .i64 0, .int .i64 1, .int .i64 2] 3) (by omega) (by omega)) rfl)
  have S3 := Lib.hid (S2.out.trans s3)
  have P3 := Lib.hid (P2.out.same s3)
  clear s3 S2 P2 HR
  go_wp2_with fail
  refine IE.out.mono ?_
  rintro e w4 ⟨rfl, k4, rfl⟩
  have S4 := Lib.hid (S3.out.drewN k4)
  have P4 := Lib.hid (P3.out.same ((Same.refl _).drewN k4))
  clear IE S3 P3
  generalize World.drewN _ k4 = w5 at *
  have CN := count_any (some ⟨q, 0, none⟩) 3 3 p11 w5 rfl (by omega) P4.out (HT.out.same S4.out)
  rw [p11_ok, if_pos rfl, p11_count] at CN
  have HCN := Lib.hid CN
  clear CN
  go_wp2_with fail
  refine HCN.out.mono ?_
  rintro e w6 ⟨rfl, s6⟩
  have S6 := Lib.hid (S4.out.trans s6)
  have P6 := Lib.hid (P4.out.same s6)
  clear s6 HCN S4 P4
  have OF := often_any (some ⟨q, 0, none⟩) 3 3 p11 0 w6 rfl (by omega) P6.out (HT.out.same S6.out)
  rw [p11_often] at OF
  have HOF := Lib.hid OF
  clear OF
  go_wp2_with fail
  refine HOF.out.mono ?_
  rintro e w7 ⟨rfl, s7⟩
  have S7 := Lib.hid (S6.out.trans s7)
  clear s7 HOF
  go_wp2_with fail
  go_ret
  exact ⟨rfl, S7.out⟩
end Go.Proofs.YtnlndkpjfgpodaaDoor.Pt
end
section
set_option linter.unusedVariables false
set_option linter.unusedSimpArgs false
namespace Go.Proofs.YtnlndkpjfgpodaaDoor.Pt
open Go.ChangeShapes Go.WideShapes Go.ChangeAt Go.RowKit Ws
open Go.Proofs.YtnlndkpjfgpodaaDoor.Fp (Ins at_ Fine at_some lp loopsL nextL hasB)
open Go.Proofs.YtnlndkpjfgpodaaDoor.Fw (Prg Spn spanCells spn_of okB okB_fine rightI)
open Go.Proofs.YtnlndkpjfgpodaaDoor.Wk (wk pcs pcs_len pcs_at NoD countI Sn cnt_pos weigh_VC good_start)
open Go.Proofs.YtnlndkpjfgpodaaDoor.Cs (izr izr_list izr_make)
set_option maxRecDepth 100000 in
theorem rcheck_big (A : Option Addr) (m c : Nat) (w : World) (h : 64 < m) :
    Calls Tryd.prog 12 #[.slice A m c] w fun e w' => e = .returned (.tuple #[.int .i64 0, .int .i64 1]) ∧ Same w w' := by
  have b0 : decide ((m : Int) < 1) = false := by simp; omega
  have b1 : decide ((64 : Int) < (m : Int)) = true := by simp; omega
  clear h
  go_enter Tryd.func12, Tryd.ntmps12
  go_wp2_with fail
  go_ret2
  exact ⟨rfl, Same.refl _⟩
set_option maxRecDepth 100000 in
theorem rfine_big (A : Option Addr) (m c : Nat) (w : World) (h : 64 < m) :
    Calls Tryd.prog 15 #[.slice A m c] w fun e w' => e = .returned (.bool false) ∧ Same w w' := by
  have CK := Lib.hid (rcheck_big A m c w h)
  clear h
  go_enter Tryd.func15, Tryd.ntmps15
  go_wp2_with fail
  refine CK.out.mono ?_
  rintro e w1 ⟨rfl, s1⟩
  go_wp2_with fail
  go_ret
  exact ⟨rfl, s1⟩
set_option maxRecDepth 100000 in
set_option maxHeartbeats 4000000 in
theorem counts_walk (A : Option Addr) (m c : Nat) (p : List Ins) (w : World) (hl : p.length = m) (hp : Prg w A p) (hT : Is.Tabs w) :
    Calls Tryd.prog 8 #[.slice A m c] w fun e w' => e = .returned (.bool true) ∧ Same w w' := by
  have AW := Lib.hid (fun W (s : Same w W) => awake11 W (hT.same s))
  by_cases a1 : (200 : Int) < m
  · have FI := Lib.hid (rfine_big A m c w (by omega))
    clear hl hp hT
    go_enter Tryd.func8, Tryd.ntmps8
    go_wp2_with fail
    refine FI.out.mono ?_
    rintro e w1 ⟨rfl, s1⟩
    have HS1 := Lib.hid s1
    clear s1 FI
    go_wp2_with fail
    refine (AW.out _ HS1.out).mono ?_
    rintro e w2 ⟨rfl, s2⟩
    go_wp2_with fail
    go_ret
    exact ⟨rfl, HS1.out.trans s2⟩
  have FI := Lib.hid (Fw.rfine_any A m c p w hl (by omega) hp)
  cases hok : okB p with
  | false =>
    have CN := fun W (s : Same w W) => count_any A m c p W hl (by omega) (hp.same s) (hT.same s)
    simp only [hok, Bool.false_eq_true, if_false] at CN
    have HCN := Lib.hid CN
    clear CN hl hp hT
    go_enter Tryd.func8, Tryd.ntmps8
    go_wp2_with fail
    refine FI.out.mono ?_
    rintro e w1 ⟨rfl, s1⟩
    rw [hok]
    have HS1 := Lib.hid s1
    clear s1 FI hok
    go_wp2_with fail
    refine (HCN.out _ HS1.out).mono ?_
    rintro e w2 ⟨rfl, s2⟩
    have HS2 := Lib.hid (HS1.out.trans s2)
    clear s2 HCN HS1
    go_wp2_with fail
    refine (AW.out _ HS2.out).mono ?_
    rintro e w3 ⟨rfl, s3⟩
    go_wp2_with fail
    go_ret
    exact ⟨rfl, HS2.out.trans s3⟩
  | true =>
    have hF := okB_fine hok
    have hn := hp.nn
    have hbc : ∀ k, k < p.length → (at_ p k).op = 16 → 0 ≤ (at_ p k).c ∧ (at_ p k).c < 1099511627776 := fun k hk h16 => by
      have := back_c (hF.right k hk) h16
      omega
    have hCl : ∀ j, j < (loopsL p).length → 0 ≤ (at_ p (lp (loopsL p) j).2.toNat).c := fun j hj => (loop_at hok hn hj).2.2.2.1
    have hcb : 1 ≤ countI p ∧ countI p ≤ 1099511627776 := by
      rw [weigh_VC hF hn hCl]
      exact cnt_pos hF hn (good_start hF hn hCl)
    have CN := fun W (s : Same w W) => count_any A m c p W hl (by omega) (hp.same s) (hT.same s)
    simp only [hok, if_true] at CN
    have AL := Lib.hid (fun W Z (s : Same w W) (hZ : Row W Z ((List.replicate m (0 : Int)).map (Value.int .i64))) => Pq.all_any A m c p Z m (List.replicate m 0) 30000 W hl (hp.same s) hZ (List.length_replicate ..) hok (by omega) hbc)
    have HCN := Lib.hid CN
    have HCB := Lib.hid hcb
    clear CN hF hn hbc hCl hl hp hT hcb
    unfold Pq.AllP at AL
    generalize countI p = cn at *
    go_enter Tryd.func8, Tryd.ntmps8
    go_wp2_with fail
    refine FI.out.mono ?_
    rintro e w1 ⟨rfl, s1⟩
    rw [hok]
    have HS1 := Lib.hid s1
    clear s1 FI hok
    have hmk := izr_make m (by omega) w1
    have HO := Lib.hid (show Row (w1.alloc (.cells (izr m) 3)) (some ⟨w1.heap.size, 0, none⟩) ((List.replicate m (0 : Int)).map (Value.int .i64)) from by
      have := row_new w1 (izr m) 3
      rw [izr_list] at this
      exact this)
    have HS2 := Lib.hid (HS1.out.alloc (.cells (izr m) 3))
    have hm0 : (0 : Int) ≤ m := by omega
    clear HS1
    generalize w1.alloc (.cells (izr m) 3) = w2 at *
    generalize w1.heap.size = q at *
    go_wp2_with fail
    refine (AL.out _ _ HS2.out HO.out).mono ?_
    rintro e w4 ⟨y, rfl, s4, hty⟩
    have HY := Lib.hid (show y.lf = 0 ∨ min y.cnt 1099511627776 = min (0 + cn) 1099511627776 from hty.all)
    have HYC := Lib.hid (show 0 ≤ y.cnt ∧ y.cnt + y.lf ≤ 1000000 ∧ 0 ≤ y.lf from ⟨hty.ok.cnt.1, hty.ok.cnt.2, hty.ok.lf⟩)
    have HS4 := Lib.hid (HS2.out.trans s4)
    clear s4 hty AL HS2 HO hmk
    obtain ⟨w5, hw5⟩ : ∃ w5, w5 = w4.alloc (.cells #[.int .i64 y.cnt, .int .i64 y.mx, .int .i64 y.mn, .int .i64 y.lf] 30) := ⟨_, rfl⟩
    have hs5 : Same w4 w5 := hw5 ▸ (Same.refl w4).alloc _
    have hb5 : Blk w5 w4.heap.size 30 #[.int .i64 y.cnt, .int .i64 y.mx, .int .i64 y.mn, .int .i64 y.lf] := hw5 ▸ Blk.new w4 _ _
    have HB5 := Lib.hid hb5
    have HS5 := Lib.hid (HS4.out.trans hs5)
    have E5 := Lib.hid hw5
    clear hs5 hb5 hw5
    unfold Pq.snC
    go_wp2_with fail
    rw [← E5.out]
    clear E5
    refine (HCN.out _ HS5.out).mono ?_
    rintro e w6 ⟨rfl, s6⟩
    have HS6 := Lib.hid (HS5.out.trans s6)
    obtain ⟨y0, y3⟩ := (⟨(HB5.out.same s6).cell 0, (HB5.out.same s6).cell 3⟩ : _ ∧ _)
    simp only [List.getElem?_toArray, List.getElem?_cons_zero, List.getElem?_cons_succ] at y0 y3
    clear s6 HB5 HS5 HCN HS4
    generalize w4.heap.size = q5 at *
    have c1 : decide (1 ≤ cn) = true := decide_eq_true HCB.out.1
    have c2 : decide (cn ≤ 1099511627776) = true := decide_eq_true HCB.out.2
    by_cases hlf : y.lf = 0
    · have elf : (y.lf == 0) = true := by simpa using hlf
      clear hlf HY
      go_wp2_with fail
      refine (AW.out _ HS6.out).mono ?_
      rintro e w7 ⟨rfl, s7⟩
      go_wp2_with fail
      go_ret
      exact ⟨rfl, HS6.out.trans s7⟩
    · have elf : (y.lf == 0) = false := by simpa using hlf
      have h1 := HY.out.resolve_left hlf
      have h2 := HYC.out
      have h3 := HCB.out
      have ecn : (cn == y.cnt) = true := by simp; omega
      clear hlf HY h1 h2 h3
      go_wp2_with fail
      refine (AW.out _ HS6.out).mono ?_
      rintro e w7 ⟨rfl, s7⟩
      go_wp2_with fail
      go_ret
      exact ⟨rfl, HS6.out.trans s7⟩
theorem counts_any (A : Option Addr) (m c : Nat) (rows : List (List Int)) (w : World) (hr : Fl.Rows w A [.i64, .i64, .i64, .i64, .u32] rows) (hl : rows.length = m) (ht : Is.Tabs w) :
    Calls Tryd.prog 8 #[.slice A m c] w fun e w' => e = .returned (.bool true) ∧ Same w w' := by
  obtain ⟨p, hp, hP⟩ := Fw.prg_in hr
  exact counts_walk A m c p w (hp.trans hl) hP ht
end Go.Proofs.YtnlndkpjfgpodaaDoor.Pt
end
