/-

  Chapter 11's laws: the example, PathsWalks and PathsOften.
-/
import Derived.Test.YtnlndkpjfgpodaaDoorPthWalk
import Derived.Test.YtnlndkpjfgpodaaDoorPthCount
import Derived.Test.YtnlndkpjfgpodaaDoorPthVisO
import Derived.Test.YtnlndkpjfgpodaaDoorRefWalk
import Derived.Test.YtnlndkpjfgpodaaDoorFlowMay
import Derived.Test.YtnlndkpjfgpodaaDoorFlowAwake
set_option linter.unusedVariables false
set_option linter.unusedSimpArgs false
namespace Go.Proofs.YtnlndkpjfgpodaaDoor.Pt
open Go.ChangeShapes Go.WideShapes Go.ChangeAt Go.RowKit Ws
open Go.Proofs.YtnlndkpjfgpodaaDoor.Fp (Ins at_ Fine at_some lp loopsL nextL hasB)
open Go.Proofs.YtnlndkpjfgpodaaDoor.Fw (Prg Spn spanCells spn_of okB okB_fine rightI)
open Go.Proofs.YtnlndkpjfgpodaaDoor.Wk (wk pcs pcs_len pcs_at NoD WalkP rwalk_any good_wk countI)

theorem walk_uniq {p : List Ins} {ch : List Bool} {M n1 n2 : Nat} {ok1 ok2 : Bool} (hy1 : ok1 = true → 1 ≤ n1 ∧ n1 ≤ M ∧ NoD p ch (n1 - 1) ∧ (at_ p (wk p ch (n1 - 1)).1.pc).op = 21) (hz1 : ok1 = false → n1 = M ∧ NoD p ch n1)
    (hy2 : ok2 = true → 1 ≤ n2 ∧ n2 ≤ M ∧ NoD p ch (n2 - 1) ∧ (at_ p (wk p ch (n2 - 1)).1.pc).op = 21) (hz2 : ok2 = false → n2 = M ∧ NoD p ch n2) : n1 = n2 ∧ ok1 = ok2 := by
  cases ok1 with
  | true =>
    obtain ⟨a1, a2, a3, a4⟩ := hy1 rfl
    cases ok2 with
    | true =>
      obtain ⟨b1, b2, b3, b4⟩ := hy2 rfl
      refine ⟨?_, rfl⟩
      rcases Nat.lt_trichotomy (n1 - 1) (n2 - 1) with h | h | h
      · exact absurd a4 (b3 _ h)
      · omega
      · exact absurd b4 (a3 _ h)
    | false =>
      obtain ⟨b1, b2⟩ := hz2 rfl
      exact absurd a4 (b2 _ (by omega))
  | false =>
    obtain ⟨a1, a2⟩ := hz1 rfl
    cases ok2 with
    | true =>
      obtain ⟨b1, b2, b3, b4⟩ := hy2 rfl
      exact absurd b4 (a2 _ (by omega))
    | false =>
      obtain ⟨b1, b2⟩ := hz2 rfl
      exact ⟨by omega, rfl⟩
theorem ints_same {f : FuncId} {l : Array Value} {w : World} {xs ys : List Int} (h : Calls Tryd.prog f l w fun e w' => e = .returned (.bool (decide (xs = ys))) ∧ ∃ k, w' = w.drewN k) (he : xs = ys) : Calls Tryd.prog f l w fun e w' => e = .returned (.bool true) ∧ ∃ k, w' = w.drewN k :=
  h.mono fun e w' h => ⟨by rw [h.1, decide_eq_true he], h.2⟩
/-! ### the chapter's example -/
def p11 : List Ins := [⟨0, 0, 0, 0, 0⟩, ⟨16, 0, 0, 3, 0⟩, ⟨21, 0, 0, 0, 0⟩]
theorem p11_ok : okB p11 = true := by decide +kernel
theorem p11_count : countI p11 = 1 := by decide +kernel
theorem p11_often : oftenI p11 0 = 4 := by decide +kernel
theorem p11_pcs : pcs p11 [] 9 = [0, 1, 0, 1, 0, 1, 0, 1, 2] := by decide +kernel
theorem p11_nod : NoD p11 [] 8 := by unfold NoD; decide +kernel
theorem p11_done : (at_ p11 (wk p11 [] 8).1.pc).op = 21 := by decide +kernel
set_option maxRecDepth 100000 in
theorem awake11 (w : World) (ht : Is.Tabs w) : Calls Tryd.prog 29 #[] w fun e w' => e = .returned (.bool true) ∧ Same w w' := by
  have hcl : (Fw.prgCells p11).toArray = #[.int .i64 0, .int .i64 0, .int .i64 0, .int .i64 0, .int .u32 0, .int .i64 16, .int .i64 0, .int .i64 0, .int .i64 3, .int .u32 0, .int .i64 21, .int .i64 0, .int .i64 0, .int .i64 0, .int .u32 0] := rfl
  have hr := row_new w (Fw.prgCells p11).toArray 67
  have HPR : Hid (Prg (w.alloc (.cells (Fw.prgCells p11).toArray 67)) (some ⟨w.heap.size, 0, none⟩) p11) := Lib.hid (Fw.prg_of (by simpa using hr) (by intro x hx; simp [p11] at hx; rcases hx with rfl | rfl | rfl <;> (unfold Ins.ok; simp)))
  have HS0 := Lib.hid ((Same.refl w).alloc (.cells (Fw.prgCells p11).toArray 67))
  have HT := Lib.hid ht
  clear hr ht
  rw [hcl] at HPR HS0
  clear hcl
  go_enter Tryd.func29, Tryd.ntmps29
  go_upto_region 2 with fail
  generalize w.alloc (.cells #[.int .i64 0, .int .i64 0, .int .i64 0, .int .i64 0, .int .u32 0, .int .i64 16, .int .i64 0, .int .i64 0, .int .i64 3, .int .u32 0, .int .i64 21, .int .i64 0, .int .i64 0, .int .i64 0, .int .u32 0] 67) = w0 at *
  generalize w.heap.size = q at *
  have WA := Lib.hid (walk_any (some ⟨q, 0, none⟩) 3 3 p11 none 0 0 [] 20 w0 rfl (by omega) HPR.out (Row.nil _ _) rfl ⟨Nat.le_refl _, Nat.zero_le _⟩ (by omega) (HT.out.same HS0.out))
  go_wp2_with fail
  refine WA.out.mono ?_
  rintro e w2 ⟨hbad, hgood⟩
  obtain ⟨LA, cL, n, ok, rfl, hr, s2, hy, hz⟩ := hgood p11_ok
  obtain ⟨rfl, rfl⟩ := walk_uniq (n2 := 9) (ok2 := true) hy hz (fun _ => ⟨by omega, by decide, p11_nod, p11_done⟩) (fun h => by cases h)
  rw [p11_pcs] at hr
  have HR := Lib.hid hr
  have S2 := Lib.hid (HS0.out.trans s2)
  have P2 := Lib.hid (HPR.out.same s2)
  clear hbad hgood hy hz hr s2 WA HPR HS0
  have s3 := (Same.refl w2).alloc (.cells #[.int .i64 0, .int .i64 1, .int .i64 0, .int .i64 1, .int .i64 0, .int .i64 1, .int .i64 0, .int .i64 1, .int .i64 2] 3)
  have IE := Lib.hid (ints_same (Fw.ints_eq LA (some ⟨w2.heap.size, 0, none⟩) 9 9 cL 9 [0, 1, 0, 1, 0, 1, 0, 1, 2] [0, 1, 0, 1, 0, 1, 0, 1, 2] _ rfl rfl (HR.out.same s3) (row_new w2 #[.int .i64 0, .int .i64 1, .int .i64 0, .int .i64 1, .int .i64 0, .int .i64 1, .int .i64 0, .int .i64 1, .int .i64 2] 3) (by omega) (by omega)) rfl)
  have S3 := Lib.hid (S2.out.trans s3)
  have P3 := Lib.hid (P2.out.same s3)
  clear s3 S2 P2 HR
  go_wp2_with fail
  refine IE.out.mono ?_
  rintro e w4 ⟨rfl, k4, rfl⟩
  have S4 := Lib.hid (S3.out.drewN k4)
  have P4 := Lib.hid (P3.out.same ((Same.refl _).drewN k4))
  clear IE S3 P3
  generalize World.drewN _ k4 = w5 at *
  have CN := count_any (some ⟨q, 0, none⟩) 3 3 p11 w5 rfl (by omega) P4.out (HT.out.same S4.out)
  rw [p11_ok, if_pos rfl, p11_count] at CN
  have HCN := Lib.hid CN
  clear CN
  go_wp2_with fail
  refine HCN.out.mono ?_
  rintro e w6 ⟨rfl, s6⟩
  have S6 := Lib.hid (S4.out.trans s6)
  have P6 := Lib.hid (P4.out.same s6)
  clear s6 HCN S4 P4
  have OF := often_any (some ⟨q, 0, none⟩) 3 3 p11 0 w6 rfl (by omega) P6.out (HT.out.same S6.out)
  rw [p11_often] at OF
  have HOF := Lib.hid OF
  clear OF
  go_wp2_with fail
  refine HOF.out.mono ?_
  rintro e w7 ⟨rfl, s7⟩
  have S7 := Lib.hid (S6.out.trans s7)
  clear s7 HOF
  go_wp2_with fail
  go_ret
  exact ⟨rfl, S7.out⟩
end Go.Proofs.YtnlndkpjfgpodaaDoor.Pt
