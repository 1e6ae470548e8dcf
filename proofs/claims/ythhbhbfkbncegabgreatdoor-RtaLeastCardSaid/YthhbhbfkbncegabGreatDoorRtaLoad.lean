/-

 Package rta: load and Load of any system's task.
-/
import Derived.Test.YthhbhbfkbncegabGreatDoorRtaAbove
import Derived.Test.YthhbhbfkbncegabGreatDoorSplJobOf
import Derived.Test.YthhbhbfkbncegabGreatDoorRowInt
import Derived.Test.YthhbhbfkbncegabGreatDoorOperApp
section
set_option linter.unusedVariables false
set_option linter.unusedSimpArgs false
namespace Go.Proofs.YthhbhbfkbncegabGreatDoor.Rt
open Go.ChangeShapes Go.WideShapes Go.ChangeAt Go.RowKit Ws
open Im (PT PO PS TsAt OsAt SysAt tcells ocells)
open Go.Proofs.YthhbhbfkbncegabGreatDoor.Wd (ret_bool ret_int addv mulv ceilv)
open Sl (jobC jobR jobI rcells)
/-- what the closure of load stands on -/
structure LdAt (W : World) (s : PS) (i : Int) (costs : List Int) (A B C : Option Addr) (n c m d cl cc g7 g8 q5 q3 : Nat) (RA AA : Option Addr) (rc al ac : Nat) : Prop where
 b7 : Blk W g7 64 #[.int .i64 (jobC s i), .slice RA (jobR s i).length rc]
 r7 : Row W RA ((jobR s i).flatMap rcells)
 b8 : Blk W g8 26 #[.slice AA al ac]
 l8 : (aboveI s.ts i s.ts.length).length = al
 r8 : Row W AA ((aboveI s.ts i s.ts.length).map (Value.int .i64))
 b5 : Blk W q5 26 #[.slice C cl cc]
 l5 : costs.length = cl
 r5 : Row W C (costs.map (Value.int .i64))
 b3 : Blk W q3 25 #[.slice A n c, .slice B m d]
 hs : SysAt W A n B m s
theorem LdAt.same {W W' : World} {s : PS} {i : Int} {costs : List Int} {A B C : Option Addr} {n c m d cl cc g7 g8 q5 q3 : Nat} {RA AA : Option Addr} {rc al ac : Nat} (h : LdAt W s i costs A B C n c m d cl cc g7 g8 q5 q3 RA AA rc al ac) (hs : Same W W') : LdAt W' s i costs A B C n c m d cl cc g7 g8 q5 q3 RA AA rc al ac :=
 ⟨h.b7.same hs, h.r7.same hs, h.b8.same hs, h.l8, h.r8.same hs, h.b5.same hs, h.l5, h.r5.same hs, h.b3.same hs, h.hs.same hs⟩
theorem gI_nat (l : List Int) (k : Nat) : Sz.gI l k = l.getD k 0 := by
 unfold Sz.gI
 rw [if_pos (by omega), Int.toNat_natCast]
set_option maxRecDepth 100000 in
set_option maxHeartbeats 4000000 in
theorem load1_any (s : PS) (i : Int) (costs : List Int) (A B C : Option Addr) (n c m d cl cc g7 g8 q5 q3 : Nat) (RA AA : Option Addr) (rc al ac : Nat) (r : Int) (br : -9223372036854775808 ≤ r ∧ r ≤ 9223372036854775807) (hsl : ∀ o ∈ s.os, o.sl ≤ 9223372036854775807) (ho : Sy.OFew s.os 5000) (hn5 : n ≤ 5000) (w : World) (h : LdAt w s i costs A B C n c m d cl cc g7 g8 q5 q3 RA AA rc al ac) :
 Calls Tryz.prog 41 #[.int .i64 r, .pointer (some ⟨g7, 0, none⟩), .pointer (some ⟨g8, 0, none⟩), .pointer (some ⟨q5, 0, none⟩), .pointer (some ⟨q3, 0, none⟩)] w fun e w' => e = .returned (.int .i64 (loadI s i costs r)) ∧ Same w w' := by
 have HD := Lib.hid h
 have HJ := Lib.hid (Sl.job_is s i r)
 have ST := Lib.hid (Sl.steps_any (jobC s i) RA (jobR s i).length rc (jobR s i) r br (Sl.job_sl hsl) w rfl (Sl.job_len h.hs.hm ho) h.r7)
 have HL := Lib.hid (show loadL s costs r ((aboveI s.ts i s.ts.length).take al) (jobI s i r) = loadI s i costs r by
  rw [List.take_of_length_le (by rw [h.l8]; exact Nat.le_refl _), load_above]
  rfl)
 have HIN := Lib.hid (above_in (ts := s.ts) (y := i) s.ts.length (Nat.le_refl _))
 have hal : al ≤ 5000 := by
  have h1 := aboveI_len s.ts i s.ts.length
  rw [h.l8, h.hs.hn] at h1
  omega
 have hnn := h.hs.hn
 have HTA := Lib.hid (fun (j : Nat) (a : Int) (g : (aboveI s.ts i s.ts.length)[j]? = some a) => loadL_take (s := s) (costs := costs) (r := r) (x := jobI s i r) g)
 obtain ⟨j0, j1⟩ := (⟨h.b7.cell 0, h.b7.cell 1⟩ : _ ∧ _)
 have a0 := h.b8.cell 0
 simp only [Ws.q_] at j0 j1 a0
 clear h
 rw [HJ.out] at ST
 generalize jobC s i = jc at *
 generalize (jobR s i).length = jl at *
 go_enter Tryz.func41, Tryz.ntmps41
 go_wp2_with fail
 refine ST.out.mono ?_
 rintro e w1 ⟨rfl, s1⟩
 have HS1 := Lib.hid s1
 have a0 := s1.cell a0
 clear s1 ST j0 j1
 go_wp2_with fail
 go_loopg [17, 7] al (fun gk iv nv wx => ∃ j : Nat, j + gk = al ∧ iv = .int .i64 (j : Int) ∧ nv = .int .i64 (loadL s costs r ((aboveI s.ts i s.ts.length).take j) (jobI s i r)) ∧ Same w wx)
 case atStart => exact ⟨0, by omega, rfl, rfl, HS1.out⟩
 case round =>
  obtain ⟨j, hk, rfl, rfl, sx⟩ := hrel
  have HSX := Lib.hid sx
  clear a0
  cases gk with
  | zero =>
   obtain rfl : j = al := by omega
   have hge : ¬ (j : Int) < (j : Int) := by omega
   rw [HL.out]
   clear sx
   go_wp2_with fail
   go_ret
   exact ⟨rfl, HSX.out⟩
  | succ GK =>
   have hlt : (j : Int) < al := by omega
   have hj0 : (0 : Int) ≤ j := by omega
   have HKK := Lib.hid hk
   obtain ⟨a, ha⟩ : ∃ a, (aboveI s.ts i s.ts.length)[j]? = some a := ⟨(aboveI s.ts i s.ts.length)[j]'(by rw [HD.out.l8]; omega), List.getElem?_eq_getElem _⟩
   have hin := HIN.out a (List.mem_of_getElem? ha)
   obtain ⟨ka, rfl⟩ : ∃ ka : Nat, a = ka := ⟨a.toNat, by omega⟩
   obtain ⟨bY, oY, rfl, y0⟩ := (HD.out.r8.same sx) j (.int .i64 (ka : Int)) (by rw [List.getElem?_map, ha]; rfl)
   have HTJ := Lib.hid (HTA.out j ka ha)
   have RI := Lib.hid (fun W (h : Same w W) => Sz.rowi_any C cl cc costs ka W HD.out.l5 (HD.out.r5.same h))
   rw [gI_nat] at RI
   obtain ⟨p, hp⟩ : ∃ p, s.ts[ka]? = some p := ⟨s.ts[ka]'(by omega), List.getElem?_eq_getElem _⟩
   have HPT := Lib.hid (show (Ah.pt s.ts ka).per = p.per by unfold Ah.pt; rw [List.getD_eq_getElem?_getD, hp]; rfl)
   have WC := Lib.hid (fun W => Wd.wceil r p.per br W)
   have d5 := (HD.out.b5.same sx).cell 0
   simp only [List.getElem?_toArray, List.getElem?_cons_zero] at d5
   have hka : (ka : Int) < n := by omega
   have hka0 : (0 : Int) ≤ ka := by omega
   have HTS := Lib.hid (fun W (h : Same w W) => (HD.out.hs.ht.same h).at_ hp)
   rw [Int.toNat_natCast] at HTJ
   rw [HPT.out] at HTJ
   clear hk ha hin hp HIN sx
   generalize loadL s costs r ((aboveI s.ts i s.ts.length).take j) (jobI s i r) = v at *
   generalize costs.getD ka 0 = cv at *
   go_wp2_with fail
   refine (RI.out _ HSX.out).mono ?_
   rintro e w2 ⟨⟨b, rfl⟩, s2⟩
   have HS2 := Lib.hid (HSX.out.trans s2)
   obtain ⟨bA, oA, rfl, X, cX, _, _, t2, _⟩ := HTS.out _ HS2.out
   have d3 := (HD.out.b3.same HS2.out).cell 0
   simp only [List.getElem?_toArray, List.getElem?_cons_zero] at d3
   clear s2 RI y0 d5 HTS
   go_wp2_with fail
   refine (WC.out _).mono ?_
   rintro e w3 ⟨rfl, rfl⟩
   go_wp2_with fail
   refine (Wd.wmul _ _ _).mono ?_
   rintro e w4 ⟨rfl, rfl⟩
   go_wp2_with fail
   refine (Wd.wadd _ _ _).mono ?_
   rintro e w5 ⟨rfl, rfl⟩
   go_wp2_with fail
   go_roundg GK
   case rel => exact ⟨j + 1, by have := HKK.out; omega, by go_num, by rw [HTJ.out], HS2.out⟩
   case measure => omega
end Go.Proofs.YthhbhbfkbncegabGreatDoor.Rt
end
section
set_option linter.unusedVariables false
set_option linter.unusedSimpArgs false
namespace Go.Proofs.YthhbhbfkbncegabGreatDoor.Rt
open Go.ChangeShapes Go.WideShapes Go.ChangeAt Go.RowKit Ws
open Im (PT PO PS TsAt OsAt SysAt tcells ocells)
open Go.Proofs.YthhbhbfkbncegabGreatDoor.Wd (ret_bool ret_int addv mulv ceilv)
open Sl (jobC jobR jobI rcells)
theorem three_on {P : Program} {l : List Oper} {Q : Exit → Act → World → Prop} {md : Region.Mode} {S : World → Prop} {i j k : Nat} {oi oj ok : Oper} {ri rj rk : List Oper} {fuel : Nat} {listed : Array Bool} {a : Act} {w : World} (hi : l.drop i = oi :: ri) (hj : l.drop j = oj :: rj) (hk : l.drop k = ok :: rk)
 (hr : Region.ready md l.toArray listed = [i, j, k]) (hwi : Region.wanted oi (yielded l.toArray a.tmps) = true) (hwj : Region.wanted oj (yielded l.toArray a.tmps) = true) (hwk : Region.wanted ok (yielded l.toArray a.tmps) = true)
 (h1 : ∀ K' : Act → World → Prop, Shut (∀ a w, S w → (S w → wpAnyH P md l.toArray Q S fuel (listed.setIfInBounds i true) a w) → K' a w) → Oper.wp P oi a w K' Q)
 (h2 : ∀ K' : Act → World → Prop, Shut (∀ a w, S w → (S w → wpAnyH P md l.toArray Q S fuel (listed.setIfInBounds j true) a w) → K' a w) → Oper.wp P oj a w K' Q)
 (h3 : ∀ K' : Act → World → Prop, Shut (∀ a w, S w → (S w → wpAnyH P md l.toArray Q S fuel (listed.setIfInBounds k true) a w) → K' a w) → Oper.wp P ok a w K' Q) : wpAnyH P md l.toArray Q S (fuel + 1) listed a w :=
 wpAnyH_ready hr (by simp) (AllReadyH.cons (Ro.at_drop hi) (fun K' hK => by rw [if_pos hwi]; exact h1 K' hK) (AllReadyH.cons (Ro.at_drop hj) (fun K' hK => by rw [if_pos hwj]; exact h2 K' hK) (AllReadyH.cons (Ro.at_drop hk) (fun K' hK => by rw [if_pos hwk]; exact h3 K' hK) AllReadyH.nil)))
theorem row_chg {w w' : World} {g : Nat} {A : Option Addr} {l : List Value} (h : Row w A l) (hc : Chg (fun i => i = g) w w') (hne : ∀ b o, A = some ⟨b, o, none⟩ → l ≠ [] → ¬ b = g) : Row w' A l := by
 intro j u hj
 obtain ⟨b, o, hA, hcell⟩ := h j u hj
 exact ⟨b, o, hA, hc.cell hcell (hne b o hA (fun e => by subst e; cases hj))⟩
theorem row6_ne {w : World} {g : Nat} {T : TypeId} {cs : Array Value} {A : Option Addr} {l : List Sl.SR} (h : Row w A (l.flatMap rcells)) (hb : Blk w g T cs) (hs : cs.size ≤ 2) (b o : Nat) (hA : A = some ⟨b, o, none⟩) (hne : l.flatMap rcells ≠ []) : ¬ b = g := by
 rintro rfl
 cases l with
 | nil => exact hne rfl
 | cons x l =>
  obtain ⟨b', o', hA', hcell⟩ := h 5 (.int .i64 x.pr) rfl
  rw [hA] at hA'
  injection hA' with hA'
  injection hA' with e1 e2
  subst e1 e2
  have h2 := hb.cell (o + 5)
  rw [h2, Array.getElem?_eq_none (by omega)] at hcell
  cases hcell
def LoadP (w : World) (s : PS) (i : Int) (costs : List Int) (A B C : Option Addr) (n c m d cl cc : Nat) (e : Ending) (w' : World) : Prop := ∃ g7 g8 q5 q3 RA AA rc al ac, e = .returned (.func (.func 41) #[] #[.pointer (some ⟨g7, 0, none⟩), .pointer (some ⟨g8, 0, none⟩), .pointer (some ⟨q5, 0, none⟩), .pointer (some ⟨q3, 0, none⟩)]) ∧ LdAt w' s i costs A B C n c m d cl cc g7 g8 q5 q3 RA AA rc al ac ∧ Same w w'
theorem loadP_mk {w w' : World} {s : PS} {i : Int} {costs : List Int} {A B C : Option Addr} {n c m d cl cc g7 g8 q5 q3 : Nat} {RA AA : Option Addr} {rc al ac : Nat} (h : LdAt w' s i costs A B C n c m d cl cc g7 g8 q5 q3 RA AA rc al ac) (hs : Same w w') : LoadP w s i costs A B C n c m d cl cc (.returned (.func (.func 41) #[] #[.pointer (some ⟨g7, 0, none⟩), .pointer (some ⟨g8, 0, none⟩), .pointer (some ⟨q5, 0, none⟩), .pointer (some ⟨q3, 0, none⟩)])) w' := ⟨_, _, _, _, _, _, _, _, _, rfl, h, hs⟩
set_option maxRecDepth 100000 in
set_option maxHeartbeats 8000000 in
theorem load_any (A B C : Option Addr) (n c m d cl cc : Nat) (s : PS) (i : Int) (costs : List Int) (w : World) (hs : SysAt w A n B m s) (hnm : n ≤ 1000 ∧ m ≤ maxLen) (hf : ∀ p ∈ s.ts, p.code.length ≤ 200) (ho : Sy.OFew s.os 5000) (hT : Is.Tabs w) (hcl : costs.length = cl) (hr : Row w C (costs.map (Value.int .i64))) :
 Calls Tryz.prog 27 #[.agg #[.slice A n c, .slice B m d], .int .i64 i, .slice C cl cc] w (LoadP w s i costs A B C n c m d cl cc) := by
 have hnm' : n ≤ maxLen ∧ m ≤ maxLen := ⟨by unfold maxLen; omega, hnm.2⟩
 obtain ⟨w0, hw0⟩ : ∃ w0, w0 = w.alloc (.cells #[.slice A n c, .slice B m d] 25) := ⟨_, rfl⟩
 obtain ⟨q3, hq3⟩ : ∃ q3, q3 = w.heap.size := ⟨_, rfl⟩
 obtain ⟨q5, hq5⟩ : ∃ g, g = w0.heap.size := ⟨_, rfl⟩
 obtain ⟨w1, hw1⟩ : ∃ w1, w1 = w0.alloc (.cells #[.slice C cl cc] 26) := ⟨_, rfl⟩
 have s0 : Same w w0 := hw0 ▸ (Same.refl w).alloc _
 have s1 : Same w0 w1 := hw1 ▸ (Same.refl w0).alloc _
 have b3 : Blk w0 q3 25 #[.slice A n c, .slice B m d] := by rw [hw0, hq3]; exact Blk.new w _ _
 have b5 : Blk w1 q5 26 #[.slice C cl cc] := by rw [hw1, hq5]; exact Blk.new w0 _ _
 have HE0 := Lib.hid hw0
 have HE1 := Lib.hid hw1
 have HQ3 := Lib.hid hq3
 have HQ5 := Lib.hid (show q3 + 1 = q5 by rw [hq5, hw0, hq3]; show _ = (w.heap.push _).size; rw [Array.size_push])
 have S1 := Lib.hid (s0.trans s1)
 have HB3 := Lib.hid (b3.same s1)
 have HB5 := Lib.hid b5
 have HS := Lib.hid (hs.same (s0.trans s1))
 have HCL := Lib.hid hcl
 have HRC := Lib.hid (hr.same (s0.trans s1))
 have HIF := Lib.hid (show (Tryz.prog.info? 64).map (·.size) = some (#[.int .i64 0, .slice none 0 0] : Array Value).size by kernel_rfl)
 have JO := Lib.hid (fun W (h : Same w1 W) => Sl.jobof_any A B n c m d s i W (hs.same ((s0.trans s1).trans h)) hnm' hf ho (hT.same ((s0.trans s1).trans h)))
 have AB := Lib.hid (fun W (h : Same w1 W) => above_gen A n c s.ts i W hs.hn hnm.1 (hs.ht.same ((s0.trans s1).trans h)))
 clear hw0 hw1 hq3 hq5 s0 s1 b3 b5 hs hT hf ho hr hcl
 go_enter Tryz.func27, Tryz.ntmps27
 go_upto_region 1 with fail
 rw [← HQ3.out, HQ5.out, ← HE0.out, ← HE1.out]
 clear HE0 HE1 HQ3 HQ5
 refine wp_region_held_drew (S := fun w' => Same w1 w') (by kernel_rfl) ?_ (fun hHeld => ?_)
 ·exact (Same.refl w1).drew
 refine Ro.tn 0 ?_ ?_ ?_
 rotate_left
 ·intro wS hSw; (try dsimp only at hSw); obtain ⟨v0, v1⟩ := (⟨(HB3.out.same hSw).cell 0, (HB3.out.same hSw).cell 1⟩ : _ ∧ _); simp only [Ws.q_] at v0 v1; go_simp; try with_reducible rfl
 try simp only [Ro.p]
 refine Ro.tn 1 ?_ ?_ ?_
 rotate_left
 ·intro wS hSw; (try dsimp only at hSw); go_simp; try with_reducible rfl
 try simp only [Ro.p]
 refine Ro.tn 3 ?_ ?_ ?_
 rotate_left
 ·intro wS hSw; (try dsimp only at hSw); go_simp; try with_reducible rfl
 try simp only [Ro.p]
 refine Ro.tn 4 ?_ ?_ ?_
 rotate_left
 ·intro wS hSw; (try dsimp only at hSw); obtain ⟨v0, v1⟩ := (⟨(HB3.out.same hSw).cell 0, (HB3.out.same hSw).cell 1⟩ : _ ∧ _); simp only [Ws.q_] at v0 v1; go_simp; try with_reducible rfl
 try simp only [Ro.p]
 refine Ro.tn 5 ?_ ?_ ?_
 rotate_left
 ·intro wS hSw; (try dsimp only at hSw); go_simp; try with_reducible rfl
 try simp only [Ro.p]
 obtain ⟨wd, hwd⟩ : ∃ x, x = w1.drew := ⟨_, rfl⟩
 rw [← hwd] at hHeld
 rw [← hwd]
 clear hwd
 refine three_on (i := 2) (j := 7) (k := 8) rfl rfl rfl (by kernel_rfl) (by rfl) (by rfl) (by rfl) ?g1_2 ?g1_7 ?g1_8
 case' g1_2 =>
  intro K hK
  go_simp
  go_at_call 28
  refine (JO.out _ hHeld).mono ?_
  rintro e y2 ⟨RA, rc, rfl, hj, hs⟩
  have RJ := Lib.hid hj
  refine hK.out _ _ ?_ (fun hNew => ?_)
  ·exact hHeld.trans hs
  clear hj hs
  clear hK K hHeld; have hHeld := hNew; clear hNew
  try simp only [Ro.p]
  refine three_on (i := 6) (j := 7) (k := 8) rfl rfl rfl (by kernel_rfl) (by rfl) (by rfl) (by rfl) ?g3_6 ?g3_7 ?g3_8
  case' g3_6 =>
   intro K hK
   go_simp
   go_at_call 40
   refine (AB.out _ hHeld).mono ?_
   rintro e y4 ⟨AA, ac, rfl, ha, hs, hf⟩
   have RJ := Lib.hid (RJ.out.same hs)
   have RA_ := Lib.hid ha
   have HL6 := Lib.hid (fun b o e => (hf b o e).2)
   refine hK.out _ _ ?_ (fun hNew => ?_)
   ·exact hHeld.trans hs
   clear ha hs hf
   clear hK K hHeld; have hHeld := hNew; clear hNew
   try simp only [Ro.p]
   refine Ra.two_on (i := 7) (j := 8) rfl rfl (by kernel_rfl) (by rfl) (by rfl) ?g5_7 ?g5_8
   case' g5_7 =>
    intro K hK
    go_simp
    obtain ⟨y6, hn⟩ : ∃ x, x = y4.alloc (.cells #[.int .i64 0, .slice none 0 0] 64) := ⟨_, rfl⟩
    obtain ⟨g7, hg⟩ : ∃ g, g = y4.heap.size := ⟨_, rfl⟩
    have hs : Same y4 y6 := by rw [hn]; exact (Same.refl _).alloc _
    have hge : w1.heap.size ≤ g7 := by rw [hg]; exact hHeld.size
    have F7 := Lib.hid (fun b o e => by have := HL6.out b o e; omega : ∀ b o, AA = some ⟨b, o, none⟩ → ¬ b = g7)
    have RJ := Lib.hid (RJ.out.same hs)
    have RA_ := Lib.hid (RA_.out.same hs)
    have HL6 := Lib.hid (fun b o e => Nat.lt_of_lt_of_le (HL6.out b o e) hs.size)
    have B7 := Lib.hid (show Blk y6 g7 64 #[.int .i64 0, .slice none 0 0] by rw [hn, hg]; exact Blk.new _ _ _)
    have Hg7 := Lib.hid hge
    rw [← hn, ← hg]
    refine hK.out _ _ ?_ (fun hNew => ?_)
    ·exact hHeld.trans hs
    clear hn hg hs hge
    clear hK K hHeld; have hHeld := hNew; clear hNew
    try simp only [Ro.p]
    refine Ro.one_on (i := 8) rfl (by kernel_rfl) (by rfl) (fun K hK => ?_)
    go_simp
    obtain ⟨wz, hn⟩ : ∃ x, x = y6.alloc (.cells #[.slice none 0 0] 26) := ⟨_, rfl⟩
    obtain ⟨g8, hg⟩ : ∃ g, g = y6.heap.size := ⟨_, rfl⟩
    have hs : Same y6 wz := by rw [hn]; exact (Same.refl _).alloc _
    have hge : w1.heap.size ≤ g8 := by rw [hg]; exact hHeld.size
    have F8 := Lib.hid (fun b o e => by have := HL6.out b o e; omega : ∀ b o, AA = some ⟨b, o, none⟩ → ¬ b = g8)
    have B7 := Lib.hid (B7.out.same hs)
    have RJ := Lib.hid (RJ.out.same hs)
    have RA_ := Lib.hid (RA_.out.same hs)
    have HL6 := Lib.hid (fun b o e => Nat.lt_of_lt_of_le (HL6.out b o e) hs.size)
    have B8 := Lib.hid (show Blk wz g8 26 #[.slice none 0 0] by rw [hn, hg]; exact Blk.new _ _ _)
    have Hg8 := Lib.hid hge
    rw [← hn, ← hg]
    refine hK.out _ _ ?_ (fun hNew => ?_)
    ·exact hHeld.trans hs
    clear hn hg hs hge
    clear hK K hHeld; have hHeld := hNew; clear hNew
    try simp only [Ro.p]
   case' g5_8 =>
    intro K hK
    go_simp
    obtain ⟨y8, hn⟩ : ∃ x, x = y4.alloc (.cells #[.slice none 0 0] 26) := ⟨_, rfl⟩
    obtain ⟨g8, hg⟩ : ∃ g, g = y4.heap.size := ⟨_, rfl⟩
    have hs : Same y4 y8 := by rw [hn]; exact (Same.refl _).alloc _
    have hge : w1.heap.size ≤ g8 := by rw [hg]; exact hHeld.size
    have F8 := Lib.hid (fun b o e => by have := HL6.out b o e; omega : ∀ b o, AA = some ⟨b, o, none⟩ → ¬ b = g8)
    have RJ := Lib.hid (RJ.out.same hs)
    have RA_ := Lib.hid (RA_.out.same hs)
    have HL6 := Lib.hid (fun b o e => Nat.lt_of_lt_of_le (HL6.out b o e) hs.size)
    have B8 := Lib.hid (show Blk y8 g8 26 #[.slice none 0 0] by rw [hn, hg]; exact Blk.new _ _ _)
    have Hg8 := Lib.hid hge
    rw [← hn, ← hg]
    refine hK.out _ _ ?_ (fun hNew => ?_)
    ·exact hHeld.trans hs
    clear hn hg hs hge
    clear hK K hHeld; have hHeld := hNew; clear hNew
    try simp only [Ro.p]
    refine Ro.one_on (i := 7) rfl (by kernel_rfl) (by rfl) (fun K hK => ?_)
    go_simp
    obtain ⟨wz, hn⟩ : ∃ x, x = y8.alloc (.cells #[.int .i64 0, .slice none 0 0] 64) := ⟨_, rfl⟩
    obtain ⟨g7, hg⟩ : ∃ g, g = y8.heap.size := ⟨_, rfl⟩
    have hs : Same y8 wz := by rw [hn]; exact (Same.refl _).alloc _
    have hge : w1.heap.size ≤ g7 := by rw [hg]; exact hHeld.size
    have F7 := Lib.hid (fun b o e => by have := HL6.out b o e; omega : ∀ b o, AA = some ⟨b, o, none⟩ → ¬ b = g7)
    have B8 := Lib.hid (B8.out.same hs)
    have RJ := Lib.hid (RJ.out.same hs)
    have RA_ := Lib.hid (RA_.out.same hs)
    have HL6 := Lib.hid (fun b o e => Nat.lt_of_lt_of_le (HL6.out b o e) hs.size)
    have B7 := Lib.hid (show Blk wz g7 64 #[.int .i64 0, .slice none 0 0] by rw [hn, hg]; exact Blk.new _ _ _)
    have Hg7 := Lib.hid hge
    rw [← hn, ← hg]
    refine hK.out _ _ ?_ (fun hNew => ?_)
    ·exact hHeld.trans hs
    clear hn hg hs hge
    clear hK K hHeld; have hHeld := hNew; clear hNew
    try simp only [Ro.p]
  case' g3_7 =>
   intro K hK
   go_simp
   obtain ⟨y10, hn⟩ : ∃ x, x = y2.alloc (.cells #[.int .i64 0, .slice none 0 0] 64) := ⟨_, rfl⟩
   obtain ⟨g7, hg⟩ : ∃ g, g = y2.heap.size := ⟨_, rfl⟩
   have hs : Same y2 y10 := by rw [hn]; exact (Same.refl _).alloc _
   have hge : w1.heap.size ≤ g7 := by rw [hg]; exact hHeld.size
   have RJ := Lib.hid (RJ.out.same hs)
   have B7 := Lib.hid (show Blk y10 g7 64 #[.int .i64 0, .slice none 0 0] by rw [hn, hg]; exact Blk.new _ _ _)
   have Hg7 := Lib.hid hge
   rw [← hn, ← hg]
   refine hK.out _ _ ?_ (fun hNew => ?_)
   ·exact hHeld.trans hs
   clear hn hg hs hge
   clear hK K hHeld; have hHeld := hNew; clear hNew
   try simp only [Ro.p]
   refine Ra.two_on (i := 6) (j := 8) rfl rfl (by kernel_rfl) (by rfl) (by rfl) ?g11_6 ?g11_8
   case' g11_6 =>
    intro K hK
    go_simp
    go_at_call 40
    refine (AB.out _ hHeld).mono ?_
    rintro e y12 ⟨AA, ac, rfl, ha, hs, hf⟩
    have F7 := Lib.hid (fun b o e => by have := (hf b o e).1; have := B7.out.lt; omega : ∀ b o, AA = some ⟨b, o, none⟩ → ¬ b = g7)
    have B7 := Lib.hid (B7.out.same hs)
    have RJ := Lib.hid (RJ.out.same hs)
    have RA_ := Lib.hid ha
    have HL6 := Lib.hid (fun b o e => (hf b o e).2)
    refine hK.out _ _ ?_ (fun hNew => ?_)
    ·exact hHeld.trans hs
    clear ha hs hf
    clear hK K hHeld; have hHeld := hNew; clear hNew
    try simp only [Ro.p]
    refine Ro.one_on (i := 8) rfl (by kernel_rfl) (by rfl) (fun K hK => ?_)
    go_simp
    obtain ⟨wz, hn⟩ : ∃ x, x = y12.alloc (.cells #[.slice none 0 0] 26) := ⟨_, rfl⟩
    obtain ⟨g8, hg⟩ : ∃ g, g = y12.heap.size := ⟨_, rfl⟩
    have hs : Same y12 wz := by rw [hn]; exact (Same.refl _).alloc _
    have hge : w1.heap.size ≤ g8 := by rw [hg]; exact hHeld.size
    have F8 := Lib.hid (fun b o e => by have := HL6.out b o e; omega : ∀ b o, AA = some ⟨b, o, none⟩ → ¬ b = g8)
    have B7 := Lib.hid (B7.out.same hs)
    have RJ := Lib.hid (RJ.out.same hs)
    have RA_ := Lib.hid (RA_.out.same hs)
    have HL6 := Lib.hid (fun b o e => Nat.lt_of_lt_of_le (HL6.out b o e) hs.size)
    have B8 := Lib.hid (show Blk wz g8 26 #[.slice none 0 0] by rw [hn, hg]; exact Blk.new _ _ _)
    have Hg8 := Lib.hid hge
    rw [← hn, ← hg]
    refine hK.out _ _ ?_ (fun hNew => ?_)
    ·exact hHeld.trans hs
    clear hn hg hs hge
    clear hK K hHeld; have hHeld := hNew; clear hNew
    try simp only [Ro.p]
   case' g11_8 =>
    intro K hK
    go_simp
    obtain ⟨y14, hn⟩ : ∃ x, x = y10.alloc (.cells #[.slice none 0 0] 26) := ⟨_, rfl⟩
    obtain ⟨g8, hg⟩ : ∃ g, g = y10.heap.size := ⟨_, rfl⟩
    have hs : Same y10 y14 := by rw [hn]; exact (Same.refl _).alloc _
    have hge : w1.heap.size ≤ g8 := by rw [hg]; exact hHeld.size
    have B7 := Lib.hid (B7.out.same hs)
    have RJ := Lib.hid (RJ.out.same hs)
    have B8 := Lib.hid (show Blk y14 g8 26 #[.slice none 0 0] by rw [hn, hg]; exact Blk.new _ _ _)
    have Hg8 := Lib.hid hge
    rw [← hn, ← hg]
    refine hK.out _ _ ?_ (fun hNew => ?_)
    ·exact hHeld.trans hs
    clear hn hg hs hge
    clear hK K hHeld; have hHeld := hNew; clear hNew
    try simp only [Ro.p]
    refine Ro.one_on (i := 6) rfl (by kernel_rfl) (by rfl) (fun K hK => ?_)
    go_simp
    go_at_call 40
    refine (AB.out _ hHeld).mono ?_
    rintro e wz ⟨AA, ac, rfl, ha, hs, hf⟩
    have F7 := Lib.hid (fun b o e => by have := (hf b o e).1; have := B7.out.lt; omega : ∀ b o, AA = some ⟨b, o, none⟩ → ¬ b = g7)
    have F8 := Lib.hid (fun b o e => by have := (hf b o e).1; have := B8.out.lt; omega : ∀ b o, AA = some ⟨b, o, none⟩ → ¬ b = g8)
    have B7 := Lib.hid (B7.out.same hs)
    have B8 := Lib.hid (B8.out.same hs)
    have RJ := Lib.hid (RJ.out.same hs)
    have RA_ := Lib.hid ha
    have HL6 := Lib.hid (fun b o e => (hf b o e).2)
    refine hK.out _ _ ?_ (fun hNew => ?_)
    ·exact hHeld.trans hs
    clear ha hs hf
    clear hK K hHeld; have hHeld := hNew; clear hNew
    try simp only [Ro.p]
  case' g3_8 =>
   intro K hK
   go_simp
   obtain ⟨y16, hn⟩ : ∃ x, x = y2.alloc (.cells #[.slice none 0 0] 26) := ⟨_, rfl⟩
   obtain ⟨g8, hg⟩ : ∃ g, g = y2.heap.size := ⟨_, rfl⟩
   have hs : Same y2 y16 := by rw [hn]; exact (Same.refl _).alloc _
   have hge : w1.heap.size ≤ g8 := by rw [hg]; exact hHeld.size
   have RJ := Lib.hid (RJ.out.same hs)
   have B8 := Lib.hid (show Blk y16 g8 26 #[.slice none 0 0] by rw [hn, hg]; exact Blk.new _ _ _)
   have Hg8 := Lib.hid hge
   rw [← hn, ← hg]
   refine hK.out _ _ ?_ (fun hNew => ?_)
   ·exact hHeld.trans hs
   clear hn hg hs hge
   clear hK K hHeld; have hHeld := hNew; clear hNew
   try simp only [Ro.p]
   refine Ra.two_on (i := 6) (j := 7) rfl rfl (by kernel_rfl) (by rfl) (by rfl) ?g17_6 ?g17_7
   case' g17_6 =>
    intro K hK
    go_simp
    go_at_call 40
    refine (AB.out _ hHeld).mono ?_
    rintro e y18 ⟨AA, ac, rfl, ha, hs, hf⟩
    have F8 := Lib.hid (fun b o e => by have := (hf b o e).1; have := B8.out.lt; omega : ∀ b o, AA = some ⟨b, o, none⟩ → ¬ b = g8)
    have B8 := Lib.hid (B8.out.same hs)
    have RJ := Lib.hid (RJ.out.same hs)
    have RA_ := Lib.hid ha
    have HL6 := Lib.hid (fun b o e => (hf b o e).2)
    refine hK.out _ _ ?_ (fun hNew => ?_)
    ·exact hHeld.trans hs
    clear ha hs hf
    clear hK K hHeld; have hHeld := hNew; clear hNew
    try simp only [Ro.p]
    refine Ro.one_on (i := 7) rfl (by kernel_rfl) (by rfl) (fun K hK => ?_)
    go_simp
    obtain ⟨wz, hn⟩ : ∃ x, x = y18.alloc (.cells #[.int .i64 0, .slice none 0 0] 64) := ⟨_, rfl⟩
    obtain ⟨g7, hg⟩ : ∃ g, g = y18.heap.size := ⟨_, rfl⟩
    have hs : Same y18 wz := by rw [hn]; exact (Same.refl _).alloc _
    have hge : w1.heap.size ≤ g7 := by rw [hg]; exact hHeld.size
    have F7 := Lib.hid (fun b o e => by have := HL6.out b o e; omega : ∀ b o, AA = some ⟨b, o, none⟩ → ¬ b = g7)
    have B8 := Lib.hid (B8.out.same hs)
    have RJ := Lib.hid (RJ.out.same hs)
    have RA_ := Lib.hid (RA_.out.same hs)
    have HL6 := Lib.hid (fun b o e => Nat.lt_of_lt_of_le (HL6.out b o e) hs.size)
    have B7 := Lib.hid (show Blk wz g7 64 #[.int .i64 0, .slice none 0 0] by rw [hn, hg]; exact Blk.new _ _ _)
    have Hg7 := Lib.hid hge
    rw [← hn, ← hg]
    refine hK.out _ _ ?_ (fun hNew => ?_)
    ·exact hHeld.trans hs
    clear hn hg hs hge
    clear hK K hHeld; have hHeld := hNew; clear hNew
    try simp only [Ro.p]
   case' g17_7 =>
    intro K hK
    go_simp
    obtain ⟨y20, hn⟩ : ∃ x, x = y16.alloc (.cells #[.int .i64 0, .slice none 0 0] 64) := ⟨_, rfl⟩
    obtain ⟨g7, hg⟩ : ∃ g, g = y16.heap.size := ⟨_, rfl⟩
    have hs : Same y16 y20 := by rw [hn]; exact (Same.refl _).alloc _
    have hge : w1.heap.size ≤ g7 := by rw [hg]; exact hHeld.size
    have B8 := Lib.hid (B8.out.same hs)
    have RJ := Lib.hid (RJ.out.same hs)
    have B7 := Lib.hid (show Blk y20 g7 64 #[.int .i64 0, .slice none 0 0] by rw [hn, hg]; exact Blk.new _ _ _)
    have Hg7 := Lib.hid hge
    rw [← hn, ← hg]
    refine hK.out _ _ ?_ (fun hNew => ?_)
    ·exact hHeld.trans hs
    clear hn hg hs hge
    clear hK K hHeld; have hHeld := hNew; clear hNew
    try simp only [Ro.p]
    refine Ro.one_on (i := 6) rfl (by kernel_rfl) (by rfl) (fun K hK => ?_)
    go_simp
    go_at_call 40
    refine (AB.out _ hHeld).mono ?_
    rintro e wz ⟨AA, ac, rfl, ha, hs, hf⟩
    have F7 := Lib.hid (fun b o e => by have := (hf b o e).1; have := B7.out.lt; omega : ∀ b o, AA = some ⟨b, o, none⟩ → ¬ b = g7)
    have F8 := Lib.hid (fun b o e => by have := (hf b o e).1; have := B8.out.lt; omega : ∀ b o, AA = some ⟨b, o, none⟩ → ¬ b = g8)
    have B7 := Lib.hid (B7.out.same hs)
    have B8 := Lib.hid (B8.out.same hs)
    have RJ := Lib.hid (RJ.out.same hs)
    have RA_ := Lib.hid ha
    have HL6 := Lib.hid (fun b o e => (hf b o e).2)
    refine hK.out _ _ ?_ (fun hNew => ?_)
    ·exact hHeld.trans hs
    clear ha hs hf
    clear hK K hHeld; have hHeld := hNew; clear hNew
    try simp only [Ro.p]
 case' g1_7 =>
  intro K hK
  go_simp
  obtain ⟨y22, hn⟩ : ∃ x, x = wd.alloc (.cells #[.int .i64 0, .slice none 0 0] 64) := ⟨_, rfl⟩
  obtain ⟨g7, hg⟩ : ∃ g, g = wd.heap.size := ⟨_, rfl⟩
  have hs : Same wd y22 := by rw [hn]; exact (Same.refl _).alloc _
  have hge : w1.heap.size ≤ g7 := by rw [hg]; exact hHeld.size
  have B7 := Lib.hid (show Blk y22 g7 64 #[.int .i64 0, .slice none 0 0] by rw [hn, hg]; exact Blk.new _ _ _)
  have Hg7 := Lib.hid hge
  rw [← hn, ← hg]
  refine hK.out _ _ ?_ (fun hNew => ?_)
  ·exact hHeld.trans hs
  clear hn hg hs hge
  clear hK K hHeld; have hHeld := hNew; clear hNew
  try simp only [Ro.p]
  refine Ra.two_on (i := 2) (j := 8) rfl rfl (by kernel_rfl) (by rfl) (by rfl) ?g23_2 ?g23_8
  case' g23_2 =>
   intro K hK
   go_simp
   go_at_call 28
   refine (JO.out _ hHeld).mono ?_
   rintro e y24 ⟨RA, rc, rfl, hj, hs⟩
   have B7 := Lib.hid (B7.out.same hs)
   have RJ := Lib.hid hj
   refine hK.out _ _ ?_ (fun hNew => ?_)
   ·exact hHeld.trans hs
   clear hj hs
   clear hK K hHeld; have hHeld := hNew; clear hNew
   try simp only [Ro.p]
   refine Ra.two_on (i := 6) (j := 8) rfl rfl (by kernel_rfl) (by rfl) (by rfl) ?g25_6 ?g25_8
   case' g25_6 =>
    intro K hK
    go_simp
    go_at_call 40
    refine (AB.out _ hHeld).mono ?_
    rintro e y26 ⟨AA, ac, rfl, ha, hs, hf⟩
    have F7 := Lib.hid (fun b o e => by have := (hf b o e).1; have := B7.out.lt; omega : ∀ b o, AA = some ⟨b, o, none⟩ → ¬ b = g7)
    have B7 := Lib.hid (B7.out.same hs)
    have RJ := Lib.hid (RJ.out.same hs)
    have RA_ := Lib.hid ha
    have HL6 := Lib.hid (fun b o e => (hf b o e).2)
    refine hK.out _ _ ?_ (fun hNew => ?_)
    ·exact hHeld.trans hs
    clear ha hs hf
    clear hK K hHeld; have hHeld := hNew; clear hNew
    try simp only [Ro.p]
    refine Ro.one_on (i := 8) rfl (by kernel_rfl) (by rfl) (fun K hK => ?_)
    go_simp
    obtain ⟨wz, hn⟩ : ∃ x, x = y26.alloc (.cells #[.slice none 0 0] 26) := ⟨_, rfl⟩
    obtain ⟨g8, hg⟩ : ∃ g, g = y26.heap.size := ⟨_, rfl⟩
    have hs : Same y26 wz := by rw [hn]; exact (Same.refl _).alloc _
    have hge : w1.heap.size ≤ g8 := by rw [hg]; exact hHeld.size
    have F8 := Lib.hid (fun b o e => by have := HL6.out b o e; omega : ∀ b o, AA = some ⟨b, o, none⟩ → ¬ b = g8)
    have B7 := Lib.hid (B7.out.same hs)
    have RJ := Lib.hid (RJ.out.same hs)
    have RA_ := Lib.hid (RA_.out.same hs)
    have HL6 := Lib.hid (fun b o e => Nat.lt_of_lt_of_le (HL6.out b o e) hs.size)
    have B8 := Lib.hid (show Blk wz g8 26 #[.slice none 0 0] by rw [hn, hg]; exact Blk.new _ _ _)
    have Hg8 := Lib.hid hge
    rw [← hn, ← hg]
    refine hK.out _ _ ?_ (fun hNew => ?_)
    ·exact hHeld.trans hs
    clear hn hg hs hge
    clear hK K hHeld; have hHeld := hNew; clear hNew
    try simp only [Ro.p]
   case' g25_8 =>
    intro K hK
    go_simp
    obtain ⟨y28, hn⟩ : ∃ x, x = y24.alloc (.cells #[.slice none 0 0] 26) := ⟨_, rfl⟩
    obtain ⟨g8, hg⟩ : ∃ g, g = y24.heap.size := ⟨_, rfl⟩
    have hs : Same y24 y28 := by rw [hn]; exact (Same.refl _).alloc _
    have hge : w1.heap.size ≤ g8 := by rw [hg]; exact hHeld.size
    have B7 := Lib.hid (B7.out.same hs)
    have RJ := Lib.hid (RJ.out.same hs)
    have B8 := Lib.hid (show Blk y28 g8 26 #[.slice none 0 0] by rw [hn, hg]; exact Blk.new _ _ _)
    have Hg8 := Lib.hid hge
    rw [← hn, ← hg]
    refine hK.out _ _ ?_ (fun hNew => ?_)
    ·exact hHeld.trans hs
    clear hn hg hs hge
    clear hK K hHeld; have hHeld := hNew; clear hNew
    try simp only [Ro.p]
    refine Ro.one_on (i := 6) rfl (by kernel_rfl) (by rfl) (fun K hK => ?_)
    go_simp
    go_at_call 40
    refine (AB.out _ hHeld).mono ?_
    rintro e wz ⟨AA, ac, rfl, ha, hs, hf⟩
    have F7 := Lib.hid (fun b o e => by have := (hf b o e).1; have := B7.out.lt; omega : ∀ b o, AA = some ⟨b, o, none⟩ → ¬ b = g7)
    have F8 := Lib.hid (fun b o e => by have := (hf b o e).1; have := B8.out.lt; omega : ∀ b o, AA = some ⟨b, o, none⟩ → ¬ b = g8)
    have B7 := Lib.hid (B7.out.same hs)
    have B8 := Lib.hid (B8.out.same hs)
    have RJ := Lib.hid (RJ.out.same hs)
    have RA_ := Lib.hid ha
    have HL6 := Lib.hid (fun b o e => (hf b o e).2)
    refine hK.out _ _ ?_ (fun hNew => ?_)
    ·exact hHeld.trans hs
    clear ha hs hf
    clear hK K hHeld; have hHeld := hNew; clear hNew
    try simp only [Ro.p]
  case' g23_8 =>
   intro K hK
   go_simp
   obtain ⟨y30, hn⟩ : ∃ x, x = y22.alloc (.cells #[.slice none 0 0] 26) := ⟨_, rfl⟩
   obtain ⟨g8, hg⟩ : ∃ g, g = y22.heap.size := ⟨_, rfl⟩
   have hs : Same y22 y30 := by rw [hn]; exact (Same.refl _).alloc _
   have hge : w1.heap.size ≤ g8 := by rw [hg]; exact hHeld.size
   have B7 := Lib.hid (B7.out.same hs)
   have B8 := Lib.hid (show Blk y30 g8 26 #[.slice none 0 0] by rw [hn, hg]; exact Blk.new _ _ _)
   have Hg8 := Lib.hid hge
   rw [← hn, ← hg]
   refine hK.out _ _ ?_ (fun hNew => ?_)
   ·exact hHeld.trans hs
   clear hn hg hs hge
   clear hK K hHeld; have hHeld := hNew; clear hNew
   try simp only [Ro.p]
   refine Ro.one_on (i := 2) rfl (by kernel_rfl) (by rfl) (fun K hK => ?_)
   go_simp
   go_at_call 28
   refine (JO.out _ hHeld).mono ?_
   rintro e y31 ⟨RA, rc, rfl, hj, hs⟩
   have B7 := Lib.hid (B7.out.same hs)
   have B8 := Lib.hid (B8.out.same hs)
   have RJ := Lib.hid hj
   refine hK.out _ _ ?_ (fun hNew => ?_)
   ·exact hHeld.trans hs
   clear hj hs
   clear hK K hHeld; have hHeld := hNew; clear hNew
   try simp only [Ro.p]
   refine Ro.one_on (i := 6) rfl (by kernel_rfl) (by rfl) (fun K hK => ?_)
   go_simp
   go_at_call 40
   refine (AB.out _ hHeld).mono ?_
   rintro e wz ⟨AA, ac, rfl, ha, hs, hf⟩
   have F7 := Lib.hid (fun b o e => by have := (hf b o e).1; have := B7.out.lt; omega : ∀ b o, AA = some ⟨b, o, none⟩ → ¬ b = g7)
   have F8 := Lib.hid (fun b o e => by have := (hf b o e).1; have := B8.out.lt; omega : ∀ b o, AA = some ⟨b, o, none⟩ → ¬ b = g8)
   have B7 := Lib.hid (B7.out.same hs)
   have B8 := Lib.hid (B8.out.same hs)
   have RJ := Lib.hid (RJ.out.same hs)
   have RA_ := Lib.hid ha
   have HL6 := Lib.hid (fun b o e => (hf b o e).2)
   refine hK.out _ _ ?_ (fun hNew => ?_)
   ·exact hHeld.trans hs
   clear ha hs hf
   clear hK K hHeld; have hHeld := hNew; clear hNew
   try simp only [Ro.p]
 case' g1_8 =>
  intro K hK
  go_simp
  obtain ⟨y33, hn⟩ : ∃ x, x = wd.alloc (.cells #[.slice none 0 0] 26) := ⟨_, rfl⟩
  obtain ⟨g8, hg⟩ : ∃ g, g = wd.heap.size := ⟨_, rfl⟩
  have hs : Same wd y33 := by rw [hn]; exact (Same.refl _).alloc _
  have hge : w1.heap.size ≤ g8 := by rw [hg]; exact hHeld.size
  have B8 := Lib.hid (show Blk y33 g8 26 #[.slice none 0 0] by rw [hn, hg]; exact Blk.new _ _ _)
  have Hg8 := Lib.hid hge
  rw [← hn, ← hg]
  refine hK.out _ _ ?_ (fun hNew => ?_)
  ·exact hHeld.trans hs
  clear hn hg hs hge
  clear hK K hHeld; have hHeld := hNew; clear hNew
  try simp only [Ro.p]
  refine Ra.two_on (i := 2) (j := 7) rfl rfl (by kernel_rfl) (by rfl) (by rfl) ?g34_2 ?g34_7
  case' g34_2 =>
   intro K hK
   go_simp
   go_at_call 28
   refine (JO.out _ hHeld).mono ?_
   rintro e y35 ⟨RA, rc, rfl, hj, hs⟩
   have B8 := Lib.hid (B8.out.same hs)
   have RJ := Lib.hid hj
   refine hK.out _ _ ?_ (fun hNew => ?_)
   ·exact hHeld.trans hs
   clear hj hs
   clear hK K hHeld; have hHeld := hNew; clear hNew
   try simp only [Ro.p]
   refine Ra.two_on (i := 6) (j := 7) rfl rfl (by kernel_rfl) (by rfl) (by rfl) ?g36_6 ?g36_7
   case' g36_6 =>
    intro K hK
    go_simp
    go_at_call 40
    refine (AB.out _ hHeld).mono ?_
    rintro e y37 ⟨AA, ac, rfl, ha, hs, hf⟩
    have F8 := Lib.hid (fun b o e => by have := (hf b o e).1; have := B8.out.lt; omega : ∀ b o, AA = some ⟨b, o, none⟩ → ¬ b = g8)
    have B8 := Lib.hid (B8.out.same hs)
    have RJ := Lib.hid (RJ.out.same hs)
    have RA_ := Lib.hid ha
    have HL6 := Lib.hid (fun b o e => (hf b o e).2)
    refine hK.out _ _ ?_ (fun hNew => ?_)
    ·exact hHeld.trans hs
    clear ha hs hf
    clear hK K hHeld; have hHeld := hNew; clear hNew
    try simp only [Ro.p]
    refine Ro.one_on (i := 7) rfl (by kernel_rfl) (by rfl) (fun K hK => ?_)
    go_simp
    obtain ⟨wz, hn⟩ : ∃ x, x = y37.alloc (.cells #[.int .i64 0, .slice none 0 0] 64) := ⟨_, rfl⟩
    obtain ⟨g7, hg⟩ : ∃ g, g = y37.heap.size := ⟨_, rfl⟩
    have hs : Same y37 wz := by rw [hn]; exact (Same.refl _).alloc _
    have hge : w1.heap.size ≤ g7 := by rw [hg]; exact hHeld.size
    have F7 := Lib.hid (fun b o e => by have := HL6.out b o e; omega : ∀ b o, AA = some ⟨b, o, none⟩ → ¬ b = g7)
    have B8 := Lib.hid (B8.out.same hs)
    have RJ := Lib.hid (RJ.out.same hs)
    have RA_ := Lib.hid (RA_.out.same hs)
    have HL6 := Lib.hid (fun b o e => Nat.lt_of_lt_of_le (HL6.out b o e) hs.size)
    have B7 := Lib.hid (show Blk wz g7 64 #[.int .i64 0, .slice none 0 0] by rw [hn, hg]; exact Blk.new _ _ _)
    have Hg7 := Lib.hid hge
    rw [← hn, ← hg]
    refine hK.out _ _ ?_ (fun hNew => ?_)
    ·exact hHeld.trans hs
    clear hn hg hs hge
    clear hK K hHeld; have hHeld := hNew; clear hNew
    try simp only [Ro.p]
   case' g36_7 =>
    intro K hK
    go_simp
    obtain ⟨y39, hn⟩ : ∃ x, x = y35.alloc (.cells #[.int .i64 0, .slice none 0 0] 64) := ⟨_, rfl⟩
    obtain ⟨g7, hg⟩ : ∃ g, g = y35.heap.size := ⟨_, rfl⟩
    have hs : Same y35 y39 := by rw [hn]; exact (Same.refl _).alloc _
    have hge : w1.heap.size ≤ g7 := by rw [hg]; exact hHeld.size
    have B8 := Lib.hid (B8.out.same hs)
    have RJ := Lib.hid (RJ.out.same hs)
    have B7 := Lib.hid (show Blk y39 g7 64 #[.int .i64 0, .slice none 0 0] by rw [hn, hg]; exact Blk.new _ _ _)
    have Hg7 := Lib.hid hge
    rw [← hn, ← hg]
    refine hK.out _ _ ?_ (fun hNew => ?_)
    ·exact hHeld.trans hs
    clear hn hg hs hge
    clear hK K hHeld; have hHeld := hNew; clear hNew
    try simp only [Ro.p]
    refine Ro.one_on (i := 6) rfl (by kernel_rfl) (by rfl) (fun K hK => ?_)
    go_simp
    go_at_call 40
    refine (AB.out _ hHeld).mono ?_
    rintro e wz ⟨AA, ac, rfl, ha, hs, hf⟩
    have F7 := Lib.hid (fun b o e => by have := (hf b o e).1; have := B7.out.lt; omega : ∀ b o, AA = some ⟨b, o, none⟩ → ¬ b = g7)
    have F8 := Lib.hid (fun b o e => by have := (hf b o e).1; have := B8.out.lt; omega : ∀ b o, AA = some ⟨b, o, none⟩ → ¬ b = g8)
    have B7 := Lib.hid (B7.out.same hs)
    have B8 := Lib.hid (B8.out.same hs)
    have RJ := Lib.hid (RJ.out.same hs)
    have RA_ := Lib.hid ha
    have HL6 := Lib.hid (fun b o e => (hf b o e).2)
    refine hK.out _ _ ?_ (fun hNew => ?_)
    ·exact hHeld.trans hs
    clear ha hs hf
    clear hK K hHeld; have hHeld := hNew; clear hNew
    try simp only [Ro.p]
  case' g34_7 =>
   intro K hK
   go_simp
   obtain ⟨y41, hn⟩ : ∃ x, x = y33.alloc (.cells #[.int .i64 0, .slice none 0 0] 64) := ⟨_, rfl⟩
   obtain ⟨g7, hg⟩ : ∃ g, g = y33.heap.size := ⟨_, rfl⟩
   have hs : Same y33 y41 := by rw [hn]; exact (Same.refl _).alloc _
   have hge : w1.heap.size ≤ g7 := by rw [hg]; exact hHeld.size
   have B8 := Lib.hid (B8.out.same hs)
   have B7 := Lib.hid (show Blk y41 g7 64 #[.int .i64 0, .slice none 0 0] by rw [hn, hg]; exact Blk.new _ _ _)
   have Hg7 := Lib.hid hge
   rw [← hn, ← hg]
   refine hK.out _ _ ?_ (fun hNew => ?_)
   ·exact hHeld.trans hs
   clear hn hg hs hge
   clear hK K hHeld; have hHeld := hNew; clear hNew
   try simp only [Ro.p]
   refine Ro.one_on (i := 2) rfl (by kernel_rfl) (by rfl) (fun K hK => ?_)
   go_simp
   go_at_call 28
   refine (JO.out _ hHeld).mono ?_
   rintro e y42 ⟨RA, rc, rfl, hj, hs⟩
   have B7 := Lib.hid (B7.out.same hs)
   have B8 := Lib.hid (B8.out.same hs)
   have RJ := Lib.hid hj
   refine hK.out _ _ ?_ (fun hNew => ?_)
   ·exact hHeld.trans hs
   clear hj hs
   clear hK K hHeld; have hHeld := hNew; clear hNew
   try simp only [Ro.p]
   refine Ro.one_on (i := 6) rfl (by kernel_rfl) (by rfl) (fun K hK => ?_)
   go_simp
   go_at_call 40
   refine (AB.out _ hHeld).mono ?_
   rintro e wz ⟨AA, ac, rfl, ha, hs, hf⟩
   have F7 := Lib.hid (fun b o e => by have := (hf b o e).1; have := B7.out.lt; omega : ∀ b o, AA = some ⟨b, o, none⟩ → ¬ b = g7)
   have F8 := Lib.hid (fun b o e => by have := (hf b o e).1; have := B8.out.lt; omega : ∀ b o, AA = some ⟨b, o, none⟩ → ¬ b = g8)
   have B7 := Lib.hid (B7.out.same hs)
   have B8 := Lib.hid (B8.out.same hs)
   have RJ := Lib.hid (RJ.out.same hs)
   have RA_ := Lib.hid ha
   have HL6 := Lib.hid (fun b o e => (hf b o e).2)
   refine hK.out _ _ ?_ (fun hNew => ?_)
   ·exact hHeld.trans hs
   clear ha hs hf
   clear hK K hHeld; have hHeld := hNew; clear hNew
   try simp only [Ro.p]
 all_goals
  refine Ro.one_on (i := 9) rfl (by kernel_rfl) (by rfl) (fun K hK => ?_)
  refine wp_store_row 64 (.tmp 7) (.tmp 11) rfl g7 #[.int .i64 (jobC s i), .slice RA (jobR s i).length rc] rfl rfl 64 #[.int .i64 0, .slice none 0 0] B7.out HIF.out rfl (by simp [Value.oneCell']) ?_
  obtain ⟨w8, hn⟩ : ∃ x, x = World.setRow wz g7 #[.int .i64 (jobC s i), .slice RA (jobR s i).length rc] := ⟨_, rfl⟩
  have hc : Chg (fun i => i = g7) wz w8 := by rw [hn]; exact Dm.chgRow (S := fun i => i = g7) (Chg.refl _ _) (.inl rfl) _
  have B8 := Lib.hid (B8.out.chg hc (B8.out.ne B7.out (by decide)))
  have RJ := Lib.hid (row_chg RJ.out hc (fun b o e h => row6_ne RJ.out B7.out (by simp) b o e h))
  have RA_ := Lib.hid (row_chg RA_.out hc (fun b o e _ => F7.out b o e))
  have B7 := Lib.hid (show Blk w8 g7 64 #[.int .i64 (jobC s i), .slice RA (jobR s i).length rc] by rw [hn]; exact Dm.rowb B7.out)
  have hs8 : Same w1 w8 := Same.more hHeld hc (fun i hi => by have := Hg7.out; omega)
  rw [← hn]
  refine hK.out _ _ hs8 (fun hNew => ?_)
  clear hn hc hs8
  clear hK K hHeld; have hHeld := hNew; clear hNew
  try simp only [Ro.p]
  refine Ro.one_on (i := 10) rfl (by kernel_rfl) (by rfl) (fun K hK => ?_)
  have z8 := B8.out.cell 0
  simp only [List.getElem?_toArray, List.getElem?_cons_zero] at z8
  have f8 := B8.out.thaw 0
  go_simp
  obtain ⟨w9, hn⟩ : ∃ x, x = w8.setCell ⟨g8, 0, none⟩ (.slice AA (aboveI s.ts i n).length ac) := ⟨_, rfl⟩
  have hc : Chg (fun i => i = g8) w8 w9 := by rw [hn]; exact (Chg.refl (fun i => i = g8) w8).set (p := ⟨g8, 0, none⟩) (.inl rfl) _
  have B7 := Lib.hid (B7.out.chg hc (B7.out.ne B8.out (by decide)))
  have RJ := Lib.hid (row_chg RJ.out hc (fun b o e h => row6_ne RJ.out B8.out (by simp) b o e h))
  have RA_ := Lib.hid (row_chg RA_.out hc (fun b o e _ => F8.out b o e))
  have B8 := Lib.hid (show Blk w9 g8 26 #[.slice AA (aboveI s.ts i n).length ac] by rw [hn]; exact B8.out.put 0 _)
  have hs9 : Same w1 w9 := Same.more hHeld hc (fun i hi => by have := Hg8.out; omega)
  rw [← hn]
  refine hK.out _ _ hs9 (fun hNew => ?_)
  clear hn hc z8 f8
  clear hK K hHeld hNew
  try simp only [Ro.p]
  refine wpAnyH_done (by kernel_rfl) ?_ _
  have HLD := Lib.hid (show LdAt w9 s i costs A B C n c m d cl cc g7 g8 q5 q3 RA AA rc (aboveI s.ts i n).length ac from ⟨B7.out, RJ.out, B8.out, by rw [HS.out.hn], by rw [HS.out.hn]; exact RA_.out, HB5.out.same hs9, HCL.out, HRC.out.same hs9, HB3.out.same hs9, HS.out.same hs9⟩)
  have HSF := Lib.hid hs9
  clear hs9 B7 B8 RJ RA_ HS
  go_wp2_with fail
  go_ret
  exact loadP_mk HLD.out (S1.out.trans HSF.out)
end Go.Proofs.YthhbhbfkbncegabGreatDoor.Rt
end
