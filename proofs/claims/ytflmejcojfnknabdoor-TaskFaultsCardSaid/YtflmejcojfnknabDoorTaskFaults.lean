/-

  TaskFaults returns true for every task.
-/
import Derived.Test.YtflmejcojfnknabDoorTaskPlain
import Derived.Test.YtflmejcojfnknabDoorFlowChecks
import Derived.Test.YtflmejcojfnknabDoorRegionOff
set_option linter.unusedVariables false
set_option linter.unusedSimpArgs false
namespace Go.Proofs.YtflmejcojfnknabDoor.Tp
open Go.ChangeShapes Go.WideShapes Go.ChangeAt Go.RowKit Ws
open Go.Proofs.YtflmejcojfnknabDoor.Fw (Prg ckI ckE check_any rcheck_any)
open Go.Proofs.YtflmejcojfnknabDoor.Fp (Ins)
open Go.Proofs.YtflmejcojfnknabDoor.Is (Tabs)

def fI (k p r o d ow : Int) (P : List Ins) : Int := if plainB k p r o d ow = true then (if ckE P = 0 then -1 else ckI P) else -1
def fE (k p r o d ow : Int) (P : List Ins) : Int := if plainB k p r o d ow = true then ckE P else 1
set_option maxRecDepth 100000 in
theorem fault_any (k p r o d ow : Int) (A : Option Addr) (n c : Nat) (P : List Ins) (w : World) (hl : P.length = n) (hm : n ≤ 200) (hp : Prg w A P) (ht : Tabs w) :
    Calls Tryd.prog 17 #[.agg #[.int .i64 k, .int .i64 p, .int .i64 r, .int .i64 o, .int .i64 d, .int .i64 ow, .slice A n c]] w fun e w' => e = .returned (.tuple #[.int .i64 (fI k p r o d ow P), .int .i64 (fE k p r o d ow P)]) ∧ Same w w' := by
  have hs0 := (Same.refl w).alloc (.cells #[.int .i64 k, .int .i64 p, .int .i64 r, .int .i64 o, .int .i64 d, .int .i64 ow, .slice A n c] 52)
  have PL := plain_any k p r o d ow A n c (w.alloc (.cells #[.int .i64 k, .int .i64 p, .int .i64 r, .int .i64 o, .int .i64 d, .int .i64 ow, .slice A n c] 52))
  have CK := fun w' (s : Same w w') => check_any A n c P w' hl (by omega) (hp.same s) (ht.same s)
  unfold fI fE
  have HS0 := Lib.hid hs0
  clear hl hp ht hs0
  generalize ckI P = ii at *
  generalize ckE P = ee at *
  cases hpl : plainB k p r o d ow
  · rw [hpl] at PL
    rw [if_neg Bool.false_ne_true, if_neg Bool.false_ne_true]
    have HPL := Lib.hid PL
    clear PL hpl CK
    go_enter Tryd.func17, Tryd.ntmps17
    go_wp2_with fail
    refine HPL.out.mono ?_
    rintro e w1 ⟨rfl, s1⟩
    go_wp2_with fail
    go_ret2
    exact ⟨rfl, HS0.out.trans s1⟩
  · rw [hpl] at PL
    rw [if_pos rfl, if_pos rfl]
    have HPL := Lib.hid PL
    have HCK := Lib.hid CK
    clear PL hpl CK
    by_cases he : ee = 0
    · subst he
      rw [if_pos rfl]
      go_enter Tryd.func17, Tryd.ntmps17
      go_wp2_with fail
      refine HPL.out.mono ?_
      rintro e w1 ⟨rfl, s1⟩
      have y6 : w1.cell? ⟨w.heap.size, 6, none⟩ = some (.slice A n c) := s1.new (i := 6) rfl
      have HS1 := Lib.hid (HS0.out.trans s1)
      clear s1
      go_wp2_with fail
      refine (HCK.out _ HS1.out).mono ?_
      rintro e w2 ⟨rfl, s2⟩
      go_wp2_with fail
      go_ret2
      exact ⟨rfl, HS1.out.trans s2⟩
    · have b0 : (ee == 0) = false := by simpa using he
      have b1 : (ee != 0) = true := by simpa using he
      rw [if_neg he]
      clear he
      go_enter Tryd.func17, Tryd.ntmps17
      go_wp2_with fail
      refine HPL.out.mono ?_
      rintro e w1 ⟨rfl, s1⟩
      have y6 : w1.cell? ⟨w.heap.size, 6, none⟩ = some (.slice A n c) := s1.new (i := 6) rfl
      have HS1 := Lib.hid (HS0.out.trans s1)
      clear s1
      go_wp2_with fail
      refine (HCK.out _ HS1.out).mono ?_
      rintro e w2 ⟨rfl, s2⟩
      go_wp2_with fail
      go_ret2
      exact ⟨rfl, HS1.out.trans s2⟩
set_option maxRecDepth 100000 in
theorem rfault_any (k p r o d ow : Int) (A : Option Addr) (n c : Nat) (P : List Ins) (w : World) (hl : P.length = n) (hm : n ≤ 200) (hp : Prg w A P) (ht : Tabs w) :
    Calls Tryd.prog 18 #[.agg #[.int .i64 k, .int .i64 p, .int .i64 r, .int .i64 o, .int .i64 d, .int .i64 ow, .slice A n c]] w fun e w' => e = .returned (.tuple #[.int .i64 (fI k p r o d ow P), .int .i64 (fE k p r o d ow P)]) ∧ Same w w' := by
  have hs0 := (Same.refl w).alloc (.cells #[.int .i64 k, .int .i64 p, .int .i64 r, .int .i64 o, .int .i64 d, .int .i64 ow, .slice A n c] 52)
  have PL := rplain_any k p r o d ow A n c (w.alloc (.cells #[.int .i64 k, .int .i64 p, .int .i64 r, .int .i64 o, .int .i64 d, .int .i64 ow, .slice A n c] 52))
  have CK := fun w' (s : Same w w') => rcheck_any A n c P w' hl (by omega) (hp.same s)
  unfold fI fE
  have HS0 := Lib.hid hs0
  clear hl hp ht hs0
  generalize ckI P = ii at *
  generalize ckE P = ee at *
  cases hpl : plainB k p r o d ow
  · rw [hpl] at PL
    rw [if_neg Bool.false_ne_true, if_neg Bool.false_ne_true]
    have HPL := Lib.hid PL
    clear PL hpl CK
    go_enter Tryd.func18, Tryd.ntmps18
    go_wp2_with fail
    refine HPL.out.mono ?_
    rintro e w1 ⟨rfl, s1⟩
    go_wp2_with fail
    go_ret2
    exact ⟨rfl, HS0.out.trans s1⟩
  · rw [hpl] at PL
    rw [if_pos rfl, if_pos rfl]
    have HPL := Lib.hid PL
    have HCK := Lib.hid CK
    clear PL hpl CK
    by_cases he : ee = 0
    · subst he
      rw [if_pos rfl]
      go_enter Tryd.func18, Tryd.ntmps18
      go_wp2_with fail
      refine HPL.out.mono ?_
      rintro e w1 ⟨rfl, s1⟩
      have y6 : w1.cell? ⟨w.heap.size, 6, none⟩ = some (.slice A n c) := s1.new (i := 6) rfl
      have HS1 := Lib.hid (HS0.out.trans s1)
      clear s1
      go_wp2_with fail
      refine (HCK.out _ HS1.out).mono ?_
      rintro e w2 ⟨rfl, s2⟩
      go_wp2_with fail
      go_ret2
      exact ⟨rfl, HS1.out.trans s2⟩
    · have b0 : (ee == 0) = false := by simpa using he
      have b1 : (ee != 0) = true := by simpa using he
      rw [if_neg he]
      clear he
      go_enter Tryd.func18, Tryd.ntmps18
      go_wp2_with fail
      refine HPL.out.mono ?_
      rintro e w1 ⟨rfl, s1⟩
      have y6 : w1.cell? ⟨w.heap.size, 6, none⟩ = some (.slice A n c) := s1.new (i := 6) rfl
      have HS1 := Lib.hid (HS0.out.trans s1)
      clear s1
      go_wp2_with fail
      refine (HCK.out _ HS1.out).mono ?_
      rintro e w2 ⟨rfl, s2⟩
      go_wp2_with fail
      go_ret2
      exact ⟨rfl, HS1.out.trans s2⟩
set_option maxRecDepth 100000 in
set_option maxHeartbeats 2000000 in
theorem faults_any (k p r o d ow : Int) (A : Option Addr) (n c : Nat) (P : List Ins) (w : World) (hl : P.length = n) (hp : Prg w A P) (ht : Tabs w) :
    Calls Tryd.prog 5 #[.agg #[.int .i64 k, .int .i64 p, .int .i64 r, .int .i64 o, .int .i64 d, .int .i64 ow, .slice A n c]] w fun e w' => e = .returned (.bool true) ∧ Same w w' := by
  have HS0 := Lib.hid ((Same.refl w).alloc (.cells #[.int .i64 k, .int .i64 p, .int .i64 r, .int .i64 o, .int .i64 d, .int .i64 ow, .slice A n c] 52))
  have HB0 := Lib.hid (Blk.new w 52 #[.int .i64 k, .int .i64 p, .int .i64 r, .int .i64 o, .int .i64 d, .int .i64 ow, .slice A n c])
  by_cases hm : n ≤ 200
  rotate_left
  · have h2 : (200 : Int) < n := by omega
    clear hl hp ht hm
    go_enter Tryd.func5, Tryd.ntmps5
    go_wp2_with fail
    refine (Tk.awake26 _).mono ?_
    rintro e w1 ⟨rfl, s1⟩
    go_wp2
    go_ret
    exact ⟨rfl, HS0.out.trans s1⟩
  have h2 : ¬ (200 : Int) < n := by omega
  have FA := fun w' (s : Same w w') => fault_any k p r o d ow A n c P w' hl hm (hp.same s) (ht.same s)
  have RF := fun w' (s : Same w w') => rfault_any k p r o d ow A n c P w' hl hm (hp.same s) (ht.same s)
  clear hl hp ht hm
  generalize fI k p r o d ow P = ii at *
  generalize fE k p r o d ow P = ee at *
  have HFA := Lib.hid FA
  have HRF := Lib.hid RF
  clear FA RF
  have z2 : decide ((200 : Int) < n) = false := decide_eq_false h2
  go_enter Tryd.func5, Tryd.ntmps5
  go_wp2_with fail
  generalize w.alloc (.cells #[.int .i64 k, .int .i64 p, .int .i64 r, .int .i64 o, .int .i64 d, .int .i64 ow, .slice A n c] 52) = w1 at *
  generalize w.heap.size = g at *
  refine (HFA.out _ HS0.out).mono ?_
  rintro e w2 ⟨rfl, s2⟩
  have HS2 := Lib.hid (HS0.out.trans s2)
  have HB2 := Lib.hid (HB0.out.same s2)
  have y0 : w2.cell? ⟨g, 0, none⟩ = some (.int .i64 k) := HB2.out.cell 0
  have y1 : w2.cell? ⟨g, 1, none⟩ = some (.int .i64 p) := HB2.out.cell 1
  have y2 : w2.cell? ⟨g, 2, none⟩ = some (.int .i64 r) := HB2.out.cell 2
  have y3 : w2.cell? ⟨g, 3, none⟩ = some (.int .i64 o) := HB2.out.cell 3
  have y4 : w2.cell? ⟨g, 4, none⟩ = some (.int .i64 d) := HB2.out.cell 4
  have y5 : w2.cell? ⟨g, 5, none⟩ = some (.int .i64 ow) := HB2.out.cell 5
  have y6 : w2.cell? ⟨g, 6, none⟩ = some (.slice A n c) := HB2.out.cell 6
  clear s2 HFA HS0 HB0
  go_wp2_with fail
  refine (HRF.out _ HS2.out).mono ?_
  rintro e w3 ⟨rfl, s3⟩
  have HS3 := Lib.hid (HS2.out.trans s3)
  have HB3 := Lib.hid (HB2.out.same s3)
  clear s3 y0 y1 y2 y3 y4 y5 y6 HS2 HB2 HRF
  have SS : Hid (∀ w', Same w3 w' → w'.cell? ⟨g, 0, none⟩ = some (.int .i64 k) ∧ w'.cell? ⟨g, 1, none⟩ = some (.int .i64 p) ∧ w'.cell? ⟨g, 2, none⟩ = some (.int .i64 r) ∧ w'.cell? ⟨g, 3, none⟩ = some (.int .i64 o) ∧ w'.cell? ⟨g, 4, none⟩ = some (.int .i64 d) ∧ w'.cell? ⟨g, 5, none⟩ = some (.int .i64 ow) ∧ w'.cell? ⟨g, 6, none⟩ = some (.slice A n c) ∧ Same w3 w') := Lib.hid (fun w' t => ⟨t.cell (HB3.out.cell 0), t.cell (HB3.out.cell 1), t.cell (HB3.out.cell 2), t.cell (HB3.out.cell 3), t.cell (HB3.out.cell 4), t.cell (HB3.out.cell 5), t.cell (HB3.out.cell 6), t⟩)
  go_wp2_with fail
  refine wp_region_held_drew (S := fun w' => w'.cell? ⟨g, 0, none⟩ = some (.int .i64 k) ∧ w'.cell? ⟨g, 1, none⟩ = some (.int .i64 p) ∧ w'.cell? ⟨g, 2, none⟩ = some (.int .i64 r) ∧ w'.cell? ⟨g, 3, none⟩ = some (.int .i64 o) ∧ w'.cell? ⟨g, 4, none⟩ = some (.int .i64 d) ∧ w'.cell? ⟨g, 5, none⟩ = some (.int .i64 ow) ∧ w'.cell? ⟨g, 6, none⟩ = some (.slice A n c) ∧ Same w3 w') (by kernel_rfl) ?_ (fun hHeld => ?_)
  · exact SS.out _ (Same.refl w3).drew
  first
    | (refine Ro.take_off (i := 0) rfl (by kernel_rfl) (by kernel_rfl) (by kernel_rfl) (fun _ _ _ h => h) (by rfl) (by assumption) ?_)
    | (refine Ro.take_on (i := 0) (v := ?_) rfl (by kernel_rfl) (by kernel_rfl) (by kernel_rfl) (fun _ _ _ h => h) (by rfl) (by assumption) ?_ ?_; rotate_left; · (intro wS hSw; (try dsimp only at hSw); go_simp; try with_reducible rfl))
  try simp only [Act.put, List.setIfInBounds_toArray, List.set_cons_zero, List.set_cons_succ]
  first
    | (refine Ro.take_off (i := 1) rfl (by kernel_rfl) (by kernel_rfl) (by kernel_rfl) (fun _ _ _ h => h) (by rfl) (by assumption) ?_)
    | (refine Ro.take_on (i := 1) (v := ?_) rfl (by kernel_rfl) (by kernel_rfl) (by kernel_rfl) (fun _ _ _ h => h) (by rfl) (by assumption) ?_ ?_; rotate_left; · (intro wS hSw; (try dsimp only at hSw); go_simp; try with_reducible rfl))
  try simp only [Act.put, List.setIfInBounds_toArray, List.set_cons_zero, List.set_cons_succ]
  first
    | (refine Ro.take_off (i := 2) rfl (by kernel_rfl) (by kernel_rfl) (by kernel_rfl) (fun _ _ _ h => h) (by rfl) (by assumption) ?_)
    | (refine Ro.take_on (i := 2) (v := ?_) rfl (by kernel_rfl) (by kernel_rfl) (by kernel_rfl) (fun _ _ _ h => h) (by rfl) (by assumption) ?_ ?_; rotate_left; · (intro wS hSw; (try dsimp only at hSw); go_simp; try with_reducible rfl))
  try simp only [Act.put, List.setIfInBounds_toArray, List.set_cons_zero, List.set_cons_succ]
  first
    | (refine Ro.take_off (i := 3) rfl (by kernel_rfl) (by kernel_rfl) (by kernel_rfl) (fun _ _ _ h => h) (by rfl) (by assumption) ?_)
    | (refine Ro.take_on (i := 3) (v := ?_) rfl (by kernel_rfl) (by kernel_rfl) (by kernel_rfl) (fun _ _ _ h => h) (by rfl) (by assumption) ?_ ?_; rotate_left; · (intro wS hSw; (try dsimp only at hSw); go_simp; try with_reducible rfl))
  try simp only [Act.put, List.setIfInBounds_toArray, List.set_cons_zero, List.set_cons_succ]
  first
    | (refine Ro.take_off (i := 4) rfl (by kernel_rfl) (by kernel_rfl) (by kernel_rfl) (fun _ _ _ h => h) (by rfl) (by assumption) ?_)
    | (refine Ro.take_on (i := 4) (v := ?_) rfl (by kernel_rfl) (by kernel_rfl) (by kernel_rfl) (fun _ _ _ h => h) (by rfl) (by assumption) ?_ ?_; rotate_left; · (intro wS hSw; (try dsimp only at hSw); go_simp; try with_reducible rfl))
  try simp only [Act.put, List.setIfInBounds_toArray, List.set_cons_zero, List.set_cons_succ]
  first
    | (refine Ro.take_off (i := 5) rfl (by kernel_rfl) (by kernel_rfl) (by kernel_rfl) (fun _ _ _ h => h) (by rfl) (by assumption) ?_)
    | (refine Ro.take_on (i := 5) (v := ?_) rfl (by kernel_rfl) (by kernel_rfl) (by kernel_rfl) (fun _ _ _ h => h) (by rfl) (by assumption) ?_ ?_; rotate_left; · (intro wS hSw; (try dsimp only at hSw); go_simp; try with_reducible rfl))
  try simp only [Act.put, List.setIfInBounds_toArray, List.set_cons_zero, List.set_cons_succ]
  first
    | (refine Ro.take_off (i := 6) rfl (by kernel_rfl) (by kernel_rfl) (by kernel_rfl) (fun _ _ _ h => h) (by rfl) (by assumption) ?_)
    | (refine Ro.take_on (i := 6) (v := ?_) rfl (by kernel_rfl) (by kernel_rfl) (by kernel_rfl) (fun _ _ _ h => h) (by rfl) (by assumption) ?_ ?_; rotate_left; · (intro wS hSw; (try dsimp only at hSw); go_simp; try with_reducible rfl))
  try simp only [Act.put, List.setIfInBounds_toArray, List.set_cons_zero, List.set_cons_succ]
  first
    | (refine Ro.take_off (i := 7) rfl (by kernel_rfl) (by kernel_rfl) (by kernel_rfl) (fun _ _ _ h => h) (by rfl) (by assumption) ?_)
    | (refine Ro.take_on (i := 7) (v := ?_) rfl (by kernel_rfl) (by kernel_rfl) (by kernel_rfl) (fun _ _ _ h => h) (by rfl) (by assumption) ?_ ?_; rotate_left; · (intro wS hSw; (try dsimp only at hSw); go_simp; try with_reducible rfl))
  try simp only [Act.put, List.setIfInBounds_toArray, List.set_cons_zero, List.set_cons_succ]
  first
    | (refine Ro.take_off (i := 8) rfl (by kernel_rfl) (by kernel_rfl) (by kernel_rfl) (fun _ _ _ h => h) (by rfl) (by assumption) ?_)
    | (refine Ro.take_on (i := 8) (v := ?_) rfl (by kernel_rfl) (by kernel_rfl) (by kernel_rfl) (fun _ _ _ h => h) (by rfl) (by assumption) ?_ ?_; rotate_left; · (intro wS hSw; (try dsimp only at hSw); go_simp; try with_reducible rfl))
  try simp only [Act.put, List.setIfInBounds_toArray, List.set_cons_zero, List.set_cons_succ]
  first
    | (refine Ro.take_off (i := 9) rfl (by kernel_rfl) (by kernel_rfl) (by kernel_rfl) (fun _ _ _ h => h) (by rfl) (by assumption) ?_)
    | (refine Ro.take_on (i := 9) (v := ?_) rfl (by kernel_rfl) (by kernel_rfl) (by kernel_rfl) (fun _ _ _ h => h) (by rfl) (by assumption) ?_ ?_; rotate_left; · (intro wS hSw; (try dsimp only at hSw); go_simp; try with_reducible rfl))
  try simp only [Act.put, List.setIfInBounds_toArray, List.set_cons_zero, List.set_cons_succ]
  first
    | (refine Ro.take_off (i := 11) rfl (by kernel_rfl) (by kernel_rfl) (by kernel_rfl) (fun _ _ _ h => h) (by rfl) (by assumption) ?_)
    | (refine Ro.take_on (i := 11) (v := ?_) rfl (by kernel_rfl) (by kernel_rfl) (by kernel_rfl) (fun _ _ _ h => h) (by rfl) (by assumption) ?_ ?_; rotate_left; · (intro wS hSw; (try dsimp only at hSw); go_simp; try with_reducible rfl))
  try simp only [Act.put, List.setIfInBounds_toArray, List.set_cons_zero, List.set_cons_succ]
  first
    | (refine Ro.take_off (i := 10) rfl (by kernel_rfl) (by kernel_rfl) (by kernel_rfl) (fun _ _ _ h => h) (by rfl) (by assumption) ?_)
    | (refine Ro.one_on (i := 10) rfl (by kernel_rfl) (by rfl) (fun K hK => ?_); go_simp; go_at_call 19; refine (plain_any k p r o d ow A n c _).mono ?_; rintro e w' ⟨rfl, hs9⟩; (first | refine hK.out _ _ ?_ (fun hNew => ?_) | (go_wp2_with fail; refine hK.out _ _ ?_ (fun hNew => ?_))); (· (exact SS.out _ (hHeld.2.2.2.2.2.2.2.trans hs9))); clear hK K hHeld; have hHeld := hNew; clear hNew)
  try simp only [Act.put, List.setIfInBounds_toArray, List.set_cons_zero, List.set_cons_succ]
  first
    | (refine Ro.take_off (i := 12) rfl (by kernel_rfl) (by kernel_rfl) (by kernel_rfl) (fun _ _ _ h => h) (by rfl) (by assumption) ?_)
    | (refine Ro.one_on (i := 12) rfl (by kernel_rfl) (by rfl) (fun K hK => ?_); go_simp; go_at_call 20; refine (rplain_any k p r o d ow A n c _).mono ?_; rintro e w' ⟨rfl, hs9⟩; (first | refine hK.out _ _ ?_ (fun hNew => ?_) | (go_wp2_with fail; refine hK.out _ _ ?_ (fun hNew => ?_))); (· (exact SS.out _ (hHeld.2.2.2.2.2.2.2.trans hs9))); clear hK K hHeld; have hHeld := hNew; clear hNew)
  try simp only [Act.put, List.setIfInBounds_toArray, List.set_cons_zero, List.set_cons_succ]
  first
    | (refine Ro.take_off (i := 13) rfl (by kernel_rfl) (by kernel_rfl) (by kernel_rfl) (fun _ _ _ h => h) (by rfl) (by assumption) ?_)
    | (refine Ro.take_on (i := 13) (v := ?_) rfl (by kernel_rfl) (by kernel_rfl) (by kernel_rfl) (fun _ _ _ h => h) (by rfl) (by assumption) ?_ ?_; rotate_left; · (intro wS hSw; (try dsimp only at hSw); go_simp; try with_reducible rfl))
  try simp only [Act.put, List.setIfInBounds_toArray, List.set_cons_zero, List.set_cons_succ]
  first
    | (refine Ro.take_off (i := 14) rfl (by kernel_rfl) (by kernel_rfl) (by kernel_rfl) (fun _ _ _ h => h) (by rfl) (by assumption) ?_)
    | (refine Ro.take_on (i := 14) (v := ?_) rfl (by kernel_rfl) (by kernel_rfl) (by kernel_rfl) (fun _ _ _ h => h) (by rfl) (by assumption) ?_ ?_; rotate_left; · (intro wS hSw; (try dsimp only at hSw); go_simp; try with_reducible rfl))
  try simp only [Act.put, List.setIfInBounds_toArray, List.set_cons_zero, List.set_cons_succ]
  first
    | (refine Ro.take_off (i := 15) rfl (by kernel_rfl) (by kernel_rfl) (by kernel_rfl) (fun _ _ _ h => h) (by rfl) (by assumption) ?_)
    | (refine Ro.take_on (i := 15) (v := ?_) rfl (by kernel_rfl) (by kernel_rfl) (by kernel_rfl) (fun _ _ _ h => h) (by rfl) (by assumption) ?_ ?_; rotate_left; · (intro wS hSw; (try dsimp only at hSw); go_simp; try with_reducible rfl))
  try simp only [Act.put, List.setIfInBounds_toArray, List.set_cons_zero, List.set_cons_succ]
  first
    | (refine Ro.take_off (i := 16) rfl (by kernel_rfl) (by kernel_rfl) (by kernel_rfl) (fun _ _ _ h => h) (by rfl) (by assumption) ?_)
    | (refine Ro.one_on (i := 16) rfl (by kernel_rfl) (by rfl) (fun K hK => ?_); go_simp; go_at_call 16; refine (Tk.awake26 _).mono ?_; rintro e w' ⟨rfl, hs9⟩; (first | refine hK.out _ _ ?_ (fun hNew => ?_) | (go_wp2_with fail; refine hK.out _ _ ?_ (fun hNew => ?_))); (· (exact SS.out _ (hHeld.2.2.2.2.2.2.2.trans hs9))); clear hK K hHeld; have hHeld := hNew; clear hNew)
  try simp only [Act.put, List.setIfInBounds_toArray, List.set_cons_zero, List.set_cons_succ]
  first
    | (refine Ro.take_off (i := 17) rfl (by kernel_rfl) (by kernel_rfl) (by kernel_rfl) (fun _ _ _ h => h) (by rfl) (by assumption) ?_)
    | (refine Ro.take_on (i := 17) (v := ?_) rfl (by kernel_rfl) (by kernel_rfl) (by kernel_rfl) (fun _ _ _ h => h) (by rfl) (by assumption) ?_ ?_; rotate_left; · (intro wS hSw; (try dsimp only at hSw); go_simp; try with_reducible rfl))
  try simp only [Act.put, List.setIfInBounds_toArray, List.set_cons_zero, List.set_cons_succ]
  first
    | (refine Ro.take_off (i := 18) rfl (by kernel_rfl) (by kernel_rfl) (by kernel_rfl) (fun _ _ _ h => h) (by rfl) (by assumption) ?_)
    | (refine Ro.take_on (i := 18) (v := ?_) rfl (by kernel_rfl) (by kernel_rfl) (by kernel_rfl) (fun _ _ _ h => h) (by rfl) (by assumption) ?_ ?_; rotate_left; · (intro wS hSw; (try dsimp only at hSw); go_simp; try with_reducible rfl))
  try simp only [Act.put, List.setIfInBounds_toArray, List.set_cons_zero, List.set_cons_succ]
  refine wpAnyH_done (by kernel_rfl) ?_ _
  have x9 := hHeld.2.2.2.2.2.2.2
  clear hHeld SS
  go_wp2_with fail
  go_ret
  exact ⟨rfl, HS3.out.trans x9⟩

end Go.Proofs.YtflmejcojfnknabDoor.Tp
namespace Go.Proofs.YtflmejcojfnknabDoor.Tk
open Go.ChangeShapes Go.WideShapes Go.ChangeAt Go.RowKit Ws
open Go.Proofs.YtflmejcojfnknabDoor.Fp (Ins)
open Go.Proofs.YtflmejcojfnknabDoor.Fw (Prg prg_in)
section
variable {H : Type} {enc : TypeId × Value → H} {w : World} {base : Nat} {sp : Nat → Bool} {held : Bool}
set_option maxRecDepth 100000 in
/-- a task that came in by value -/
theorem task_of {r : Reach} {b0 : Nat} {v : Value} {d : DataW H} {pl : List MemPlace} (hv : Value.okWide Tryd.prog w r b0 52 v) (h : DataW.Trod enc Tryd.prog w base sp held 52 v d pl) :
    ∃ (ak ap ar ao ad aw : Int) (A : Option Addr) (n ca : Nat) (p : List Ins), v = .agg #[.int .i64 ak, .int .i64 ap, .int .i64 ar, .int .i64 ao, .int .i64 ad, .int .i64 aw, .slice A n ca] ∧ p.length = n ∧ Prg w A p := by
  obtain ⟨cs, rfl, hsz⟩ := okWide_struct Tryd.underlying52 hv
  obtain ⟨fuel, hf⟩ := h
  have hc : (Value.agg cs).cells.toList = cs.toList := by simp [Value.cells]
  rw [hc] at hf
  have hl : cs.toList.length = 7 := by
    have h7 : Tryd.prog.cellsOf 52 = 7 := by kernel_rfl
    exact hsz.trans h7
  obtain ⟨z0, e0, w0⟩ := On.int_leaf (n := 6) (i := 0) (u := 3) hf (by kernel_rfl) Tryd.underlying3
  obtain ⟨z1, e1, w1⟩ := On.int_leaf (n := 6) (i := 1) (u := 3) hf (by kernel_rfl) Tryd.underlying3
  obtain ⟨z2, e2, w2⟩ := On.int_leaf (n := 6) (i := 2) (u := 3) hf (by kernel_rfl) Tryd.underlying3
  obtain ⟨z3, e3, w3⟩ := On.int_leaf (n := 6) (i := 3) (u := 3) hf (by kernel_rfl) Tryd.underlying3
  obtain ⟨z4, e4, w4⟩ := On.int_leaf (n := 6) (i := 4) (u := 3) hf (by kernel_rfl) Tryd.underlying3
  obtain ⟨z5, e5, w5⟩ := On.int_leaf (n := 6) (i := 5) (u := 3) hf (by kernel_rfl) Tryd.underlying3
  obtain ⟨A, len, cap, dd, pp, e6, w6⟩ := On.slice_leaf (n := 6) (i := 6) (u := 27) hf (by kernel_rfl) Tryd.underlying27
  obtain ⟨rows, hr, hrl, _⟩ := Fl.rows_of Tryd.underlying27 (show Fl.kinds Tryd.prog 6 40 = some [.i64, .i64, .i64, .i64, .u32] by kernel_rfl) (by decide) w6
  obtain ⟨p, hp, hP⟩ := prg_in hr
  refine ⟨z0, z1, z2, z3, z4, z5, A, len, cap, p, ?_, hp.trans hrl, hP⟩
  congr 1
  apply Array.ext'
  apply List.ext_getElem?
  intro i
  match i with
  | 0 => exact e0
  | 1 => exact e1
  | 2 => exact e2
  | 3 => exact e3
  | 4 => exact e4
  | 5 => exact e5
  | 6 => exact e6
  | k + 7 => rw [List.getElem?_eq_none (by omega), List.getElem?_eq_none (by simp)]
end
end Go.Proofs.YtflmejcojfnknabDoor.Tk
