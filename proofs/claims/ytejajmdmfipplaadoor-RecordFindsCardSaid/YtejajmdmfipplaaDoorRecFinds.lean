/-

  The walk of the law RecordFinds: it returns true whatever the records are.
-/
import Derived.Test.YtejajmdmfipplaaDoorRecRefs
import Derived.Deep.RegionHeld3
import Derived.StillTailTactics
import Derived.Test.YtejajmdmfipplaaDoorRegionOff
set_option linter.unusedSimpArgs false
set_option linter.unusedVariables false
namespace Go.Proofs.YtejajmdmfipplaaDoor.Rc
open Go.ChangeShapes Go.WideShapes Go.ChangeAt Go.RowKit Ws

theorem Recs.drewN {w : World} {A : Option Addr} {l : List (List Int)} (h : Recs w A l) (q : Nat) : Recs (w.drewN q) A l := h.same ((Same.refl w).drewN q)

set_option maxRecDepth 100000 in
set_option maxHeartbeats 1000000 in
theorem finds_out (A C : Option Addr) (n c m d : Nat) (l : List (List Int)) (w : World) (hn : l.length = n) (hl : Recs w A l) (hb : ∀ x ∈ l, x.length ≤ 9223372036854775807) (h : fewB l = false ∨ 60 < m) :
    Calls Tryd.prog 5 #[.slice A n c, .slice C m d] w fun e w' => e = .returned (.bool true) ∧ Same w w' := by
  cases hf : fewB l
  · have HF := Lib.hid hf
    clear hf h
    go_enter Tryd.func5, Tryd.ntmps5
    go_wp2_with fail
    refine (few_any A n c l _ hn hl hb).mono ?_
    rintro e w1 ⟨rfl, rfl⟩
    rw [HF.out]
    go_wp2_with fail
    refine (rawake _).mono ?_
    rintro e w2 ⟨rfl, s2⟩
    go_wp2_with fail
    go_ret
    exact ⟨rfl, s2⟩
  · have HF := Lib.hid hf
    have h6 : (60 : Int) < (m : Int) := by rcases h with h | h; (rw [h] at hf; cases hf); omega
    have h7 : decide ((60 : Int) < (m : Int)) = true := decide_eq_true h6
    clear hf h
    go_enter Tryd.func5, Tryd.ntmps5
    go_wp2_with fail
    refine (few_any A n c l _ hn hl hb).mono ?_
    rintro e w1 ⟨rfl, rfl⟩
    rw [HF.out]
    go_wp2_with fail
    refine (rawake _).mono ?_
    rintro e w2 ⟨rfl, s2⟩
    go_wp2_with fail
    go_ret
    exact ⟨rfl, s2⟩

def Agree (l : List (List Int)) (r : List Int) (want got : Int) (ok : Bool) : Prop := (∃ i : Nat, want = i ∧ got = i ∧ ok = true) ∨ (want = -1 ∧ got = 0 ∧ ok = false)
theorem agree_of {w w2 : World} {l : List (List Int)} {r : List Int} {e e2 : Ending} {w' w3 : World} (h : RFindPost w l r e w') (k : FindPost w2 l r e2 w3) :
    ∃ want got ok, e = .returned (.int .i64 want) ∧ e2 = .returned (.tuple #[.int .i64 got, .bool ok]) ∧ Agree l r want got ok ∧ (∃ q, w' = w.drewN q) ∧ ∃ q, w3 = w2.drewN q := by
  obtain ⟨h1, h2⟩ := h
  obtain ⟨k1, k2⟩ := k
  rcases h1 with ⟨i, hi, rfl⟩ | ⟨hni, rfl⟩
  · rcases k1 with ⟨j, hj, rfl⟩ | ⟨hnj, rfl⟩
    · obtain rfl := found_uniq hi hj
      exact ⟨i, i, true, rfl, rfl, .inl ⟨i, rfl, rfl, rfl⟩, h2, k2⟩
    · exact absurd (List.mem_of_getElem? hi.1) hnj
  · rcases k1 with ⟨j, hj, rfl⟩ | ⟨hnj, rfl⟩
    · exact absurd (List.mem_of_getElem? hj.1) hni
    · exact ⟨-1, 0, false, rfl, rfl, .inr ⟨rfl, rfl, rfl⟩, h2, k2⟩

set_option maxRecDepth 100000 in
set_option maxHeartbeats 4000000 in
theorem finds_zero (A C : Option Addr) (n c m d : Nat) (l : List (List Int)) (r : List Int) (w : World) (hn : l.length = n) (hm : r.length = m) (hC : C = none → m = 0) (hl : Recs w A l) (hr : Row w C (w32 r)) (hf : fewB l = true) (h60 : m ≤ 60) (hn0 : n = 0) :
    Calls Tryd.prog 5 #[.slice A n c, .slice C m d] w fun e w' => e = .returned (.bool true) ∧ Same w w' := by
  subst hn0
  have hs : (0 : Nat) ≤ 60 ∧ ∀ x ∈ l, x.length ≤ 60 := by
    unfold fewB at hf
    rw [Bool.and_eq_true, decide_eq_true_eq, List.all_eq_true] at hf
    exact ⟨hn ▸ hf.1, fun x hx => of_decide_eq_true (hf.2 x hx)⟩
  obtain ⟨hn60, hs⟩ := hs
  have hs2 : ∀ x ∈ l, x.length ≤ 4294967296 := fun x hx => by have := hs x hx; omega
  have hs3 : ∀ x ∈ l, x.length ≤ 9223372036854775807 := fun x hx => by have := hs x hx; omega
  have HF := Lib.hid hf
  have HN := Lib.hid hn
  have HM := Lib.hid hm
  have HC := Lib.hid hC
  have HS2 := Lib.hid hs2
  have HS3 := Lib.hid hs3
  have HL := Lib.hid hl
  have HR := Lib.hid hr
  have h6 : ¬ (60 : Int) < (m : Int) := by omega
  have h7 : decide ((60 : Int) < (m : Int)) = false := by simp; omega
  clear hf hn hm hC hs hs2 hs3 hl hr
  obtain ⟨mx, hmx⟩ : ∃ mx, mx = mixB l r := ⟨_, rfl⟩
  have HMX := Lib.hid hmx
  clear hmx
  go_enter Tryd.func5, Tryd.ntmps5
  go_wp2_with fail
  refine (few_any A 0 c l _ HN.out HL.out HS3.out).mono ?_
  rintro e w1 ⟨rfl, rfl⟩
  rw [HF.out]
  go_wp2_with fail
  refine (rfind_any A C 0 c m d l r w HN.out HM.out (by omega) (by omega) HS2.out HL.out HR.out).mono ?_
  intro e1 w1 hp1
  have H1 := Lib.hid hp1
  obtain ⟨want, he1⟩ : ∃ want, e1 = .returned (.int .i64 want) := by
    rcases hp1.1 with ⟨i, _, h⟩ | ⟨_, h⟩
    · exact ⟨_, h⟩
    · exact ⟨_, h⟩
  obtain ⟨q1, rfl⟩ := hp1.2
  subst he1
  clear hp1
  go_wp2_with fail
  refine (find_any A C 0 c m d l r (w.drewN q1) HN.out HM.out (by omega) (by omega) HS2.out (HL.out.drewN q1) (HR.out.drewN q1)).mono ?_
  intro e2 w2 hp2
  obtain ⟨want', got, ok, g1, rfl, hag, _, q2, rfl⟩ := agree_of H1.out hp2
  injection g1 with g1
  injection g1 with _ g1
  subst g1
  clear hp2 H1
  have HAG := Lib.hid hag
  clear hag
  have t2 : Same w ((w.drewN q1).drewN q2) := ((Same.refl w).drewN q1).drewN q2
  go_wp2_with fail
  generalize hw2 : World.drewN w (q1 + q2) = w2
  have t2 : Same w w2 := by rw [← hw2]; exact (Same.refl w).drewN _
  clear hw2
  refine (copy_any C m d r w2 (HR.out.same t2) HM.out (by omega) HC.out).mono ?_
  rintro e w3 ⟨A3, c3, rfl, r3, s3⟩
  have t3 := t2.trans s3
  clear s3
  have HR3 := Lib.hid r3
  clear r3
  rcases HAG.out with ⟨i, rfl, rfl, rfl⟩ | ⟨rfl, rfl, rfl⟩
  · have hii : ((i : Int) != (i : Int)) = false := by simp
    have hi0 : (0 : Int) ≤ (i : Int) := by omega
    have hi1 : decide ((0 : Int) ≤ (i : Int)) = true := decide_eq_true hi0
    have hbb : (mx != mx) = false := by simp
    go_wp2_with fail
    refine (mixed_any A C 0 c m d l r w3 HN.out HM.out (by omega) (by omega) HS2.out (HL.out.same t3) (HR.out.same t3)).mono ?_
    rintro e w4 ⟨rfl, q4, rfl⟩
    rw [← HMX.out]
    go_wp2_with fail
    refine (rmixed_any A C 0 c m d l r _ HN.out HM.out (by omega) (by omega) HS2.out ((HL.out.same t3).drewN q4) ((HR.out.same t3).drewN q4)).mono ?_
    rintro e w4 ⟨rfl, q5, rfl⟩
    rw [← HMX.out]
    go_wp2_with fail
    generalize hw5 : World.drewN w3 (q4 + q5) = w5
    have s35 : Same w3 w5 := by rw [← hw5]; exact (Same.refl w3).drewN _
    have t5 := t3.trans s35
    clear hw5
    refine (words_any A3 C m m c3 d r r w5 HM.out HM.out (HR3.out.same s35) (HR.out.same t5) (by omega) (by omega)).mono ?_
    rintro e w6 ⟨rfl, q6, rfl⟩
    rw [decide_eq_true rfl]
    have t6 := t5.drewN q6
    clear s35
    go_wp2_with fail
    generalize hw7 : World.drewN w5 q6 = w7 at t6 ⊢
    refine wp_region_held_drew (S := fun w' => Same w w') (by kernel_rfl) ?_ (fun hHeld => ?_)
    · exact t6.drew
    first
      | (refine Ro.take_off (i := 0) rfl (by kernel_rfl) (by kernel_rfl) (by kernel_rfl) (fun _ _ _ h => h) (by rfl) (by assumption) ?_)
      | (refine Ro.take_on (i := 0) (v := ?_) rfl (by kernel_rfl) (by kernel_rfl) (by kernel_rfl) (fun _ _ _ h => h) (by rfl) (by assumption) ?_ ?_; rotate_left; · (intro wS hSw; (try dsimp only at hSw); go_simp; try with_reducible rfl))
    try simp only [Act.put, List.setIfInBounds_toArray, List.set_cons_zero, List.set_cons_succ]
    first
      | (refine Ro.take_off (i := 1) rfl (by kernel_rfl) (by kernel_rfl) (by kernel_rfl) (fun _ _ _ h => h) (by rfl) (by assumption) ?_)
      | (refine Ro.take_on (i := 1) (v := ?_) rfl (by kernel_rfl) (by kernel_rfl) (by kernel_rfl) (fun _ _ _ h => h) (by rfl) (by assumption) ?_ ?_; rotate_left; · (intro wS hSw; (try dsimp only at hSw); go_simp; try with_reducible rfl))
    try simp only [Act.put, List.setIfInBounds_toArray, List.set_cons_zero, List.set_cons_succ]
    first
      | (refine Ro.take_off (i := 2) rfl (by kernel_rfl) (by kernel_rfl) (by kernel_rfl) (fun _ _ _ h => h) (by rfl) (by assumption) ?_)
      | (refine Ro.take_on (i := 2) (v := ?_) rfl (by kernel_rfl) (by kernel_rfl) (by kernel_rfl) (fun _ _ _ h => h) (by rfl) (by assumption) ?_ ?_; rotate_left; · (intro wS hSw; (try dsimp only at hSw); go_simp; try with_reducible rfl))
    try simp only [Act.put, List.setIfInBounds_toArray, List.set_cons_zero, List.set_cons_succ]
    first
      | (refine Ro.take_off (i := 3) rfl (by kernel_rfl) (by kernel_rfl) (by kernel_rfl) (fun _ _ _ h => h) (by rfl) (by assumption) ?_)
      | (refine Ro.take_on (i := 3) (v := ?_) rfl (by kernel_rfl) (by kernel_rfl) (by kernel_rfl) (fun _ _ _ h => h) (by rfl) (by assumption) ?_ ?_; rotate_left; · (intro wS hSw; (try dsimp only at hSw); go_simp; try with_reducible rfl))
    try simp only [Act.put, List.setIfInBounds_toArray, List.set_cons_zero, List.set_cons_succ]
    first
      | (refine Ro.take_off (i := 4) rfl (by kernel_rfl) (by kernel_rfl) (by kernel_rfl) (fun _ _ _ h => h) (by rfl) (by assumption) ?_)
      | (refine Ro.take_on (i := 4) (v := ?_) rfl (by kernel_rfl) (by kernel_rfl) (by kernel_rfl) (fun _ _ _ h => h) (by rfl) (by assumption) ?_ ?_; rotate_left; · (intro wS hSw; (try dsimp only at hSw); go_simp; try with_reducible rfl))
    try simp only [Act.put, List.setIfInBounds_toArray, List.set_cons_zero, List.set_cons_succ]
    first
      | (refine Ro.take_off (i := 5) rfl (by kernel_rfl) (by kernel_rfl) (by kernel_rfl) (fun _ _ _ h => h) (by rfl) (by assumption) ?_)
      | (refine Ro.take_on (i := 5) (v := ?_) rfl (by kernel_rfl) (by kernel_rfl) (by kernel_rfl) (fun _ _ _ h => h) (by rfl) (by assumption) ?_ ?_; rotate_left; · (intro wS hSw; (try dsimp only at hSw); go_simp; try with_reducible rfl))
    try simp only [Act.put, List.setIfInBounds_toArray, List.set_cons_zero, List.set_cons_succ]
    first
      | (refine Ro.take_off (i := 6) rfl (by kernel_rfl) (by kernel_rfl) (by kernel_rfl) (fun _ _ _ h => h) (by rfl) (by assumption) ?_)
      | (refine Ro.take_on (i := 6) (v := ?_) rfl (by kernel_rfl) (by kernel_rfl) (by kernel_rfl) (fun _ _ _ h => h) (by rfl) (by assumption) ?_ ?_; rotate_left; · (intro wS hSw; (try dsimp only at hSw); go_simp; try with_reducible rfl))
    try simp only [Act.put, List.setIfInBounds_toArray, List.set_cons_zero, List.set_cons_succ]
    first
      | (refine Ro.take_off (i := 7) rfl (by kernel_rfl) (by kernel_rfl) (by kernel_rfl) (fun _ _ _ h => h) (by rfl) (by assumption) ?_)
      | (refine Ro.take_on (i := 7) (v := ?_) rfl (by kernel_rfl) (by kernel_rfl) (by kernel_rfl) (fun _ _ _ h => h) (by rfl) (by assumption) ?_ ?_; rotate_left; · (intro wS hSw; (try dsimp only at hSw); go_simp; try with_reducible rfl))
    try simp only [Act.put, List.setIfInBounds_toArray, List.set_cons_zero, List.set_cons_succ]
    first
      | (refine Ro.take_off (i := 8) rfl (by kernel_rfl) (by kernel_rfl) (by kernel_rfl) (fun _ _ _ h => h) (by rfl) (by assumption) ?_)
      | (refine Ro.take_on (i := 8) (v := ?_) rfl (by kernel_rfl) (by kernel_rfl) (by kernel_rfl) (fun _ _ _ h => h) (by rfl) (by assumption) ?_ ?_; rotate_left; · (intro wS hSw; (try dsimp only at hSw); go_simp; try with_reducible rfl))
    try simp only [Act.put, List.setIfInBounds_toArray, List.set_cons_zero, List.set_cons_succ]
    first
      | (refine Ro.take_off (i := 9) rfl (by kernel_rfl) (by kernel_rfl) (by kernel_rfl) (fun _ _ _ h => h) (by rfl) (by assumption) ?_)
      | (refine Ro.take_on (i := 9) (v := ?_) rfl (by kernel_rfl) (by kernel_rfl) (by kernel_rfl) (fun _ _ _ h => h) (by rfl) (by assumption) ?_ ?_; rotate_left; · (intro wS hSw; (try dsimp only at hSw); go_simp; try with_reducible rfl))
    try simp only [Act.put, List.setIfInBounds_toArray, List.set_cons_zero, List.set_cons_succ]
    first
      | (refine Ro.take_off (i := 10) rfl (by kernel_rfl) (by kernel_rfl) (by kernel_rfl) (fun _ _ _ h => h) (by rfl) (by assumption) ?_)
      | (refine Ro.take_on (i := 10) (v := ?_) rfl (by kernel_rfl) (by kernel_rfl) (by kernel_rfl) (fun _ _ _ h => h) (by rfl) (by assumption) ?_ ?_; rotate_left; · (intro wS hSw; (try dsimp only at hSw); go_simp; try with_reducible rfl))
    try simp only [Act.put, List.setIfInBounds_toArray, List.set_cons_zero, List.set_cons_succ]
    first
      | (refine Ro.take_off (i := 11) rfl (by kernel_rfl) (by kernel_rfl) (by kernel_rfl) (fun _ _ _ h => h) (by rfl) (by assumption) ?_)
      | (refine Ro.take_on (i := 11) (v := ?_) rfl (by kernel_rfl) (by kernel_rfl) (by kernel_rfl) (fun _ _ _ h => h) (by rfl) (by assumption) ?_ ?_; rotate_left; · (intro wS hSw; (try dsimp only at hSw); go_simp; try with_reducible rfl))
    try simp only [Act.put, List.setIfInBounds_toArray, List.set_cons_zero, List.set_cons_succ]
    first
      | (refine Ro.take_off (i := 12) rfl (by kernel_rfl) (by kernel_rfl) (by kernel_rfl) (fun _ _ _ h => h) (by rfl) (by assumption) ?_)
      | (refine Ro.take_on (i := 12) (v := ?_) rfl (by kernel_rfl) (by kernel_rfl) (by kernel_rfl) (fun _ _ _ h => h) (by rfl) (by assumption) ?_ ?_; rotate_left; · (intro wS hSw; (try dsimp only at hSw); go_simp; try with_reducible rfl))
    try simp only [Act.put, List.setIfInBounds_toArray, List.set_cons_zero, List.set_cons_succ]
    first
      | (refine Ro.take_off (i := 13) rfl (by kernel_rfl) (by kernel_rfl) (by kernel_rfl) (fun _ _ _ h => h) (by rfl) (by assumption) ?_)
      | (refine Ro.take_on (i := 13) (v := ?_) rfl (by kernel_rfl) (by kernel_rfl) (by kernel_rfl) (fun _ _ _ h => h) (by rfl) (by assumption) ?_ ?_; rotate_left; · (intro wS hSw; (try dsimp only at hSw); go_simp; try with_reducible rfl))
    try simp only [Act.put, List.setIfInBounds_toArray, List.set_cons_zero, List.set_cons_succ]
    first
      | (refine Ro.take_off (i := 14) rfl (by kernel_rfl) (by kernel_rfl) (by kernel_rfl) (fun _ _ _ h => h) (by rfl) (by assumption) ?_)
      | (refine Ro.take_on (i := 14) (v := ?_) rfl (by kernel_rfl) (by kernel_rfl) (by kernel_rfl) (fun _ _ _ h => h) (by rfl) (by assumption) ?_ ?_; rotate_left; · (intro wS hSw; (try dsimp only at hSw); go_simp; try with_reducible rfl))
    try simp only [Act.put, List.setIfInBounds_toArray, List.set_cons_zero, List.set_cons_succ]
    first
      | (refine Ro.take_off (i := 15) rfl (by kernel_rfl) (by kernel_rfl) (by kernel_rfl) (fun _ _ _ h => h) (by rfl) (by assumption) ?_)
      | (refine Ro.take_on (i := 15) (v := ?_) rfl (by kernel_rfl) (by kernel_rfl) (by kernel_rfl) (fun _ _ _ h => h) (by rfl) (by assumption) ?_ ?_; rotate_left; · (intro wS hSw; (try dsimp only at hSw); go_simp; try with_reducible rfl))
    try simp only [Act.put, List.setIfInBounds_toArray, List.set_cons_zero, List.set_cons_succ]
    first
      | (refine Ro.take_off (i := 16) rfl (by kernel_rfl) (by kernel_rfl) (by kernel_rfl) (fun _ _ _ h => h) (by rfl) (by assumption) ?_)
      | (refine Ro.take_on (i := 16) (v := ?_) rfl (by kernel_rfl) (by kernel_rfl) (by kernel_rfl) (fun _ _ _ h => h) (by rfl) (by assumption) ?_ ?_; rotate_left; · (intro wS hSw; (try dsimp only at hSw); go_simp; try with_reducible rfl))
    try simp only [Act.put, List.setIfInBounds_toArray, List.set_cons_zero, List.set_cons_succ]
    first
      | (refine Ro.take_off (i := 17) rfl (by kernel_rfl) (by kernel_rfl) (by kernel_rfl) (fun _ _ _ h => h) (by rfl) (by assumption) ?_)
      | (refine Ro.one_on (i := 17) rfl (by kernel_rfl) (by rfl) (fun K hK => ?_); go_simp; go_at_call 24; (with_reducible refine (rawake _).mono ?_); rintro e w' ⟨rfl, hs9⟩; (first | refine hK.out _ _ ?_ (fun hNew => ?_) | (go_wp2_with fail; refine hK.out _ _ ?_ (fun hNew => ?_))); (· (exact Same.trans hHeld hs9)); clear hK K hHeld; have hHeld := hNew; clear hNew)
    try simp only [Act.put, List.setIfInBounds_toArray, List.set_cons_zero, List.set_cons_succ]
    first
      | (refine Ro.take_off (i := 18) rfl (by kernel_rfl) (by kernel_rfl) (by kernel_rfl) (fun _ _ _ h => h) (by rfl) (by assumption) ?_)
      | (refine Ro.take_on (i := 18) (v := ?_) rfl (by kernel_rfl) (by kernel_rfl) (by kernel_rfl) (fun _ _ _ h => h) (by rfl) (by assumption) ?_ ?_; rotate_left; · (intro wS hSw; (try dsimp only at hSw); go_simp; try with_reducible rfl))
    try simp only [Act.put, List.setIfInBounds_toArray, List.set_cons_zero, List.set_cons_succ]
    first
      | (refine Ro.take_off (i := 19) rfl (by kernel_rfl) (by kernel_rfl) (by kernel_rfl) (fun _ _ _ h => h) (by rfl) (by assumption) ?_)
      | (refine Ro.take_on (i := 19) (v := ?_) rfl (by kernel_rfl) (by kernel_rfl) (by kernel_rfl) (fun _ _ _ h => h) (by rfl) (by assumption) ?_ ?_; rotate_left; · (intro wS hSw; (try dsimp only at hSw); go_simp; try with_reducible rfl))
    try simp only [Act.put, List.setIfInBounds_toArray, List.set_cons_zero, List.set_cons_succ]
    refine wpAnyH_done (by kernel_rfl) ?_ _
    have x9 : Same w _ := hHeld
    clear hHeld
    go_wp2
    go_ret
    exact ⟨rfl, x9⟩
  · have hbb : (mx != mx) = false := by simp
    go_wp2_with fail
    refine (mixed_any A C 0 c m d l r w3 HN.out HM.out (by omega) (by omega) HS2.out (HL.out.same t3) (HR.out.same t3)).mono ?_
    rintro e w4 ⟨rfl, q4, rfl⟩
    rw [← HMX.out]
    go_wp2_with fail
    refine (rmixed_any A C 0 c m d l r _ HN.out HM.out (by omega) (by omega) HS2.out ((HL.out.same t3).drewN q4) ((HR.out.same t3).drewN q4)).mono ?_
    rintro e w4 ⟨rfl, q5, rfl⟩
    rw [← HMX.out]
    go_wp2_with fail
    generalize hw5 : World.drewN w3 (q4 + q5) = w5
    have s35 : Same w3 w5 := by rw [← hw5]; exact (Same.refl w3).drewN _
    have t5 := t3.trans s35
    clear hw5
    refine (words_any A3 C m m c3 d r r w5 HM.out HM.out (HR3.out.same s35) (HR.out.same t5) (by omega) (by omega)).mono ?_
    rintro e w6 ⟨rfl, q6, rfl⟩
    rw [decide_eq_true rfl]
    have t6 := t5.drewN q6
    clear s35
    go_wp2_with fail
    generalize hw7 : World.drewN w5 q6 = w7 at t6 ⊢
    refine wp_region_held_drew (S := fun w' => Same w w') (by kernel_rfl) ?_ (fun hHeld => ?_)
    · exact t6.drew
    first
      | (refine Ro.take_off (i := 0) rfl (by kernel_rfl) (by kernel_rfl) (by kernel_rfl) (fun _ _ _ h => h) (by rfl) (by assumption) ?_)
      | (refine Ro.take_on (i := 0) (v := ?_) rfl (by kernel_rfl) (by kernel_rfl) (by kernel_rfl) (fun _ _ _ h => h) (by rfl) (by assumption) ?_ ?_; rotate_left; · (intro wS hSw; (try dsimp only at hSw); go_simp; try with_reducible rfl))
    try simp only [Act.put, List.setIfInBounds_toArray, List.set_cons_zero, List.set_cons_succ]
    first
      | (refine Ro.take_off (i := 1) rfl (by kernel_rfl) (by kernel_rfl) (by kernel_rfl) (fun _ _ _ h => h) (by rfl) (by assumption) ?_)
      | (refine Ro.take_on (i := 1) (v := ?_) rfl (by kernel_rfl) (by kernel_rfl) (by kernel_rfl) (fun _ _ _ h => h) (by rfl) (by assumption) ?_ ?_; rotate_left; · (intro wS hSw; (try dsimp only at hSw); go_simp; try with_reducible rfl))
    try simp only [Act.put, List.setIfInBounds_toArray, List.set_cons_zero, List.set_cons_succ]
    first
      | (refine Ro.take_off (i := 2) rfl (by kernel_rfl) (by kernel_rfl) (by kernel_rfl) (fun _ _ _ h => h) (by rfl) (by assumption) ?_)
      | (refine Ro.take_on (i := 2) (v := ?_) rfl (by kernel_rfl) (by kernel_rfl) (by kernel_rfl) (fun _ _ _ h => h) (by rfl) (by assumption) ?_ ?_; rotate_left; · (intro wS hSw; (try dsimp only at hSw); go_simp; try with_reducible rfl))
    try simp only [Act.put, List.setIfInBounds_toArray, List.set_cons_zero, List.set_cons_succ]
    first
      | (refine Ro.take_off (i := 3) rfl (by kernel_rfl) (by kernel_rfl) (by kernel_rfl) (fun _ _ _ h => h) (by rfl) (by assumption) ?_)
      | (refine Ro.take_on (i := 3) (v := ?_) rfl (by kernel_rfl) (by kernel_rfl) (by kernel_rfl) (fun _ _ _ h => h) (by rfl) (by assumption) ?_ ?_; rotate_left; · (intro wS hSw; (try dsimp only at hSw); go_simp; try with_reducible rfl))
    try simp only [Act.put, List.setIfInBounds_toArray, List.set_cons_zero, List.set_cons_succ]
    first
      | (refine Ro.take_off (i := 4) rfl (by kernel_rfl) (by kernel_rfl) (by kernel_rfl) (fun _ _ _ h => h) (by rfl) (by assumption) ?_)
      | (refine Ro.take_on (i := 4) (v := ?_) rfl (by kernel_rfl) (by kernel_rfl) (by kernel_rfl) (fun _ _ _ h => h) (by rfl) (by assumption) ?_ ?_; rotate_left; · (intro wS hSw; (try dsimp only at hSw); go_simp; try with_reducible rfl))
    try simp only [Act.put, List.setIfInBounds_toArray, List.set_cons_zero, List.set_cons_succ]
    first
      | (refine Ro.take_off (i := 5) rfl (by kernel_rfl) (by kernel_rfl) (by kernel_rfl) (fun _ _ _ h => h) (by rfl) (by assumption) ?_)
      | (refine Ro.take_on (i := 5) (v := ?_) rfl (by kernel_rfl) (by kernel_rfl) (by kernel_rfl) (fun _ _ _ h => h) (by rfl) (by assumption) ?_ ?_; rotate_left; · (intro wS hSw; (try dsimp only at hSw); go_simp; try with_reducible rfl))
    try simp only [Act.put, List.setIfInBounds_toArray, List.set_cons_zero, List.set_cons_succ]
    first
      | (refine Ro.take_off (i := 6) rfl (by kernel_rfl) (by kernel_rfl) (by kernel_rfl) (fun _ _ _ h => h) (by rfl) (by assumption) ?_)
      | (refine Ro.take_on (i := 6) (v := ?_) rfl (by kernel_rfl) (by kernel_rfl) (by kernel_rfl) (fun _ _ _ h => h) (by rfl) (by assumption) ?_ ?_; rotate_left; · (intro wS hSw; (try dsimp only at hSw); go_simp; try with_reducible rfl))
    try simp only [Act.put, List.setIfInBounds_toArray, List.set_cons_zero, List.set_cons_succ]
    first
      | (refine Ro.take_off (i := 7) rfl (by kernel_rfl) (by kernel_rfl) (by kernel_rfl) (fun _ _ _ h => h) (by rfl) (by assumption) ?_)
      | (refine Ro.take_on (i := 7) (v := ?_) rfl (by kernel_rfl) (by kernel_rfl) (by kernel_rfl) (fun _ _ _ h => h) (by rfl) (by assumption) ?_ ?_; rotate_left; · (intro wS hSw; (try dsimp only at hSw); go_simp; try with_reducible rfl))
    try simp only [Act.put, List.setIfInBounds_toArray, List.set_cons_zero, List.set_cons_succ]
    first
      | (refine Ro.take_off (i := 8) rfl (by kernel_rfl) (by kernel_rfl) (by kernel_rfl) (fun _ _ _ h => h) (by rfl) (by assumption) ?_)
      | (refine Ro.take_on (i := 8) (v := ?_) rfl (by kernel_rfl) (by kernel_rfl) (by kernel_rfl) (fun _ _ _ h => h) (by rfl) (by assumption) ?_ ?_; rotate_left; · (intro wS hSw; (try dsimp only at hSw); go_simp; try with_reducible rfl))
    try simp only [Act.put, List.setIfInBounds_toArray, List.set_cons_zero, List.set_cons_succ]
    first
      | (refine Ro.take_off (i := 9) rfl (by kernel_rfl) (by kernel_rfl) (by kernel_rfl) (fun _ _ _ h => h) (by rfl) (by assumption) ?_)
      | (refine Ro.take_on (i := 9) (v := ?_) rfl (by kernel_rfl) (by kernel_rfl) (by kernel_rfl) (fun _ _ _ h => h) (by rfl) (by assumption) ?_ ?_; rotate_left; · (intro wS hSw; (try dsimp only at hSw); go_simp; try with_reducible rfl))
    try simp only [Act.put, List.setIfInBounds_toArray, List.set_cons_zero, List.set_cons_succ]
    first
      | (refine Ro.take_off (i := 10) rfl (by kernel_rfl) (by kernel_rfl) (by kernel_rfl) (fun _ _ _ h => h) (by rfl) (by assumption) ?_)
      | (refine Ro.take_on (i := 10) (v := ?_) rfl (by kernel_rfl) (by kernel_rfl) (by kernel_rfl) (fun _ _ _ h => h) (by rfl) (by assumption) ?_ ?_; rotate_left; · (intro wS hSw; (try dsimp only at hSw); go_simp; try with_reducible rfl))
    try simp only [Act.put, List.setIfInBounds_toArray, List.set_cons_zero, List.set_cons_succ]
    first
      | (refine Ro.take_off (i := 11) rfl (by kernel_rfl) (by kernel_rfl) (by kernel_rfl) (fun _ _ _ h => h) (by rfl) (by assumption) ?_)
      | (refine Ro.take_on (i := 11) (v := ?_) rfl (by kernel_rfl) (by kernel_rfl) (by kernel_rfl) (fun _ _ _ h => h) (by rfl) (by assumption) ?_ ?_; rotate_left; · (intro wS hSw; (try dsimp only at hSw); go_simp; try with_reducible rfl))
    try simp only [Act.put, List.setIfInBounds_toArray, List.set_cons_zero, List.set_cons_succ]
    first
      | (refine Ro.take_off (i := 12) rfl (by kernel_rfl) (by kernel_rfl) (by kernel_rfl) (fun _ _ _ h => h) (by rfl) (by assumption) ?_)
      | (refine Ro.take_on (i := 12) (v := ?_) rfl (by kernel_rfl) (by kernel_rfl) (by kernel_rfl) (fun _ _ _ h => h) (by rfl) (by assumption) ?_ ?_; rotate_left; · (intro wS hSw; (try dsimp only at hSw); go_simp; try with_reducible rfl))
    try simp only [Act.put, List.setIfInBounds_toArray, List.set_cons_zero, List.set_cons_succ]
    first
      | (refine Ro.take_off (i := 13) rfl (by kernel_rfl) (by kernel_rfl) (by kernel_rfl) (fun _ _ _ h => h) (by rfl) (by assumption) ?_)
      | (refine Ro.take_on (i := 13) (v := ?_) rfl (by kernel_rfl) (by kernel_rfl) (by kernel_rfl) (fun _ _ _ h => h) (by rfl) (by assumption) ?_ ?_; rotate_left; · (intro wS hSw; (try dsimp only at hSw); go_simp; try with_reducible rfl))
    try simp only [Act.put, List.setIfInBounds_toArray, List.set_cons_zero, List.set_cons_succ]
    first
      | (refine Ro.take_off (i := 14) rfl (by kernel_rfl) (by kernel_rfl) (by kernel_rfl) (fun _ _ _ h => h) (by rfl) (by assumption) ?_)
      | (refine Ro.take_on (i := 14) (v := ?_) rfl (by kernel_rfl) (by kernel_rfl) (by kernel_rfl) (fun _ _ _ h => h) (by rfl) (by assumption) ?_ ?_; rotate_left; · (intro wS hSw; (try dsimp only at hSw); go_simp; try with_reducible rfl))
    try simp only [Act.put, List.setIfInBounds_toArray, List.set_cons_zero, List.set_cons_succ]
    first
      | (refine Ro.take_off (i := 15) rfl (by kernel_rfl) (by kernel_rfl) (by kernel_rfl) (fun _ _ _ h => h) (by rfl) (by assumption) ?_)
      | (refine Ro.take_on (i := 15) (v := ?_) rfl (by kernel_rfl) (by kernel_rfl) (by kernel_rfl) (fun _ _ _ h => h) (by rfl) (by assumption) ?_ ?_; rotate_left; · (intro wS hSw; (try dsimp only at hSw); go_simp; try with_reducible rfl))
    try simp only [Act.put, List.setIfInBounds_toArray, List.set_cons_zero, List.set_cons_succ]
    first
      | (refine Ro.take_off (i := 16) rfl (by kernel_rfl) (by kernel_rfl) (by kernel_rfl) (fun _ _ _ h => h) (by rfl) (by assumption) ?_)
      | (refine Ro.take_on (i := 16) (v := ?_) rfl (by kernel_rfl) (by kernel_rfl) (by kernel_rfl) (fun _ _ _ h => h) (by rfl) (by assumption) ?_ ?_; rotate_left; · (intro wS hSw; (try dsimp only at hSw); go_simp; try with_reducible rfl))
    try simp only [Act.put, List.setIfInBounds_toArray, List.set_cons_zero, List.set_cons_succ]
    first
      | (refine Ro.take_off (i := 17) rfl (by kernel_rfl) (by kernel_rfl) (by kernel_rfl) (fun _ _ _ h => h) (by rfl) (by assumption) ?_)
      | (refine Ro.one_on (i := 17) rfl (by kernel_rfl) (by rfl) (fun K hK => ?_); go_simp; go_at_call 24; (with_reducible refine (rawake _).mono ?_); rintro e w' ⟨rfl, hs9⟩; (first | refine hK.out _ _ ?_ (fun hNew => ?_) | (go_wp2_with fail; refine hK.out _ _ ?_ (fun hNew => ?_))); (· (exact Same.trans hHeld hs9)); clear hK K hHeld; have hHeld := hNew; clear hNew)
    try simp only [Act.put, List.setIfInBounds_toArray, List.set_cons_zero, List.set_cons_succ]
    first
      | (refine Ro.take_off (i := 18) rfl (by kernel_rfl) (by kernel_rfl) (by kernel_rfl) (fun _ _ _ h => h) (by rfl) (by assumption) ?_)
      | (refine Ro.take_on (i := 18) (v := ?_) rfl (by kernel_rfl) (by kernel_rfl) (by kernel_rfl) (fun _ _ _ h => h) (by rfl) (by assumption) ?_ ?_; rotate_left; · (intro wS hSw; (try dsimp only at hSw); go_simp; try with_reducible rfl))
    try simp only [Act.put, List.setIfInBounds_toArray, List.set_cons_zero, List.set_cons_succ]
    first
      | (refine Ro.take_off (i := 19) rfl (by kernel_rfl) (by kernel_rfl) (by kernel_rfl) (fun _ _ _ h => h) (by rfl) (by assumption) ?_)
      | (refine Ro.take_on (i := 19) (v := ?_) rfl (by kernel_rfl) (by kernel_rfl) (by kernel_rfl) (fun _ _ _ h => h) (by rfl) (by assumption) ?_ ?_; rotate_left; · (intro wS hSw; (try dsimp only at hSw); go_simp; try with_reducible rfl))
    try simp only [Act.put, List.setIfInBounds_toArray, List.set_cons_zero, List.set_cons_succ]
    refine wpAnyH_done (by kernel_rfl) ?_ _
    have x9 : Same w _ := hHeld
    clear hHeld
    go_wp2
    go_ret
    exact ⟨rfl, x9⟩

set_option maxRecDepth 100000 in
set_option maxHeartbeats 4000000 in
theorem finds_pos (A C : Option Addr) (n c m d : Nat) (l : List (List Int)) (r : List Int) (w : World) (hn : l.length = n) (hm : r.length = m) (hC : C = none → m = 0) (hl : Recs w A l) (hr : Row w C (w32 r)) (hf : fewB l = true) (h60 : m ≤ 60) (hn0 : ¬ n = 0) :
    Calls Tryd.prog 5 #[.slice A n c, .slice C m d] w fun e w' => e = .returned (.bool true) ∧ Same w w' := by
  have hs : n ≤ 60 ∧ ∀ x ∈ l, x.length ≤ 60 := by
    unfold fewB at hf
    rw [Bool.and_eq_true, decide_eq_true_eq, List.all_eq_true] at hf
    exact ⟨hn ▸ hf.1, fun x hx => of_decide_eq_true (hf.2 x hx)⟩
  obtain ⟨hn60, hs⟩ := hs
  have hs2 : ∀ x ∈ l, x.length ≤ 4294967296 := fun x hx => by have := hs x hx; omega
  have hs3 : ∀ x ∈ l, x.length ≤ 9223372036854775807 := fun x hx => by have := hs x hx; omega
  have HF := Lib.hid hf
  have HN := Lib.hid hn
  have HM := Lib.hid hm
  have HC := Lib.hid hC
  have HS2 := Lib.hid hs2
  have HS3 := Lib.hid hs3
  have HL := Lib.hid hl
  have HR := Lib.hid hr
  have h6 : ¬ (60 : Int) < (m : Int) := by omega
  have h7 : decide ((60 : Int) < (m : Int)) = false := by simp; omega
  have HN0 := Lib.hid hn0
  clear hf hn hm hC hs hs2 hs3 hl hr hn0
  obtain ⟨mx, hmx⟩ : ∃ mx, mx = mixB l r := ⟨_, rfl⟩
  have HMX := Lib.hid hmx
  clear hmx
  go_enter Tryd.func5, Tryd.ntmps5
  go_wp2_with fail
  refine (few_any A n c l _ HN.out HL.out HS3.out).mono ?_
  rintro e w1 ⟨rfl, rfl⟩
  rw [HF.out]
  go_wp2_with fail
  refine (rfind_any A C n c m d l r w HN.out HM.out (by omega) (by omega) HS2.out HL.out HR.out).mono ?_
  intro e1 w1 hp1
  have H1 := Lib.hid hp1
  obtain ⟨want, he1⟩ : ∃ want, e1 = .returned (.int .i64 want) := by
    rcases hp1.1 with ⟨i, _, h⟩ | ⟨_, h⟩
    · exact ⟨_, h⟩
    · exact ⟨_, h⟩
  obtain ⟨q1, rfl⟩ := hp1.2
  subst he1
  clear hp1
  go_wp2_with fail
  refine (find_any A C n c m d l r (w.drewN q1) HN.out HM.out (by omega) (by omega) HS2.out (HL.out.drewN q1) (HR.out.drewN q1)).mono ?_
  intro e2 w2 hp2
  obtain ⟨want', got, ok, g1, rfl, hag, _, q2, rfl⟩ := agree_of H1.out hp2
  injection g1 with g1
  injection g1 with _ g1
  subst g1
  clear hp2 H1
  have HAG := Lib.hid hag
  clear hag
  have t2 : Same w ((w.drewN q1).drewN q2) := ((Same.refl w).drewN q1).drewN q2
  go_wp2_with fail
  generalize hw2 : World.drewN w (q1 + q2) = w2
  have t2 : Same w w2 := by rw [← hw2]; exact (Same.refl w).drewN _
  clear hw2
  refine (copy_any C m d r w2 (HR.out.same t2) HM.out (by omega) HC.out).mono ?_
  rintro e w3 ⟨A3, c3, rfl, r3, s3⟩
  have t3 := t2.trans s3
  clear s3
  have HR3 := Lib.hid r3
  clear r3
  rcases HAG.out with ⟨i, rfl, rfl, rfl⟩ | ⟨rfl, rfl, rfl⟩
  · have hii : ((i : Int) != (i : Int)) = false := by simp
    have hi0 : (0 : Int) ≤ (i : Int) := by omega
    have hi1 : decide ((0 : Int) ≤ (i : Int)) = true := decide_eq_true hi0
    have hbb : (mx != mx) = false := by simp
    go_wp2_with fail
    refine (mixed_any A C n c m d l r w3 HN.out HM.out (by omega) (by omega) HS2.out (HL.out.same t3) (HR.out.same t3)).mono ?_
    rintro e w4 ⟨rfl, q4, rfl⟩
    rw [← HMX.out]
    go_wp2_with fail
    refine (rmixed_any A C n c m d l r _ HN.out HM.out (by omega) (by omega) HS2.out ((HL.out.same t3).drewN q4) ((HR.out.same t3).drewN q4)).mono ?_
    rintro e w4 ⟨rfl, q5, rfl⟩
    rw [← HMX.out]
    go_wp2_with fail
    generalize hw5 : World.drewN w3 (q4 + q5) = w5
    have s35 : Same w3 w5 := by rw [← hw5]; exact (Same.refl w3).drewN _
    have t5 := t3.trans s35
    clear hw5
    refine (words_any A3 C m m c3 d r r w5 HM.out HM.out (HR3.out.same s35) (HR.out.same t5) (by omega) (by omega)).mono ?_
    rintro e w6 ⟨rfl, q6, rfl⟩
    rw [decide_eq_true rfl]
    have t6 := t5.drewN q6
    clear s35
    obtain ⟨y, hy⟩ : ∃ y, l[0]? = some y := ⟨_, List.getElem?_eq_getElem (by have := HN.out; have := HN0.out; omega)⟩
    obtain ⟨b, o, D, c', rfl, hc0, hrow⟩ := HL.out 0 y hy
    have hyl := HS2.out y (List.mem_of_getElem? hy)
    have hn1 : 0 < n := by have := HN0.out; omega
    have hn2 : ((n : Int) == 0) = false := by simp; omega
    have hn3 : (0 : Int) < (n : Int) := by omega
    obtain ⟨v, hv⟩ : ∃ v, v = decide (y = r) := ⟨_, rfl⟩
    have HV := Lib.hid hv
    have HYL := Lib.hid hyl
    have HRW := Lib.hid hrow
    have hvv : (v == v) = true := by simp
    clear hy hv hyl hrow
    go_wp2_with fail
    generalize hw7 : World.drewN w5 q6 = w7 at t6 ⊢
    have c7 := t6.cell hc0
    have SM : Hid (∀ w', Same w w' → Calls Tryd.prog 31 #[.slice D y.length c', .slice C m d] w' fun e w'' => e = .returned (.bool v) ∧ Same w' w'') := Lib.hid (fun w' s => by rw [HV.out]; exact (same_any D C y.length m c' d y r w' rfl HM.out (HRW.out.same s) (HR.out.same s) HYL.out (by omega)).mono fun e w'' ⟨he, k, hk⟩ => ⟨he, by rw [hk]; exact (Same.refl _).drewN k⟩)
    have RM : Hid (∀ w', Same w w' → Calls Tryd.prog 32 #[.slice D y.length c', .slice C m d] w' fun e w'' => e = .returned (.bool v) ∧ Same w' w'') := Lib.hid (fun w' s => by rw [HV.out]; exact (rsame_any D C y.length m c' d y r w' rfl HM.out (HRW.out.same s) (HR.out.same s) HYL.out (by omega)).mono fun e w'' ⟨he, k, hk⟩ => ⟨he, by rw [hk]; exact (Same.refl _).drewN k⟩)
    have SS : Hid (∀ w', Same w w' → w'.cell? ⟨b, o, none⟩ = some (.slice D y.length c') ∧ Same w w') := Lib.hid (fun w' s => ⟨s.cell hc0, s⟩)
    go_region_held3 (fun w' => w'.cell? ⟨b, o, none⟩ = some (.slice D y.length c') ∧ Same w w')
      (first | (with_reducible assumption) | exact SS.out _ t6.drew | exact SS.out _ (x22.trans hs))
      (first
        | (go_at_call 31; (rcases ‹_ ∧ Same w _› with ⟨_, x22⟩); ((with_reducible refine (SM.out _ x22).mono ?_); rintro e w' ⟨rfl, hs⟩))
        | (go_at_call 32; (rcases ‹_ ∧ Same w _› with ⟨_, x22⟩); ((with_reducible refine (RM.out _ x22).mono ?_); rintro e w' ⟨rfl, hs⟩))
        | (go_at_call 24; (rcases ‹_ ∧ Same w _› with ⟨_, x22⟩); ((with_reducible refine (rawake _).mono ?_); rintro e w' ⟨rfl, hs⟩)))
    rcases ‹_ ∧ Same w _› with ⟨_, tz⟩
    go_wp2_with fail
    go_ret
    exact ⟨rfl, tz⟩
  · have hbb : (mx != mx) = false := by simp
    go_wp2_with fail
    refine (mixed_any A C n c m d l r w3 HN.out HM.out (by omega) (by omega) HS2.out (HL.out.same t3) (HR.out.same t3)).mono ?_
    rintro e w4 ⟨rfl, q4, rfl⟩
    rw [← HMX.out]
    go_wp2_with fail
    refine (rmixed_any A C n c m d l r _ HN.out HM.out (by omega) (by omega) HS2.out ((HL.out.same t3).drewN q4) ((HR.out.same t3).drewN q4)).mono ?_
    rintro e w4 ⟨rfl, q5, rfl⟩
    rw [← HMX.out]
    go_wp2_with fail
    generalize hw5 : World.drewN w3 (q4 + q5) = w5
    have s35 : Same w3 w5 := by rw [← hw5]; exact (Same.refl w3).drewN _
    have t5 := t3.trans s35
    clear hw5
    refine (words_any A3 C m m c3 d r r w5 HM.out HM.out (HR3.out.same s35) (HR.out.same t5) (by omega) (by omega)).mono ?_
    rintro e w6 ⟨rfl, q6, rfl⟩
    rw [decide_eq_true rfl]
    have t6 := t5.drewN q6
    clear s35
    obtain ⟨y, hy⟩ : ∃ y, l[0]? = some y := ⟨_, List.getElem?_eq_getElem (by have := HN.out; have := HN0.out; omega)⟩
    obtain ⟨b, o, D, c', rfl, hc0, hrow⟩ := HL.out 0 y hy
    have hyl := HS2.out y (List.mem_of_getElem? hy)
    have hn1 : 0 < n := by have := HN0.out; omega
    have hn2 : ((n : Int) == 0) = false := by simp; omega
    have hn3 : (0 : Int) < (n : Int) := by omega
    obtain ⟨v, hv⟩ : ∃ v, v = decide (y = r) := ⟨_, rfl⟩
    have HV := Lib.hid hv
    have HYL := Lib.hid hyl
    have HRW := Lib.hid hrow
    have hvv : (v == v) = true := by simp
    clear hy hv hyl hrow
    go_wp2_with fail
    generalize hw7 : World.drewN w5 q6 = w7 at t6 ⊢
    have c7 := t6.cell hc0
    have SM : Hid (∀ w', Same w w' → Calls Tryd.prog 31 #[.slice D y.length c', .slice C m d] w' fun e w'' => e = .returned (.bool v) ∧ Same w' w'') := Lib.hid (fun w' s => by rw [HV.out]; exact (same_any D C y.length m c' d y r w' rfl HM.out (HRW.out.same s) (HR.out.same s) HYL.out (by omega)).mono fun e w'' ⟨he, k, hk⟩ => ⟨he, by rw [hk]; exact (Same.refl _).drewN k⟩)
    have RM : Hid (∀ w', Same w w' → Calls Tryd.prog 32 #[.slice D y.length c', .slice C m d] w' fun e w'' => e = .returned (.bool v) ∧ Same w' w'') := Lib.hid (fun w' s => by rw [HV.out]; exact (rsame_any D C y.length m c' d y r w' rfl HM.out (HRW.out.same s) (HR.out.same s) HYL.out (by omega)).mono fun e w'' ⟨he, k, hk⟩ => ⟨he, by rw [hk]; exact (Same.refl _).drewN k⟩)
    have SS : Hid (∀ w', Same w w' → w'.cell? ⟨b, o, none⟩ = some (.slice D y.length c') ∧ Same w w') := Lib.hid (fun w' s => ⟨s.cell hc0, s⟩)
    go_region_held3 (fun w' => w'.cell? ⟨b, o, none⟩ = some (.slice D y.length c') ∧ Same w w')
      (first | (with_reducible assumption) | exact SS.out _ t6.drew | exact SS.out _ (x22.trans hs))
      (first
        | (go_at_call 31; (rcases ‹_ ∧ Same w _› with ⟨_, x22⟩); ((with_reducible refine (SM.out _ x22).mono ?_); rintro e w' ⟨rfl, hs⟩))
        | (go_at_call 32; (rcases ‹_ ∧ Same w _› with ⟨_, x22⟩); ((with_reducible refine (RM.out _ x22).mono ?_); rintro e w' ⟨rfl, hs⟩))
        | (go_at_call 24; (rcases ‹_ ∧ Same w _› with ⟨_, x22⟩); ((with_reducible refine (rawake _).mono ?_); rintro e w' ⟨rfl, hs⟩)))
    rcases ‹_ ∧ Same w _› with ⟨_, tz⟩
    go_wp2_with fail
    go_ret
    exact ⟨rfl, tz⟩

theorem finds_in (A C : Option Addr) (n c m d : Nat) (l : List (List Int)) (r : List Int) (w : World) (hn : l.length = n) (hm : r.length = m) (hC : C = none → m = 0) (hl : Recs w A l) (hr : Row w C (w32 r)) (hf : fewB l = true) (h60 : m ≤ 60) :
    Calls Tryd.prog 5 #[.slice A n c, .slice C m d] w fun e w' => e = .returned (.bool true) ∧ Same w w' := by
  by_cases h : n = 0
  · exact finds_zero A C n c m d l r w hn hm hC hl hr hf h60 h
  · exact finds_pos A C n c m d l r w hn hm hC hl hr hf h60 h

end Go.Proofs.YtejajmdmfipplaaDoor.Rc
