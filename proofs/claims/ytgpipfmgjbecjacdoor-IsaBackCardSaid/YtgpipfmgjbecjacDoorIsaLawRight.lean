/-
  The walk of the law IsaRight: it returns true whatever the instruction is.
-/
import Derived.Test.YtgpipfmgjbecjacDoorIsaMore
import Derived.Deep.RegionHeld3
set_option linter.unusedVariables false
namespace Go.Proofs.YtgpipfmgjbecjacDoor.Is
open Go.ChangeShapes Go.WideShapes Go.ChangeAt Go.RowKit Ws Cd Bt

/-- the instruction's own block, the tables, and what has not turned -/
structure Kept (w0 : World) (g : Nat) (op a b c n : Int) (w : World) : Prop where
  blk : Blk w g 24 #[.int .i64 op, .int .i64 a, .int .i64 b, .int .i64 c, .int .u32 n]
  tabs : Tabs w
  same : Same w0 w
theorem Kept.go {w0 w w' : World} {g : Nat} {op a b c n : Int} (h : Kept w0 g op a b c n w) (hs : Same w w') : Kept w0 g op a b c n w' :=
  ⟨h.blk.same hs, h.tabs.same hs, h.same.trans hs⟩
theorem Kept.cells {w0 w : World} {g : Nat} {op a b c n : Int} (h : Kept w0 g op a b c n w) :
    w.cell? ⟨g, 0, none⟩ = some (.int .i64 op) ∧ w.cell? ⟨g, 1, none⟩ = some (.int .i64 a) ∧ w.cell? ⟨g, 2, none⟩ = some (.int .i64 b) ∧ w.cell? ⟨g, 3, none⟩ = some (.int .i64 c) ∧ w.cell? ⟨g, 4, none⟩ = some (.int .u32 n) :=
  ⟨h.blk.cell 0, h.blk.cell 1, h.blk.cell 2, h.blk.cell 3, h.blk.cell 4⟩

set_option maxRecDepth 100000 in
set_option maxHeartbeats 2000000 in
theorem lright_no (op a b c n : Int) (hn : 0 ≤ n ∧ n < 4294967296) (hr : rightB op a b c n = false) (w : World) (ht : Tabs w) :
    Calls Tryd.prog 3 #[ins op a b c n] w fun e w' => e = .returned (.bool true) ∧ Same w w' := by
  have HR := Lib.hid hr
  have HT := Lib.hid ht
  clear hr ht
  unfold ins
  go_enter Tryd.func3, Tryd.ntmps3
  go_wp2_with fail
  have K0 : Kept w w.heap.size op a b c n (w.alloc (.cells #[.int .i64 op, .int .i64 a, .int .i64 b, .int .i64 c, .int .u32 n] 24)) := ⟨Blk.new _ _ _, HT.out.same ((Same.refl _).alloc _), (Same.refl _).alloc _⟩
  generalize w.heap.size = g at *
  refine (target_any op a b c n hn _ K0.tabs).mono ?_
  rintro e w1 ⟨rfl, s1⟩
  have K1 := K0.go s1
  clear K0 s1
  rw [HR.out]
  rw [show ret2i (if (false && leadB op) = true then n else 0) (false && leadB op) = .returned (.tuple #[.int .i64 0, .bool false]) from rfl]
  obtain ⟨z0, z1, z2, z3, z4⟩ := K1.cells
  go_wp2_with fail
  refine (calls_any op a b c n hn _ K1.tabs).mono ?_
  rintro e w2 ⟨rfl, s2⟩
  rw [HR.out]
  rw [show (if (false && callB op) = true then ret3b b (callV op) true else ret3b 0 0 false) = .returned (.tuple #[.int .i64 0, .int .i64 0, .bool false]) from rfl]
  have K2 := K1.go s2
  clear K1 s2 z0 z1 z2 z3 z4
  obtain ⟨z0, z1, z2, z3, z4⟩ := K2.cells
  have K2d := K2.go (Same.drew (Same.refl w2))
  have H2 := Lib.hid K2d
  clear K2 K2d
  go_wp2_with fail
  have k0 : w2.drew.cell? ⟨g, 0, none⟩ = some (.int .i64 op) ∧ w2.drew.cell? ⟨g, 1, none⟩ = some (.int .i64 a) ∧ w2.drew.cell? ⟨g, 2, none⟩ = some (.int .i64 b) ∧ w2.drew.cell? ⟨g, 3, none⟩ = some (.int .i64 c) ∧ w2.drew.cell? ⟨g, 4, none⟩ = some (.int .u32 n) ∧ Same w2.drew w2.drew := ⟨z0, z1, z2, z3, z4, Same.refl _⟩
  have HK := Lib.hid (show ∀ w', Same w2.drew w' → (w'.cell? ⟨g, 0, none⟩ = some (.int .i64 op) ∧ w'.cell? ⟨g, 1, none⟩ = some (.int .i64 a) ∧ w'.cell? ⟨g, 2, none⟩ = some (.int .i64 b) ∧ w'.cell? ⟨g, 3, none⟩ = some (.int .i64 c) ∧ w'.cell? ⟨g, 4, none⟩ = some (.int .u32 n) ∧ Same w2.drew w') from fun w' hs => by
    obtain ⟨y0, y1, y2, y3, y4⟩ := (H2.out.go hs).cells
    exact ⟨y0, y1, y2, y3, y4, hs⟩)
  go_region_held3 (fun w' => w'.cell? ⟨g, 0, none⟩ = some (.int .i64 op) ∧ w'.cell? ⟨g, 1, none⟩ = some (.int .i64 a) ∧ w'.cell? ⟨g, 2, none⟩ = some (.int .i64 b) ∧ w'.cell? ⟨g, 3, none⟩ = some (.int .i64 c) ∧ w'.cell? ⟨g, 4, none⟩ = some (.int .u32 n) ∧ Same w2.drew w')
    (first | assumption | exact k0 | exact k3 | exact k4)
    (first
      | (go_at_call 11; refine (right_any op a b c n hn _ H2.out.tabs).mono ?_; rintro e w3 ⟨rfl, s3⟩; rw [HR.out]; have k3 := HK.out _ s3; have hs3 := Lib.hid s3; clear s3)
      | (go_at_call 12; refine (rright_any op a b c n hn _).mono ?_; rintro e w4 ⟨rfl, s4⟩; rw [HR.out]; have k4 := HK.out _ (hs3.out.trans s4); clear s4))
  rcases ‹_ ∧ _ ∧ _ ∧ _ ∧ _ ∧ Same w2.drew _› with ⟨y0, y1, y2, y3, y4, s5⟩
  have K5 := H2.out.go s5
  clear s5 z0 z1 z2 z3 z4 H2 HK k0
  go_wp2_with fail
  refine (rright_any op a b c n hn _).mono ?_
  rintro e w6 ⟨rfl, s6⟩
  rw [HR.out]
  have K6 := K5.go s6
  clear K5 s6 y0 y1 y2 y3 y4
  obtain ⟨z0, z1, z2, z3, z4⟩ := K6.cells
  have h00 : ((0 : Int) == 0) = true := rfl
  go_wp2_with fail
  refine (uses_any op a b c n hn _ K6.tabs).mono ?_
  rintro e w7 ⟨rfl, s7⟩
  rw [HR.out, if_neg (by decide)]
  have K7 := K6.go s7
  clear K6 s7 z0 z1 z2 z3 z4
  obtain ⟨z0, z1, z2, z3, z4⟩ := K7.cells
  go_wp2_with fail
  refine (sets_any op a b c n hn _ K7.tabs).mono ?_
  rintro e w8 ⟨rfl, s8⟩
  rw [HR.out, if_neg (by decide)]
  have K8 := K7.go s8
  clear K7 s8 z0 z1 z2 z3 z4
  go_wp2_with fail
  refine (iawake _ K8.tabs).mono ?_
  rintro e w9 ⟨rfl, s9⟩
  go_wp2_with fail
  go_ret
  exact ⟨rfl, K8.same.trans s9⟩

theorem useL_len (o : Nat) : (useL.getD o []).length ≤ 3 := by
  by_cases ho : o < 22
  · have h : ((List.range 22).all fun o => decide ((useL.getD o []).length ≤ 3)) = true := by decide
    exact of_decide_eq_true (List.all_eq_true.1 h o (List.mem_range.2 ho))
  · rw [getD_out useL o [] (by simpa [useL] using ho)]
    simp
theorem setL_len (o : Nat) : (setL.getD o []).length ≤ 3 := by
  by_cases ho : o < 22
  · have h : ((List.range 22).all fun o => decide ((setL.getD o []).length ≤ 3)) = true := by decide
    exact of_decide_eq_true (List.all_eq_true.1 h o (List.mem_range.2 ho))
  · rw [getD_out setL o [] (by simpa [setL] using ho)]
    simp

set_option maxRecDepth 100000 in
set_option maxHeartbeats 4000000 in
theorem lright_lead (o : Nat) (ho : o < 22) (a b c n : Int) (hn : 0 ≤ n ∧ n < 4294967296) (hr : rightB (o : Int) a b c n = true) (hl : leadB (o : Int) = true) (hc : callB (o : Int) = false) (w : World) (ht : Tabs w) :
    Calls Tryd.prog 3 #[ins (o : Int) a b c n] w fun e w' => e = .returned (.bool true) ∧ Same w w' := by
  have HR := Lib.hid hr
  have HT := Lib.hid ht
  have HL := Lib.hid hl
  have HC := Lib.hid hc
  have hp : callV (o : Int) = 0 := by unfold callV; unfold callB at hc; simp at hc; split <;> omega
  clear hr ht hl
  obtain ⟨p, hpp⟩ : ∃ p, p = callV (o : Int) := ⟨_, rfl⟩
  rw [← hpp] at hp
  have HP := Lib.hid hpp
  clear hpp hc
  subst hp
  have q2 : True := trivial
  have q3 : (b != b) = false := by simp
  have q4 : (n != n) = false := by simp
  obtain ⟨op, hop⟩ : ∃ op : Int, op = (o : Int) := ⟨_, rfl⟩
  have HOP := Lib.hid hop
  obtain ⟨l1, hl1⟩ : ∃ l, l = (useL.getD o []).map (letV a b c) := ⟨_, rfl⟩
  obtain ⟨l2, hl2⟩ : ∃ l, l = (setL.getD o []).map (letV a b c) := ⟨_, rfl⟩
  obtain ⟨v1, hv1⟩ : ∃ v, v = orN l1 := ⟨_, rfl⟩
  obtain ⟨v2, hv2⟩ : ∃ v, v = orN l2 := ⟨_, rfl⟩
  have n1 : l1.length ≤ 1048576 := by rw [hl1, List.length_map]; have := useL_len o; omega
  have n2 : l2.length ≤ 1048576 := by rw [hl2, List.length_map]; have := setL_len o; omega
  have e1 : (((v1 : Nat) : Int) == ((v1 : Nat) : Int)) = true := by simp
  have e2 : (((v2 : Nat) : Int) == ((v2 : Nat) : Int)) = true := by simp
  have X1 := Lib.hid (show orN ((useL.getD ((o : Int).toNat) []).map (letV a b c)) = v1 by rw [hv1, hl1]; rfl)
  have X2 := Lib.hid (show orN ((setL.getD ((o : Int).toNat) []).map (letV a b c)) = v2 by rw [hv2, hl2]; rfl)
  have V1 := Lib.hid hv1
  have V2 := Lib.hid hv2
  have ru : ∀ w, Calls Tryd.prog 19 #[ins (o : Int) a b c n] w (RegPost w l1) := fun w => by rw [hl1]; exact ruses_any o ho a b c n w
  have rs : ∀ w, Calls Tryd.prog 20 #[ins (o : Int) a b c n] w (RegPost w l2) := fun w => by rw [hl2]; exact rsets_any o ho a b c n w
  have RU := Lib.hid ru
  have RS := Lib.hid rs
  have N1 := Lib.hid n1
  have N2 := Lib.hid n2
  clear hl1 hl2 hv1 hv2 n1 n2 hop ru rs
  unfold ins
  go_enter Tryd.func3, Tryd.ntmps3
  go_wp2_with fail
  have K0 : Kept w w.heap.size (o : Int) a b c n (w.alloc (.cells #[.int .i64 (o : Int), .int .i64 a, .int .i64 b, .int .i64 c, .int .u32 n] 24)) := ⟨Blk.new _ _ _, HT.out.same ((Same.refl _).alloc _), (Same.refl _).alloc _⟩
  generalize w.heap.size = g at *
  refine (target_any (o : Int) a b c n hn _ K0.tabs).mono ?_
  rintro e w1 ⟨rfl, s1⟩
  have K1 := K0.go s1
  clear K0 s1
  rw [HR.out, HL.out]
  rw [show ret2i (if (true && true) = true then n else 0) (true && true) = .returned (.tuple #[.int .i64 n, .bool true]) from rfl]
  obtain ⟨z0, z1, z2, z3, z4⟩ := K1.cells
  go_wp2_with fail
  refine (calls_any (o : Int) a b c n hn _ K1.tabs).mono ?_
  rintro e w2 ⟨rfl, s2⟩
  rw [HR.out, HC.out, ← HP.out]
  rw [show (if (true && false) = true then ret3b b 0 true else ret3b 0 0 false) = .returned (.tuple #[.int .i64 0, .int .i64 0, .bool false]) from rfl]
  have K2 := K1.go s2
  clear K1 s2 z0 z1 z2 z3 z4
  obtain ⟨z0, z1, z2, z3, z4⟩ := K2.cells
  have K2d := K2.go (Same.drew (Same.refl w2))
  have H2 := Lib.hid K2d
  clear K2 K2d
  go_wp2_with fail
  have k0 : w2.drew.cell? ⟨g, 0, none⟩ = some (.int .i64 (o : Int)) ∧ w2.drew.cell? ⟨g, 1, none⟩ = some (.int .i64 a) ∧ w2.drew.cell? ⟨g, 2, none⟩ = some (.int .i64 b) ∧ w2.drew.cell? ⟨g, 3, none⟩ = some (.int .i64 c) ∧ w2.drew.cell? ⟨g, 4, none⟩ = some (.int .u32 n) ∧ Same w2.drew w2.drew := ⟨z0, z1, z2, z3, z4, Same.refl _⟩
  have HK := Lib.hid (show ∀ w', Same w2.drew w' → (w'.cell? ⟨g, 0, none⟩ = some (.int .i64 (o : Int)) ∧ w'.cell? ⟨g, 1, none⟩ = some (.int .i64 a) ∧ w'.cell? ⟨g, 2, none⟩ = some (.int .i64 b) ∧ w'.cell? ⟨g, 3, none⟩ = some (.int .i64 c) ∧ w'.cell? ⟨g, 4, none⟩ = some (.int .u32 n) ∧ Same w2.drew w') from fun w' hs => by
    obtain ⟨y0, y1, y2, y3, y4⟩ := (H2.out.go hs).cells
    exact ⟨y0, y1, y2, y3, y4, hs⟩)
  go_region_held3 (fun w' => w'.cell? ⟨g, 0, none⟩ = some (.int .i64 (o : Int)) ∧ w'.cell? ⟨g, 1, none⟩ = some (.int .i64 a) ∧ w'.cell? ⟨g, 2, none⟩ = some (.int .i64 b) ∧ w'.cell? ⟨g, 3, none⟩ = some (.int .i64 c) ∧ w'.cell? ⟨g, 4, none⟩ = some (.int .u32 n) ∧ Same w2.drew w')
    (first | assumption | exact k0 | exact k3 | exact k4)
    (first
      | (go_at_call 11; refine (right_any (o : Int) a b c n hn _ H2.out.tabs).mono ?_; rintro e w3 ⟨rfl, s3⟩; rw [HR.out]; have k3 := HK.out _ s3; have hs3 := Lib.hid s3; clear s3)
      | (go_at_call 12; refine (rright_any (o : Int) a b c n hn _).mono ?_; rintro e w4 ⟨rfl, s4⟩; rw [HR.out]; have k4 := HK.out _ (hs3.out.trans s4); clear s4))
  rcases ‹_ ∧ _ ∧ _ ∧ _ ∧ _ ∧ Same w2.drew _› with ⟨y0, y1, y2, y3, y4, s5⟩
  have K5 := H2.out.go s5
  clear s5 z0 z1 z2 z3 z4 H2 HK k0
  go_wp2_with fail
  refine (rright_any (o : Int) a b c n hn _).mono ?_
  rintro e w6 ⟨rfl, s6⟩
  rw [HR.out]
  have K6 := K5.go s6
  clear K5 s6 y0 y1 y2 y3 y4
  obtain ⟨z0, z1, z2, z3, z4⟩ := K6.cells
  go_wp2_with fail
  refine (rleads_any (o : Int) _).mono ?_
  rintro e w7 ⟨rfl, rfl⟩
  rw [HL.out]
  go_wp2_with fail
  refine (rcalls_any (o : Int) _).mono ?_
  rintro e w7 ⟨rfl, rfl⟩
  rw [← HP.out]
  go_wp2_with fail
  refine (rcalls_any (o : Int) _).mono ?_
  rintro e w7 ⟨rfl, rfl⟩
  rw [← HP.out]
  go_wp2_with fail
  have K6d := K6.go (Same.drew (Same.refl w6))
  have H6 := Lib.hid K6d
  have k6 : w6.drew.cell? ⟨g, 0, none⟩ = some (.int .i64 (o : Int)) ∧ w6.drew.cell? ⟨g, 1, none⟩ = some (.int .i64 a) ∧ w6.drew.cell? ⟨g, 2, none⟩ = some (.int .i64 b) ∧ w6.drew.cell? ⟨g, 3, none⟩ = some (.int .i64 c) ∧ w6.drew.cell? ⟨g, 4, none⟩ = some (.int .u32 n) ∧ Same w6.drew w6.drew := ⟨z0, z1, z2, z3, z4, Same.refl _⟩
  have HK6 := Lib.hid (show ∀ w', Same w6.drew w' → (w'.cell? ⟨g, 0, none⟩ = some (.int .i64 (o : Int)) ∧ w'.cell? ⟨g, 1, none⟩ = some (.int .i64 a) ∧ w'.cell? ⟨g, 2, none⟩ = some (.int .i64 b) ∧ w'.cell? ⟨g, 3, none⟩ = some (.int .i64 c) ∧ w'.cell? ⟨g, 4, none⟩ = some (.int .u32 n) ∧ Same w6.drew w') from fun w' hs => by
    obtain ⟨y0, y1, y2, y3, y4⟩ := (H6.out.go hs).cells
    exact ⟨y0, y1, y2, y3, y4, hs⟩)
  clear K6 K6d
  go_region_held3 (fun w' => w'.cell? ⟨g, 0, none⟩ = some (.int .i64 (o : Int)) ∧ w'.cell? ⟨g, 1, none⟩ = some (.int .i64 a) ∧ w'.cell? ⟨g, 2, none⟩ = some (.int .i64 b) ∧ w'.cell? ⟨g, 3, none⟩ = some (.int .i64 c) ∧ w'.cell? ⟨g, 4, none⟩ = some (.int .u32 n) ∧ Same w6.drew w')
    (first | assumption | exact k6 | exact j1 | exact j2 | exact j3 | exact j4 | exact j5)
    (first
      | (go_at_call 13; refine (uses_any (o : Int) a b c n hn _ H6.out.tabs).mono ?_; rintro e w7 ⟨rfl, s7⟩; rw [HR.out, if_pos rfl, X1.out]; have j1 := HK6.out _ s7; have t7 := Lib.hid s7; clear s7)
      | (go_at_call 19; refine (RU.out _).mono ?_; rintro e w8 ⟨A1, c1, rfl, r8, s8⟩; have j2 := HK6.out _ (t7.out.trans s8); have t8 := Lib.hid (t7.out.trans s8); have R8 := Lib.hid r8; clear s8 r8)
      | (go_at_call 20; refine (RS.out _).mono ?_; rintro e w9 ⟨A2, c2, rfl, r9, s9⟩; have j4 := HK6.out _ (t10.out.trans s9); have t9 := Lib.hid (t10.out.trans s9); have R9 := Lib.hid r9; clear s9 r9)
      | (go_at_call 18; (with_reducible refine (of_any A1 l1.length c1 l1 _ rfl N1.out R8.out).mono ?_); rintro e w11 ⟨rfl, rfl⟩; rw [← V1.out])
      | (go_at_call 18; (with_reducible refine (of_any A2 l2.length c2 l2 _ rfl N2.out R9.out).mono ?_); rintro e w11 ⟨rfl, rfl⟩; rw [← V2.out])
      | (go_at_call 14; refine (sets_any (o : Int) a b c n hn _ (H6.out.go t8.out).tabs).mono ?_; rintro e w10 ⟨rfl, s10⟩; rw [HR.out, if_pos rfl, X2.out]; have j3 := HK6.out _ (t8.out.trans s10); have t10 := Lib.hid (t8.out.trans s10); clear s10)
      | (go_at_call 15; refine (iawake _ (H6.out.go t9.out).tabs).mono ?_; rintro e w12 ⟨rfl, s12⟩; have j5 := HK6.out _ (t9.out.trans s12); clear s12))
  rcases ‹_ ∧ _ ∧ _ ∧ _ ∧ _ ∧ Same w6.drew _› with ⟨y0, y1, y2, y3, y4, s5⟩
  have K9 := H6.out.go s5
  clear s5 z0 z1 z2 z3 z4 H6 HK6 k6
  go_wp2_with fail
  go_ret
  exact ⟨rfl, K9.same⟩

set_option maxRecDepth 100000 in
set_option maxHeartbeats 4000000 in
theorem lright_none (o : Nat) (ho : o < 22) (a b c n : Int) (hn : 0 ≤ n ∧ n < 4294967296) (hr : rightB (o : Int) a b c n = true) (hl : leadB (o : Int) = false) (hc : callB (o : Int) = false) (w : World) (ht : Tabs w) :
    Calls Tryd.prog 3 #[ins (o : Int) a b c n] w fun e w' => e = .returned (.bool true) ∧ Same w w' := by
  have HR := Lib.hid hr
  have HT := Lib.hid ht
  have HL := Lib.hid hl
  have HC := Lib.hid hc
  have hp : callV (o : Int) = 0 := by unfold callV; unfold callB at hc; simp at hc; split <;> omega
  clear hr ht hl
  obtain ⟨p, hpp⟩ : ∃ p, p = callV (o : Int) := ⟨_, rfl⟩
  rw [← hpp] at hp
  have HP := Lib.hid hpp
  clear hpp hc
  subst hp
  have q2 : True := trivial
  have q3 : (b != b) = false := by simp
  have q4 : (n != n) = false := by simp
  obtain ⟨op, hop⟩ : ∃ op : Int, op = (o : Int) := ⟨_, rfl⟩
  have HOP := Lib.hid hop
  obtain ⟨l1, hl1⟩ : ∃ l, l = (useL.getD o []).map (letV a b c) := ⟨_, rfl⟩
  obtain ⟨l2, hl2⟩ : ∃ l, l = (setL.getD o []).map (letV a b c) := ⟨_, rfl⟩
  obtain ⟨v1, hv1⟩ : ∃ v, v = orN l1 := ⟨_, rfl⟩
  obtain ⟨v2, hv2⟩ : ∃ v, v = orN l2 := ⟨_, rfl⟩
  have n1 : l1.length ≤ 1048576 := by rw [hl1, List.length_map]; have := useL_len o; omega
  have n2 : l2.length ≤ 1048576 := by rw [hl2, List.length_map]; have := setL_len o; omega
  have e1 : (((v1 : Nat) : Int) == ((v1 : Nat) : Int)) = true := by simp
  have e2 : (((v2 : Nat) : Int) == ((v2 : Nat) : Int)) = true := by simp
  have X1 := Lib.hid (show orN ((useL.getD ((o : Int).toNat) []).map (letV a b c)) = v1 by rw [hv1, hl1]; rfl)
  have X2 := Lib.hid (show orN ((setL.getD ((o : Int).toNat) []).map (letV a b c)) = v2 by rw [hv2, hl2]; rfl)
  have V1 := Lib.hid hv1
  have V2 := Lib.hid hv2
  have ru : ∀ w, Calls Tryd.prog 19 #[ins (o : Int) a b c n] w (RegPost w l1) := fun w => by rw [hl1]; exact ruses_any o ho a b c n w
  have rs : ∀ w, Calls Tryd.prog 20 #[ins (o : Int) a b c n] w (RegPost w l2) := fun w => by rw [hl2]; exact rsets_any o ho a b c n w
  have RU := Lib.hid ru
  have RS := Lib.hid rs
  have N1 := Lib.hid n1
  have N2 := Lib.hid n2
  clear hl1 hl2 hv1 hv2 n1 n2 hop ru rs
  unfold ins
  go_enter Tryd.func3, Tryd.ntmps3
  go_wp2_with fail
  have K0 : Kept w w.heap.size (o : Int) a b c n (w.alloc (.cells #[.int .i64 (o : Int), .int .i64 a, .int .i64 b, .int .i64 c, .int .u32 n] 24)) := ⟨Blk.new _ _ _, HT.out.same ((Same.refl _).alloc _), (Same.refl _).alloc _⟩
  generalize w.heap.size = g at *
  refine (target_any (o : Int) a b c n hn _ K0.tabs).mono ?_
  rintro e w1 ⟨rfl, s1⟩
  have K1 := K0.go s1
  clear K0 s1
  rw [HR.out, HL.out]
  rw [show ret2i (if (true && false) = true then n else 0) (true && false) = .returned (.tuple #[.int .i64 0, .bool false]) from rfl]
  obtain ⟨z0, z1, z2, z3, z4⟩ := K1.cells
  go_wp2_with fail
  refine (calls_any (o : Int) a b c n hn _ K1.tabs).mono ?_
  rintro e w2 ⟨rfl, s2⟩
  rw [HR.out, HC.out, ← HP.out]
  rw [show (if (true && false) = true then ret3b b 0 true else ret3b 0 0 false) = .returned (.tuple #[.int .i64 0, .int .i64 0, .bool false]) from rfl]
  have K2 := K1.go s2
  clear K1 s2 z0 z1 z2 z3 z4
  obtain ⟨z0, z1, z2, z3, z4⟩ := K2.cells
  have K2d := K2.go (Same.drew (Same.refl w2))
  have H2 := Lib.hid K2d
  clear K2 K2d
  go_wp2_with fail
  have k0 : w2.drew.cell? ⟨g, 0, none⟩ = some (.int .i64 (o : Int)) ∧ w2.drew.cell? ⟨g, 1, none⟩ = some (.int .i64 a) ∧ w2.drew.cell? ⟨g, 2, none⟩ = some (.int .i64 b) ∧ w2.drew.cell? ⟨g, 3, none⟩ = some (.int .i64 c) ∧ w2.drew.cell? ⟨g, 4, none⟩ = some (.int .u32 n) ∧ Same w2.drew w2.drew := ⟨z0, z1, z2, z3, z4, Same.refl _⟩
  have HK := Lib.hid (show ∀ w', Same w2.drew w' → (w'.cell? ⟨g, 0, none⟩ = some (.int .i64 (o : Int)) ∧ w'.cell? ⟨g, 1, none⟩ = some (.int .i64 a) ∧ w'.cell? ⟨g, 2, none⟩ = some (.int .i64 b) ∧ w'.cell? ⟨g, 3, none⟩ = some (.int .i64 c) ∧ w'.cell? ⟨g, 4, none⟩ = some (.int .u32 n) ∧ Same w2.drew w') from fun w' hs => by
    obtain ⟨y0, y1, y2, y3, y4⟩ := (H2.out.go hs).cells
    exact ⟨y0, y1, y2, y3, y4, hs⟩)
  go_region_held3 (fun w' => w'.cell? ⟨g, 0, none⟩ = some (.int .i64 (o : Int)) ∧ w'.cell? ⟨g, 1, none⟩ = some (.int .i64 a) ∧ w'.cell? ⟨g, 2, none⟩ = some (.int .i64 b) ∧ w'.cell? ⟨g, 3, none⟩ = some (.int .i64 c) ∧ w'.cell? ⟨g, 4, none⟩ = some (.int .u32 n) ∧ Same w2.drew w')
    (first | assumption | exact k0 | exact k3 | exact k4)
    (first
      | (go_at_call 11; refine (right_any (o : Int) a b c n hn _ H2.out.tabs).mono ?_; rintro e w3 ⟨rfl, s3⟩; rw [HR.out]; have k3 := HK.out _ s3; have hs3 := Lib.hid s3; clear s3)
      | (go_at_call 12; refine (rright_any (o : Int) a b c n hn _).mono ?_; rintro e w4 ⟨rfl, s4⟩; rw [HR.out]; have k4 := HK.out _ (hs3.out.trans s4); clear s4))
  rcases ‹_ ∧ _ ∧ _ ∧ _ ∧ _ ∧ Same w2.drew _› with ⟨y0, y1, y2, y3, y4, s5⟩
  have K5 := H2.out.go s5
  clear s5 z0 z1 z2 z3 z4 H2 HK k0
  go_wp2_with fail
  refine (rright_any (o : Int) a b c n hn _).mono ?_
  rintro e w6 ⟨rfl, s6⟩
  rw [HR.out]
  have K6 := K5.go s6
  clear K5 s6 y0 y1 y2 y3 y4
  obtain ⟨z0, z1, z2, z3, z4⟩ := K6.cells
  go_wp2_with fail
  refine (rleads_any (o : Int) _).mono ?_
  rintro e w7 ⟨rfl, rfl⟩
  rw [HL.out]
  go_wp2_with fail
  refine (rcalls_any (o : Int) _).mono ?_
  rintro e w7 ⟨rfl, rfl⟩
  rw [← HP.out]
  go_wp2_with fail
  refine (rcalls_any (o : Int) _).mono ?_
  rintro e w7 ⟨rfl, rfl⟩
  rw [← HP.out]
  go_wp2_with fail
  have K6d := K6.go (Same.drew (Same.refl w6))
  have H6 := Lib.hid K6d
  have k6 : w6.drew.cell? ⟨g, 0, none⟩ = some (.int .i64 (o : Int)) ∧ w6.drew.cell? ⟨g, 1, none⟩ = some (.int .i64 a) ∧ w6.drew.cell? ⟨g, 2, none⟩ = some (.int .i64 b) ∧ w6.drew.cell? ⟨g, 3, none⟩ = some (.int .i64 c) ∧ w6.drew.cell? ⟨g, 4, none⟩ = some (.int .u32 n) ∧ Same w6.drew w6.drew := ⟨z0, z1, z2, z3, z4, Same.refl _⟩
  have HK6 := Lib.hid (show ∀ w', Same w6.drew w' → (w'.cell? ⟨g, 0, none⟩ = some (.int .i64 (o : Int)) ∧ w'.cell? ⟨g, 1, none⟩ = some (.int .i64 a) ∧ w'.cell? ⟨g, 2, none⟩ = some (.int .i64 b) ∧ w'.cell? ⟨g, 3, none⟩ = some (.int .i64 c) ∧ w'.cell? ⟨g, 4, none⟩ = some (.int .u32 n) ∧ Same w6.drew w') from fun w' hs => by
    obtain ⟨y0, y1, y2, y3, y4⟩ := (H6.out.go hs).cells
    exact ⟨y0, y1, y2, y3, y4, hs⟩)
  clear K6 K6d
  go_region_held3 (fun w' => w'.cell? ⟨g, 0, none⟩ = some (.int .i64 (o : Int)) ∧ w'.cell? ⟨g, 1, none⟩ = some (.int .i64 a) ∧ w'.cell? ⟨g, 2, none⟩ = some (.int .i64 b) ∧ w'.cell? ⟨g, 3, none⟩ = some (.int .i64 c) ∧ w'.cell? ⟨g, 4, none⟩ = some (.int .u32 n) ∧ Same w6.drew w')
    (first | assumption | exact k6 | exact j1 | exact j2 | exact j3 | exact j4 | exact j5)
    (first
      | (go_at_call 13; refine (uses_any (o : Int) a b c n hn _ H6.out.tabs).mono ?_; rintro e w7 ⟨rfl, s7⟩; rw [HR.out, if_pos rfl, X1.out]; have j1 := HK6.out _ s7; have t7 := Lib.hid s7; clear s7)
      | (go_at_call 19; refine (RU.out _).mono ?_; rintro e w8 ⟨A1, c1, rfl, r8, s8⟩; have j2 := HK6.out _ (t7.out.trans s8); have t8 := Lib.hid (t7.out.trans s8); have R8 := Lib.hid r8; clear s8 r8)
      | (go_at_call 20; refine (RS.out _).mono ?_; rintro e w9 ⟨A2, c2, rfl, r9, s9⟩; have j4 := HK6.out _ (t10.out.trans s9); have t9 := Lib.hid (t10.out.trans s9); have R9 := Lib.hid r9; clear s9 r9)
      | (go_at_call 18; (with_reducible refine (of_any A1 l1.length c1 l1 _ rfl N1.out R8.out).mono ?_); rintro e w11 ⟨rfl, rfl⟩; rw [← V1.out])
      | (go_at_call 18; (with_reducible refine (of_any A2 l2.length c2 l2 _ rfl N2.out R9.out).mono ?_); rintro e w11 ⟨rfl, rfl⟩; rw [← V2.out])
      | (go_at_call 14; refine (sets_any (o : Int) a b c n hn _ (H6.out.go t8.out).tabs).mono ?_; rintro e w10 ⟨rfl, s10⟩; rw [HR.out, if_pos rfl, X2.out]; have j3 := HK6.out _ (t8.out.trans s10); have t10 := Lib.hid (t8.out.trans s10); clear s10)
      | (go_at_call 15; refine (iawake _ (H6.out.go t9.out).tabs).mono ?_; rintro e w12 ⟨rfl, s12⟩; have j5 := HK6.out _ (t9.out.trans s12); clear s12))
  rcases ‹_ ∧ _ ∧ _ ∧ _ ∧ _ ∧ Same w6.drew _› with ⟨y0, y1, y2, y3, y4, s5⟩
  have K9 := H6.out.go s5
  clear s5 z0 z1 z2 z3 z4 H6 HK6 k6
  go_wp2_with fail
  go_ret
  exact ⟨rfl, K9.same⟩

set_option maxRecDepth 100000 in
set_option maxHeartbeats 4000000 in
theorem lright_call (o : Nat) (ho : o < 22) (a b c n : Int) (hn : 0 ≤ n ∧ n < 4294967296) (hr : rightB (o : Int) a b c n = true) (hl : leadB (o : Int) = false) (hc : callB (o : Int) = true) (w : World) (ht : Tabs w) :
    Calls Tryd.prog 3 #[ins (o : Int) a b c n] w fun e w' => e = .returned (.bool true) ∧ Same w w' := by
  have HR := Lib.hid hr
  have HT := Lib.hid ht
  have HL := Lib.hid hl
  have HC := Lib.hid hc
  have hp : 0 < callV (o : Int) := by unfold callV; unfold callB at hc; simp at hc; split <;> omega
  clear hr ht hl
  obtain ⟨p, hpp⟩ : ∃ p, p = callV (o : Int) := ⟨_, rfl⟩
  rw [← hpp] at hp
  have HP := Lib.hid hpp
  clear hpp hc
  have q1 : decide ((0 : Int) < p) = true := decide_eq_true hp
  have q2 : (p != p) = false := by simp
  have q3 : (b != b) = false := by simp
  have q4 : (n != n) = false := by simp
  obtain ⟨op, hop⟩ : ∃ op : Int, op = (o : Int) := ⟨_, rfl⟩
  have HOP := Lib.hid hop
  obtain ⟨l1, hl1⟩ : ∃ l, l = (useL.getD o []).map (letV a b c) := ⟨_, rfl⟩
  obtain ⟨l2, hl2⟩ : ∃ l, l = (setL.getD o []).map (letV a b c) := ⟨_, rfl⟩
  obtain ⟨v1, hv1⟩ : ∃ v, v = orN l1 := ⟨_, rfl⟩
  obtain ⟨v2, hv2⟩ : ∃ v, v = orN l2 := ⟨_, rfl⟩
  have n1 : l1.length ≤ 1048576 := by rw [hl1, List.length_map]; have := useL_len o; omega
  have n2 : l2.length ≤ 1048576 := by rw [hl2, List.length_map]; have := setL_len o; omega
  have e1 : (((v1 : Nat) : Int) == ((v1 : Nat) : Int)) = true := by simp
  have e2 : (((v2 : Nat) : Int) == ((v2 : Nat) : Int)) = true := by simp
  have X1 := Lib.hid (show orN ((useL.getD ((o : Int).toNat) []).map (letV a b c)) = v1 by rw [hv1, hl1]; rfl)
  have X2 := Lib.hid (show orN ((setL.getD ((o : Int).toNat) []).map (letV a b c)) = v2 by rw [hv2, hl2]; rfl)
  have V1 := Lib.hid hv1
  have V2 := Lib.hid hv2
  have ru : ∀ w, Calls Tryd.prog 19 #[ins (o : Int) a b c n] w (RegPost w l1) := fun w => by rw [hl1]; exact ruses_any o ho a b c n w
  have rs : ∀ w, Calls Tryd.prog 20 #[ins (o : Int) a b c n] w (RegPost w l2) := fun w => by rw [hl2]; exact rsets_any o ho a b c n w
  have RU := Lib.hid ru
  have RS := Lib.hid rs
  have N1 := Lib.hid n1
  have N2 := Lib.hid n2
  clear hl1 hl2 hv1 hv2 n1 n2 hop ru rs
  unfold ins
  go_enter Tryd.func3, Tryd.ntmps3
  go_wp2_with fail
  have K0 : Kept w w.heap.size (o : Int) a b c n (w.alloc (.cells #[.int .i64 (o : Int), .int .i64 a, .int .i64 b, .int .i64 c, .int .u32 n] 24)) := ⟨Blk.new _ _ _, HT.out.same ((Same.refl _).alloc _), (Same.refl _).alloc _⟩
  generalize w.heap.size = g at *
  refine (target_any (o : Int) a b c n hn _ K0.tabs).mono ?_
  rintro e w1 ⟨rfl, s1⟩
  have K1 := K0.go s1
  clear K0 s1
  rw [HR.out, HL.out]
  rw [show ret2i (if (true && false) = true then n else 0) (true && false) = .returned (.tuple #[.int .i64 0, .bool false]) from rfl]
  obtain ⟨z0, z1, z2, z3, z4⟩ := K1.cells
  go_wp2_with fail
  refine (calls_any (o : Int) a b c n hn _ K1.tabs).mono ?_
  rintro e w2 ⟨rfl, s2⟩
  rw [HR.out, HC.out, ← HP.out]
  rw [show (if (true && true) = true then ret3b b p true else ret3b 0 0 false) = .returned (.tuple #[.int .i64 b, .int .i64 p, .bool true]) from rfl]
  have K2 := K1.go s2
  clear K1 s2 z0 z1 z2 z3 z4
  obtain ⟨z0, z1, z2, z3, z4⟩ := K2.cells
  have K2d := K2.go (Same.drew (Same.refl w2))
  have H2 := Lib.hid K2d
  clear K2 K2d
  go_wp2_with fail
  have k0 : w2.drew.cell? ⟨g, 0, none⟩ = some (.int .i64 (o : Int)) ∧ w2.drew.cell? ⟨g, 1, none⟩ = some (.int .i64 a) ∧ w2.drew.cell? ⟨g, 2, none⟩ = some (.int .i64 b) ∧ w2.drew.cell? ⟨g, 3, none⟩ = some (.int .i64 c) ∧ w2.drew.cell? ⟨g, 4, none⟩ = some (.int .u32 n) ∧ Same w2.drew w2.drew := ⟨z0, z1, z2, z3, z4, Same.refl _⟩
  have HK := Lib.hid (show ∀ w', Same w2.drew w' → (w'.cell? ⟨g, 0, none⟩ = some (.int .i64 (o : Int)) ∧ w'.cell? ⟨g, 1, none⟩ = some (.int .i64 a) ∧ w'.cell? ⟨g, 2, none⟩ = some (.int .i64 b) ∧ w'.cell? ⟨g, 3, none⟩ = some (.int .i64 c) ∧ w'.cell? ⟨g, 4, none⟩ = some (.int .u32 n) ∧ Same w2.drew w') from fun w' hs => by
    obtain ⟨y0, y1, y2, y3, y4⟩ := (H2.out.go hs).cells
    exact ⟨y0, y1, y2, y3, y4, hs⟩)
  go_region_held3 (fun w' => w'.cell? ⟨g, 0, none⟩ = some (.int .i64 (o : Int)) ∧ w'.cell? ⟨g, 1, none⟩ = some (.int .i64 a) ∧ w'.cell? ⟨g, 2, none⟩ = some (.int .i64 b) ∧ w'.cell? ⟨g, 3, none⟩ = some (.int .i64 c) ∧ w'.cell? ⟨g, 4, none⟩ = some (.int .u32 n) ∧ Same w2.drew w')
    (first | assumption | exact k0 | exact k3 | exact k4)
    (first
      | (go_at_call 11; refine (right_any (o : Int) a b c n hn _ H2.out.tabs).mono ?_; rintro e w3 ⟨rfl, s3⟩; rw [HR.out]; have k3 := HK.out _ s3; have hs3 := Lib.hid s3; clear s3)
      | (go_at_call 12; refine (rright_any (o : Int) a b c n hn _).mono ?_; rintro e w4 ⟨rfl, s4⟩; rw [HR.out]; have k4 := HK.out _ (hs3.out.trans s4); clear s4))
  rcases ‹_ ∧ _ ∧ _ ∧ _ ∧ _ ∧ Same w2.drew _› with ⟨y0, y1, y2, y3, y4, s5⟩
  have K5 := H2.out.go s5
  clear s5 z0 z1 z2 z3 z4 H2 HK k0
  go_wp2_with fail
  refine (rright_any (o : Int) a b c n hn _).mono ?_
  rintro e w6 ⟨rfl, s6⟩
  rw [HR.out]
  have K6 := K5.go s6
  clear K5 s6 y0 y1 y2 y3 y4
  obtain ⟨z0, z1, z2, z3, z4⟩ := K6.cells
  go_wp2_with fail
  refine (rleads_any (o : Int) _).mono ?_
  rintro e w7 ⟨rfl, rfl⟩
  rw [HL.out]
  go_wp2_with fail
  refine (rcalls_any (o : Int) _).mono ?_
  rintro e w7 ⟨rfl, rfl⟩
  rw [← HP.out]
  go_wp2_with fail
  refine (rcalls_any (o : Int) _).mono ?_
  rintro e w7 ⟨rfl, rfl⟩
  rw [← HP.out]
  go_wp2_with fail
  have K6d := K6.go (Same.drew (Same.refl w6))
  have H6 := Lib.hid K6d
  have k6 : w6.drew.cell? ⟨g, 0, none⟩ = some (.int .i64 (o : Int)) ∧ w6.drew.cell? ⟨g, 1, none⟩ = some (.int .i64 a) ∧ w6.drew.cell? ⟨g, 2, none⟩ = some (.int .i64 b) ∧ w6.drew.cell? ⟨g, 3, none⟩ = some (.int .i64 c) ∧ w6.drew.cell? ⟨g, 4, none⟩ = some (.int .u32 n) ∧ Same w6.drew w6.drew := ⟨z0, z1, z2, z3, z4, Same.refl _⟩
  have HK6 := Lib.hid (show ∀ w', Same w6.drew w' → (w'.cell? ⟨g, 0, none⟩ = some (.int .i64 (o : Int)) ∧ w'.cell? ⟨g, 1, none⟩ = some (.int .i64 a) ∧ w'.cell? ⟨g, 2, none⟩ = some (.int .i64 b) ∧ w'.cell? ⟨g, 3, none⟩ = some (.int .i64 c) ∧ w'.cell? ⟨g, 4, none⟩ = some (.int .u32 n) ∧ Same w6.drew w') from fun w' hs => by
    obtain ⟨y0, y1, y2, y3, y4⟩ := (H6.out.go hs).cells
    exact ⟨y0, y1, y2, y3, y4, hs⟩)
  clear K6 K6d
  go_region_held3 (fun w' => w'.cell? ⟨g, 0, none⟩ = some (.int .i64 (o : Int)) ∧ w'.cell? ⟨g, 1, none⟩ = some (.int .i64 a) ∧ w'.cell? ⟨g, 2, none⟩ = some (.int .i64 b) ∧ w'.cell? ⟨g, 3, none⟩ = some (.int .i64 c) ∧ w'.cell? ⟨g, 4, none⟩ = some (.int .u32 n) ∧ Same w6.drew w')
    (first | assumption | exact k6 | exact j1 | exact j2 | exact j3 | exact j4 | exact j5)
    (first
      | (go_at_call 13; refine (uses_any (o : Int) a b c n hn _ H6.out.tabs).mono ?_; rintro e w7 ⟨rfl, s7⟩; rw [HR.out, if_pos rfl, X1.out]; have j1 := HK6.out _ s7; have t7 := Lib.hid s7; clear s7)
      | (go_at_call 19; refine (RU.out _).mono ?_; rintro e w8 ⟨A1, c1, rfl, r8, s8⟩; have j2 := HK6.out _ (t7.out.trans s8); have t8 := Lib.hid (t7.out.trans s8); have R8 := Lib.hid r8; clear s8 r8)
      | (go_at_call 20; refine (RS.out _).mono ?_; rintro e w9 ⟨A2, c2, rfl, r9, s9⟩; have j4 := HK6.out _ (t10.out.trans s9); have t9 := Lib.hid (t10.out.trans s9); have R9 := Lib.hid r9; clear s9 r9)
      | (go_at_call 18; (with_reducible refine (of_any A1 l1.length c1 l1 _ rfl N1.out R8.out).mono ?_); rintro e w11 ⟨rfl, rfl⟩; rw [← V1.out])
      | (go_at_call 18; (with_reducible refine (of_any A2 l2.length c2 l2 _ rfl N2.out R9.out).mono ?_); rintro e w11 ⟨rfl, rfl⟩; rw [← V2.out])
      | (go_at_call 14; refine (sets_any (o : Int) a b c n hn _ (H6.out.go t8.out).tabs).mono ?_; rintro e w10 ⟨rfl, s10⟩; rw [HR.out, if_pos rfl, X2.out]; have j3 := HK6.out _ (t8.out.trans s10); have t10 := Lib.hid (t8.out.trans s10); clear s10)
      | (go_at_call 15; refine (iawake _ (H6.out.go t9.out).tabs).mono ?_; rintro e w12 ⟨rfl, s12⟩; have j5 := HK6.out _ (t9.out.trans s12); clear s12))
  rcases ‹_ ∧ _ ∧ _ ∧ _ ∧ _ ∧ Same w6.drew _› with ⟨y0, y1, y2, y3, y4, s5⟩
  have K9 := H6.out.go s5
  clear s5 z0 z1 z2 z3 z4 H6 HK6 k6
  go_wp2_with fail
  go_ret
  exact ⟨rfl, K9.same⟩

theorem lright_any (op a b c n : Int) (hn : 0 ≤ n ∧ n < 4294967296) (w : World) (ht : Tabs w) :
    Calls Tryd.prog 3 #[ins op a b c n] w fun e w' => e = .returned (.bool true) ∧ Same w w' := by
  cases hr : rightB op a b c n
  · exact lright_no op a b c n hn hr w ht
  · have ho := right_in hr
    obtain ⟨o, rfl⟩ : ∃ o : Nat, op = (o : Int) := ⟨op.toNat, by omega⟩
    have ho2 : o < 22 := by omega
    cases hl : leadB (o : Int)
    · cases hc : callB (o : Int)
      · exact lright_none o ho2 a b c n hn hr hl hc w ht
      · exact lright_call o ho2 a b c n hn hr hl hc w ht
    · have hc : callB (o : Int) = false := by unfold leadB at hl; unfold callB; simp at hl ⊢; omega
      exact lright_lead o ho2 a b c n hn hr hl hc w ht

theorem u32_of {z : Int} (h : (Lit.int .u32 z).wf = true) : 0 ≤ z ∧ z < 4294967296 := by
  simp only [Lit.wf, IntKind.min, IntKind.max, IntKind.signed, IntKind.bits, Bool.and_eq_true] at h
  simp at h
  omega

/-- what a struct that came in by value is -/
theorem ins_of {z : List Int} (h : Fl.Fit [.i64, .i64, .i64, .i64, .u32] z) : ∃ i : Ins, i.ok ∧ Value.agg (Fl.cellsOf [.i64, .i64, .i64, .i64, .u32] z).toArray = i.val := by
  obtain ⟨h1, h2⟩ := h
  match z, h1 with
  | [op, a, b, c, n], _ => exact ⟨⟨op, a, b, c, n⟩, u32_of (h2 4 .u32 rfl), rfl⟩

theorem lright_walk (z : List Int) (h : Fl.Fit [.i64, .i64, .i64, .i64, .u32] z) (w : World) (ht : Tabs w) :
    Calls Tryd.prog 3 #[.agg (Fl.cellsOf [.i64, .i64, .i64, .i64, .u32] z).toArray] w fun e w' => e = .returned (.bool true) ∧ Same w w' := by
  obtain ⟨i, hi, he⟩ := ins_of h
  rw [he]
  exact lright_any i.op i.a i.b i.c i.n hi w ht

end Go.Proofs.YtgpipfmgjbecjacDoor.Is
