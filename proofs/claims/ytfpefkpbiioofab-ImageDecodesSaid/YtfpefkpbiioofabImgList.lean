/-
  Layer 33: lists read (image.list): instructions, readers, records.
-/
import Derived.Test.YtfpefkpbiioofabImgRd
set_option linter.unusedVariables false
set_option linter.unusedSimpArgs false
namespace Go.Proofs.Ytfpefkpbiioofab.Im
open Go.ChangeShapes Go.WideShapes Go.ChangeAt Go.RowKit Ws Cd

theorem rL_len {α : Type} (f : Rdr α) : ∀ (n : Nat) (r : Rs), (rL f n r).1.length = n
  | 0, _ => rfl
  | n + 1, r => by
    show ((rL f n r).1 ++ [_]).length = n + 1
    rw [List.length_append, rL_len f n r]
    rfl
theorem rL_succ {α : Type} (f : Rdr α) (n : Nat) (r : Rs) {xs : List α} {r1 r2 : Rs} {x : α} (h1 : (xs, r1) = rL f n r) (h2 : (x, r2) = f r1) : (xs ++ [x], r2) = rL f (n + 1) r := by
  show (xs ++ [x], r2) = ((rL f n r).1 ++ [(f (rL f n r).2).1], (f (rL f n r).2).2)
  rw [← h1, ← h2]
theorem fm_snoc {α : Type} (f : α → List Value) (l : List α) (x : α) : (l ++ [x]).flatMap f = l.flatMap f ++ f x := by simp
theorem ownK_ge {w : World} {B : Nat} {e : TypeId} {s : Nat} {A : Option Addr} {n c : Nat} {l : List Value} (h : OwnK w B e s A n c l) {g : Nat} (hA : A = some ⟨g, 0, none⟩) : B ≤ g := by
  subst hA
  exact h.lt.1
def ints1 (x : Int) : List Value := [.int .i64 x]
def words1 (x : Int) : List Value := [.int .u32 x]
set_option maxRecDepth 100000 in
set_option maxHeartbeats 1000000 in
theorem clI {R : Nat → Prop} {g : Nat} {l : List Int} {r : Rs} (b : Nat) (w : World) (h : RSt w R g l r) (hb : By l) (hR : ∀ i, R i → i < w.heap.size) (hbx : Blk w b 37 #[.pointer (some ⟨g, 0, none⟩)]) (hbR : ¬ R b) :
    Calls Try.prog 47 #[.pointer (some ⟨b, 0, none⟩)] w fun e w' => e = .returned (.agg (icells (rI l r).1).toArray) ∧ RSt w' R g l (rI l r).2 ∧ Chg R w w' := by
  have hs0 := (Same.refl w).alloc (.cells #[.int .i64 0, .int .i64 0, .int .i64 0, .int .i64 0, .int .u32 0] 52)
  have HB0 := Lib.hid (Blk.new w 52 #[.int .i64 0, .int .i64 0, .int .i64 0, .int .i64 0, .int .u32 0])
  have HR0 := Lib.hid (show RSt _ R g l r from Rd.same h hs0)
  have HC0 := Lib.hid (hs0.chg R)
  have HNR := Lib.hid (fun hi : R w.heap.size => Nat.lt_irrefl _ (hR _ hi))
  have HRS := Lib.hid (fun i (hi : R i) => Nat.lt_of_lt_of_le (hR i hi) hs0.size)
  have a0 : (w.alloc (.cells #[.int .i64 0, .int .i64 0, .int .i64 0, .int .i64 0, .int .u32 0] 52)).cell? ⟨b, 0, none⟩ = some (.pointer (some ⟨g, 0, none⟩)) := (hbx.same hs0).cell 0
  have HBY := Lib.hid hb
  clear h hb hs0 hbx hR hbR
  go_enter Try.func47, Try.ntmps47
  go_wp2_with fail
  refine (instr_any _ HR0.out HBY.out HRS.out).mono ?_
  rintro e w1 ⟨rfl, h1, s1⟩
  obtain ⟨⟨x, r1⟩, hx⟩ : ∃ p, p = rI l r := ⟨_, rfl⟩
  rw [← hx] at h1 ⊢
  have HB1 := Lib.hid (HB0.out.chg s1 HNR.out)
  have HR1 := Lib.hid h1
  have HC1 := Lib.hid (HC0.out.trans s1)
  have HX := Lib.hid hx
  clear hx h1 s1 a0 HB0 HR0 HC0
  obtain ⟨x1, x2, x3, x4, x5⟩ := x
  obtain ⟨y0, y1, y2, y3, y4⟩ := (⟨HB1.out.thaw 0, HB1.out.thaw 1, HB1.out.thaw 2, HB1.out.thaw 3, HB1.out.thaw 4⟩ : _ ∧ _ ∧ _ ∧ _ ∧ _)
  obtain ⟨z0, z1, z2, z3, z4⟩ := (⟨HB1.out.cell 0, HB1.out.cell 1, HB1.out.cell 2, HB1.out.cell 3, HB1.out.cell 4⟩ : _ ∧ _ ∧ _ ∧ _ ∧ _)
  simp only [List.getElem?_toArray, List.getElem?_cons_zero, List.getElem?_cons_succ] at z0 z1 z2 z3 z4
  simp only [icells]
  go_wp2_with fail
  obtain ⟨p1, p2⟩ := puts5 (v0 := (.int .i64 x1)) (v1 := (.int .i64 x2)) (v2 := (.int .i64 x3)) (v3 := (.int .i64 x4)) (v4 := (.int .u32 x5)) HB1.out
  refine bodyPost_ret (v := .agg #[.int .i64 x1, .int .i64 x2, .int .i64 x3, .int .i64 x4, .int .u32 x5]) (results_cell_row Try.results47 _ _ w.heap.size 52 #[.int .i64 x1, .int .i64 x2, .int .i64 x3, .int .i64 x4, .int .u32 x5] (0, 0) _ rfl p1 Try.underlying52 rfl instr_size) rfl ?_
  rw [← HX.out]
  exact ⟨rfl, Rd.chg HR1.out p2 (fun i hi he => HNR.out (he ▸ hi)), chg_new HC1.out p2 (Nat.le_refl _)⟩
set_option maxRecDepth 100000 in
set_option maxHeartbeats 1000000 in
theorem listI {R : Nat → Prop} {g : Nat} {l : List Int} {r : Rs} (b : Nat) (n : Nat) (hn : n ≤ 255) (w : World) (h : RSt w R g l r) (hb : By l) (hR : ∀ i, R i → i < w.heap.size) (hbx : Blk w b 37 #[.pointer (some ⟨g, 0, none⟩)]) (hbR : ¬ R b) :
    Calls Try.prog 46 #[.int .i64 n, .func (.func 47) #[] #[.pointer (some ⟨b, 0, none⟩)]] w fun e w' => ∃ A c, e = .returned (.slice A n c) ∧ OwnK w' w.heap.size 52 5 A n c ((rL (rI l) n r).1.flatMap icells) ∧ RSt w' R g l (rL (rI l) n r).2 ∧ Chg R w w' := by
  obtain ⟨i0, hi, hz0, hz1, hz2⟩ := info_parts ins_info
  have HH := Lib.hid h
  have HBY := Lib.hid hb
  have HRS := Lib.hid hR
  have HBX := Lib.hid hbx
  have HBR := Lib.hid hbR
  clear h hb hR hbx hbR
  go_enter Try.func46, Try.ntmps46
  go_wp2_with fail
  go_loopg [7, 5] n (fun gk iv sv wx => ∃ (k : Nat) (A : Option Addr) (c : Nat), k + gk = n ∧ iv = .int .i64 k ∧ sv = .slice A k c ∧ OwnK wx w.heap.size 52 5 A k c ((rL (rI l) k r).1.flatMap icells) ∧ RSt wx R g l (rL (rI l) k r).2 ∧ Chg R w wx)
  case atStart => exact ⟨0, none, 0, by omega, rfl, rfl, OwnK.none _ _ _ _, HH.out, Chg.refl _ _⟩
  case round =>
    obtain ⟨k, A, c, hk, rfl, rfl, ho, hr, hc⟩ := hrel
    have HO := Lib.hid ho
    have HR := Lib.hid hr
    have HC := Lib.hid hc
    clear ho hr hc
    cases gk with
    | zero =>
      obtain rfl : k = n := by omega
      have hge : ¬ (k : Int) < (k : Int) := by omega
      go_wp2_with fail
      go_ret
      exact ⟨A, c, rfl, HO.out, HR.out, HC.out⟩
    | succ GK =>
      have hlt : (k : Int) < n := by omega
      obtain ⟨⟨xs, rk⟩, hx⟩ : ∃ p, p = rL (rI l) k r := ⟨_, rfl⟩
      rw [← hx] at HO HR
      have HX := Lib.hid hx
      clear hx
      have HSZ := Lib.hid (fun i (hi : R i) => Nat.lt_of_lt_of_le (HRS.out i hi) HC.out.size)
      go_wp2_with fail
      refine (clI b _ HR.out HBY.out HSZ.out (HBX.out.chg HC.out HBR.out) HBR.out).mono ?_
      rintro e w1 ⟨rfl, h1, s1⟩
      obtain ⟨⟨x, r1⟩, hy⟩ : ∃ p, p = (rI l) rk := ⟨_, rfl⟩
      rw [← hy] at h1 ⊢
      have HY := Lib.hid (rL_succ (rI l) k r HX.out hy)
      have HR1 := Lib.hid h1
      have HC1 := Lib.hid (HC.out.trans s1)
      have HO1 := Lib.hid (HO.out.chg s1 fun i hi hS => by have := ownK_ge HO.out hi; have := HRS.out i hS; omega)
      clear hy h1 s1 HR HC HO HX HSZ
      obtain ⟨x1, x2, x3, x4, x5⟩ := x
      simp only [icells]
      go_wp2_with (at_builtin; go_loud (refine wpList_appK rfl (.tmp 9) (.tmp 12) 47 rfl w.heap.size 52 i0 _ 5 40 Try.underlying47 hi hz0 hz1 hz2 rfl (by omega) A k c (xs.flatMap icells) rfl (HO1.out.same ((Same.refl _).alloc _)) _ 1 1 [.int .i64 x1, .int .i64 x2, .int .i64 x3, .int .i64 x4, .int .u32 x5] rfl rfl (row_new _ _ _) ?c1 (by omega) (by omega) ?c2 ?_))
      case c1 => first | exact ⟨rfl, rfl, rfl, rfl, rfl⟩ | rfl | (simp; rfl) | simp
      case c2 => have := HC1.out.size; (first | omega | (simp; omega))
      intro A2 c2 w2 ho2 hc2
      have HA := Lib.hid (fun i (hi : A = some ⟨i, 0, none⟩) => ownK_ge HO1.out hi)
      have HR2 := Lib.hid (show RSt w2 R g l r1 from (Rd.same HR1.out ((Same.refl _).alloc _)).chg hc2 fun i hi hS => by have := HA.out i hS; have := HRS.out i hi; omega)
      have HC2 := Lib.hid (show Chg R w w2 from ⟨hc2.os.trans HC1.out.os, hc2.tape.trans HC1.out.tape, hc2.output.trans HC1.out.output, Nat.le_trans (HC1.out.alloc _).size hc2.size, fun i hi hs => (hc2.block i (Nat.lt_of_lt_of_le hi (HC1.out.alloc _).size) (fun hA => by have := HA.out i hA; omega)).trans ((HC1.out.alloc _).block i hi hs)⟩)
      have HO2 := Lib.hid ho2
      clear ho2 hc2 HR1 HC1 HO1 HA
      go_wp2_with fail
      go_roundg GK
      case measure => omega
      case rel =>
        refine ⟨k + 1, A2, c2, by omega, by go_num, rfl, ?_, ?_, HC2.out⟩
        · rw [← HY.out, fm_snoc]
          exact HO2.out
        · rw [← HY.out]
          exact HR2.out
set_option maxRecDepth 100000 in
set_option maxHeartbeats 1000000 in
theorem listN {R : Nat → Prop} {g : Nat} {l : List Int} {r : Rs} (n : Nat) (hn : n ≤ 255) (w : World) (h : RSt w R g l r) (hb : By l) (hR : ∀ i, R i → i < w.heap.size) :
    Calls Try.prog 49 #[.int .i64 n, .func (.func 29) #[.pointer (some ⟨g, 0, none⟩)] #[]] w fun e w' => ∃ A c, e = .returned (.slice A n c) ∧ OwnK w' w.heap.size 3 1 A n c ((rL (rU l 1) n r).1.flatMap ints1) ∧ RSt w' R g l (rL (rU l 1) n r).2 ∧ Chg R w w' := by
  obtain ⟨i0, hi, hz0, hz1, hz2⟩ := info_parts int_info
  have HH := Lib.hid h
  have HBY := Lib.hid hb
  have HRS := Lib.hid hR
  skip
  clear h hb hR
  go_enter Try.func49, Try.ntmps49
  go_wp2_with fail
  go_loopg [7, 5] n (fun gk iv sv wx => ∃ (k : Nat) (A : Option Addr) (c : Nat), k + gk = n ∧ iv = .int .i64 k ∧ sv = .slice A k c ∧ OwnK wx w.heap.size 3 1 A k c ((rL (rU l 1) k r).1.flatMap ints1) ∧ RSt wx R g l (rL (rU l 1) k r).2 ∧ Chg R w wx)
  case atStart => exact ⟨0, none, 0, by omega, rfl, rfl, OwnK.none _ _ _ _, HH.out, Chg.refl _ _⟩
  case round =>
    obtain ⟨k, A, c, hk, rfl, rfl, ho, hr, hc⟩ := hrel
    have HO := Lib.hid ho
    have HR := Lib.hid hr
    have HC := Lib.hid hc
    clear ho hr hc
    cases gk with
    | zero =>
      obtain rfl : k = n := by omega
      have hge : ¬ (k : Int) < (k : Int) := by omega
      go_wp2_with fail
      go_ret
      exact ⟨A, c, rfl, HO.out, HR.out, HC.out⟩
    | succ GK =>
      have hlt : (k : Int) < n := by omega
      obtain ⟨⟨xs, rk⟩, hx⟩ : ∃ p, p = rL (rU l 1) k r := ⟨_, rfl⟩
      rw [← hx] at HO HR
      have HX := Lib.hid hx
      clear hx
      have HSZ := Lib.hid (fun i (hi : R i) => Nat.lt_of_lt_of_le (HRS.out i hi) HC.out.size)
      go_wp2_with fail
      refine (u8r _ HR.out HBY.out).mono ?_
      rintro e w1 ⟨rfl, h1, s1⟩
      obtain ⟨⟨x, r1⟩, hy⟩ : ∃ p, p = (rU l 1) rk := ⟨_, rfl⟩
      rw [← hy] at h1 ⊢
      have HY := Lib.hid (rL_succ (rU l 1) k r HX.out hy)
      have HR1 := Lib.hid h1
      have HC1 := Lib.hid (HC.out.trans s1)
      have HO1 := Lib.hid (HO.out.chg s1 fun i hi hS => by have := ownK_ge HO.out hi; have := HRS.out i hS; omega)
      clear hy h1 s1 HR HC HO HX HSZ
      skip
      go_wp2_with (at_builtin; go_loud (refine wpList_appK rfl (.tmp 9) (.tmp 12) 54 rfl w.heap.size 3 i0 _ 1 8 Try.underlying54 hi hz0 hz1 hz2 rfl (by omega) A k c (xs.flatMap ints1) rfl (HO1.out.same ((Same.refl _).alloc _)) _ 1 1 [.int .i64 x] rfl rfl (row_new _ _ _) ?c1 (by omega) (by omega) ?c2 ?_))
      case c1 => first | exact ⟨rfl⟩ | rfl | (simp; rfl) | simp
      case c2 => have := HC1.out.size; (first | omega | (simp; omega))
      intro A2 c2 w2 ho2 hc2
      have HA := Lib.hid (fun i (hi : A = some ⟨i, 0, none⟩) => ownK_ge HO1.out hi)
      have HR2 := Lib.hid (show RSt w2 R g l r1 from (Rd.same HR1.out ((Same.refl _).alloc _)).chg hc2 fun i hi hS => by have := HA.out i hS; have := HRS.out i hi; omega)
      have HC2 := Lib.hid (show Chg R w w2 from ⟨hc2.os.trans HC1.out.os, hc2.tape.trans HC1.out.tape, hc2.output.trans HC1.out.output, Nat.le_trans (HC1.out.alloc _).size hc2.size, fun i hi hs => (hc2.block i (Nat.lt_of_lt_of_le hi (HC1.out.alloc _).size) (fun hA => by have := HA.out i hA; omega)).trans ((HC1.out.alloc _).block i hi hs)⟩)
      have HO2 := Lib.hid ho2
      clear ho2 hc2 HR1 HC1 HO1 HA
      go_wp2_with fail
      go_roundg GK
      case measure => omega
      case rel =>
        refine ⟨k + 1, A2, c2, by omega, by go_num, rfl, ?_, ?_, HC2.out⟩
        · rw [← HY.out, fm_snoc]
          exact HO2.out
        · rw [← HY.out]
          exact HR2.out
set_option maxRecDepth 100000 in
set_option maxHeartbeats 1000000 in
theorem listW {R : Nat → Prop} {g : Nat} {l : List Int} {r : Rs} (n : Nat) (hn : n ≤ 255) (w : World) (h : RSt w R g l r) (hb : By l) (hR : ∀ i, R i → i < w.heap.size) :
    Calls Try.prog 50 #[.int .i64 n, .func (.func 45) #[.pointer (some ⟨g, 0, none⟩)] #[]] w fun e w' => ∃ A c, e = .returned (.slice A n c) ∧ OwnK w' w.heap.size 50 1 A n c ((rL (rU l 4) n r).1.flatMap words1) ∧ RSt w' R g l (rL (rU l 4) n r).2 ∧ Chg R w w' := by
  obtain ⟨i0, hi, hz0, hz1, hz2⟩ := info_parts u32_info
  have HH := Lib.hid h
  have HBY := Lib.hid hb
  have HRS := Lib.hid hR
  skip
  clear h hb hR
  go_enter Try.func50, Try.ntmps50
  go_wp2_with fail
  go_loopg [7, 5] n (fun gk iv sv wx => ∃ (k : Nat) (A : Option Addr) (c : Nat), k + gk = n ∧ iv = .int .i64 k ∧ sv = .slice A k c ∧ OwnK wx w.heap.size 50 1 A k c ((rL (rU l 4) k r).1.flatMap words1) ∧ RSt wx R g l (rL (rU l 4) k r).2 ∧ Chg R w wx)
  case atStart => exact ⟨0, none, 0, by omega, rfl, rfl, OwnK.none _ _ _ _, HH.out, Chg.refl _ _⟩
  case round =>
    obtain ⟨k, A, c, hk, rfl, rfl, ho, hr, hc⟩ := hrel
    have HO := Lib.hid ho
    have HR := Lib.hid hr
    have HC := Lib.hid hc
    clear ho hr hc
    cases gk with
    | zero =>
      obtain rfl : k = n := by omega
      have hge : ¬ (k : Int) < (k : Int) := by omega
      go_wp2_with fail
      go_ret
      exact ⟨A, c, rfl, HO.out, HR.out, HC.out⟩
    | succ GK =>
      have hlt : (k : Int) < n := by omega
      obtain ⟨⟨xs, rk⟩, hx⟩ : ∃ p, p = rL (rU l 4) k r := ⟨_, rfl⟩
      rw [← hx] at HO HR
      have HX := Lib.hid hx
      clear hx
      have HSZ := Lib.hid (fun i (hi : R i) => Nat.lt_of_lt_of_le (HRS.out i hi) HC.out.size)
      go_wp2_with fail
      refine (u32r _ HR.out HBY.out).mono ?_
      rintro e w1 ⟨rfl, h1, s1⟩
      obtain ⟨⟨x, r1⟩, hy⟩ : ∃ p, p = (rU l 4) rk := ⟨_, rfl⟩
      rw [← hy] at h1 ⊢
      have HY := Lib.hid (rL_succ (rU l 4) k r HX.out hy)
      have HR1 := Lib.hid h1
      have HC1 := Lib.hid (HC.out.trans s1)
      have HO1 := Lib.hid (HO.out.chg s1 fun i hi hS => by have := ownK_ge HO.out hi; have := HRS.out i hS; omega)
      clear hy h1 s1 HR HC HO HX HSZ
      skip
      go_wp2_with (at_builtin; go_loud (refine wpList_appK rfl (.tmp 9) (.tmp 12) 53 rfl w.heap.size 50 i0 _ 1 4 Try.underlying53 hi hz0 hz1 hz2 rfl (by omega) A k c (xs.flatMap words1) rfl (HO1.out.same ((Same.refl _).alloc _)) _ 1 1 [.int .u32 x] rfl rfl (row_new _ _ _) ?c1 (by omega) (by omega) ?c2 ?_))
      case c1 => first | exact ⟨rfl⟩ | rfl | (simp; rfl) | simp
      case c2 => have := HC1.out.size; (first | omega | (simp; omega))
      intro A2 c2 w2 ho2 hc2
      have HA := Lib.hid (fun i (hi : A = some ⟨i, 0, none⟩) => ownK_ge HO1.out hi)
      have HR2 := Lib.hid (show RSt w2 R g l r1 from (Rd.same HR1.out ((Same.refl _).alloc _)).chg hc2 fun i hi hS => by have := HA.out i hS; have := HRS.out i hi; omega)
      have HC2 := Lib.hid (show Chg R w w2 from ⟨hc2.os.trans HC1.out.os, hc2.tape.trans HC1.out.tape, hc2.output.trans HC1.out.output, Nat.le_trans (HC1.out.alloc _).size hc2.size, fun i hi hs => (hc2.block i (Nat.lt_of_lt_of_le hi (HC1.out.alloc _).size) (fun hA => by have := HA.out i hA; omega)).trans ((HC1.out.alloc _).block i hi hs)⟩)
      have HO2 := Lib.hid ho2
      clear ho2 hc2 HR1 HC1 HO1 HA
      go_wp2_with fail
      go_roundg GK
      case measure => omega
      case rel =>
        refine ⟨k + 1, A2, c2, by omega, by go_num, rfl, ?_, ?_, HC2.out⟩
        · rw [← HY.out, fm_snoc]
          exact HO2.out
        · rw [← HY.out]
          exact HR2.out
end Go.Proofs.Ytfpefkpbiioofab.Im
