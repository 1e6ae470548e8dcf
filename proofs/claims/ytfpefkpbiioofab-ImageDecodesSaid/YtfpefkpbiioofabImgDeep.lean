/-
  Layer 33: the lists of tasks and of objects that are read.
-/
import Derived.Test.YtfpefkpbiioofabImgObj
set_option linter.unusedVariables false
set_option linter.unusedSimpArgs false
namespace Go.Proofs.Ytfpefkpbiioofab.Im
open Go.ChangeShapes Go.WideShapes Go.ChangeAt Go.RowKit Ws Cd

theorem tk_info : (Try.prog.info? 49).map (fun i => (i.zero, i.size, i.bytes)) = some (some (.agg #[.int .i64 0, .int .i64 0, .int .i64 0, .int .i64 0, .int .i64 0, .int .i64 0, .slice none 0 0]), 7, 72) := by kernel_rfl
theorem ob_info : (Try.prog.info? 56).map (fun i => (i.zero, i.size, i.bytes)) = some (some (.agg #[.int .i64 0, .int .i64 0, .int .i64 0, .int .i64 0, .int .u32 0, .slice none 0 0, .int .i64 0, .slice none 0 0]), 8, 96) := by kernel_rfl
theorem DT.ok.keep {S : Nat → Prop} {w w' : World} {H : Nat} {d : DT} (h : d.ok w H) (hc : Chg S w w') (hn : ∀ i, H ≤ i → ¬ S i) : d.ok w' H :=
  OwnK.chg h hc fun i hi hS => hn i (ownK_ge h hi) hS
theorem DT.ok.blk {w w' : World} {H b : Nat} {T : TypeId} {cs : Array Value} {d : DT} (h : d.ok w H) (hb : Blk w b T cs) (hc : Chg (fun i => i = b) w w') (hT : 52 ≠ T) : d.ok w' H :=
  OwnK.chg h hc fun i hi hS => OwnK.ne h hb hT i hi hS
theorem DT.ok.base {w : World} {H H' : Nat} {d : DT} (h : d.ok w H) (hH : H' ≤ H) : d.ok w H' := OwnK.base h hH
theorem DO.ok.keep {S : Nat → Prop} {w w' : World} {H : Nat} {d : DO} (h : d.ok w H) (hc : Chg S w w') (hn : ∀ i, H ≤ i → ¬ S i) : d.ok w' H :=
  ⟨OwnK.chg h.1 hc fun i hi hS => hn i (ownK_ge h.1 hi) hS, OwnK.chg h.2 hc fun i hi hS => hn i (ownK_ge h.2 hi) hS⟩
theorem DO.ok.blk {w w' : World} {H b : Nat} {T : TypeId} {cs : Array Value} {d : DO} (h : d.ok w H) (hb : Blk w b T cs) (hc : Chg (fun i => i = b) w w') (hT : 50 ≠ T) (hT2 : 3 ≠ T) : d.ok w' H :=
  ⟨OwnK.chg h.1 hc fun i hi hS => OwnK.ne h.1 hb hT i hi hS, OwnK.chg h.2 hc fun i hi hS => OwnK.ne h.2 hb hT2 i hi hS⟩
theorem DO.ok.base {w : World} {H H' : Nat} {d : DO} (h : d.ok w H) (hH : H' ≤ H) : d.ok w H' := ⟨OwnK.base h.1 hH, OwnK.base h.2 hH⟩
theorem ownK_blk {w : World} {B : Nat} {e : TypeId} {s : Nat} {A : Option Addr} {n c : Nat} {l : List Value} (h : OwnK w B e s A n c l) {i : Nat} (hi : A = some ⟨i, 0, none⟩) : ∃ cs, Blk w i e cs := by
  subst hi
  rcases h.2 with ⟨h2, _⟩ | ⟨g', cap, cur, hv, hB, hg, _⟩
  · cases h2
  · injection hv with hv
    injection hv with hv
    injection hv with hv
    subst hv
    exact ⟨_, hg⟩
theorem DT.ok.row {w w' : World} {H B : Nat} {T : TypeId} {A : Option Addr} {s n c : Nat} {l : List Value} {d : DT} (h : d.ok w H) (hA : OwnK w B T s A n c l) (hc : Chg (fun i => A = some ⟨i, 0, none⟩) w w') (hT : 52 ≠ T) : d.ok w' H :=
  OwnK.chg h hc fun i hi hS => by
    obtain ⟨cs, hb⟩ := ownK_blk hA hS
    exact OwnK.ne h hb hT i hi rfl
theorem DO.ok.row {w w' : World} {H B : Nat} {T : TypeId} {A : Option Addr} {s n c : Nat} {l : List Value} {d : DO} (h : d.ok w H) (hA : OwnK w B T s A n c l) (hc : Chg (fun i => A = some ⟨i, 0, none⟩) w w') (hT : 50 ≠ T) (hT2 : 3 ≠ T) : d.ok w' H :=
  ⟨OwnK.chg h.1 hc fun i hi hS => by
    obtain ⟨cs, hb⟩ := ownK_blk hA hS
    exact OwnK.ne h.1 hb hT i hi rfl, OwnK.chg h.2 hc fun i hi hS => by
    obtain ⟨cs, hb⟩ := ownK_blk hA hS
    exact OwnK.ne h.2 hb hT2 i hi rfl⟩
set_option maxRecDepth 100000 in
set_option maxHeartbeats 1000000 in
theorem clT {R : Nat → Prop} {g : Nat} {l : List Int} {r : Rs} (b : Nat) (w : World) (h : RSt w R g l r) (hb : By l) (hR : ∀ i, R i → i < w.heap.size) (hbx : Blk w b 37 #[.pointer (some ⟨g, 0, none⟩)]) :
    Calls Try.prog 31 #[.pointer (some ⟨b, 0, none⟩)] w fun e w' => ∃ d : DT, e = .returned (.agg d.cells.toArray) ∧ d.p = (rT l r).1 ∧ d.ok w' w.heap.size ∧ RSt w' R g l (rT l r).2 ∧ Chg R w w' := by
  have hs0 := (Same.refl w).alloc (.cells #[.int .i64 0, .int .i64 0, .int .i64 0, .int .i64 0, .int .i64 0, .int .i64 0, .slice none 0 0] 49)
  have HB0 := Lib.hid (Blk.new w 49 #[.int .i64 0, .int .i64 0, .int .i64 0, .int .i64 0, .int .i64 0, .int .i64 0, .slice none 0 0])
  have HR0 := Lib.hid (show RSt _ R g l r from Rd.same h hs0)
  have HC0 := Lib.hid (hs0.chg R)
  have HNR := Lib.hid (show ¬ R w.heap.size from fun hi => Nat.lt_irrefl _ (hR _ hi))
  have HRS := Lib.hid (fun i (hi : R i) => Nat.lt_of_lt_of_le (hR i hi) hs0.size)
  have a0 : (w.alloc (.cells #[.int .i64 0, .int .i64 0, .int .i64 0, .int .i64 0, .int .i64 0, .int .i64 0, .slice none 0 0] 49)).cell? ⟨b, 0, none⟩ = some (.pointer (some ⟨g, 0, none⟩)) := (hbx.same hs0).cell 0
  have HBY := Lib.hid hb
  have HSZ := Lib.hid hs0.size
  clear h hb hs0 hbx hR
  go_enter Try.func31, Try.ntmps31
  go_wp2_with fail
  refine (taskr_any _ HR0.out HBY.out HRS.out).mono ?_
  rintro e w1 ⟨d, rfl, hp, hok, h1, s1⟩
  have HB1 := Lib.hid (HB0.out.chg s1 HNR.out)
  have HR1 := Lib.hid h1
  have HC1 := Lib.hid (HC0.out.trans s1)
  have HP := Lib.hid hp
  have HOK := Lib.hid (hok.base HSZ.out)
  clear hp hok h1 s1 a0 HB0 HR0 HC0
  obtain ⟨⟨kind, prio, per, off, dl, own, code⟩, X, cX⟩ := d
  obtain ⟨y0, y1, y2, y3, y4, y5, y6⟩ := (⟨HB1.out.thaw 0, HB1.out.thaw 1, HB1.out.thaw 2, HB1.out.thaw 3, HB1.out.thaw 4, HB1.out.thaw 5, HB1.out.thaw 6⟩ : _ ∧ _ ∧ _ ∧ _ ∧ _ ∧ _ ∧ _)
  obtain ⟨z0, z1, z2, z3, z4, z5, z6⟩ := (⟨HB1.out.cell 0, HB1.out.cell 1, HB1.out.cell 2, HB1.out.cell 3, HB1.out.cell 4, HB1.out.cell 5, HB1.out.cell 6⟩ : _ ∧ _ ∧ _ ∧ _ ∧ _ ∧ _ ∧ _)
  simp only [List.getElem?_toArray, List.getElem?_cons_zero, List.getElem?_cons_succ] at z0 z1 z2 z3 z4 z5 z6
  simp only [DT.cells, tcells]
  go_wp2_with fail
  obtain ⟨p1, p2⟩ := puts7 (v0 := .int .i64 kind) (v1 := .int .i64 prio) (v2 := .int .i64 per) (v3 := .int .i64 off) (v4 := .int .i64 dl) (v5 := .int .i64 own) (v6 := .slice X code.length cX) HB1.out
  refine bodyPost_ret (v := .agg #[.int .i64 kind, .int .i64 prio, .int .i64 per, .int .i64 off, .int .i64 dl, .int .i64 own, .slice X code.length cX]) (results_cell_row Try.results31 _ _ w.heap.size 49 #[.int .i64 kind, .int .i64 prio, .int .i64 per, .int .i64 off, .int .i64 dl, .int .i64 own, .slice X code.length cX] (0, 0) _ rfl p1 Try.underlying49 rfl task_size) rfl ?_
  exact ⟨_, rfl, HP.out, HOK.out.blk HB1.out p2 (by decide), Rd.chg HR1.out p2 (fun i hi he => HNR.out (he ▸ hi)), chg_new HC1.out p2 (Nat.le_refl _)⟩
set_option maxRecDepth 100000 in
set_option maxHeartbeats 1000000 in
theorem listT {R : Nat → Prop} {g : Nat} {l : List Int} {r : Rs} (b n : Nat) (hn : n ≤ 255) (w : World) (h : RSt w R g l r) (hb : By l) (hR : ∀ i, R i → i < w.heap.size) (hbx : Blk w b 37 #[.pointer (some ⟨g, 0, none⟩)]) (hbR : ¬ R b) :
    Calls Try.prog 30 #[.int .i64 n, .func (.func 31) #[] #[.pointer (some ⟨b, 0, none⟩)]] w fun e w' => ∃ A c, e = .returned (.slice A n c) ∧ (∃ ds : List DT, ds.map (·.p) = (rL (rT l) n r).1 ∧ OwnK w' w.heap.size 49 7 A n c (ds.flatMap DT.cells) ∧ ∀ d ∈ ds, d.ok w' w.heap.size) ∧ RSt w' R g l (rL (rT l) n r).2 ∧ Chg R w w' := by
  obtain ⟨i0, hi, hz0, hz1, hz2⟩ := info_parts tk_info
  have HH := Lib.hid h
  have HBY := Lib.hid hb
  have HRS := Lib.hid hR
  have HBX := Lib.hid hbx
  have HBR := Lib.hid hbR
  clear h hb hR hbx hbR
  go_enter Try.func30, Try.ntmps30
  go_wp2_with fail
  go_loopg [7, 5] n (fun gk iv sv wx => ∃ (k : Nat) (A : Option Addr) (c : Nat) (ds : List DT), k + gk = n ∧ iv = .int .i64 k ∧ sv = .slice A k c ∧ ds.map (·.p) = (rL (rT l) k r).1 ∧ OwnK wx w.heap.size 49 7 A k c (ds.flatMap DT.cells) ∧ (∀ d ∈ ds, d.ok wx w.heap.size) ∧ RSt wx R g l (rL (rT l) k r).2 ∧ Chg R w wx)
  case atStart => exact ⟨0, none, 0, [], by omega, rfl, rfl, rfl, OwnK.none _ _ _ _, fun d hd => by simp at hd, HH.out, Chg.refl _ _⟩
  case round =>
    obtain ⟨k, A, c, ds, hk, rfl, rfl, hd, ho, hok, hr, hc⟩ := hrel
    have HD := Lib.hid hd
    have HO := Lib.hid ho
    have HOK := Lib.hid hok
    have HR := Lib.hid hr
    have HC := Lib.hid hc
    clear hd ho hok hr hc
    cases gk with
    | zero =>
      obtain rfl : k = n := by omega
      have hge : ¬ (k : Int) < (k : Int) := by omega
      go_wp2_with fail
      go_ret
      exact ⟨A, c, rfl, ⟨ds, HD.out, HO.out, HOK.out⟩, HR.out, HC.out⟩
    | succ GK =>
      have hlt : (k : Int) < n := by omega
      obtain ⟨⟨xs, rk⟩, hx⟩ : ∃ p, p = rL (rT l) k r := ⟨_, rfl⟩
      rw [← hx] at HD HR
      have HX := Lib.hid hx
      clear hx
      have HSZ := Lib.hid (fun i (hi : R i) => Nat.lt_of_lt_of_le (HRS.out i hi) HC.out.size)
      go_wp2_with fail
      refine (clT b _ HR.out HBY.out HSZ.out (HBX.out.chg HC.out HBR.out)).mono ?_
      rintro e w1 ⟨d, rfl, hp, hdk, h1, s1⟩
      obtain ⟨⟨x, r1⟩, hy⟩ : ∃ p, p = (rT l) rk := ⟨_, rfl⟩
      rw [← hy] at h1 hp
      have HP := Lib.hid hp
      have HDK := Lib.hid (hdk.base HC.out.size)
      have HY := Lib.hid (rL_succ (rT l) k r HX.out hy)
      have HR1 := Lib.hid h1
      have HC1 := Lib.hid (HC.out.trans s1)
      have HO1 := Lib.hid (HO.out.chg s1 fun i hi hS => by have := ownK_ge HO.out hi; have := HRS.out i hS; omega)
      have HOK1 := Lib.hid (fun d hd => (HOK.out d hd).keep s1 fun i hi hS => by have := HRS.out i hS; omega)
      clear hp hdk hy h1 s1 HR HC HO HX HSZ HOK
      obtain ⟨⟨kind, prio, per, off, dl, own, code⟩, X, cX⟩ := d
      simp only [DT.cells, tcells]
      go_wp2_with (at_builtin; go_loud (refine wpList_appK rfl (.tmp 9) (.tmp 12) 24 rfl w.heap.size 49 i0 _ 7 72 Try.underlying24 hi hz0 hz1 hz2 rfl (by omega) A k c (ds.flatMap DT.cells) rfl (HO1.out.same ((Same.refl _).alloc _)) _ 1 1 [.int .i64 kind, .int .i64 prio, .int .i64 per, .int .i64 off, .int .i64 dl, .int .i64 own, .slice X code.length cX] rfl rfl (row_new _ _ _) ?c1 (by omega) (by omega) ?c2 ?_))
      case c1 => exact ⟨rfl, rfl, rfl, rfl, rfl, rfl, rfl⟩
      case c2 => have := HC1.out.size; (first | omega | (simp; omega))
      intro A2 c2 w2 ho2 hc2
      have HA := Lib.hid (fun i (hi : A = some ⟨i, 0, none⟩) => ownK_ge HO1.out hi)
      have HR2 := Lib.hid (show RSt w2 R g l r1 from (Rd.same HR1.out ((Same.refl _).alloc _)).chg hc2 fun i hi hS => by have := HA.out i hS; have := HRS.out i hi; omega)
      have HC2 := Lib.hid (chg_up (HC1.out.alloc _) hc2 HA.out)
      have HO2 := Lib.hid ho2
      have HOK2 := Lib.hid (fun d hd => ((HOK1.out d hd).keep ((Same.refl _).alloc _) (fun _ _ f => f)).row (HO1.out.same ((Same.refl _).alloc _)) hc2 (by decide))
      have HDK2 := Lib.hid ((HDK.out.keep ((Same.refl _).alloc _) (fun _ _ f => f)).row (HO1.out.same ((Same.refl _).alloc _)) hc2 (by decide))
      clear ho2 hc2 HR1 HC1 HO1 HA HOK1 HDK
      go_wp2_with fail
      go_roundg GK
      case measure => omega
      case rel =>
        refine ⟨k + 1, A2, c2, ds ++ [⟨⟨kind, prio, per, off, dl, own, code⟩, X, cX⟩], by omega, by go_num, rfl, ?_, ?_, ?_, ?_, HC2.out⟩
        · rw [← HY.out, List.map_append, HD.out]
          have h := HP.out
          simp only at h ⊢
          rw [← h]
          rfl
        · rw [fm_snoc]
          exact HO2.out
        · intro d hd
          rcases List.mem_append.1 hd with hd | hd
          · exact HOK2.out d hd
          · rw [List.mem_singleton] at hd
            subst hd
            exact HDK2.out
        · rw [← HY.out]
          exact HR2.out
set_option maxRecDepth 100000 in
set_option maxHeartbeats 1000000 in
theorem clO {R : Nat → Prop} {g : Nat} {l : List Int} {r : Rs} (b : Nat) (w : World) (h : RSt w R g l r) (hb : By l) (hR : ∀ i, R i → i < w.heap.size) (hbx : Blk w b 37 #[.pointer (some ⟨g, 0, none⟩)]) :
    Calls Try.prog 34 #[.pointer (some ⟨b, 0, none⟩)] w fun e w' => ∃ d : DO, e = .returned (.agg d.cells.toArray) ∧ d.p = (rO l r).1 ∧ d.ok w' w.heap.size ∧ RSt w' R g l (rO l r).2 ∧ Chg R w w' := by
  have hs0 := (Same.refl w).alloc (.cells #[.int .i64 0, .int .i64 0, .int .i64 0, .int .i64 0, .int .u32 0, .slice none 0 0, .int .i64 0, .slice none 0 0] 56)
  have HB0 := Lib.hid (Blk.new w 56 #[.int .i64 0, .int .i64 0, .int .i64 0, .int .i64 0, .int .u32 0, .slice none 0 0, .int .i64 0, .slice none 0 0])
  have HR0 := Lib.hid (show RSt _ R g l r from Rd.same h hs0)
  have HC0 := Lib.hid (hs0.chg R)
  have HNR := Lib.hid (show ¬ R w.heap.size from fun hi => Nat.lt_irrefl _ (hR _ hi))
  have HRS := Lib.hid (fun i (hi : R i) => Nat.lt_of_lt_of_le (hR i hi) hs0.size)
  have a0 : (w.alloc (.cells #[.int .i64 0, .int .i64 0, .int .i64 0, .int .i64 0, .int .u32 0, .slice none 0 0, .int .i64 0, .slice none 0 0] 56)).cell? ⟨b, 0, none⟩ = some (.pointer (some ⟨g, 0, none⟩)) := (hbx.same hs0).cell 0
  have HBY := Lib.hid hb
  have HSZ := Lib.hid hs0.size
  clear h hb hs0 hbx hR
  go_enter Try.func34, Try.ntmps34
  go_wp2_with fail
  refine (objr_any _ HR0.out HBY.out HRS.out).mono ?_
  rintro e w1 ⟨d, rfl, hp, hok, h1, s1⟩
  have HB1 := Lib.hid (HB0.out.chg s1 HNR.out)
  have HR1 := Lib.hid h1
  have HC1 := Lib.hid (HC0.out.trans s1)
  have HP := Lib.hid hp
  have HOK := Lib.hid (hok.base HSZ.out)
  clear hp hok h1 s1 a0 HB0 HR0 HC0
  obtain ⟨⟨k_, wd, sl, cp, sa, ow, rd, ini⟩, X, cX, Y, cY⟩ := d
  obtain ⟨y0, y1, y2, y3, y4, y5, y6, y7⟩ := (⟨HB1.out.thaw 0, HB1.out.thaw 1, HB1.out.thaw 2, HB1.out.thaw 3, HB1.out.thaw 4, HB1.out.thaw 5, HB1.out.thaw 6, HB1.out.thaw 7⟩ : _ ∧ _ ∧ _ ∧ _ ∧ _ ∧ _ ∧ _ ∧ _)
  obtain ⟨z0, z1, z2, z3, z4, z5, z6, z7⟩ := (⟨HB1.out.cell 0, HB1.out.cell 1, HB1.out.cell 2, HB1.out.cell 3, HB1.out.cell 4, HB1.out.cell 5, HB1.out.cell 6, HB1.out.cell 7⟩ : _ ∧ _ ∧ _ ∧ _ ∧ _ ∧ _ ∧ _ ∧ _)
  simp only [List.getElem?_toArray, List.getElem?_cons_zero, List.getElem?_cons_succ] at z0 z1 z2 z3 z4 z5 z6 z7
  simp only [DO.cells, ocells]
  go_wp2_with fail
  obtain ⟨p1, p2⟩ := puts8 (v0 := .int .i64 k_) (v1 := .int .i64 wd) (v2 := .int .i64 sl) (v3 := .int .i64 cp) (v4 := .int .u32 sa) (v5 := .slice X ini.length cX) (v6 := .int .i64 ow) (v7 := .slice Y rd.length cY) HB1.out
  refine bodyPost_ret (v := .agg #[.int .i64 k_, .int .i64 wd, .int .i64 sl, .int .i64 cp, .int .u32 sa, .slice X ini.length cX, .int .i64 ow, .slice Y rd.length cY]) (results_cell_row Try.results34 _ _ w.heap.size 56 #[.int .i64 k_, .int .i64 wd, .int .i64 sl, .int .i64 cp, .int .u32 sa, .slice X ini.length cX, .int .i64 ow, .slice Y rd.length cY] (0, 0) _ rfl p1 Try.underlying56 rfl obj_size) rfl ?_
  exact ⟨_, rfl, HP.out, HOK.out.blk HB1.out p2 (by decide) (by decide), Rd.chg HR1.out p2 (fun i hi he => HNR.out (he ▸ hi)), chg_new HC1.out p2 (Nat.le_refl _)⟩
set_option maxRecDepth 100000 in
set_option maxHeartbeats 1000000 in
theorem listO {R : Nat → Prop} {g : Nat} {l : List Int} {r : Rs} (b n : Nat) (hn : n ≤ 255) (w : World) (h : RSt w R g l r) (hb : By l) (hR : ∀ i, R i → i < w.heap.size) (hbx : Blk w b 37 #[.pointer (some ⟨g, 0, none⟩)]) (hbR : ¬ R b) :
    Calls Try.prog 33 #[.int .i64 n, .func (.func 34) #[] #[.pointer (some ⟨b, 0, none⟩)]] w fun e w' => ∃ A c, e = .returned (.slice A n c) ∧ (∃ ds : List DO, ds.map (·.p) = (rL (rO l) n r).1 ∧ OwnK w' w.heap.size 56 8 A n c (ds.flatMap DO.cells) ∧ ∀ d ∈ ds, d.ok w' w.heap.size) ∧ RSt w' R g l (rL (rO l) n r).2 ∧ Chg R w w' := by
  obtain ⟨i0, hi, hz0, hz1, hz2⟩ := info_parts ob_info
  have HH := Lib.hid h
  have HBY := Lib.hid hb
  have HRS := Lib.hid hR
  have HBX := Lib.hid hbx
  have HBR := Lib.hid hbR
  clear h hb hR hbx hbR
  go_enter Try.func33, Try.ntmps33
  go_wp2_with fail
  go_loopg [7, 5] n (fun gk iv sv wx => ∃ (k : Nat) (A : Option Addr) (c : Nat) (ds : List DO), k + gk = n ∧ iv = .int .i64 k ∧ sv = .slice A k c ∧ ds.map (·.p) = (rL (rO l) k r).1 ∧ OwnK wx w.heap.size 56 8 A k c (ds.flatMap DO.cells) ∧ (∀ d ∈ ds, d.ok wx w.heap.size) ∧ RSt wx R g l (rL (rO l) k r).2 ∧ Chg R w wx)
  case atStart => exact ⟨0, none, 0, [], by omega, rfl, rfl, rfl, OwnK.none _ _ _ _, fun d hd => by simp at hd, HH.out, Chg.refl _ _⟩
  case round =>
    obtain ⟨k, A, c, ds, hk, rfl, rfl, hd, ho, hok, hr, hc⟩ := hrel
    have HD := Lib.hid hd
    have HO := Lib.hid ho
    have HOK := Lib.hid hok
    have HR := Lib.hid hr
    have HC := Lib.hid hc
    clear hd ho hok hr hc
    cases gk with
    | zero =>
      obtain rfl : k = n := by omega
      have hge : ¬ (k : Int) < (k : Int) := by omega
      go_wp2_with fail
      go_ret
      exact ⟨A, c, rfl, ⟨ds, HD.out, HO.out, HOK.out⟩, HR.out, HC.out⟩
    | succ GK =>
      have hlt : (k : Int) < n := by omega
      obtain ⟨⟨xs, rk⟩, hx⟩ : ∃ p, p = rL (rO l) k r := ⟨_, rfl⟩
      rw [← hx] at HD HR
      have HX := Lib.hid hx
      clear hx
      have HSZ := Lib.hid (fun i (hi : R i) => Nat.lt_of_lt_of_le (HRS.out i hi) HC.out.size)
      go_wp2_with fail
      refine (clO b _ HR.out HBY.out HSZ.out (HBX.out.chg HC.out HBR.out)).mono ?_
      rintro e w1 ⟨d, rfl, hp, hdk, h1, s1⟩
      obtain ⟨⟨x, r1⟩, hy⟩ : ∃ p, p = (rO l) rk := ⟨_, rfl⟩
      rw [← hy] at h1 hp
      have HP := Lib.hid hp
      have HDK := Lib.hid (hdk.base HC.out.size)
      have HY := Lib.hid (rL_succ (rO l) k r HX.out hy)
      have HR1 := Lib.hid h1
      have HC1 := Lib.hid (HC.out.trans s1)
      have HO1 := Lib.hid (HO.out.chg s1 fun i hi hS => by have := ownK_ge HO.out hi; have := HRS.out i hS; omega)
      have HOK1 := Lib.hid (fun d hd => (HOK.out d hd).keep s1 fun i hi hS => by have := HRS.out i hS; omega)
      clear hp hdk hy h1 s1 HR HC HO HX HSZ HOK
      obtain ⟨⟨k_, wd, sl, cp, sa, ow, rd, ini⟩, X, cX, Y, cY⟩ := d
      simp only [DO.cells, ocells]
      go_wp2_with (at_builtin; go_loud (refine wpList_appK rfl (.tmp 9) (.tmp 12) 25 rfl w.heap.size 56 i0 _ 8 96 Try.underlying25 hi hz0 hz1 hz2 rfl (by omega) A k c (ds.flatMap DO.cells) rfl (HO1.out.same ((Same.refl _).alloc _)) _ 1 1 [.int .i64 k_, .int .i64 wd, .int .i64 sl, .int .i64 cp, .int .u32 sa, .slice X ini.length cX, .int .i64 ow, .slice Y rd.length cY] rfl rfl (row_new _ _ _) ?c1 (by omega) (by omega) ?c2 ?_))
      case c1 => exact ⟨rfl, rfl, rfl, rfl, rfl, rfl, rfl, rfl⟩
      case c2 => have := HC1.out.size; (first | omega | (simp; omega))
      intro A2 c2 w2 ho2 hc2
      have HA := Lib.hid (fun i (hi : A = some ⟨i, 0, none⟩) => ownK_ge HO1.out hi)
      have HR2 := Lib.hid (show RSt w2 R g l r1 from (Rd.same HR1.out ((Same.refl _).alloc _)).chg hc2 fun i hi hS => by have := HA.out i hS; have := HRS.out i hi; omega)
      have HC2 := Lib.hid (chg_up (HC1.out.alloc _) hc2 HA.out)
      have HO2 := Lib.hid ho2
      have HOK2 := Lib.hid (fun d hd => ((HOK1.out d hd).keep ((Same.refl _).alloc _) (fun _ _ f => f)).row (HO1.out.same ((Same.refl _).alloc _)) hc2 (by decide) (by decide))
      have HDK2 := Lib.hid ((HDK.out.keep ((Same.refl _).alloc _) (fun _ _ f => f)).row (HO1.out.same ((Same.refl _).alloc _)) hc2 (by decide) (by decide))
      clear ho2 hc2 HR1 HC1 HO1 HA HOK1 HDK
      go_wp2_with fail
      go_roundg GK
      case measure => omega
      case rel =>
        refine ⟨k + 1, A2, c2, ds ++ [⟨⟨k_, wd, sl, cp, sa, ow, rd, ini⟩, X, cX, Y, cY⟩], by omega, by go_num, rfl, ?_, ?_, ?_, ?_, HC2.out⟩
        · rw [← HY.out, List.map_append, HD.out]
          have h := HP.out
          simp only at h ⊢
          rw [← h]
          rfl
        · rw [fm_snoc]
          exact HO2.out
        · intro d hd
          rcases List.mem_append.1 hd with hd | hd
          · exact HOK2.out d hd
          · rw [List.mem_singleton] at hd
            subst hd
            exact HDK2.out
        · rw [← HY.out]
          exact HR2.out
end Go.Proofs.Ytfpefkpbiioofab.Im
