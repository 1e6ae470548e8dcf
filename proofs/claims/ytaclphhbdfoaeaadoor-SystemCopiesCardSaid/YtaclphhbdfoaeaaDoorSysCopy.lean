/-

  system.Copy
-/
import Derived.Test.YtaclphhbdfoaeaaDoorSysApart
section
set_option linter.unusedVariables false
set_option linter.unusedSimpArgs false
namespace Go.Proofs.YtaclphhbdfoaeaaDoor.Im
open Go.ChangeShapes Go.WideShapes Go.ChangeAt Go.RowKit Ws

def EachO (w : World) (s : List PO) (n : Nat) (e : Ending) (w' : World) : Prop := ∃ (A' : Option Addr) (c' : Nat) (ds : List DO), e = .returned (.slice A' n c') ∧ ds.map (·.p) = s ∧ OwnK w' w.heap.size 39 8 A' n c' (ds.flatMap DO.cells) ∧ (∀ d ∈ ds, d.ok w' w.heap.size) ∧ Same w w'
theorem eachO_mk {w w' : World} {s : List PO} {n : Nat} {A' : Option Addr} {c' : Nat} {ds : List DO} (h1 : ds.map (·.p) = s) (h2 : OwnK w' w.heap.size 39 8 A' n c' (ds.flatMap DO.cells)) (h3 : ∀ d ∈ ds, d.ok w' w.heap.size) (h5 : Same w w') : EachO w s n (.returned (.slice A' n c')) w' := ⟨A', c', ds, rfl, h1, h2, h3, h5⟩
set_option maxRecDepth 100000 in
set_option maxHeartbeats 2000000 in
theorem eachO_any (A : Option Addr) (n c : Nat) (s : List PO) (w : World) (hn : s.length = n) (hs : OsAt w A s) (hf : ∀ p ∈ s, p.ini.length ≤ 100 ∧ p.rd.length ≤ 100) (hnb : n ≤ 60) :
    Calls Tryd.prog 14 #[.slice A n c, .func (.func 15) #[] #[]] w (EachO w s n) := by
  obtain ⟨i0, hi, hz0, hz1, hz2⟩ := info_parts ob_info
  have HN := Lib.hid hn
  have HT := Lib.hid hs
  have HF := Lib.hid hf
  clear hn hs hf
  go_enter Tryd.func14, Tryd.ntmps14
  go_wp2_with fail
  go_loopg [10, 5] n (fun gk iv sv wx => ∃ (k : Nat) (A' : Option Addr) (c' : Nat) (ds : List DO), k + gk = n ∧ iv = .int .i64 k ∧ sv = .slice A' k c' ∧ ds.map (·.p) = s.take k ∧ OwnK wx w.heap.size 39 8 A' k c' (ds.flatMap DO.cells) ∧ (∀ d ∈ ds, d.ok wx w.heap.size) ∧ Same w wx)
  case atStart => exact ⟨0, none, 0, [], by omega, rfl, rfl, rfl, OwnK.none _ _ _ _, fun d hd => by simp at hd, Same.refl _⟩
  case round =>
    obtain ⟨k, A', c', ds, hk, rfl, rfl, hd, ho, hok, hc⟩ := hrel
    have HD := Lib.hid hd
    have HO := Lib.hid ho
    have HOK := Lib.hid hok
    have HC := Lib.hid hc
    clear hd ho hok hc
    cases gk with
    | zero =>
      obtain rfl : k = n := by omega
      have hge : ¬ (k : Int) < (k : Int) := by omega
      go_wp2_with fail
      go_ret
      refine eachO_mk ?_ HO.out HOK.out HC.out
      rw [HD.out, List.take_of_length_le (by have := HN.out; omega)]
    | succ GK =>
      have hlt : (k : Int) < n := by omega
      have k0 : (0 : Int) ≤ k := by omega
      obtain ⟨x, hx⟩ : ∃ x, s[k]? = some x := ⟨_, List.getElem?_eq_getElem (by have := HN.out; omega)⟩
      obtain ⟨b, o, rfl, X, cX, Y, cY, e0, e1, e2, e3, e4, e5, e6, e7, _, hcx, _, hcx2, _, _⟩ := (HT.out.same HC.out).at_ hx
      have HGX := Lib.hid (take_get hx)
      have HLX := Lib.hid (HF.out x (List.mem_of_getElem? hx))
      have hs1 := (Same.refl wr).alloc (.cells #[.int .i64 x.k, .int .i64 x.wd, .int .i64 x.sl, .int .i64 x.cp, .int .u32 x.sa, .slice X x.ini.length cX, .int .i64 x.ow, .slice Y x.rd.length cY] 39)
      have hb1 := Blk.new wr 39 #[.int .i64 x.k, .int .i64 x.wd, .int .i64 x.sl, .int .i64 x.cp, .int .u32 x.sa, .slice X x.ini.length cX, .int .i64 x.ow, .slice Y x.rd.length cY]
      have CP := Lib.hid (apart_any x X Y cX cY (wr.alloc (.cells #[.int .i64 x.k, .int .i64 x.wd, .int .i64 x.sl, .int .i64 x.cp, .int .u32 x.sa, .slice X x.ini.length cX, .int .i64 x.ow, .slice Y x.rd.length cY] 39)) (hcx.same hs1) (hcx2.same hs1) HLX.out)
      have z0 := hb1.cell 0
      have z1 := hb1.cell 1
      have z2 := hb1.cell 2
      have z3 := hb1.cell 3
      have z4 := hb1.cell 4
      have z5 := hb1.cell 5
      have z6 := hb1.cell 6
      have z7 := hb1.cell 7
      simp only [List.getElem?_toArray, List.getElem?_cons_zero, List.getElem?_cons_succ] at z0 z1 z2 z3 z4 z5 z6 z7
      have HS1 := Lib.hid hs1
      have hsz1 := hs1.size
      have HSZ1 := Lib.hid hsz1
      clear hx hcx hcx2 hs1 hb1 hsz1
      go_wp2_with fail
      refine CP.out.mono ?_
      rintro e w1 ⟨X2, cX2, Y2, cY2, rfl, hco, s1⟩
      have HW1 := Lib.hid (HS1.out.trans s1)
      have HC1 := Lib.hid (HC.out.trans HW1.out)
      have HO1 := Lib.hid (HO.out.same HW1.out)
      have HOK1 := Lib.hid (fun d hd => (HOK.out d hd).keep HW1.out (fun _ _ f => f))
      have hbw : w.heap.size ≤ wr.heap.size := HC.out.size
      have HDK := Lib.hid (show DO.ok w1 w.heap.size ⟨x, X2, cX2, Y2, cY2⟩ from hco.base (by have := HSZ1.out; omega))
      have hsw := HC1.out.size
      clear hco s1 z0 z1 z2 z3 z4 z5 z6 z7 e0 e1 e2 e3 e4 e5 e6 e7 HOK HO
      go_wp2_with (at_builtin; go_loud (refine wpList_appK rfl (.tmp 14) (.tmp 18) 23 rfl w.heap.size 39 i0 _ 8 96 Tryd.underlying23 hi hz0 hz1 hz2 rfl (by omega) A' k c' (ds.flatMap DO.cells) rfl (HO1.out.same ((Same.refl _).alloc _)) _ 1 1 [.int .i64 x.k, .int .i64 x.wd, .int .i64 x.sl, .int .i64 x.cp, .int .u32 x.sa, .slice X2 x.ini.length cX2, .int .i64 x.ow, .slice Y2 x.rd.length cY2] rfl rfl (row_new _ _ _) ?c1 (by omega) (by omega) ?c2 ?_))
      case c1 => (first | exact ⟨rfl, rfl, rfl, rfl, rfl, rfl, rfl, rfl⟩ | (intro u hu; simp only [List.mem_cons, List.not_mem_nil, or_false] at hu; rcases hu with rfl | rfl | rfl | rfl | rfl | rfl | rfl | rfl <;> rfl))
      case c2 => (first | omega | (simp; omega))
      intro A2 c2 w2 ho2 hc2
      have HA := Lib.hid (fun i (hi : A' = some ⟨i, 0, none⟩) => ownK_ge HO1.out hi)
      have HC2 := Lib.hid (chg_up (HC1.out.alloc _) hc2 HA.out)
      have HO2 := Lib.hid ho2
      have HOK2 := Lib.hid (fun d hd => ((HOK1.out d hd).keep ((Same.refl _).alloc _) (fun _ _ f => f)).row (HO1.out.same ((Same.refl _).alloc _)) hc2 (by decide) (by decide))
      have HDK2 := Lib.hid ((HDK.out.keep ((Same.refl _).alloc _) (fun _ _ f => f)).row (HO1.out.same ((Same.refl _).alloc _)) hc2 (by decide) (by decide))
      clear ho2 hc2 HC1 HO1 HA HOK1 HDK
      go_wp2_with fail
      go_roundg GK
      case measure => omega
      case rel =>
        refine ⟨k + 1, A2, c2, ds ++ [⟨x, X2, cX2, Y2, cY2⟩], by omega, by go_num, rfl, ?_, ?_, ?_, HC2.out⟩
        · rw [HGX.out, List.map_append, HD.out]
          rfl
        · rw [fm_snoc]
          exact HO2.out
        · intro d hd
          rcases List.mem_append.1 hd with hd | hd
          · exact HOK2.out d hd
          · rw [List.mem_singleton] at hd
            subst hd
            exact HDK2.out
end Go.Proofs.YtaclphhbdfoaeaaDoor.Im
end
section
set_option linter.unusedVariables false
set_option linter.unusedSimpArgs false
namespace Go.Proofs.YtaclphhbdfoaeaaDoor.Im
open Go.ChangeShapes Go.WideShapes Go.ChangeAt Go.RowKit Ws

theorem sys_size2 : (Tryd.prog.info? 25).map (·.size) = some 2 := by kernel_rfl
/-- a system's copy: all in rows of its own, no two programs in one block -/
def CopyP (w : World) (n m : Nat) (s : PS) (e : Ending) (w' : World) : Prop := ∃ (A' : Option Addr) (c' : Nat) (B' : Option Addr) (d' : Nat) (ds : List DT) (es : List DO), e = .returned (.agg #[.slice A' n c', .slice B' m d']) ∧ SysR w' w.heap.size A' n c' B' m d' s ds es ∧ ds.Pairwise Apt ∧ Same w w'
theorem copy_mk {w w' : World} {n m : Nat} {s : PS} {A' B' : Option Addr} {c' d' : Nat} {ds : List DT} {es : List DO} (h : SysR w' w.heap.size A' n c' B' m d' s ds es) (hp : ds.Pairwise Apt) (hs : Same w w') : CopyP w n m s (.returned (.agg #[.slice A' n c', .slice B' m d'])) w' := ⟨A', c', B', d', ds, es, rfl, h, hp, hs⟩
set_option maxRecDepth 100000 in
set_option maxHeartbeats 2000000 in
theorem scopy_any (A B : Option Addr) (n c m d : Nat) (s : PS) (w : World) (hs : SysAt w A n B m s) (hf : ∀ p ∈ s.ts, p.code.length ≤ 200) (hg : ∀ p ∈ s.os, p.ini.length ≤ 100 ∧ p.rd.length ≤ 100) (hn6 : n ≤ 60) (hm6 : m ≤ 60) :
    Calls Tryd.prog 6 #[.agg #[.slice A n c, .slice B m d]] w (CopyP w n m s) := by
  have hs1 := (Same.refl w).alloc (.cells #[.slice A n c, .slice B m d] 25)
  have hb1 := Blk.new w 25 #[.slice A n c, .slice B m d]
  obtain ⟨w1, hw1⟩ : ∃ w1, w1 = w.alloc (.cells #[.slice A n c, .slice B m d] 25) := ⟨_, rfl⟩
  rw [← hw1] at hs1 hb1
  have hs2 := (Same.refl w1).alloc (.cells #[.slice none 0 0, .slice none 0 0] 25)
  have hb2 := Blk.new w1 25 #[.slice none 0 0, .slice none 0 0]
  rw [show w1.heap.size = w.heap.size + 1 by rw [hw1, World.size_alloc]] at hb2
  obtain ⟨w2, hw2⟩ : ∃ w2, w2 = w1.alloc (.cells #[.slice none 0 0, .slice none 0 0] 25) := ⟨_, rfl⟩
  rw [← hw2] at hs2 hb2
  have HW1 := Lib.hid hw1
  have HW2 := Lib.hid hw2
  have HB1 := Lib.hid (hb1.same hs2)
  have HB2 := Lib.hid hb2
  have HS := Lib.hid (hs1.trans hs2)
  have C1 := Lib.hid (fun w' (h : Same w w') => eachT_any A n c s.ts w' hs.hn (hs.ht.same h) hf hn6)
  have C2 := Lib.hid (fun w' (h : Same w w') => eachO_any B m d s.os w' hs.hm (hs.ho.same h) hg hm6)
  obtain ⟨q, hq⟩ : ∃ q, q = w.heap.size := ⟨_, rfl⟩
  rw [← hq] at HB1 HB2
  have HSZ := Lib.hid (show q + 1 + 1 ≤ w2.heap.size by rw [hw2, World.size_alloc, hw1, World.size_alloc, hq]; exact Nat.le_refl _)
  have HQ := Lib.hid hq
  clear hs1 hb1 hs2 hb2 hw1 hw2 hs
  have a0 := HB1.out.cell 0
  have a1 := HB1.out.cell 1
  simp only [List.getElem?_toArray, List.getElem?_cons_zero, List.getElem?_cons_succ] at a0 a1
  go_enter Tryd.func6, Tryd.ntmps6
  go_upto_region 1 with fail
  rw [← HW1.out, ← HW2.out, ← HQ.out]
  clear hq
  have SW := Lib.hid (fun w' (h : Same w2 w') => (show w'.cell? ⟨q, 0, none⟩ = some (.slice A n c) ∧ w'.cell? ⟨q, 1, none⟩ = some (.slice B m d) from ⟨h.cell a0, h.cell a1⟩))
  have SD := Lib.hid (Same.drew (Same.refl w2))
  refine wp_region_held_drew (S := fun w' => w'.cell? ⟨q, 0, none⟩ = some (.slice A n c) ∧ w'.cell? ⟨q, 1, none⟩ = some (.slice B m d)) (by kernel_rfl) (SW.out _ SD.out) (fun hH => ?_)
  clear hH
  refine Ro.take_on (i := 0) (v := ?_) rfl (by kernel_rfl) (by kernel_rfl) (by kernel_rfl) (fun _ _ _ h => h) (by rfl) (SW.out _ SD.out) ?_ ?_
  rotate_left
  · intro wS hSw; (try dsimp only at hSw); go_simp; try with_reducible rfl
  try simp only [Act.put, List.setIfInBounds_toArray, List.set_cons_zero, List.set_cons_succ]
  refine Ro.take_on (i := 1) (v := ?_) rfl (by kernel_rfl) (by kernel_rfl) (by kernel_rfl) (fun _ _ _ h => h) (by rfl) (SW.out _ SD.out) ?_ ?_
  rotate_left
  · intro wS hSw; (try dsimp only at hSw); go_simp; try with_reducible rfl
  try simp only [Act.put, List.setIfInBounds_toArray, List.set_cons_zero, List.set_cons_succ]
  refine Ro.take_on (i := 3) (v := ?_) rfl (by kernel_rfl) (by kernel_rfl) (by kernel_rfl) (fun _ _ _ h => h) (by rfl) (SW.out _ SD.out) ?_ ?_
  rotate_left
  · intro wS hSw; (try dsimp only at hSw); go_simp; try with_reducible rfl
  try simp only [Act.put, List.setIfInBounds_toArray, List.set_cons_zero, List.set_cons_succ]
  refine Ro.take_on (i := 4) (v := ?_) rfl (by kernel_rfl) (by kernel_rfl) (by kernel_rfl) (fun _ _ _ h => h) (by rfl) (SW.out _ SD.out) ?_ ?_
  rotate_left
  · intro wS hSw; (try dsimp only at hSw); go_simp; try with_reducible rfl
  try simp only [Act.put, List.setIfInBounds_toArray, List.set_cons_zero, List.set_cons_succ]
  refine Ro.one_on (i := 2) rfl (by kernel_rfl) (by rfl) (fun K hK => ?_)
  go_simp
  go_at_call 12
  refine (C1.out _ (HS.out.trans SD.out)).mono ?_
  rintro e wA ⟨A', c', ds, rfl, d1, d2, d3, d4, sA⟩
  have SA := Lib.hid (SD.out.trans sA)
  have SA2 := Lib.hid sA
  have D1 := Lib.hid d1
  have D2 := Lib.hid d2
  have D3 := Lib.hid d3
  have D4 := Lib.hid d4
  clear d1 d2 d3 d4 sA
  refine hK.out _ _ (SW.out _ SA.out) (fun hNew => ?_)
  clear hK K
  try simp only [Act.put, List.setIfInBounds_toArray, List.set_cons_zero, List.set_cons_succ]
  refine Ro.one_on (i := 5) rfl (by kernel_rfl) (by rfl) (fun K hK => ?_)
  go_simp
  go_at_call 14
  refine (C2.out _ (HS.out.trans SA.out)).mono ?_
  rintro e wB ⟨B', d', es, rfl, f1, f2, f3, sB⟩
  have SB := Lib.hid (SA.out.trans sB)
  have SB2 := Lib.hid sB
  have F1 := Lib.hid f1
  have F2 := Lib.hid f2
  have F3 := Lib.hid f3
  clear f1 f2 f3 sB
  refine hK.out _ _ (SW.out _ SB.out) (fun hNew => ?_)
  clear hK K
  try simp only [Act.put, List.setIfInBounds_toArray, List.set_cons_zero, List.set_cons_succ]
  have hbz := HB2.out.same SB.out
  have t0 := hbz.thaw 0
  have t1 := hbz.thaw 1
  have u0 : wB.cell? ⟨q + 1, 0, none⟩ = some _ := hbz.cell 0
  have u1 : wB.cell? ⟨q + 1, 1, none⟩ = some _ := hbz.cell 1
  have HBZ := Lib.hid hbz
  clear hbz
  refine Ro.take_on (i := 6) (v := ?_) rfl (by kernel_rfl) (by kernel_rfl) (by kernel_rfl) (fun _ _ _ h => h) (by rfl) (SW.out _ SB.out) ?_ ?_
  rotate_left
  · intro wS hSw; (try dsimp only at hSw); go_simp; try with_reducible rfl
  try simp only [Act.put, List.setIfInBounds_toArray, List.set_cons_zero, List.set_cons_succ]
  have hce : Chg (fun i => i = q + 1) wB ((wB.setCell ⟨q + 1, 0, none⟩ (.slice A' n c')).setCell ⟨q + 1, 1, none⟩ (.slice B' m d')) := ((Chg.refl (fun i => i = q + 1) wB).set (p := ⟨q + 1, 0, none⟩) (.inl rfl) _).set (p := ⟨q + 1, 1, none⟩) (.inl rfl) _
  have HCE := Lib.hid hce
  clear hce
  refine Ro.one_on (i := 7) rfl (by kernel_rfl) (by rfl) (fun K hK => ?_)
  go_simp
  refine hK.out _ _ ((⟨HCE.out.cell (SW.out _ SB.out).1 (fun h => by have h1 : q = q + 1 := h; omega), HCE.out.cell (SW.out _ SB.out).2 (fun h => by have h1 : q = q + 1 := h; omega)⟩)) (fun hNew => ?_)
  clear hK K
  try simp only [Act.put, List.setIfInBounds_toArray, List.set_cons_zero, List.set_cons_succ]
  refine wpAnyH_done (by kernel_rfl) ?_ _
  go_wp2_with fail
  refine bodyPost_ret (v := .agg #[.slice A' n c', .slice B' m d']) (results_cell_row Tryd.results6 _ _ (q + 1) 25 #[.slice A' n c', .slice B' m d'] (0, 0) _ rfl ((HBZ.out.put 0 _).put 1 _) Tryd.underlying25 rfl sys_size2) rfl ?_
  have hsa := SA.out.size
  have hsb := SB.out.size
  have hqq := HQ.out
  have hzz := HSZ.out
  have hdr : w2.drew.heap.size = w2.heap.size := rfl
  have h1 : SysR wB w.heap.size A' n c' B' m d' s ds es := ⟨D1.out, F1.out, (D2.out.same SB2.out).base (by omega), F2.out.base (by omega), fun x hx => ((D3.out x hx).keep SB2.out (fun _ _ f => f)).base (by omega), fun x hx => (F3.out x hx).base (by omega)⟩
  have h2 : SysR wB (q + 1 + 1) A' n c' B' m d' s ds es := ⟨D1.out, F1.out, (D2.out.same SB2.out).base (by omega), F2.out.base (by omega), fun x hx => ((D3.out x hx).keep SB2.out (fun _ _ f => f)).base (by omega), fun x hx => (F3.out x hx).base (by omega)⟩
  have h3 := h2.keep HCE.out (fun i hi hS => by have h4 : i = q + 1 := hS; omega)
  exact copy_mk ⟨h3.ts, h3.os, h3.tr.base (by omega), h3.or.base (by omega), fun x hx => (h3.tk x hx).base (by omega), fun x hx => (h3.ok x hx).base (by omega)⟩ D4.out ((HS.out.trans SB.out).more HCE.out (fun i hi => by have h4 : i = q + 1 := hi; omega))
end Go.Proofs.YtaclphhbdfoaeaaDoor.Im
end
