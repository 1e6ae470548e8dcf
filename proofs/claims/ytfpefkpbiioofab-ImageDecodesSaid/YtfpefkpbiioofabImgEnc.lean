/-
  Layer 33: a system's image (image.Encode, Fits).
-/
import Derived.Test.YtfpefkpbiioofabImgSum
import Derived.Deep.CutBlock
import Derived.Lib.SlBytesConst
set_option linter.unusedVariables false
set_option linter.unusedSimpArgs false
namespace Go.Proofs.Ytfpefkpbiioofab.Im
open Go.ChangeShapes Go.WideShapes Go.ChangeAt Go.RowKit Ws Cd

def EncP (w : World) (r : Option (List Int)) (e : Ending) (w' : World) : Prop := match r with
  | none => e = .returned (.tuple #[.slice none 0 0, .bool false]) ∧ Same w w'
  | some l => ∃ A c, e = .returned (.tuple #[.slice A l.length c, .bool true]) ∧ Own w' w.heap.size 5 A c (by8 l) ∧ Same w w'
theorem encp_none {w w' : World} {r : Option (List Int)} (hr : r = none) (hs : Same w w') : EncP w r (.returned (.tuple #[.slice none 0 0, .bool false])) w' := by
  subst hr
  exact ⟨rfl, hs⟩
theorem encp_some {w w' : World} {r : Option (List Int)} {l : List Int} (hr : r = some l) {A : Option Addr} {n c : Nat} (hn : l.length = n) (ho : OwnK w' w.heap.size 5 1 A n c (by8 l)) (hs : Same w w') : EncP w r (.returned (.tuple #[.slice A n c, .bool true])) w' := by
  subst hr
  subst hn
  refine ⟨A, c, rfl, ?_, hs⟩
  unfold Own
  rw [by8_len]
  exact ho
theorem row_any (w : World) (cs : Array Value) (t : TypeId) (fz : Nat × Nat) : Row (w.alloc (.cells cs t fz)) (some ⟨w.heap.size, 0, none⟩) cs.toList := by
  intro j u hj
  refine ⟨_, 0, rfl, ?_⟩
  rw [Nat.zero_add]
  have := cell_of_row (w.alloc (.cells cs t fz)) w.heap.size j cs t fz (heap_alloc_new w _)
  rw [this]
  simpa using hj
theorem ts_take {l : List PT} {k : Nat} {x : PT} (s : St) (h : l[k]? = some x) : lay (lay s ((l.take k).flatMap itT)) (itT x) = lay s ((l.take (k + 1)).flatMap itT) := by
  rw [List.take_add_one, h, List.flatMap_append, lay_app]
  simp
theorem os_take {l : List PO} {k : Nat} {x : PO} (s : St) (h : l[k]? = some x) : lay (lay s ((l.take k).flatMap itO)) (itO x) = lay s ((l.take (k + 1)).flatMap itO) := by
  rw [List.take_add_one, h, List.flatMap_append, lay_app]
  simp
theorem sys_all (s : PS) : lay (lay (lay ⟨hd, false⟩ (sm [(s.ts.length : Int), (s.os.length : Int)])) (s.ts.flatMap itT)) (s.os.flatMap itO) = lay ⟨hd, false⟩ (itS s) := by
  have e : itS s = sm [(s.ts.length : Int), (s.os.length : Int)] ++ (s.ts.flatMap itT ++ s.os.flatMap itO) := rfl
  rw [e]
  simp only [lay_app]
theorem sumB_bd (l : List Int) : 0 ≤ sumB l ∧ sumB l < 65536 := by unfold sumB; omega
theorem low_sum (l : List Int) : low (sumB l % 4294967296) 2 = lo (sumB l) 2 := by
  have := sumB_bd l
  rw [Int.emod_eq_of_lt this.1 (by omega)]
  rfl
set_option maxRecDepth 100000 in
set_option maxHeartbeats 2000000 in
theorem encode_any (A B : Option Addr) (n c m d : Nat) (s : PS) (w : World) (hs : SysAt w A n B m s) (hnm : n ≤ maxLen ∧ m ≤ maxLen) :
    Calls Try.prog 8 #[.agg #[.slice A n c, .slice B m d]] w (EncP w (img s)) := by
  obtain ⟨i0, hi, hz0, hz1, hz2⟩ := info_parts u8_info
  obtain ⟨hnb, hmb⟩ := hnm
  unfold maxLen at hnb hmb
  obtain ⟨hn, hm, ht, ho⟩ := hs
  have HN := Lib.hid hn
  have HM := Lib.hid hm
  have HT := Lib.hid ht
  have HO := Lib.hid ho
  clear hn hm ht ho
  obtain ⟨w1, hw1⟩ : ∃ w1, w1 = w.alloc (.cells #[.slice A n c, .slice B m d] 27) := ⟨_, rfl⟩
  have hs1 : Same w w1 := hw1 ▸ (Same.refl w).alloc _
  have hb1 : Blk w1 w.heap.size 27 #[.slice A n c, .slice B m d] := hw1 ▸ Blk.new w _ _
  obtain ⟨w2, hw2⟩ : ∃ w2, w2 = w1.alloc (.cells (by8 hd).toArray 5 (3, 4)) := ⟨_, rfl⟩
  have hs2 : Same w1 w2 := hw2 ▸ (Same.refl w1).alloc _
  have hm2 : Rowned w2 w.heap.size (some ⟨w1.heap.size, 0, none⟩) 3 hd := .inr ⟨w1.heap.size, (by8 hd).toArray, (3, 4), rfl, rfl, hs1.size, hw2 ▸ heap_alloc_new w1 _, hw2 ▸ row_any w1 _ _ _⟩
  obtain ⟨w3, hw3⟩ : ∃ w3, w3 = w2.alloc (.cells #[.slice (some ⟨w1.heap.size, 0, none⟩) 3 3, .bool false] 61) := ⟨_, rfl⟩
  have hs3 : Same w2 w3 := hw3 ▸ (Same.refl w2).alloc _
  have HO3 := Lib.hid (show Out w3 w.heap.size w2.heap.size (some ⟨w1.heap.size, 0, none⟩) 3 ⟨hd, false⟩ from ⟨hw3 ▸ Blk.new w2 _ _, hm2.same hs3, by decide, Nat.le_trans hs1.size hs2.size⟩)
  have HS3 := Lib.hid (hs1.trans (hs2.trans hs3))
  have HB3 := Lib.hid ((hb1.same hs2).same hs3)
  clear hs1 hb1 hs2 hm2 hs3
  have E1 := Lib.hid hw1
  have E2 := Lib.hid hw2
  have E3 := Lib.hid hw3
  clear hw1 hw2 hw3
  have kc := fun (w : World) (C : Array Value) (n c : Nat) => Lib.run_convert_bytes_const (P := Try.prog) w 22 5 C n c Try.underlying22 Try.underlying5
  go_enter Try.func8, Try.ntmps8
  go_upto_region 1 with fail
  rw [← E1.out]
  go_upto_region 2 with fail
  have e3 : w3 = (w1.alloc (Obj.cells #[.int .u8 67, .int .u8 88, .int .u8 1] 5 (3, 4))).alloc (Obj.cells #[.slice (some ⟨w1.heap.size, 0, none⟩) 3 3, .bool false] 61) := by
    rw [E3.out, E2.out]
    rfl
  have eg : w1.heap.size + 1 = w2.heap.size := by
    rw [E2.out]
    simp
  rw [← e3, eg]
  clear e3 eg E1 E2 E3 kc
  generalize w2.heap.size = g at *
  generalize w1.heap.size = b1 at *
  obtain ⟨q0, q1⟩ : w3.cell? ⟨w.heap.size, 0, none⟩ = some (.slice A n c) ∧ w3.cell? ⟨w.heap.size, 1, none⟩ = some (.slice B m d) := ⟨HB3.out.cell 0, HB3.out.cell 1⟩
  go_wp2_with fail
  refine (small_lit 2 [(n : Int), (m : Int)] _ _ _ (by simp) rfl (by omega) rfl HO3.out).mono ?_
  rintro e w4 ⟨rfl, ⟨A4, c4, o4⟩, l4⟩
  have HO4 := Lib.hid o4
  have HL4 := Lib.hid l4
  have HALL := Lib.hid (sys_all s)
  clear o4 l4 q0 q1
  obtain ⟨ts, os⟩ := s
  simp only at HN HM HT HO HALL
  rw [HN.out, HM.out] at HALL
  generalize lay ⟨hd, false⟩ (sm [(n : Int), (m : Int)]) = s1 at *
  obtain ⟨q0, q1⟩ : w4.cell? ⟨w.heap.size, 0, none⟩ = some (.slice A n c) ∧ w4.cell? ⟨w.heap.size, 1, none⟩ = some (.slice B m d) := ⟨(HO3.out.blk2 HL4.out HB3.out (by decide) (by decide)).cell 0, (HO3.out.blk2 HL4.out HB3.out (by decide) (by decide)).cell 1⟩
  go_wp2_with fail
  clear q0 q1
  go_loopg [25] n (fun gk iv wx => ∃ (k : Nat) (A1 : Option Addr) (c1 : Nat), k + gk = n ∧ iv = .int .i64 k ∧ Out wx w.heap.size g A1 c1 (lay s1 ((ts.take k).flatMap itT)) ∧ Lain w3 w.heap.size g wx)
  case atStart => exact ⟨0, A4, c4, by omega, rfl, HO4.out, HL4.out⟩
  case round =>
    obtain ⟨k, A1, c1, hk, rfl, ho, hl⟩ := hrel
    have HOk := Lib.hid ho
    have HLk := Lib.hid hl
    clear ho hl
    cases gk with
    | succ GK =>
      have hlt : (k : Int) < n := by omega
      have k0 : (0 : Int) ≤ k := by omega
      obtain ⟨x, hx⟩ : ∃ x, ts[k]? = some x := ⟨_, List.getElem?_eq_getElem (by have := HN.out; omega)⟩
      have HX := Lib.hid hx
      have hsr := Lain.stays HS3.out (Nat.le_refl _) HLk.out
      obtain ⟨b, o, rfl, X, cX, e0, e1, e2, e3, e4, e5, e6, hcode, hlen⟩ := HT.out.at_ hx
      replace e0 := hsr.cell e0
      replace e1 := hsr.cell e1
      replace e2 := hsr.cell e2
      replace e3 := hsr.cell e3
      replace e4 := hsr.cell e4
      replace e5 := hsr.cell e5
      replace e6 := hsr.cell e6
      clear hx
      obtain ⟨kind, prio, per, off, dl, own, code⟩ := x
      simp only at e0 e1 e2 e3 e4 e5 e6 hcode hlen
      have hs1 := (Same.refl wr).alloc (.cells #[.int .i64 kind, .int .i64 prio, .int .i64 per, .int .i64 off, .int .i64 dl, .int .i64 own, .slice X code.length cX] 49)
      have HO5 := Lib.hid (HOk.out.same hs1)
      have HL5 := Lib.hid (Lain.trans HLk.out (Lain.of hs1))
      obtain ⟨q0, q1, q2, q3, q4, q5, q6⟩ := tc (Blk.new wr 49 #[.int .i64 kind, .int .i64 prio, .int .i64 per, .int .i64 off, .int .i64 dl, .int .i64 own, .slice X code.length cX])
      have HSR := Lib.hid (hsr.trans hs1)
      have HCODE := Lib.hid hcode
      clear hs1 hsr hcode
      go_wp2_with fail
      refine (puttask_any w _ HSR.out (Nat.le_refl _) kind prio per off dl own code X cX HCODE.out (by unfold maxLen at hlen; omega) HO5.out).mono ?_
      rintro e w6 ⟨rfl, ⟨A6, c6, o6⟩, l6⟩
      have HO6 := Lib.hid o6
      have HL6 := Lib.hid (Lain.trans HL5.out l6)
      clear o6 l6 q0 q1 q2 q3 q4 q5 q6 e0 e1 e2 e3 e4 e5 e6 HO5 HL5 HOk HLk
      go_wp2_with fail
      go_roundg GK
      case measure => omega
      case rel => exact ⟨k + 1, A6, c6, by omega, by go_num, by rw [← ts_take s1 HX.out]; exact HO6.out, HL6.out⟩
    | zero =>
      obtain rfl : k = n := by omega
      have hge : ¬ (k : Int) < (k : Int) := by omega
      have h1 := HOk.out
      rw [List.take_of_length_le (by rw [HN.out]; omega)] at h1
      have HO6 := Lib.hid h1
      clear h1 HOk
      generalize lay s1 (ts.flatMap itT) = s2 at *
      obtain ⟨q0, q1⟩ : wr.cell? ⟨w.heap.size, 0, none⟩ = some (.slice A k c) ∧ wr.cell? ⟨w.heap.size, 1, none⟩ = some (.slice B m d) := ⟨(HO3.out.blk2 HLk.out HB3.out (by decide) (by decide)).cell 0, (HO3.out.blk2 HLk.out HB3.out (by decide) (by decide)).cell 1⟩
      go_wp2_with fail
      clear q0 q1
      go_loopg [36] m (fun gk iv wx => ∃ (j : Nat) (A1 : Option Addr) (c1 : Nat), j + gk = m ∧ iv = .int .i64 j ∧ Out wx w.heap.size g A1 c1 (lay s2 ((os.take j).flatMap itO)) ∧ Lain w3 w.heap.size g wx)
      case atStart => exact ⟨0, A1, c1, by omega, rfl, HO6.out, HLk.out⟩
      case round =>
        obtain ⟨j, A7, c7, hj, rfl, ho, hl⟩ := hrel
        have HOj := Lib.hid ho
        have HLj := Lib.hid hl
        clear ho hl HO6 HLk
        rename_i wr0 wrj
        cases gk with
        | succ GK =>
          have hlt : (j : Int) < m := by omega
          have k0 : (0 : Int) ≤ j := by omega
          obtain ⟨x, hx⟩ : ∃ x, os[j]? = some x := ⟨_, List.getElem?_eq_getElem (by have := HM.out; omega)⟩
          have HX := Lib.hid hx
          have hsr := Lain.stays HS3.out (Nat.le_refl _) HLj.out
          obtain ⟨b, o, rfl, X, cX, Y, cY, e0, e1, e2, e3, e4, e5, e6, e7, hsa, hini, hwd, hrd, hl1, hl2⟩ := HO.out.at_ hx
          replace e0 := hsr.cell e0
          replace e1 := hsr.cell e1
          replace e2 := hsr.cell e2
          replace e3 := hsr.cell e3
          replace e4 := hsr.cell e4
          replace e5 := hsr.cell e5
          replace e6 := hsr.cell e6
          replace e7 := hsr.cell e7
          clear hx
          obtain ⟨k_, wd, sl, cp, sa, ow, rd, ini⟩ := x
          simp only at e0 e1 e2 e3 e4 e5 e6 e7 hsa hini hwd hrd hl1 hl2
          have hs1 := (Same.refl wr).alloc (.cells #[.int .i64 k_, .int .i64 wd, .int .i64 sl, .int .i64 cp, .int .u32 sa, .slice X ini.length cX, .int .i64 ow, .slice Y rd.length cY] 56)
          have HO5 := Lib.hid (HOj.out.same hs1)
          have HL5 := Lib.hid (Lain.trans HLj.out (Lain.of hs1))
          obtain ⟨q0, q1, q2, q3, q4, q5, q6, q7⟩ := oc (Blk.new wr 56 #[.int .i64 k_, .int .i64 wd, .int .i64 sl, .int .i64 cp, .int .u32 sa, .slice X ini.length cX, .int .i64 ow, .slice Y rd.length cY])
          have HSR := Lib.hid (hsr.trans hs1)
          have HINI := Lib.hid hini
          have HWD := Lib.hid hwd
          have HRD := Lib.hid hrd
          clear hs1 hsr hini hwd hrd
          go_wp2_with fail
          refine (putobj_any w _ HSR.out (Nat.le_refl _) k_ wd sl cp sa ow rd ini X cX Y cY HINI.out HWD.out hsa HRD.out (by unfold maxLen at hl1; omega) (by unfold maxLen at hl2; omega) HO5.out).mono ?_
          rintro e w8 ⟨rfl, ⟨A8, c8, o8⟩, l8⟩
          have HO8 := Lib.hid o8
          have HL8 := Lib.hid (Lain.trans HL5.out l8)
          clear o8 l8 q0 q1 q2 q3 q4 q5 q6 q7 e0 e1 e2 e3 e4 e5 e6 e7 HO5 HL5 HOj HLj
          go_wp2_with fail
          go_roundg GK
          case measure => omega
          case rel => exact ⟨j + 1, A8, c8, by omega, by go_num, by rw [← os_take s2 HX.out]; exact HO8.out, HL8.out⟩
        | zero =>
          obtain rfl : j = m := by omega
          have hge2 : ¬ (j : Int) < (j : Int) := by omega
          have h1 := HOj.out
          rw [List.take_of_length_le (by rw [HM.out]; omega), HALL.out] at h1
          have HSW9 := Lib.hid (Lain.stays HS3.out (Nat.le_refl _) HLj.out)
          clear HOj HLj HALL
          generalize hs : (⟨ts, os⟩ : PS) = s at *
          clear hs
          rcases img_lay s with ⟨g1, g2, g3, g4⟩ | ⟨g1, g2⟩
          · rw [g1] at h1
            have HO9 := Lib.hid h1
            have HIMG := Lib.hid g4
            clear h1 g1 g2 g4
            have r0 : wr.cell? ⟨g, 0, none⟩ = some (.slice A7 (body s).length c7) := HO9.out.blk.cell 0
            have r1 : wr.cell? ⟨g, 1, none⟩ = some (.bool false) := HO9.out.blk.cell 1
            go_wp2_with fail
            refine wp_region_held_drew (S := fun w' => w'.cell? ⟨g, 0, none⟩ = some (.slice A7 (body s).length c7)) (by kernel_rfl) ?_ (fun hHeld => ?_)
            · exact r0
            refine Ro.take_on (i := 0) (v := ?_) rfl (by kernel_rfl) (by kernel_rfl) (by kernel_rfl) (fun _ _ _ h => h) (by rfl) hHeld ?_ ?_
            rotate_left
            · intro wS hSw; (try dsimp only at hSw); go_simp; try with_reducible rfl
            try simp only [Act.put, List.setIfInBounds_toArray, List.set_cons_zero, List.set_cons_succ]
            refine Ro.take_on (i := 1) (v := ?_) rfl (by kernel_rfl) (by kernel_rfl) (by kernel_rfl) (fun _ _ _ h => h) (by rfl) hHeld ?_ ?_
            rotate_left
            · intro wS hSw; (try dsimp only at hSw); go_simp; try with_reducible rfl
            try simp only [Act.put, List.setIfInBounds_toArray, List.set_cons_zero, List.set_cons_succ]
            refine Ro.take_on (i := 2) (v := ?_) rfl (by kernel_rfl) (by kernel_rfl) (by kernel_rfl) (fun _ _ _ h => h) (by rfl) hHeld ?_ ?_
            rotate_left
            · intro wS hSw; (try dsimp only at hSw); go_simp; try with_reducible rfl
            try simp only [Act.put, List.setIfInBounds_toArray, List.set_cons_zero, List.set_cons_succ]
            refine Ro.take_on (i := 3) (v := ?_) rfl (by kernel_rfl) (by kernel_rfl) (by kernel_rfl) (fun _ _ _ h => h) (by rfl) hHeld ?_ ?_
            rotate_left
            · intro wS hSw; (try dsimp only at hSw); go_simp; try with_reducible rfl
            try simp only [Act.put, List.setIfInBounds_toArray, List.set_cons_zero, List.set_cons_succ]
            refine Ro.take_on (i := 4) (v := ?_) rfl (by kernel_rfl) (by kernel_rfl) (by kernel_rfl) (fun _ _ _ h => h) (by rfl) hHeld ?_ ?_
            rotate_left
            · intro wS hSw; (try dsimp only at hSw); go_simp; try with_reducible rfl
            try simp only [Act.put, List.setIfInBounds_toArray, List.set_cons_zero, List.set_cons_succ]
            refine Ro.take_on (i := 5) (v := ?_) rfl (by kernel_rfl) (by kernel_rfl) (by kernel_rfl) (fun _ _ _ h => h) (by rfl) hHeld ?_ ?_
            rotate_left
            · intro wS hSw; (try dsimp only at hSw); go_simp; try with_reducible rfl
            try simp only [Act.put, List.setIfInBounds_toArray, List.set_cons_zero, List.set_cons_succ]
            refine Ro.take_on (i := 6) (v := ?_) rfl (by kernel_rfl) (by kernel_rfl) (by kernel_rfl) (fun _ _ _ h => h) (by rfl) hHeld ?_ ?_
            rotate_left
            · intro wS hSw; (try dsimp only at hSw); go_simp; try with_reducible rfl
            try simp only [Act.put, List.setIfInBounds_toArray, List.set_cons_zero, List.set_cons_succ]
            refine Ro.take_on (i := 7) (v := ?_) rfl (by kernel_rfl) (by kernel_rfl) (by kernel_rfl) (fun _ _ _ h => h) (by rfl) hHeld ?_ ?_
            rotate_left
            · intro wS hSw; (try dsimp only at hSw); go_simp; try with_reducible rfl
            try simp only [Act.put, List.setIfInBounds_toArray, List.set_cons_zero, List.set_cons_succ]
            refine Ro.one_on (i := 8) rfl (by kernel_rfl) (by rfl) (fun K hK => ?_)
            go_simp
            go_at_call 10
            refine (sum_any A7 (body s).length c7 (body s) _ rfl (by omega) (body_by s) (HO9.out.own.row.same ((Same.refl _).drew))).mono ?_
            rintro e w10 ⟨rfl, rfl⟩
            refine hK.out _ _ ?_ (fun hNew => ?_)
            · exact hHeld
            clear hK K hHeld
            have hHeld := hNew
            clear hNew
            try simp only [Act.put, List.setIfInBounds_toArray, List.set_cons_zero, List.set_cons_succ]
            refine Ro.one_on (i := 9) rfl (by kernel_rfl) (by rfl) (fun K hK => ?_)
            go_simp
            go_at_call 25
            refine (put16_any none 0 0 [] (sumB (body s)) _ rfl (by omega) (Row.nil _ _)).mono ?_
            rintro e w10 ⟨Ap, cp, rfl, hp, sp⟩
            rw [List.nil_append, low_sum] at hp
            have hp2 := hp.row
            have SP := Lib.hid (Same.trans ((Same.refl wr).drew) sp)
            clear hp sp
            refine hK.out _ _ ?_ (fun hNew => ?_)
            · exact SP.out.cell r0
            clear hK K hHeld
            have hHeld := hNew
            clear hNew
            try simp only [Act.put, List.setIfInBounds_toArray, List.set_cons_zero, List.set_cons_succ]
            refine Ro.one_on (i := 10) rfl (by kernel_rfl) (by rfl) (fun K hK => ?_)
            have HO10 := Lib.hid (HO9.out.same SP.out)
            refine oper_app2 (.tmp 51) (.tmp 57) 22 rfl w.heap.size i0 _ Try.underlying22 hi hz0 hz1 hz2 rfl A7 (body s).length c7 (body s) rfl rfl HO10.out.own Ap 2 cp (lo (sumB (body s)) 2) rfl (lo_len _ _) (by omega) hp2 (by omega) ?_ ((body s).length + 2) rfl ?_
            · have := HO10.out.low; have := HO10.out.blk.lt; omega
            intro A11 c11 w11 ho11 hc11
            have HO11 := Lib.hid ho11
            have HS11 := Lib.hid (Same.more (Same.trans HSW9.out SP.out) hc11 fun i hi => (HO10.out.own.at_ hi).1)
            have r11 : w11.cell? ⟨g, 0, none⟩ = some (.slice A7 (body s).length c7) := hc11.cell (SP.out.cell r0) (fun hi => HO10.out.own.ne HO10.out.blk (by decide) g hi rfl)
            clear ho11 hc11
            refine hK.out _ _ ?_ (fun hNew => ?_)
            · exact r11
            clear hK K hHeld
            have hHeld := hNew
            clear hNew
            try simp only [Act.put, List.setIfInBounds_toArray, List.set_cons_zero, List.set_cons_succ]
            refine Ro.take_on (i := 11) (v := ?_) rfl (by kernel_rfl) (by kernel_rfl) (by kernel_rfl) (fun _ _ _ h => h) (by rfl) hHeld ?_ ?_
            rotate_left
            · intro wS hSw; (try dsimp only at hSw); go_simp; try with_reducible rfl
            try simp only [Act.put, List.setIfInBounds_toArray, List.set_cons_zero, List.set_cons_succ]
            refine Ro.take_on (i := 12) (v := ?_) rfl (by kernel_rfl) (by kernel_rfl) (by kernel_rfl) (fun _ _ _ h => h) (by rfl) hHeld ?_ ?_
            rotate_left
            · intro wS hSw; (try dsimp only at hSw); go_simp; try with_reducible rfl
            try simp only [Act.put, List.setIfInBounds_toArray, List.set_cons_zero, List.set_cons_succ]
            refine wpAnyH_done (by kernel_rfl) ?_ _
            go_wp2_with fail
            go_ret2
            refine encp_some HIMG.out (by rw [List.length_append, lo_len]) ?_ HS11.out
            rw [by8_app]
            exact HO11.out
          · have HIMG := Lib.hid g2
            have r1 : wr.cell? ⟨g, 1, none⟩ = some (.bool true) := by
              have h2 := h1.blk.cell 1
              rw [g1] at h2
              exact h2
            clear g1 g2 h1
            go_wp2_with fail
            go_ret2
            exact encp_none HIMG.out HSW9.out
end Go.Proofs.Ytfpefkpbiioofab.Im
