/-

  Layer 33: whether two systems are the same (plain.System).
-/
import Derived.Test.YtaclphhbdfoaeaaDoorImgSameO
import Derived.Deep.CutBlock
set_option linter.unusedVariables false
set_option linter.unusedSimpArgs false
namespace Go.Proofs.YtaclphhbdfoaeaaDoor.Im
open Go.ChangeShapes Go.WideShapes Go.ChangeAt Go.RowKit Ws Cd

theorem take_get {α : Type} {l : List α} {k : Nat} {x : α} (h : l[k]? = some x) : l.take (k + 1) = l.take k ++ [x] := by
  rw [List.take_add_one, h]
  rfl
theorem differ {α : Type} {l m : List α} {k : Nat} {x y : α} (hx : l.take (k + 1) = l.take k ++ [x]) (hy : m.take (k + 1) = m.take k ++ [y]) (hne : ¬ x = y) : ¬ l = m := by
  rintro rfl
  rw [hx] at hy
  have := List.append_cancel_left hy
  injection this with this
  exact hne this
set_option maxRecDepth 100000 in
set_option maxHeartbeats 4000000 in
theorem systems_eq (A B C D : Option Addr) (n c m d n' c' m' d' : Nat) (s t : PS) (w : World) (hs : SysAt w A n B m s) (ht : SysAt w C n' D m' t) (l1 : n ≤ maxLen ∧ m ≤ maxLen) (E : Bool) (hE : E = decide (s = t)) :
    Calls Tryd.prog 7 #[.agg #[.slice A n c, .slice B m d], .agg #[.slice C n' c', .slice D m' d']] w fun e w' => e = .returned (.bool E) ∧ Same w w' := by
  obtain ⟨hnb, hmb⟩ := l1
  unfold maxLen at hnb hmb
  obtain ⟨hn, hm, hts, hos⟩ := hs
  obtain ⟨hn', hm', htt, hot⟩ := ht
  have HN := Lib.hid hn
  have HM := Lib.hid hm
  have HN' := Lib.hid hn'
  have HM' := Lib.hid hm'
  have HE := Lib.hid hE
  have hs1 := (Same.refl w).alloc (.cells #[.slice A n c, .slice B m d] 25)
  have hs2 := (Same.refl (w.alloc (.cells #[.slice A n c, .slice B m d] 25))).alloc (.cells #[.slice C n' c', .slice D m' d'] 25)
  have hb2 := Blk.new (w.alloc (.cells #[.slice A n c, .slice B m d] 25)) 25 #[.slice C n' c', .slice D m' d']
  rw [show (w.alloc (.cells #[.slice A n c, .slice B m d] 25)).heap.size = w.heap.size + 1 by simp] at hb2
  have HB1 := Lib.hid ((Blk.new w 25 #[.slice A n c, .slice B m d]).same hs2)
  have HB2 := Lib.hid hb2
  have HS0 := Lib.hid (hs1.trans hs2)
  have HT := Lib.hid hts
  have HO := Lib.hid hos
  have HT' := Lib.hid htt
  have HO' := Lib.hid hot
  clear hn hm hn' hm' hE hs1 hs2 hb2 hts hos htt hot
  generalize hw0 : (w.alloc (.cells #[.slice A n c, .slice B m d] 25)).alloc (.cells #[.slice C n' c', .slice D m' d'] 25) = w0 at *
  have HW0 := Lib.hid hw0
  clear hw0
  go_enter Tryd.func7, Tryd.ntmps7
  go_upto_region 1 with fail
  rw [HW0.out]
  obtain ⟨q0, q1⟩ : w0.cell? ⟨w.heap.size, 0, none⟩ = some (.slice A n c) ∧ w0.cell? ⟨w.heap.size, 1, none⟩ = some (.slice B m d) := ⟨HB1.out.cell 0, HB1.out.cell 1⟩
  obtain ⟨p0, p1⟩ : w0.cell? ⟨w.heap.size + 1, 0, none⟩ = some (.slice C n' c') ∧ w0.cell? ⟨w.heap.size + 1, 1, none⟩ = some (.slice D m' d') := ⟨HB2.out.cell 0, HB2.out.cell 1⟩
  by_cases hnn : n = n'
  rotate_left
  · have hb : ((n : Int) != (n' : Int)) = true := by simp; omega
    have hF : E = false := by rw [HE.out, decide_eq_false_iff_not]; rintro rfl; exact hnn (by rw [← HN.out, ← HN'.out])
    subst hF
    go_wp2_with fail
    go_ret
    exact ⟨rfl, HS0.out⟩
  by_cases hmm : m = m'
  rotate_left
  · subst hnn
    have hb0 : ((n : Int) != (n : Int)) = false := by simp
    have hb : ((m : Int) != (m' : Int)) = true := by simp; omega
    have hF : E = false := by rw [HE.out, decide_eq_false_iff_not]; rintro rfl; exact hmm (by rw [← HM.out, ← HM'.out])
    subst hF
    go_wp2_with fail
    go_ret
    exact ⟨rfl, HS0.out⟩
  subst hnn hmm
  have hb0 : ((n : Int) != (n : Int)) = false := by simp
  have hb1 : ((m : Int) != (m : Int)) = false := by simp
  go_wp2_with fail
  clear q0 q1 p0 p1 hb0 hb1
  go_loopg [26] n (fun gk iv wx => ∃ k : Nat, k + gk = n ∧ iv = .int .i64 k ∧ s.ts.take k = t.ts.take k ∧ Same w0 wx)
  case atStart => exact ⟨0, by omega, rfl, by simp, Same.refl _⟩
  case round =>
    obtain ⟨k, hk, rfl, hp, sx⟩ := hrel
    have HP := Lib.hid hp
    have HS := Lib.hid sx
    clear hp sx
    cases gk with
    | succ GK =>
      have hlt : (k : Int) < n := by omega
      have k0 : (0 : Int) ≤ k := by omega
      obtain ⟨x, hx⟩ : ∃ x, s.ts[k]? = some x := ⟨_, List.getElem?_eq_getElem (by have := HN.out; omega)⟩
      obtain ⟨y, hy⟩ : ∃ y, t.ts[k]? = some y := ⟨_, List.getElem?_eq_getElem (by have := HN'.out; omega)⟩
      have hss := HS0.out.trans HS.out
      obtain ⟨b, o, rfl, X, cX, e0, e1, e2, e3, e4, e5, e6, hcx, hlx⟩ := (HT.out.same hss).at_ hx
      obtain ⟨b', o', rfl, Y, cY, f0, f1, f2, f3, f4, f5, f6, hcy, hly⟩ := (HT'.out.same hss).at_ hy
      have HGX := Lib.hid (take_get hx)
      have HGY := Lib.hid (take_get hy)
      have HCX := Lib.hid hcx
      have HCY := Lib.hid hcy
      clear hss hx hy hcx hcy
      obtain ⟨z0, z1⟩ : wr.cell? ⟨w.heap.size, 0, none⟩ = some (.slice (some ⟨b, o, none⟩) n c) ∧ wr.cell? ⟨w.heap.size + 1, 0, none⟩ = some (.slice (some ⟨b', o', none⟩) n c') := ⟨(HB1.out.same HS.out).cell 0, (HB2.out.same HS.out).cell 0⟩
      by_cases hxy : x = y
      · have HXY := Lib.hid hxy
        have HQ := Lib.hid (show true = decide (x.kind = y.kind ∧ x.prio = y.prio ∧ x.per = y.per ∧ x.off = y.off ∧ x.dl = y.dl ∧ x.own = y.own ∧ x.code = y.code) by subst hxy; simp)
        clear hxy
        obtain ⟨a1, a2, a3, a4, a5, a6, a7⟩ := x
        obtain ⟨b1, b2, b3, b4, b5, b6, b7⟩ := y
        simp only at e0 e1 e2 e3 e4 e5 e6 f0 f1 f2 f3 f4 f5 f6 hlx hly HCX HCY HQ
        go_wp2_with fail
        refine wp_region_held_drew (S := fun w' => w'.cell? ⟨w.heap.size, 0, none⟩ = some (.slice (some ⟨b, o, none⟩) n c) ∧ w'.cell? ⟨w.heap.size + 1, 0, none⟩ = some (.slice (some ⟨b', o', none⟩) n c') ∧ w'.cell? ⟨b, o + k * 7, none⟩ = some (.int .i64 a1) ∧ w'.cell? ⟨b, o + k * 7 + 1, none⟩ = some (.int .i64 a2) ∧ w'.cell? ⟨b, o + k * 7 + 2, none⟩ = some (.int .i64 a3) ∧ w'.cell? ⟨b, o + k * 7 + 3, none⟩ = some (.int .i64 a4) ∧ w'.cell? ⟨b, o + k * 7 + 4, none⟩ = some (.int .i64 a5) ∧ w'.cell? ⟨b, o + k * 7 + 5, none⟩ = some (.int .i64 a6) ∧ w'.cell? ⟨b, o + k * 7 + 6, none⟩ = some (.slice X a7.length cX) ∧ w'.cell? ⟨b', o' + k * 7, none⟩ = some (.int .i64 b1) ∧ w'.cell? ⟨b', o' + k * 7 + 1, none⟩ = some (.int .i64 b2) ∧ w'.cell? ⟨b', o' + k * 7 + 2, none⟩ = some (.int .i64 b3) ∧ w'.cell? ⟨b', o' + k * 7 + 3, none⟩ = some (.int .i64 b4) ∧ w'.cell? ⟨b', o' + k * 7 + 4, none⟩ = some (.int .i64 b5) ∧ w'.cell? ⟨b', o' + k * 7 + 5, none⟩ = some (.int .i64 b6) ∧ w'.cell? ⟨b', o' + k * 7 + 6, none⟩ = some (.slice Y b7.length cY)) (by kernel_rfl) ?_ (fun hHeld => ?_)
        · exact ⟨z0, z1, e0, e1, e2, e3, e4, e5, e6, f0, f1, f2, f3, f4, f5, f6⟩
        refine Ro.take_on (i := 0) (v := ?_) rfl (by kernel_rfl) (by kernel_rfl) (by kernel_rfl) (fun _ _ _ h => h) (by rfl) hHeld ?_ ?_
        rotate_left
        · intro wS hSw; (try dsimp only at hSw); go_simp; try with_reducible rfl
        try simp only [Act.put, List.setIfInBounds_toArray, List.set_cons_zero, List.set_cons_succ]
        refine Ro.take_on (i := 1) (v := ?_) rfl (by kernel_rfl) (by kernel_rfl) (by kernel_rfl) (fun _ _ _ h => h) (by rfl) hHeld ?_ ?_
        rotate_left
        · intro wS hSw; (try dsimp only at hSw); go_simp; try with_reducible rfl
        try simp only [Act.put, List.setIfInBounds_toArray, List.set_cons_zero, List.set_cons_succ]
        refine Ro.take_on (i := 2) (v := ?_) rfl (by kernel_rfl) (by kernel_rfl) (by kernel_rfl) (fun _ _ _ h => h) (by rfl) hHeld ?_ ?_
        rotate_left
        · intro wS hSw; (try dsimp only at hSw); go_simp; try with_reducible rfl
        try simp only [Act.put, List.setIfInBounds_toArray, List.set_cons_zero, List.set_cons_succ]
        refine Ro.take_on (i := 3) (v := ?_) rfl (by kernel_rfl) (by kernel_rfl) (by kernel_rfl) (fun _ _ _ h => h) (by rfl) hHeld ?_ ?_
        rotate_left
        · intro wS hSw; (try dsimp only at hSw); go_simp; try with_reducible rfl
        try simp only [Act.put, List.setIfInBounds_toArray, List.set_cons_zero, List.set_cons_succ]
        refine Ro.take_on (i := 4) (v := ?_) rfl (by kernel_rfl) (by kernel_rfl) (by kernel_rfl) (fun _ _ _ h => h) (by rfl) hHeld ?_ ?_
        rotate_left
        · intro wS hSw; (try dsimp only at hSw); go_simp; try with_reducible rfl
        try simp only [Act.put, List.setIfInBounds_toArray, List.set_cons_zero, List.set_cons_succ]
        refine Ro.take_on (i := 5) (v := ?_) rfl (by kernel_rfl) (by kernel_rfl) (by kernel_rfl) (fun _ _ _ h => h) (by rfl) hHeld ?_ ?_
        rotate_left
        · intro wS hSw; (try dsimp only at hSw); go_simp; try with_reducible rfl
        try simp only [Act.put, List.setIfInBounds_toArray, List.set_cons_zero, List.set_cons_succ]
        refine Ro.take_on (i := 6) (v := ?_) rfl (by kernel_rfl) (by kernel_rfl) (by kernel_rfl) (fun _ _ _ h => h) (by rfl) hHeld ?_ ?_
        rotate_left
        · intro wS hSw; (try dsimp only at hSw); go_simp; try with_reducible rfl
        try simp only [Act.put, List.setIfInBounds_toArray, List.set_cons_zero, List.set_cons_succ]
        refine Ro.take_on (i := 7) (v := ?_) rfl (by kernel_rfl) (by kernel_rfl) (by kernel_rfl) (fun _ _ _ h => h) (by rfl) hHeld ?_ ?_
        rotate_left
        · intro wS hSw; (try dsimp only at hSw); go_simp; try with_reducible rfl
        try simp only [Act.put, List.setIfInBounds_toArray, List.set_cons_zero, List.set_cons_succ]
        refine Ro.take_on (i := 8) (v := ?_) rfl (by kernel_rfl) (by kernel_rfl) (by kernel_rfl) (fun _ _ _ h => h) (by rfl) hHeld ?_ ?_
        rotate_left
        · intro wS hSw; (try dsimp only at hSw); go_simp; try with_reducible rfl
        try simp only [Act.put, List.setIfInBounds_toArray, List.set_cons_zero, List.set_cons_succ]
        refine Ro.take_on (i := 9) (v := ?_) rfl (by kernel_rfl) (by kernel_rfl) (by kernel_rfl) (fun _ _ _ h => h) (by rfl) hHeld ?_ ?_
        rotate_left
        · intro wS hSw; (try dsimp only at hSw); go_simp; try with_reducible rfl
        try simp only [Act.put, List.setIfInBounds_toArray, List.set_cons_zero, List.set_cons_succ]
        refine Ro.one_on (i := 10) rfl (by kernel_rfl) (by rfl) (fun K hK => ?_)
        go_simp
        go_at_call 16
        refine (tasks_eq a1 a2 a3 a4 a5 a6 b1 b2 b3 b4 b5 b6 a7 b7 X Y cX cY _ (HCX.out.same ((Same.refl wr).drew)) (HCY.out.same ((Same.refl wr).drew)) (by unfold maxLen at hlx; omega) (by unfold maxLen at hly; omega) _ HQ.out).mono ?_
        rintro e w9 ⟨rfl, s9⟩
        have S9 := Lib.hid (((Same.refl wr).drew).trans s9)
        clear s9
        refine hK.out _ _ ?_ (fun hNew => ?_)
        · exact ⟨S9.out.cell z0, S9.out.cell z1, S9.out.cell e0, S9.out.cell e1, S9.out.cell e2, S9.out.cell e3, S9.out.cell e4, S9.out.cell e5, S9.out.cell e6, S9.out.cell f0, S9.out.cell f1, S9.out.cell f2, S9.out.cell f3, S9.out.cell f4, S9.out.cell f5, S9.out.cell f6⟩
        clear hK K hHeld
        have hHeld := hNew
        clear hNew
        try simp only [Act.put, List.setIfInBounds_toArray, List.set_cons_zero, List.set_cons_succ]
        refine Ro.take_on (i := 11) (v := ?_) rfl (by kernel_rfl) (by kernel_rfl) (by kernel_rfl) (fun _ _ _ h => h) (by rfl) hHeld ?_ ?_
        rotate_left
        · intro wS hSw; (try dsimp only at hSw); go_simp; try with_reducible rfl
        try simp only [Act.put, List.setIfInBounds_toArray, List.set_cons_zero, List.set_cons_succ]
        refine wpAnyH_done (by kernel_rfl) ?_ _
        clear hHeld z0 z1 e0 e1 e2 e3 e4 e5 e6 f0 f1 f2 f3 f4 f5 f6
        go_wp2_with fail
        go_roundg GK
        case rel => exact ⟨k + 1, by omega, by go_num, by rw [HGX.out, HGY.out, HP.out, HXY.out], HS.out.trans S9.out⟩
        case measure => omega
      · have hF : E = false := by rw [HE.out, decide_eq_false_iff_not]; intro h; exact differ HGX.out HGY.out hxy (by rw [h])
        subst hF
        have HQ := Lib.hid (show false = decide (x.kind = y.kind ∧ x.prio = y.prio ∧ x.per = y.per ∧ x.off = y.off ∧ x.dl = y.dl ∧ x.own = y.own ∧ x.code = y.code) by
          symm
          rw [decide_eq_false_iff_not]
          intro h
          apply hxy
          obtain ⟨a1, a2, a3, a4, a5, a6, a7⟩ := x
          obtain ⟨b1, b2, b3, b4, b5, b6, b7⟩ := y
          simp only at h
          simp only [PT.mk.injEq]
          exact h)
        clear hxy HGX HGY
        obtain ⟨a1, a2, a3, a4, a5, a6, a7⟩ := x
        obtain ⟨b1, b2, b3, b4, b5, b6, b7⟩ := y
        simp only at e0 e1 e2 e3 e4 e5 e6 f0 f1 f2 f3 f4 f5 f6 hlx hly HCX HCY HQ
        go_wp2_with fail
        refine wp_region_held_drew (S := fun w' => w'.cell? ⟨w.heap.size, 0, none⟩ = some (.slice (some ⟨b, o, none⟩) n c) ∧ w'.cell? ⟨w.heap.size + 1, 0, none⟩ = some (.slice (some ⟨b', o', none⟩) n c') ∧ w'.cell? ⟨b, o + k * 7, none⟩ = some (.int .i64 a1) ∧ w'.cell? ⟨b, o + k * 7 + 1, none⟩ = some (.int .i64 a2) ∧ w'.cell? ⟨b, o + k * 7 + 2, none⟩ = some (.int .i64 a3) ∧ w'.cell? ⟨b, o + k * 7 + 3, none⟩ = some (.int .i64 a4) ∧ w'.cell? ⟨b, o + k * 7 + 4, none⟩ = some (.int .i64 a5) ∧ w'.cell? ⟨b, o + k * 7 + 5, none⟩ = some (.int .i64 a6) ∧ w'.cell? ⟨b, o + k * 7 + 6, none⟩ = some (.slice X a7.length cX) ∧ w'.cell? ⟨b', o' + k * 7, none⟩ = some (.int .i64 b1) ∧ w'.cell? ⟨b', o' + k * 7 + 1, none⟩ = some (.int .i64 b2) ∧ w'.cell? ⟨b', o' + k * 7 + 2, none⟩ = some (.int .i64 b3) ∧ w'.cell? ⟨b', o' + k * 7 + 3, none⟩ = some (.int .i64 b4) ∧ w'.cell? ⟨b', o' + k * 7 + 4, none⟩ = some (.int .i64 b5) ∧ w'.cell? ⟨b', o' + k * 7 + 5, none⟩ = some (.int .i64 b6) ∧ w'.cell? ⟨b', o' + k * 7 + 6, none⟩ = some (.slice Y b7.length cY)) (by kernel_rfl) ?_ (fun hHeld => ?_)
        · exact ⟨z0, z1, e0, e1, e2, e3, e4, e5, e6, f0, f1, f2, f3, f4, f5, f6⟩
        refine Ro.take_on (i := 0) (v := ?_) rfl (by kernel_rfl) (by kernel_rfl) (by kernel_rfl) (fun _ _ _ h => h) (by rfl) hHeld ?_ ?_
        rotate_left
        · intro wS hSw; (try dsimp only at hSw); go_simp; try with_reducible rfl
        try simp only [Act.put, List.setIfInBounds_toArray, List.set_cons_zero, List.set_cons_succ]
        refine Ro.take_on (i := 1) (v := ?_) rfl (by kernel_rfl) (by kernel_rfl) (by kernel_rfl) (fun _ _ _ h => h) (by rfl) hHeld ?_ ?_
        rotate_left
        · intro wS hSw; (try dsimp only at hSw); go_simp; try with_reducible rfl
        try simp only [Act.put, List.setIfInBounds_toArray, List.set_cons_zero, List.set_cons_succ]
        refine Ro.take_on (i := 2) (v := ?_) rfl (by kernel_rfl) (by kernel_rfl) (by kernel_rfl) (fun _ _ _ h => h) (by rfl) hHeld ?_ ?_
        rotate_left
        · intro wS hSw; (try dsimp only at hSw); go_simp; try with_reducible rfl
        try simp only [Act.put, List.setIfInBounds_toArray, List.set_cons_zero, List.set_cons_succ]
        refine Ro.take_on (i := 3) (v := ?_) rfl (by kernel_rfl) (by kernel_rfl) (by kernel_rfl) (fun _ _ _ h => h) (by rfl) hHeld ?_ ?_
        rotate_left
        · intro wS hSw; (try dsimp only at hSw); go_simp; try with_reducible rfl
        try simp only [Act.put, List.setIfInBounds_toArray, List.set_cons_zero, List.set_cons_succ]
        refine Ro.take_on (i := 4) (v := ?_) rfl (by kernel_rfl) (by kernel_rfl) (by kernel_rfl) (fun _ _ _ h => h) (by rfl) hHeld ?_ ?_
        rotate_left
        · intro wS hSw; (try dsimp only at hSw); go_simp; try with_reducible rfl
        try simp only [Act.put, List.setIfInBounds_toArray, List.set_cons_zero, List.set_cons_succ]
        refine Ro.take_on (i := 5) (v := ?_) rfl (by kernel_rfl) (by kernel_rfl) (by kernel_rfl) (fun _ _ _ h => h) (by rfl) hHeld ?_ ?_
        rotate_left
        · intro wS hSw; (try dsimp only at hSw); go_simp; try with_reducible rfl
        try simp only [Act.put, List.setIfInBounds_toArray, List.set_cons_zero, List.set_cons_succ]
        refine Ro.take_on (i := 6) (v := ?_) rfl (by kernel_rfl) (by kernel_rfl) (by kernel_rfl) (fun _ _ _ h => h) (by rfl) hHeld ?_ ?_
        rotate_left
        · intro wS hSw; (try dsimp only at hSw); go_simp; try with_reducible rfl
        try simp only [Act.put, List.setIfInBounds_toArray, List.set_cons_zero, List.set_cons_succ]
        refine Ro.take_on (i := 7) (v := ?_) rfl (by kernel_rfl) (by kernel_rfl) (by kernel_rfl) (fun _ _ _ h => h) (by rfl) hHeld ?_ ?_
        rotate_left
        · intro wS hSw; (try dsimp only at hSw); go_simp; try with_reducible rfl
        try simp only [Act.put, List.setIfInBounds_toArray, List.set_cons_zero, List.set_cons_succ]
        refine Ro.take_on (i := 8) (v := ?_) rfl (by kernel_rfl) (by kernel_rfl) (by kernel_rfl) (fun _ _ _ h => h) (by rfl) hHeld ?_ ?_
        rotate_left
        · intro wS hSw; (try dsimp only at hSw); go_simp; try with_reducible rfl
        try simp only [Act.put, List.setIfInBounds_toArray, List.set_cons_zero, List.set_cons_succ]
        refine Ro.take_on (i := 9) (v := ?_) rfl (by kernel_rfl) (by kernel_rfl) (by kernel_rfl) (fun _ _ _ h => h) (by rfl) hHeld ?_ ?_
        rotate_left
        · intro wS hSw; (try dsimp only at hSw); go_simp; try with_reducible rfl
        try simp only [Act.put, List.setIfInBounds_toArray, List.set_cons_zero, List.set_cons_succ]
        refine Ro.one_on (i := 10) rfl (by kernel_rfl) (by rfl) (fun K hK => ?_)
        go_simp
        go_at_call 16
        refine (tasks_eq a1 a2 a3 a4 a5 a6 b1 b2 b3 b4 b5 b6 a7 b7 X Y cX cY _ (HCX.out.same ((Same.refl wr).drew)) (HCY.out.same ((Same.refl wr).drew)) (by unfold maxLen at hlx; omega) (by unfold maxLen at hly; omega) _ HQ.out).mono ?_
        rintro e w9 ⟨rfl, s9⟩
        have S9 := Lib.hid (((Same.refl wr).drew).trans s9)
        clear s9
        refine hK.out _ _ ?_ (fun hNew => ?_)
        · exact ⟨S9.out.cell z0, S9.out.cell z1, S9.out.cell e0, S9.out.cell e1, S9.out.cell e2, S9.out.cell e3, S9.out.cell e4, S9.out.cell e5, S9.out.cell e6, S9.out.cell f0, S9.out.cell f1, S9.out.cell f2, S9.out.cell f3, S9.out.cell f4, S9.out.cell f5, S9.out.cell f6⟩
        clear hK K hHeld
        have hHeld := hNew
        clear hNew
        try simp only [Act.put, List.setIfInBounds_toArray, List.set_cons_zero, List.set_cons_succ]
        refine Ro.take_on (i := 11) (v := ?_) rfl (by kernel_rfl) (by kernel_rfl) (by kernel_rfl) (fun _ _ _ h => h) (by rfl) hHeld ?_ ?_
        rotate_left
        · intro wS hSw; (try dsimp only at hSw); go_simp; try with_reducible rfl
        try simp only [Act.put, List.setIfInBounds_toArray, List.set_cons_zero, List.set_cons_succ]
        refine wpAnyH_done (by kernel_rfl) ?_ _
        clear hHeld z0 z1 e0 e1 e2 e3 e4 e5 e6 f0 f1 f2 f3 f4 f5 f6
        go_wp2_with fail
        go_ret
        exact ⟨rfl, HS0.out.trans (HS.out.trans S9.out)⟩
    | zero =>
      obtain rfl : k = n := by omega
      have hge : ¬ (k : Int) < (k : Int) := by omega
      have hts : s.ts = t.ts := by
        have := HP.out
        rw [List.take_of_length_le (by rw [HN.out]; omega), List.take_of_length_le (by rw [HN'.out]; omega)] at this
        exact this
      have HTS := Lib.hid hts
      clear hts HP
      obtain ⟨q0, q1⟩ : wr.cell? ⟨w.heap.size, 0, none⟩ = some (.slice A k c) ∧ wr.cell? ⟨w.heap.size, 1, none⟩ = some (.slice B m d) := ⟨(HB1.out.same HS.out).cell 0, (HB1.out.same HS.out).cell 1⟩
      have HSK := HS
      clear HS
      go_wp2_with fail
      clear q0 q1
      go_loopg [45] m (fun gk iv wx => ∃ j : Nat, j + gk = m ∧ iv = .int .i64 j ∧ s.os.take j = t.os.take j ∧ Same w0 wx)
      case atStart => exact ⟨0, by omega, rfl, by simp, HSK.out⟩
      case round =>
        rename_i n0 wr0
        obtain ⟨k, hk, rfl, hp, sx⟩ := hrel
        have HP := Lib.hid hp
        have HS := Lib.hid sx
        clear hp sx HSK
        cases gk with
        | succ GK =>
          have hlt : (k : Int) < m := by omega
          have k0 : (0 : Int) ≤ k := by omega
          obtain ⟨x, hx⟩ : ∃ x, s.os[k]? = some x := ⟨_, List.getElem?_eq_getElem (by have := HM.out; omega)⟩
          obtain ⟨y, hy⟩ : ∃ y, t.os[k]? = some y := ⟨_, List.getElem?_eq_getElem (by have := HM'.out; omega)⟩
          have hss := HS0.out.trans HS.out
          obtain ⟨b, o, rfl, X, cX, U, cU, e0, e1, e2, e3, e4, e5, e6, e7, _, hx8, _, hx7, hlx, hlu⟩ := (HO.out.same hss).at_ hx
          obtain ⟨b', o', rfl, Y, cY, V, cV, f0, f1, f2, f3, f4, f5, f6, f7, _, hy8, _, hy7, hly, hlv⟩ := (HO'.out.same hss).at_ hy
          have HGX := Lib.hid (take_get hx)
          have HGY := Lib.hid (take_get hy)
          have HX8 := Lib.hid hx8
          have HX7 := Lib.hid hx7
          have HY8 := Lib.hid hy8
          have HY7 := Lib.hid hy7
          clear hss hx hy hx8 hx7 hy8 hy7
          obtain ⟨z0, z1⟩ : wr.cell? ⟨w.heap.size, 1, none⟩ = some (.slice (some ⟨b, o, none⟩) m d) ∧ wr.cell? ⟨w.heap.size + 1, 1, none⟩ = some (.slice (some ⟨b', o', none⟩) m d') := ⟨(HB1.out.same HS.out).cell 1, (HB2.out.same HS.out).cell 1⟩
          by_cases hxy : x = y
          · have HXY := Lib.hid hxy
            have HQ := Lib.hid (show true = decide (x.k = y.k ∧ x.wd = y.wd ∧ x.sl = y.sl ∧ x.cp = y.cp ∧ x.sa = y.sa ∧ x.ini = y.ini ∧ x.ow = y.ow ∧ x.rd = y.rd) by subst hxy; simp)
            clear hxy
            obtain ⟨a1, a2, a3, a4, a5, a6, a7, a8⟩ := x
            obtain ⟨b1, b2, b3, b4, b5, b6, b7, b8⟩ := y
            simp only at e0 e1 e2 e3 e4 e5 e6 e7 f0 f1 f2 f3 f4 f5 f6 f7 hlx hly hlu hlv HX8 HX7 HY8 HY7 HQ
            go_wp2_with fail
            refine wp_region_held_drew (S := fun w' => w'.cell? ⟨w.heap.size, 1, none⟩ = some (.slice (some ⟨b, o, none⟩) m d) ∧ w'.cell? ⟨w.heap.size + 1, 1, none⟩ = some (.slice (some ⟨b', o', none⟩) m d') ∧ w'.cell? ⟨b, o + k * 8, none⟩ = some (.int .i64 a1) ∧ w'.cell? ⟨b, o + k * 8 + 1, none⟩ = some (.int .i64 a2) ∧ w'.cell? ⟨b, o + k * 8 + 2, none⟩ = some (.int .i64 a3) ∧ w'.cell? ⟨b, o + k * 8 + 3, none⟩ = some (.int .i64 a4) ∧ w'.cell? ⟨b, o + k * 8 + 4, none⟩ = some (.int .u32 a5) ∧ w'.cell? ⟨b, o + k * 8 + 5, none⟩ = some (.slice X a8.length cX) ∧ w'.cell? ⟨b, o + k * 8 + 6, none⟩ = some (.int .i64 a6) ∧ w'.cell? ⟨b, o + k * 8 + 7, none⟩ = some (.slice U a7.length cU) ∧ w'.cell? ⟨b', o' + k * 8, none⟩ = some (.int .i64 b1) ∧ w'.cell? ⟨b', o' + k * 8 + 1, none⟩ = some (.int .i64 b2) ∧ w'.cell? ⟨b', o' + k * 8 + 2, none⟩ = some (.int .i64 b3) ∧ w'.cell? ⟨b', o' + k * 8 + 3, none⟩ = some (.int .i64 b4) ∧ w'.cell? ⟨b', o' + k * 8 + 4, none⟩ = some (.int .u32 b5) ∧ w'.cell? ⟨b', o' + k * 8 + 5, none⟩ = some (.slice Y b8.length cY) ∧ w'.cell? ⟨b', o' + k * 8 + 6, none⟩ = some (.int .i64 b6) ∧ w'.cell? ⟨b', o' + k * 8 + 7, none⟩ = some (.slice V b7.length cV)) (by kernel_rfl) ?_ (fun hHeld => ?_)
            · exact ⟨z0, z1, e0, e1, e2, e3, e4, e5, e6, e7, f0, f1, f2, f3, f4, f5, f6, f7⟩
            refine Ro.take_on (i := 0) (v := ?_) rfl (by kernel_rfl) (by kernel_rfl) (by kernel_rfl) (fun _ _ _ h => h) (by rfl) hHeld ?_ ?_
            rotate_left
            · intro wS hSw; (try dsimp only at hSw); go_simp; try with_reducible rfl
            try simp only [Act.put, List.setIfInBounds_toArray, List.set_cons_zero, List.set_cons_succ]
            refine Ro.take_on (i := 1) (v := ?_) rfl (by kernel_rfl) (by kernel_rfl) (by kernel_rfl) (fun _ _ _ h => h) (by rfl) hHeld ?_ ?_
            rotate_left
            · intro wS hSw; (try dsimp only at hSw); go_simp; try with_reducible rfl
            try simp only [Act.put, List.setIfInBounds_toArray, List.set_cons_zero, List.set_cons_succ]
            refine Ro.take_on (i := 2) (v := ?_) rfl (by kernel_rfl) (by kernel_rfl) (by kernel_rfl) (fun _ _ _ h => h) (by rfl) hHeld ?_ ?_
            rotate_left
            · intro wS hSw; (try dsimp only at hSw); go_simp; try with_reducible rfl
            try simp only [Act.put, List.setIfInBounds_toArray, List.set_cons_zero, List.set_cons_succ]
            refine Ro.take_on (i := 3) (v := ?_) rfl (by kernel_rfl) (by kernel_rfl) (by kernel_rfl) (fun _ _ _ h => h) (by rfl) hHeld ?_ ?_
            rotate_left
            · intro wS hSw; (try dsimp only at hSw); go_simp; try with_reducible rfl
            try simp only [Act.put, List.setIfInBounds_toArray, List.set_cons_zero, List.set_cons_succ]
            refine Ro.take_on (i := 4) (v := ?_) rfl (by kernel_rfl) (by kernel_rfl) (by kernel_rfl) (fun _ _ _ h => h) (by rfl) hHeld ?_ ?_
            rotate_left
            · intro wS hSw; (try dsimp only at hSw); go_simp; try with_reducible rfl
            try simp only [Act.put, List.setIfInBounds_toArray, List.set_cons_zero, List.set_cons_succ]
            refine Ro.take_on (i := 5) (v := ?_) rfl (by kernel_rfl) (by kernel_rfl) (by kernel_rfl) (fun _ _ _ h => h) (by rfl) hHeld ?_ ?_
            rotate_left
            · intro wS hSw; (try dsimp only at hSw); go_simp; try with_reducible rfl
            try simp only [Act.put, List.setIfInBounds_toArray, List.set_cons_zero, List.set_cons_succ]
            refine Ro.take_on (i := 6) (v := ?_) rfl (by kernel_rfl) (by kernel_rfl) (by kernel_rfl) (fun _ _ _ h => h) (by rfl) hHeld ?_ ?_
            rotate_left
            · intro wS hSw; (try dsimp only at hSw); go_simp; try with_reducible rfl
            try simp only [Act.put, List.setIfInBounds_toArray, List.set_cons_zero, List.set_cons_succ]
            refine Ro.take_on (i := 7) (v := ?_) rfl (by kernel_rfl) (by kernel_rfl) (by kernel_rfl) (fun _ _ _ h => h) (by rfl) hHeld ?_ ?_
            rotate_left
            · intro wS hSw; (try dsimp only at hSw); go_simp; try with_reducible rfl
            try simp only [Act.put, List.setIfInBounds_toArray, List.set_cons_zero, List.set_cons_succ]
            refine Ro.take_on (i := 8) (v := ?_) rfl (by kernel_rfl) (by kernel_rfl) (by kernel_rfl) (fun _ _ _ h => h) (by rfl) hHeld ?_ ?_
            rotate_left
            · intro wS hSw; (try dsimp only at hSw); go_simp; try with_reducible rfl
            try simp only [Act.put, List.setIfInBounds_toArray, List.set_cons_zero, List.set_cons_succ]
            refine Ro.take_on (i := 9) (v := ?_) rfl (by kernel_rfl) (by kernel_rfl) (by kernel_rfl) (fun _ _ _ h => h) (by rfl) hHeld ?_ ?_
            rotate_left
            · intro wS hSw; (try dsimp only at hSw); go_simp; try with_reducible rfl
            try simp only [Act.put, List.setIfInBounds_toArray, List.set_cons_zero, List.set_cons_succ]
            refine Ro.one_on (i := 10) rfl (by kernel_rfl) (by rfl) (fun K hK => ?_)
            go_simp
            go_at_call 17
            refine (objs_eq a1 a2 a3 a4 a5 a6 b1 b2 b3 b4 b5 b6 a7 b7 a8 b8 X U Y V cX cU cY cV _ (HX8.out.same ((Same.refl wr).drew)) (HY8.out.same ((Same.refl wr).drew)) (HX7.out.same ((Same.refl wr).drew)) (HY7.out.same ((Same.refl wr).drew)) ⟨by unfold maxLen at hlu; omega, by unfold maxLen at hlv; omega, by unfold maxLen at hlx; omega, by unfold maxLen at hly; omega⟩ _ HQ.out).mono ?_
            rintro e w9 ⟨rfl, s9⟩
            have S9 := Lib.hid (((Same.refl wr).drew).trans s9)
            clear s9
            refine hK.out _ _ ?_ (fun hNew => ?_)
            · exact ⟨S9.out.cell z0, S9.out.cell z1, S9.out.cell e0, S9.out.cell e1, S9.out.cell e2, S9.out.cell e3, S9.out.cell e4, S9.out.cell e5, S9.out.cell e6, S9.out.cell e7, S9.out.cell f0, S9.out.cell f1, S9.out.cell f2, S9.out.cell f3, S9.out.cell f4, S9.out.cell f5, S9.out.cell f6, S9.out.cell f7⟩
            clear hK K hHeld
            have hHeld := hNew
            clear hNew
            try simp only [Act.put, List.setIfInBounds_toArray, List.set_cons_zero, List.set_cons_succ]
            refine Ro.take_on (i := 11) (v := ?_) rfl (by kernel_rfl) (by kernel_rfl) (by kernel_rfl) (fun _ _ _ h => h) (by rfl) hHeld ?_ ?_
            rotate_left
            · intro wS hSw; (try dsimp only at hSw); go_simp; try with_reducible rfl
            try simp only [Act.put, List.setIfInBounds_toArray, List.set_cons_zero, List.set_cons_succ]
            refine wpAnyH_done (by kernel_rfl) ?_ _
            clear hHeld z0 z1 e0 e1 e2 e3 e4 e5 e6 e7 f0 f1 f2 f3 f4 f5 f6 f7
            go_wp2_with fail
            go_roundg GK
            case rel => exact ⟨k + 1, by omega, by go_num, by rw [HGX.out, HGY.out, HP.out, HXY.out], HS.out.trans S9.out⟩
            case measure => omega
          · have hF : E = false := by rw [HE.out, decide_eq_false_iff_not]; intro h; exact differ HGX.out HGY.out hxy (by rw [h])
            subst hF
            have HQ := Lib.hid (show false = decide (x.k = y.k ∧ x.wd = y.wd ∧ x.sl = y.sl ∧ x.cp = y.cp ∧ x.sa = y.sa ∧ x.ini = y.ini ∧ x.ow = y.ow ∧ x.rd = y.rd) by
              symm
              rw [decide_eq_false_iff_not]
              intro h
              apply hxy
              obtain ⟨a1, a2, a3, a4, a5, a6, a7, a8⟩ := x
              obtain ⟨b1, b2, b3, b4, b5, b6, b7, b8⟩ := y
              simp only at h
              simp only [PO.mk.injEq]
              exact ⟨h.1, h.2.1, h.2.2.1, h.2.2.2.1, h.2.2.2.2.1, h.2.2.2.2.2.2.1, h.2.2.2.2.2.2.2, h.2.2.2.2.2.1⟩)
            clear hxy HGX HGY
            obtain ⟨a1, a2, a3, a4, a5, a6, a7, a8⟩ := x
            obtain ⟨b1, b2, b3, b4, b5, b6, b7, b8⟩ := y
            simp only at e0 e1 e2 e3 e4 e5 e6 e7 f0 f1 f2 f3 f4 f5 f6 f7 hlx hly hlu hlv HX8 HX7 HY8 HY7 HQ
            go_wp2_with fail
            refine wp_region_held_drew (S := fun w' => w'.cell? ⟨w.heap.size, 1, none⟩ = some (.slice (some ⟨b, o, none⟩) m d) ∧ w'.cell? ⟨w.heap.size + 1, 1, none⟩ = some (.slice (some ⟨b', o', none⟩) m d') ∧ w'.cell? ⟨b, o + k * 8, none⟩ = some (.int .i64 a1) ∧ w'.cell? ⟨b, o + k * 8 + 1, none⟩ = some (.int .i64 a2) ∧ w'.cell? ⟨b, o + k * 8 + 2, none⟩ = some (.int .i64 a3) ∧ w'.cell? ⟨b, o + k * 8 + 3, none⟩ = some (.int .i64 a4) ∧ w'.cell? ⟨b, o + k * 8 + 4, none⟩ = some (.int .u32 a5) ∧ w'.cell? ⟨b, o + k * 8 + 5, none⟩ = some (.slice X a8.length cX) ∧ w'.cell? ⟨b, o + k * 8 + 6, none⟩ = some (.int .i64 a6) ∧ w'.cell? ⟨b, o + k * 8 + 7, none⟩ = some (.slice U a7.length cU) ∧ w'.cell? ⟨b', o' + k * 8, none⟩ = some (.int .i64 b1) ∧ w'.cell? ⟨b', o' + k * 8 + 1, none⟩ = some (.int .i64 b2) ∧ w'.cell? ⟨b', o' + k * 8 + 2, none⟩ = some (.int .i64 b3) ∧ w'.cell? ⟨b', o' + k * 8 + 3, none⟩ = some (.int .i64 b4) ∧ w'.cell? ⟨b', o' + k * 8 + 4, none⟩ = some (.int .u32 b5) ∧ w'.cell? ⟨b', o' + k * 8 + 5, none⟩ = some (.slice Y b8.length cY) ∧ w'.cell? ⟨b', o' + k * 8 + 6, none⟩ = some (.int .i64 b6) ∧ w'.cell? ⟨b', o' + k * 8 + 7, none⟩ = some (.slice V b7.length cV)) (by kernel_rfl) ?_ (fun hHeld => ?_)
            · exact ⟨z0, z1, e0, e1, e2, e3, e4, e5, e6, e7, f0, f1, f2, f3, f4, f5, f6, f7⟩
            refine Ro.take_on (i := 0) (v := ?_) rfl (by kernel_rfl) (by kernel_rfl) (by kernel_rfl) (fun _ _ _ h => h) (by rfl) hHeld ?_ ?_
            rotate_left
            · intro wS hSw; (try dsimp only at hSw); go_simp; try with_reducible rfl
            try simp only [Act.put, List.setIfInBounds_toArray, List.set_cons_zero, List.set_cons_succ]
            refine Ro.take_on (i := 1) (v := ?_) rfl (by kernel_rfl) (by kernel_rfl) (by kernel_rfl) (fun _ _ _ h => h) (by rfl) hHeld ?_ ?_
            rotate_left
            · intro wS hSw; (try dsimp only at hSw); go_simp; try with_reducible rfl
            try simp only [Act.put, List.setIfInBounds_toArray, List.set_cons_zero, List.set_cons_succ]
            refine Ro.take_on (i := 2) (v := ?_) rfl (by kernel_rfl) (by kernel_rfl) (by kernel_rfl) (fun _ _ _ h => h) (by rfl) hHeld ?_ ?_
            rotate_left
            · intro wS hSw; (try dsimp only at hSw); go_simp; try with_reducible rfl
            try simp only [Act.put, List.setIfInBounds_toArray, List.set_cons_zero, List.set_cons_succ]
            refine Ro.take_on (i := 3) (v := ?_) rfl (by kernel_rfl) (by kernel_rfl) (by kernel_rfl) (fun _ _ _ h => h) (by rfl) hHeld ?_ ?_
            rotate_left
            · intro wS hSw; (try dsimp only at hSw); go_simp; try with_reducible rfl
            try simp only [Act.put, List.setIfInBounds_toArray, List.set_cons_zero, List.set_cons_succ]
            refine Ro.take_on (i := 4) (v := ?_) rfl (by kernel_rfl) (by kernel_rfl) (by kernel_rfl) (fun _ _ _ h => h) (by rfl) hHeld ?_ ?_
            rotate_left
            · intro wS hSw; (try dsimp only at hSw); go_simp; try with_reducible rfl
            try simp only [Act.put, List.setIfInBounds_toArray, List.set_cons_zero, List.set_cons_succ]
            refine Ro.take_on (i := 5) (v := ?_) rfl (by kernel_rfl) (by kernel_rfl) (by kernel_rfl) (fun _ _ _ h => h) (by rfl) hHeld ?_ ?_
            rotate_left
            · intro wS hSw; (try dsimp only at hSw); go_simp; try with_reducible rfl
            try simp only [Act.put, List.setIfInBounds_toArray, List.set_cons_zero, List.set_cons_succ]
            refine Ro.take_on (i := 6) (v := ?_) rfl (by kernel_rfl) (by kernel_rfl) (by kernel_rfl) (fun _ _ _ h => h) (by rfl) hHeld ?_ ?_
            rotate_left
            · intro wS hSw; (try dsimp only at hSw); go_simp; try with_reducible rfl
            try simp only [Act.put, List.setIfInBounds_toArray, List.set_cons_zero, List.set_cons_succ]
            refine Ro.take_on (i := 7) (v := ?_) rfl (by kernel_rfl) (by kernel_rfl) (by kernel_rfl) (fun _ _ _ h => h) (by rfl) hHeld ?_ ?_
            rotate_left
            · intro wS hSw; (try dsimp only at hSw); go_simp; try with_reducible rfl
            try simp only [Act.put, List.setIfInBounds_toArray, List.set_cons_zero, List.set_cons_succ]
            refine Ro.take_on (i := 8) (v := ?_) rfl (by kernel_rfl) (by kernel_rfl) (by kernel_rfl) (fun _ _ _ h => h) (by rfl) hHeld ?_ ?_
            rotate_left
            · intro wS hSw; (try dsimp only at hSw); go_simp; try with_reducible rfl
            try simp only [Act.put, List.setIfInBounds_toArray, List.set_cons_zero, List.set_cons_succ]
            refine Ro.take_on (i := 9) (v := ?_) rfl (by kernel_rfl) (by kernel_rfl) (by kernel_rfl) (fun _ _ _ h => h) (by rfl) hHeld ?_ ?_
            rotate_left
            · intro wS hSw; (try dsimp only at hSw); go_simp; try with_reducible rfl
            try simp only [Act.put, List.setIfInBounds_toArray, List.set_cons_zero, List.set_cons_succ]
            refine Ro.one_on (i := 10) rfl (by kernel_rfl) (by rfl) (fun K hK => ?_)
            go_simp
            go_at_call 17
            refine (objs_eq a1 a2 a3 a4 a5 a6 b1 b2 b3 b4 b5 b6 a7 b7 a8 b8 X U Y V cX cU cY cV _ (HX8.out.same ((Same.refl wr).drew)) (HY8.out.same ((Same.refl wr).drew)) (HX7.out.same ((Same.refl wr).drew)) (HY7.out.same ((Same.refl wr).drew)) ⟨by unfold maxLen at hlu; omega, by unfold maxLen at hlv; omega, by unfold maxLen at hlx; omega, by unfold maxLen at hly; omega⟩ _ HQ.out).mono ?_
            rintro e w9 ⟨rfl, s9⟩
            have S9 := Lib.hid (((Same.refl wr).drew).trans s9)
            clear s9
            refine hK.out _ _ ?_ (fun hNew => ?_)
            · exact ⟨S9.out.cell z0, S9.out.cell z1, S9.out.cell e0, S9.out.cell e1, S9.out.cell e2, S9.out.cell e3, S9.out.cell e4, S9.out.cell e5, S9.out.cell e6, S9.out.cell e7, S9.out.cell f0, S9.out.cell f1, S9.out.cell f2, S9.out.cell f3, S9.out.cell f4, S9.out.cell f5, S9.out.cell f6, S9.out.cell f7⟩
            clear hK K hHeld
            have hHeld := hNew
            clear hNew
            try simp only [Act.put, List.setIfInBounds_toArray, List.set_cons_zero, List.set_cons_succ]
            refine Ro.take_on (i := 11) (v := ?_) rfl (by kernel_rfl) (by kernel_rfl) (by kernel_rfl) (fun _ _ _ h => h) (by rfl) hHeld ?_ ?_
            rotate_left
            · intro wS hSw; (try dsimp only at hSw); go_simp; try with_reducible rfl
            try simp only [Act.put, List.setIfInBounds_toArray, List.set_cons_zero, List.set_cons_succ]
            refine wpAnyH_done (by kernel_rfl) ?_ _
            clear hHeld z0 z1 e0 e1 e2 e3 e4 e5 e6 e7 f0 f1 f2 f3 f4 f5 f6 f7
            go_wp2_with fail
            go_ret
            exact ⟨rfl, HS0.out.trans (HS.out.trans S9.out)⟩
        | zero =>
          obtain rfl : k = m := by omega
          have hge2 : ¬ (k : Int) < (k : Int) := by omega
          have hT : E = true := by
            rw [HE.out, decide_eq_true_eq]
            have h1 := HP.out
            rw [List.take_of_length_le (by rw [HM.out]; omega), List.take_of_length_le (by rw [HM'.out]; omega)] at h1
            obtain ⟨ts, os⟩ := s
            obtain ⟨ts', os'⟩ := t
            have h2 := HTS.out
            simp only at h1 h2
            rw [h1, h2]
          subst hT
          go_wp2_with fail
          go_ret
          exact ⟨rfl, HS0.out.trans HS.out⟩
end Go.Proofs.YtaclphhbdfoaeaaDoor.Im
