/-

  Layer 31: where all of a system stands (layout.Of).
-/
import Derived.Test.YtaclphhbdfoaeaaDoorLayAll
import Derived.Test.YtaclphhbdfoaeaaDoorObjIdx
set_option linter.unusedVariables false
set_option linter.unusedSimpArgs false
namespace Go.Proofs.YtaclphhbdfoaeaaDoor.Ly
open Go.ChangeShapes Go.WideShapes Go.ChangeAt Go.RowKit Ws

theorem layout_size : (Tryd.prog.info? 67).map (·.size) = some 3 := by kernel_rfl
/-- what comes of a system's layout -/
def OfP (w : World) (n m : Nat) (r : Option (List Int)) (e : Ending) (w' : World) : Prop := match r with
  | none => e = .returned (.tuple #[.agg #[.slice none 0 0, .slice none 0 0, .int .i64 0], .int .i64 1]) ∧ Same w w'
  | some L => if sumL L ≤ 4096 then ∃ A c B d, e = .returned (.tuple #[.agg #[.slice A n c, .slice B m d, .int .i64 (sumL L)], .int .i64 0]) ∧ Regs w' A ((cutL L).take n) ∧ Regs w' B ((cutL L).drop n) ∧ Same w w'
    else e = .returned (.tuple #[.agg #[.slice none 0 0, .slice none 0 0, .int .i64 0], .int .i64 6]) ∧ Same w w'
theorem three_chg (w : World) (g : Nat) (u v x : Value) : Chg (fun i => i = g) w (((w.setCell ⟨g, 0, none⟩ u).setCell ⟨g, 1, none⟩ v).setCell ⟨g, 2, none⟩ x) := by
  have h0 : Chg (fun i => i = g) w (w.setCell ⟨g, 0, none⟩ u) := Chg.set (S := fun i => i = g) (p := ⟨g, 0, none⟩) (Chg.refl _ w) (.inl rfl) u
  have h1 := Chg.set (p := ⟨g, 1, none⟩) h0 (.inl rfl) v
  exact Chg.set (p := ⟨g, 2, none⟩) h1 (.inl rfl) x
theorem three_same {w w' : World} {g : Nat} (h : Same w w') (hg : w.heap.size ≤ g) (u v x : Value) : Same w (((w'.setCell ⟨g, 0, none⟩ u).setCell ⟨g, 1, none⟩ v).setCell ⟨g, 2, none⟩ x) :=
  h.more (three_chg w' g u v x) (fun i hi => by have h1 : i = g := hi; omega)
theorem three_blk {w : World} {g : Nat} {T : TypeId} {a b c : Value} (h : Blk w g T #[a, b, c]) (u v x : Value) : Blk (((w.setCell ⟨g, 0, none⟩ u).setCell ⟨g, 1, none⟩ v).setCell ⟨g, 2, none⟩ x) g T #[u, v, x] :=
  ((h.put 0 u).put 1 v).put 2 x
theorem of_none {w w' : World} {n m : Nat} (hS : Same w w') :
    OfP w n m none (.returned (.tuple #[.agg #[.slice none 0 0, .slice none 0 0, .int .i64 0], .int .i64 1])) w' := ⟨rfl, hS⟩
theorem of_yes {w w' : World} {n m p q : Nat} {L : List Int} {A B : Option Addr} {c d : Nat} (h : sumL L ≤ 4096) (hp : p = n) (hq : q = m) (hr : Regs w' A ((cutL L).take n)) (hs : Regs w' B ((cutL L).drop n)) (hS : Same w w') :
    OfP w n m (some L) (.returned (.tuple #[.agg #[.slice A p c, .slice B q d, .int .i64 (sumL L)], .int .i64 0])) w' := by
  subst hp
  subst hq
  unfold OfP
  dsimp only
  rw [if_pos h]
  exact ⟨A, c, B, d, rfl, hr, hs, hS⟩
theorem of_room {w w' : World} {n m : Nat} {L : List Int} (h : ¬ sumL L ≤ 4096) (hS : Same w w') :
    OfP w n m (some L) (.returned (.tuple #[.agg #[.slice none 0 0, .slice none 0 0, .int .i64 0], .int .i64 6])) w' := by
  unfold OfP
  dsimp only
  rw [if_neg h]
  exact ⟨rfl, hS⟩
set_option maxRecDepth 100000 in
set_option maxHeartbeats 2000000 in
theorem of_any (A B : Option Addr) (n c m d : Nat) (ts : List Tk.Task) (os : List Objt) (w : World) (hn : ts.length = n) (hm : os.length = m) (hn5 : n ≤ 5000) (hm5 : m ≤ 5000) (ht : Tk.Tasks w A ts) (ho : Objs w B os) (hlen : ∀ L, lensF ts os = some L → L.length = n + m ∧ ∀ x ∈ L, 0 ≤ x ∧ x ≤ 1000000) :
    Calls Tryd.prog 41 #[.agg #[.slice A n c, .slice B m d]] w (OfP w n m (lensF ts os)) := by
  obtain ⟨r, hr⟩ : ∃ r, r = lensF ts os := ⟨_, rfl⟩
  have HLN := Lib.hid (fun w' (s : Same w w') => lengths_any A B n c m d ts os w' hn hm hn5 hm5 (ht.same s) (ho.same s) r hr)
  have hs0 := (Same.refl w).alloc (.cells #[.slice A n c, .slice B m d] 25)
  have hb0 := Blk.new w 25 #[.slice A n c, .slice B m d]
  have hb1 := Blk.new (w.alloc (.cells #[.slice A n c, .slice B m d] 25)) 67 #[.slice none 0 0, .slice none 0 0, .int .i64 0]
  have hs1 := hs0.alloc (.cells #[.slice none 0 0, .slice none 0 0, .int .i64 0] 67)
  have hb01 := hb0.same ((Same.refl _).alloc (.cells #[.slice none 0 0, .slice none 0 0, .int .i64 0] 67))
  rw [World.size_alloc] at hb1
  have HS1 := Lib.hid hs1
  have HB0 := Lib.hid hb01
  have HB1 := Lib.hid hb1
  clear hs0 hb0 hb1 hs1 hb01
  rw [← hr] at hlen
  have HLEN := Lib.hid hlen
  clear hlen
  clear hn hm ht ho
  have HR := Lib.hid hr
  rw [← hr]
  clear hr
  have a0 := HB0.out.cell 0
  have a1 := HB0.out.cell 1
  simp only [List.getElem?_toArray, List.getElem?_cons_zero, List.getElem?_cons_succ] at a0 a1
  cases r with
  | none =>
    unfold LensP at HLN
    go_enter Tryd.func41, Tryd.ntmps41
    go_wp2_with fail
    refine (HLN.out _ HS1.out).mono ?_
    rintro e w2 ⟨rfl, s2⟩
    have HS2 := Lib.hid (HS1.out.trans s2)
    have HB12 := Lib.hid (HB1.out.same s2)
    clear s2 a0 a1 HB0 HB1
    obtain ⟨z0, z1, z2⟩ := layout_cells HB12.out
    have t0 := HB12.out.thaw 0
    have t1 := HB12.out.thaw 1
    have t2 := HB12.out.thaw 2
    go_wp2_with fail
    refine bodyPost_ret (v := .tuple #[.agg #[.slice none 0 0, .slice none 0 0, .int .i64 0], .int .i64 1]) (Fc.results_cell2 Tryd.results41 _ _ (w.heap.size + 1) 67 #[.slice none 0 0, .slice none 0 0, .int .i64 0] (0, 0) _ rfl (three_blk HB12.out _ _ _) Tryd.underlying67 rfl layout_size) rfl ?_
    exact of_none (three_same HS2.out (by omega) _ _ _)
  | some L =>
    obtain ⟨hL, hx⟩ := HLEN.out L rfl
    by_cases hsum : sumL L ≤ 4096
    · have HSU := Lib.hid hsum
      have HLL := Lib.hid hL
      have HX := Lib.hid hx
      unfold LensP at HLN
      go_enter Tryd.func41, Tryd.ntmps41
      go_wp2_with fail
      refine (HLN.out _ HS1.out).mono ?_
      rintro e w2 ⟨A2, c2, rfl, r2, s2⟩
      have HS2 := Lib.hid (HS1.out.trans s2)
      have HB02 := Lib.hid (HB0.out.same s2)
      have HB12 := Lib.hid (HB1.out.same s2)
      obtain ⟨N, hN⟩ : ∃ N, N = L.length := ⟨_, rfl⟩
      have CU := Lib.hid (cut_any A2 N c2 L w2 hN.symm (by omega) HX.out r2)
      rw [← hN]
      have HN := Lib.hid hN
      have hnN : n ≤ N := by omega
      have hN5 : N ≤ 10000 := by omega
      clear s2 r2 a0 a1 HB0 HB1 hsum hL hx HLN hN
      go_wp2_with fail
      refine CU.out.mono ?_
      intro e w3 hcut
      unfold CutP at hcut
      rw [if_pos HSU.out] at hcut
      rw [← HN.out] at hcut
      obtain ⟨g, rfl, r3, hg, s3⟩ := hcut
      have HS3 := Lib.hid (HS2.out.trans s3)
      have HB03 := Lib.hid (HB02.out.same s3)
      have HB13 := Lib.hid (HB12.out.same s3)
      have HR3 := Lib.hid r3
      clear s3 r3 CU HB02 HB12 HS2
      have a0 := HB03.out.cell 0
      simp only [List.getElem?_toArray, List.getElem?_cons_zero, List.getElem?_cons_succ] at a0
      have CL1 := Lib.hid (fun w' (s : Same w3 w') => clone_any ⟨g, 0, none⟩ n N ((cutL L).take n) w' (by rw [List.length_take]; unfold cutL; rw [cutG_len, ← HN.out]; omega) (by omega) (by
        have h := (HR3.out.same s).cut (n * 2)
        rw [rC_take] at h
        exact h))
      have hadd : ∃ ad : Addr, (if N = n then (some ⟨g, 0, none⟩ : Option Addr) else some ⟨g, n * 2, none⟩) = some ad ∧ (∀ w', Same w3 w' → Row w' (some ad) (rC ((cutL L).drop n))) := by
        by_cases h : N = n
        · refine ⟨⟨g, 0, none⟩, if_pos h, fun w' s => ?_⟩
          have : (cutL L).drop n = [] := List.drop_eq_nil_of_le (by unfold cutL; rw [cutG_len, ← HN.out]; omega)
          rw [this]
          exact Row.nil _ _
        · refine ⟨⟨g, n * 2, none⟩, if_neg h, fun w' s => ?_⟩
          have h2 := (HR3.out.same s).sub (n * 2)
          rw [Nat.zero_add, rC_drop] at h2
          exact h2
      obtain ⟨ad, had, hadr⟩ := hadd
      have HAD := Lib.hid had
      have CL2 := Lib.hid (fun w' (s : Same w3 w') => clone_any ad (N - n) (N - n) ((cutL L).drop n) w' (by rw [List.length_drop]; unfold cutL; rw [cutG_len, ← HN.out]) (by omega) (hadr w' s))
      clear had hadr
      have EN := Lib.hid (fun w' (s : Same w3 w') => end_any (some ⟨g, 0, none⟩) N N L w' HN.out.symm hN5 (fun x hx => (HX.out x hx).1) HSU.out (HR3.out.same s))
      unfold CloneP at CL1 CL2
      have hnI : (n : Int) ≤ N := by omega
      have hn0 : (0 : Int) ≤ n := by omega
      go_wp2_with fail
      refine wp_region_held_drew (S := fun _ => True) (by kernel_rfl) ?_ (fun _ => ?_)
      · trivial
      refine Ro.take_on (i := 0) (v := ?_) rfl (by kernel_rfl) (by kernel_rfl) (by kernel_rfl) (fun _ _ _ h => h) (by rfl) trivial ?_ ?_
      rotate_left
      · intro wS hSw; (try dsimp only at hSw); go_simp; try with_reducible rfl
      try simp only [Act.put, List.setIfInBounds_toArray, List.set_cons_zero, List.set_cons_succ]
      refine Ro.take_on (i := 1) (v := ?_) rfl (by kernel_rfl) (by kernel_rfl) (by kernel_rfl) (fun _ _ _ h => h) (by rfl) trivial ?_ ?_
      rotate_left
      · intro wS hSw; (try dsimp only at hSw); go_simp; try with_reducible rfl
      try simp only [Act.put, List.setIfInBounds_toArray, List.set_cons_zero, List.set_cons_succ]
      refine Ro.take_on (i := 2) (v := ?_) rfl (by kernel_rfl) (by kernel_rfl) (by kernel_rfl) (fun _ _ _ h => h) (by rfl) trivial ?_ ?_
      rotate_left
      · intro wS hSw; (try dsimp only at hSw); go_simp; try with_reducible rfl
      try simp only [Act.put, List.setIfInBounds_toArray, List.set_cons_zero, List.set_cons_succ]
      refine Ro.take_on (i := 4) (v := ?_) rfl (by kernel_rfl) (by kernel_rfl) (by kernel_rfl) (fun _ _ _ h => h) (by rfl) trivial ?_ ?_
      rotate_left
      · intro wS hSw; (try dsimp only at hSw); go_simp; try with_reducible rfl
      try simp only [Act.put, List.setIfInBounds_toArray, List.set_cons_zero, List.set_cons_succ]
      refine Ro.take_on (i := 5) (v := ?_) rfl (by kernel_rfl) (by kernel_rfl) (by kernel_rfl) (fun _ _ _ h => h) (by rfl) trivial ?_ ?_
      rotate_left
      · intro wS hSw; (try dsimp only at hSw); go_simp; try with_reducible rfl
      try simp only [Act.put, List.setIfInBounds_toArray, List.set_cons_zero, List.set_cons_succ]
      refine Ro.take_on (i := 6) (v := ?_) rfl (by kernel_rfl) (by kernel_rfl) (by kernel_rfl) (fun _ _ _ h => h) (by rfl) trivial ?_ ?_
      rotate_left
      · intro wS hSw; (try dsimp only at hSw); go_simp; try with_reducible rfl
      try simp only [Act.put, List.setIfInBounds_toArray, List.set_cons_zero, List.set_cons_succ]
      refine Ro.take_on (i := 8) (v := ?_) rfl (by kernel_rfl) (by kernel_rfl) (by kernel_rfl) (fun _ _ _ h => h) (by rfl) trivial ?_ ?_
      rotate_left
      · intro wS hSw; (try dsimp only at hSw); go_simp; try with_reducible rfl
      try simp only [Act.put, List.setIfInBounds_toArray, List.set_cons_zero, List.set_cons_succ]
      refine Ro.one_on (i := 3) rfl (by kernel_rfl) (by rfl) (fun K hK => ?_)
      go_simp
      go_at_call 52
      refine (CL1.out _ ?_).mono ?_
      · exact (Same.refl w3).drew
      rintro e w4 ⟨A4, c4, rfl, hg4, hr4, hs4⟩
      have HS4 := Lib.hid (Same.trans (Same.refl w3).drew hs4)
      have HR4 := Lib.hid hr4
      have HG4 := Lib.hid hg4
      clear hr4 hs4 hg4
      (first | refine hK.out _ _ trivial (fun _ => ?_) | (go_wp2_with fail; refine hK.out _ _ trivial (fun _ => ?_)))
      clear hK K
      try simp only [Act.put, List.setIfInBounds_toArray, List.set_cons_zero, List.set_cons_succ]
      refine Ro.one_on (i := 7) rfl (by kernel_rfl) (by rfl) (fun K hK => ?_)
      go_simp
      go_at_call 52
      rw [HAD.out]
      refine (CL2.out _ HS4.out).mono ?_
      rintro e w5 ⟨A5, c5, rfl, hg5, hr5, hs5⟩
      have HS5 := Lib.hid (HS4.out.trans hs5)
      have HR45 := Lib.hid (HR4.out.same hs5)
      have HR5 := Lib.hid hr5
      have HG5 := Lib.hid hg5
      clear hr5 hs5 hg5
      (first | refine hK.out _ _ trivial (fun _ => ?_) | (go_wp2_with fail; refine hK.out _ _ trivial (fun _ => ?_)))
      clear hK K
      try simp only [Act.put, List.setIfInBounds_toArray, List.set_cons_zero, List.set_cons_succ]
      refine Ro.one_on (i := 9) rfl (by kernel_rfl) (by rfl) (fun K hK => ?_)
      go_simp
      go_at_call 53
      refine (EN.out _ HS5.out).mono ?_
      rintro e w6 ⟨rfl, hs6⟩
      have HS6 := Lib.hid (HS5.out.trans hs6)
      have HR46 := Lib.hid (HR45.out.same hs6)
      have HR56 := Lib.hid (HR5.out.same hs6)
      clear hs6
      (first | refine hK.out _ _ trivial (fun _ => ?_) | (go_wp2_with fail; refine hK.out _ _ trivial (fun _ => ?_)))
      clear hK K
      try simp only [Act.put, List.setIfInBounds_toArray, List.set_cons_zero, List.set_cons_succ]
      have HB6 := Lib.hid (HB13.out.same HS6.out)
      obtain ⟨z0, z1, z2⟩ := layout_cells HB6.out
      have t0 := HB6.out.thaw 0
      have t1 := HB6.out.thaw 1
      have t2 := HB6.out.thaw 2
      refine Ro.take_on (i := 10) (v := ?_) rfl (by kernel_rfl) (by kernel_rfl) (by kernel_rfl) (fun _ _ _ h => h) (by rfl) trivial ?_ ?_
      rotate_left
      · intro wS hSw; (try dsimp only at hSw); go_simp; try with_reducible rfl
      try simp only [Act.put, List.setIfInBounds_toArray, List.set_cons_zero, List.set_cons_succ]
      refine Ro.one_on (i := 11) rfl (by kernel_rfl) (by rfl) (fun K hK => ?_)
      go_simp
      refine hK.out _ _ trivial (fun _ => ?_)
      clear hK K
      try simp only [Act.put, List.setIfInBounds_toArray, List.set_cons_zero, List.set_cons_succ]
      refine Ro.take_on (i := 12) (v := ?_) rfl (by kernel_rfl) (by kernel_rfl) (by kernel_rfl) (fun _ _ _ h => h) (by rfl) trivial ?_ ?_
      rotate_left
      · intro wS hSw; (try dsimp only at hSw); go_simp; try with_reducible rfl
      try simp only [Act.put, List.setIfInBounds_toArray, List.set_cons_zero, List.set_cons_succ]
      refine wpAnyH_done (by kernel_rfl) ?_ _
      go_wp2_with fail
      have hsz : w.heap.size + 1 < w3.heap.size := HB13.out.lt
      have hs34 : w3.heap.size ≤ w4.heap.size := HS4.out.size
      have hl1 : (cutL L).length = N := by unfold cutL; rw [cutG_len, HN.out]
      have hL : L.length = n + m := HLL.out
      have hN := HN.out
      have hb := three_blk HB6.out (.slice A4 (min n (cutL L).length) c4) (.slice A5 ((cutL L).length - n) c5) (.int .i64 (sumL L))
      have hch := three_chg w6 (w.heap.size + 1) (.slice A4 (min n (cutL L).length) c4) (.slice A5 ((cutL L).length - n) c5) (.int .i64 (sumL L))
      have hsame := three_same (g := w.heap.size + 1) (HS3.out.trans HS6.out) (by omega) (.slice A4 (min n (cutL L).length) c4) (.slice A5 ((cutL L).length - n) c5) (.int .i64 (sumL L))
      have hr4 := HR46.out.chg hch (fun b o hA _ hb1 => by have h1 : w3.heap.size ≤ b := HG4.out b o hA; have h2 : b = w.heap.size + 1 := hb1; omega)
      have hr5 := HR56.out.chg hch (fun b o hA _ hb1 => by have h1 : w4.heap.size ≤ b := HG5.out b o hA; have h2 : b = w.heap.size + 1 := hb1; omega)
      refine bodyPost_ret (v := .tuple #[.agg #[.slice A4 (min n (cutL L).length) c4, .slice A5 ((cutL L).length - n) c5, .int .i64 (sumL L)], .int .i64 0]) (Fc.results_cell2 Tryd.results41 _ _ (w.heap.size + 1) 67 #[.slice A4 (min n (cutL L).length) c4, .slice A5 ((cutL L).length - n) c5, .int .i64 (sumL L)] (0, 0) _ rfl hb Tryd.underlying67 rfl layout_size) rfl ?_
      exact of_yes HSU.out (by omega) (by omega) (regs_of hr4) (regs_of hr5) hsame
    · have HSU := Lib.hid hsum
      have HLL := Lib.hid hL
      have HX := Lib.hid hx
      unfold LensP at HLN
      go_enter Tryd.func41, Tryd.ntmps41
      go_wp2_with fail
      refine (HLN.out _ HS1.out).mono ?_
      rintro e w2 ⟨A2, c2, rfl, r2, s2⟩
      have HS2 := Lib.hid (HS1.out.trans s2)
      have HB12 := Lib.hid (HB1.out.same s2)
      obtain ⟨N, hN⟩ : ∃ N, N = L.length := ⟨_, rfl⟩
      have CU := Lib.hid (cut_any A2 N c2 L w2 hN.symm (by omega) HX.out r2)
      rw [← hN]
      have HN := Lib.hid hN
      clear s2 r2 a0 a1 HB0 HB1 hsum hL hx HLN hN
      go_wp2_with fail
      refine CU.out.mono ?_
      intro e w3 hcut
      unfold CutP at hcut
      have HSU2 : ¬ sumL L ≤ 4096 := by have h := HSU.out; omega
      rw [if_neg HSU2] at hcut
      obtain ⟨rfl, s3⟩ := hcut
      have HS3 := Lib.hid (HS2.out.trans s3)
      have HB13 := Lib.hid (HB12.out.same s3)
      clear s3 CU HB12 HS2
      have HSU2 := Lib.hid HSU2
      obtain ⟨z0, z1, z2⟩ := layout_cells HB13.out
      have t0 := HB13.out.thaw 0
      have t1 := HB13.out.thaw 1
      have t2 := HB13.out.thaw 2
      go_wp2_with fail
      refine bodyPost_ret (v := .tuple #[.agg #[.slice none 0 0, .slice none 0 0, .int .i64 0], .int .i64 6]) (Fc.results_cell2 Tryd.results41 _ _ (w.heap.size + 1) 67 #[.slice none 0 0, .slice none 0 0, .int .i64 0] (0, 0) _ rfl (three_blk HB13.out _ _ _) Tryd.underlying67 rfl layout_size) rfl ?_
      exact of_room (by have h := HSU2.out; omega) (three_same HS3.out (by omega) _ _ _)

end Go.Proofs.YtaclphhbdfoaeaaDoor.Ly
