/-

  LayoutOwners: each word of a system has just one owner.
-/
import Derived.Test.YtikjkmomokhanabLayAwake
import Derived.Test.YtikjkmomokhanabLayBd
import Derived.Test.YtikjkmomokhanabLayFew
import Derived.Test.YtikjkmomokhanabLayPure
import Derived.Test.YtikjkmomokhanabLayPart
set_option linter.unusedVariables false
set_option linter.unusedSimpArgs false
namespace Go.Proofs.Ytikjkmomokhanab.Ly
open Go.ChangeShapes Go.WideShapes Go.ChangeAt Go.RowKit Ws

theorem of_cases {w w' : World} {n m : Nat} {r : Option (List Int)} {e : Ending} (h : OfP w n m r e w') :
    (∃ k : Int, 1 ≤ k ∧ k ≤ 6 ∧ e = .returned (.tuple #[.agg #[.slice none 0 0, .slice none 0 0, .int .i64 0], .int .i64 k]) ∧ Same w w') ∨
    (∃ L, r = some L ∧ sumL L ≤ 4096 ∧ ∃ A c B d, e = .returned (.tuple #[.agg #[.slice A n c, .slice B m d, .int .i64 (sumL L)], .int .i64 0]) ∧ Regs w' A ((cutL L).take n) ∧ Regs w' B ((cutL L).drop n) ∧ Same w w') := by
  cases r with
  | none => exact .inl ⟨1, by omega, by omega, h.1, h.2⟩
  | some L =>
    unfold OfP at h
    dsimp only at h
    by_cases hs : sumL L ≤ 4096
    · rw [if_pos hs] at h
      exact .inr ⟨L, rfl, hs, h⟩
    · rw [if_neg hs] at h
      exact .inl ⟨6, by omega, by omega, h.1, h.2⟩
theorem met_next {x : Int} {l : List (Int × Int)} {i : Nat} {r : Int × Int} (h : l[i]? = some r) : metK x l (i + 1) = metS x (metK x l i) i r := by
  show metS x _ i _ = _
  rw [reg_at h]
theorem met_hit {x : Int} {u : Int × Int} {i : Nat} {r : Int × Int} (h1 : r.1 ≤ x) (h2 : x < r.1 + r.2) : metS x u i r = (u.1 + 1, (i : Int)) := by
  unfold metS
  rw [if_pos ⟨h1, h2⟩]
theorem met_miss {x : Int} {u : Int × Int} {i : Nat} {r : Int × Int} (h : r.1 ≤ x → x < r.1 + r.2 → False) : metS x u i r = u := by
  unfold metS
  rw [if_neg (fun hh => h hh.1 hh.2)]
theorem two_cells {w : World} {g : Nat} {T : TypeId} {v0 v1 : Value} (h : Blk w g T #[v0, v1]) : w.cell? ⟨g, 0, none⟩ = some v0 ∧ w.cell? ⟨g, 1, none⟩ = some v1 := ⟨h.cell 0, h.cell 1⟩
set_option maxRecDepth 100000 in
set_option maxHeartbeats 4000000 in
theorem owners_walk (A B : Option Addr) (n c m d : Nat) (ts : List Tk.Task) (os : List Objt) (x : Int) (w : World) (hn : ts.length = n) (hm : os.length = m) (hmb : m ≤ 9223372036854775807) (hx : bd x) (ht : Tk.Tasks w A ts) (ho : Objs w B os) :
    Calls Try.prog 4 #[.agg #[.slice A n c, .slice B m d], .int .i64 x] w fun e w' => e = .returned (.bool true) ∧ Same w w' := by
  obtain ⟨i0, hi, hz0, hz1, hz2⟩ := info_parts region_info
  have hb0 := Blk.new w 25 #[.slice A n c, .slice B m d]
  have HB0 := Lib.hid hb0
  have hs0 := (Same.refl w).alloc (.cells #[.slice A n c, .slice B m d] 25)
  have HS0 := Lib.hid hs0
  have AW := Lib.hid (fun w' => awake31 w')
  have FW := Lib.hid (few31 A B n c m d ts os _ hn hm hmb (ht.same hs0) (ho.same hs0))
  obtain ⟨d0, d1⟩ := two_cells hb0
  have OFC := Lib.hid (fun w' (s : Same w w') (h1 : n ≤ 60) (h2 : m ≤ 60) => of_any A B n c m d ts os w' hn hm (by omega) (by omega) (ht.same s) (ho.same s) (fun L hL => by have := lens_bd hL; rw [hn, hm] at this; exact this))
  have LB := Lib.hid (fun L (hL : lensF ts os = some L) => show L.length = n + m ∧ ∀ x ∈ L, 0 ≤ x ∧ x ≤ 1000000 by have := lens_bd hL; rw [hn, hm] at this; exact this)
  have HX := Lib.hid hx
  unfold bd at hx
  have hx1 := hx.1
  have hx2 := hx.2
  clear hb0 hs0 hn hm ht ho hx hmb
  go_enter Try.func4, Try.ntmps4
  go_wp2_with fail
  refine FW.out.mono ?_
  rintro e w1 ⟨⟨b, rfl, hb⟩, s1⟩
  have HS1 := Lib.hid (HS0.out.trans s1)
  have HB1 := Lib.hid (HB0.out.same s1)
  have HBB := Lib.hid hb
  clear hb s1 d0 d1 FW HS0 HB0
  cases b with
  | false =>
    go_wp2_with fail
    refine (AW.out _).mono ?_
    rintro e wq ⟨rfl, sq⟩
    have HSQ := Lib.hid (HS1.out.trans sq)
    clear sq
    go_wp2_with fail
    go_ret
    exact ⟨rfl, HSQ.out⟩
  | true =>
    obtain ⟨hn60, hm60⟩ := HBB.out rfl
    obtain ⟨d0, d1⟩ := two_cells HB1.out
    have OF := Lib.hid (OFC.out w1 HS1.out hn60 hm60)
    clear OFC
    go_wp2_with fail
    refine OF.out.mono ?_
    intro e w2 hof
    clear OF d0 d1 HB1
    rcases of_cases hof with ⟨k, hk1, hk6, rfl, s2⟩ | ⟨L, hL, hs4, A2, c2, B2, d2, rfl, r1, r2, s2⟩
    · have HS2 := Lib.hid ((HS1.out.trans s2).alloc (.cells #[.slice none 0 0, .slice none 0 0, .int .i64 0] 30))
      have hb2 := Blk.new w2 30 #[.slice none 0 0, .slice none 0 0, .int .i64 0]
      obtain ⟨z0, z1, z2⟩ := layout_cells hb2
      have k0 : ¬ k = 0 := by omega
      have SM := Lib.hid (fun w' => same0_any w')
      clear hof s2 hb2
      go_wp2_with fail
      refine (SM.out _).mono ?_
      rintro e w3 ⟨rfl, s3⟩
      have HS3 := Lib.hid (HS2.out.trans s3)
      clear s3 z0 z1 z2
      go_wp2_with fail
      refine (AW.out _).mono ?_
      rintro e wq ⟨rfl, sq⟩
      have HSQ := Lib.hid (HS3.out.trans sq)
      clear sq
      go_wp2_with fail
      go_ret
      exact ⟨rfl, HSQ.out⟩
    · have HS3 := Lib.hid ((HS1.out.trans s2).alloc (.cells #[.slice A2 n c2, .slice B2 m d2, .int .i64 (sumL L)] 30))
      have hs23 := (Same.refl w2).alloc (.cells #[.slice A2 n c2, .slice B2 m d2, .int .i64 (sumL L)] 30)
      have hb3 := Blk.new w2 30 #[.slice A2 n c2, .slice B2 m d2, .int .i64 (sumL L)]
      have HB3 := Lib.hid hb3
      have RA := Lib.hid ((row_of_regs r1).same hs23)
      have RB := Lib.hid ((row_of_regs r2).same hs23)
      have RGA := Lib.hid (r1.same hs23)
      have RGB := Lib.hid (r2.same hs23)
      have hll := (LB.out L hL).1
      have HNN := Lib.hid (fun x hx => ((LB.out L hL).2 x hx).1)
      have HS4 := Lib.hid hs4
      have hz3 : (w2.alloc (.cells #[.slice A2 n c2, .slice B2 m d2, .int .i64 (sumL L)] 30)).heap.size = w2.heap.size + 1 := World.size_alloc _ _
      clear hof s2 hb3 hs23 r1 r2 hL LB hs4
      obtain ⟨N, hN⟩ : ∃ N, N = L.length := ⟨_, rfl⟩
      have HN := Lib.hid hN
      have hNs : n + m = N := by omega
      have hN120 : N ≤ 120 := by omega
      clear hll hN
      obtain ⟨z0, z1, z2⟩ := layout_cells HB3.out
      go_wp2_with fail
      generalize hw3 : w2.alloc (.cells #[.slice A2 n c2, .slice B2 m d2, .int .i64 (sumL L)] 30) = w3 at *
      have HW3 := Lib.hid hw3
      clear hw3
      refine wp_region_held_drew (S := fun w' => w'.cell? ⟨w2.heap.size, 0, none⟩ = some (.slice A2 n c2) ∧ w'.cell? ⟨w2.heap.size, 1, none⟩ = some (.slice B2 m d2)) (by kernel_rfl) ?_ (fun hH => ?_)
      · exact ⟨HB3.out.cell 0, HB3.out.cell 1⟩
      clear hH z0 z1 z2
      have SW := Lib.hid (fun w' (s : Same w3 w') => (show w'.cell? ⟨w2.heap.size, 0, none⟩ = some (.slice A2 n c2) ∧ w'.cell? ⟨w2.heap.size, 1, none⟩ = some (.slice B2 m d2) from ⟨s.cell (HB3.out.cell 0), s.cell (HB3.out.cell 1)⟩))
      refine Ro.take_on (i := 1) (v := ?_) rfl (by kernel_rfl) (by kernel_rfl) (by kernel_rfl) (fun _ _ _ h => h) (by rfl) (SW.out _ (Same.refl w3).drew) ?_ ?_
      rotate_left
      · intro wS hSw; (try dsimp only at hSw); go_simp; try with_reducible rfl
      try simp only [Act.put, List.setIfInBounds_toArray, List.set_cons_zero, List.set_cons_succ]
      refine Ro.take_on (i := 2) (v := ?_) rfl (by kernel_rfl) (by kernel_rfl) (by kernel_rfl) (fun _ _ _ h => h) (by rfl) (SW.out _ (Same.refl w3).drew) ?_ ?_
      rotate_left
      · intro wS hSw; (try dsimp only at hSw); go_simp; try with_reducible rfl
      try simp only [Act.put, List.setIfInBounds_toArray, List.set_cons_zero, List.set_cons_succ]
      refine Ro.take_on (i := 4) (v := ?_) rfl (by kernel_rfl) (by kernel_rfl) (by kernel_rfl) (fun _ _ _ h => h) (by rfl) (SW.out _ (Same.refl w3).drew) ?_ ?_
      rotate_left
      · intro wS hSw; (try dsimp only at hSw); go_simp; try with_reducible rfl
      try simp only [Act.put, List.setIfInBounds_toArray, List.set_cons_zero, List.set_cons_succ]
      refine Ro.take_on (i := 5) (v := ?_) rfl (by kernel_rfl) (by kernel_rfl) (by kernel_rfl) (fun _ _ _ h => h) (by rfl) (SW.out _ (Same.refl w3).drew) ?_ ?_
      rotate_left
      · intro wS hSw; (try dsimp only at hSw); go_simp; try with_reducible rfl
      try simp only [Act.put, List.setIfInBounds_toArray, List.set_cons_zero, List.set_cons_succ]
      refine Ro.one_on (i := 0) rfl (by kernel_rfl) (by rfl) (fun K hK => ?_)
      go_simp
      refine hK.out _ _ (SW.out _ (((Same.refl w3).alloc _).drew)) (fun hH => ?_)
      clear hH hK K
      try simp only [Act.put, List.setIfInBounds_toArray, List.set_cons_zero, List.set_cons_succ]
      refine Ro.one_on (i := 3) rfl (by kernel_rfl) (by rfl) (fun K hK => ?_)
      have own0 := World.ownsRow_made (e := 44) w3 #[] 0 (base := w2.heap.size + 1) (size := 2) (by omega) (Nat.zero_le _) rfl
      rw [hz3] at own0
      have OWN0 := Lib.hid own0
      clear own0
      refine oper_app (.tmp 33) (.tmp 35) 28 rfl (w2.heap.size + 1) 44 i0 _ 2 16 Try.underlying28 hi hz0 hz1 hz2 rfl (by omega) (some ⟨w2.heap.size + 1, 0, none⟩) 0 0 [] rfl OWN0.out A2 n c2 (rC ((cutL L).take n)) rfl ?_ (RA.out.same (((Same.refl w3).alloc _).drew)) (rC_one _) (by omega) (by omega) ?_ n (by omega) ?_
      · rw [rC_len, List.length_take, cut_len, ← HN.out, Nat.min_eq_left (by omega)]
      · exact (show w2.heap.size + 1 ≤ (w3.alloc _).heap.size by rw [← hz3]; exact ((Same.refl w3).alloc _).size)
      intro A4 c4 w4 ho hc
      rw [List.nil_append] at ho
      have hs34 : Same w3 w4 := Same.more (((Same.refl w3).alloc _).drew) hc (fun g hg => by have h1 : (some ⟨w2.heap.size + 1, 0, none⟩ : Option Addr) = some ⟨g, 0, none⟩ := hg; injection h1 with h1; injection h1 with h1; omega)
      have HS34 := Lib.hid hs34
      have HSZ4 := Lib.hid hs34.size
      have HO4 := Lib.hid ho
      clear ho hc hs34
      refine hK.out _ _ (SW.out _ HS34.out) (fun hH => ?_)
      clear hH hK K
      try simp only [Act.put, List.setIfInBounds_toArray, List.set_cons_zero, List.set_cons_succ]
      refine Ro.one_on (i := 6) rfl (by kernel_rfl) (by rfl) (fun K hK => ?_)
      refine oper_app (.tmp 36) (.tmp 38) 28 rfl (w2.heap.size + 1) 44 i0 _ 2 16 Try.underlying28 hi hz0 hz1 hz2 rfl (by omega) A4 n c4 _ rfl HO4.out B2 m d2 (rC ((cutL L).drop n)) rfl ?_ (RB.out.same HS34.out) (rC_one _) (by omega) (by omega) ?_ N (by omega) ?_
      · rw [rC_len, List.length_drop, cut_len, ← HN.out, show N - n = m by omega]
      · exact (by rw [← hz3]; exact HSZ4.out)
      intro A5 c5 w5 ho hc
      rw [← rC_app, List.take_append_drop] at ho
      have hs35 : Same w3 w5 := Same.more HS34.out hc (fun g hg => by rw [hz3]; exact ownK_fence HO4.out hg)
      have HS35 := Lib.hid hs35
      have HO5 := Lib.hid ho
      clear ho hc hs35 HO4 HSZ4
      refine hK.out _ _ (SW.out _ HS35.out) (fun hH => ?_)
      clear hH hK K
      try simp only [Act.put, List.setIfInBounds_toArray, List.set_cons_zero, List.set_cons_succ]
      refine Ro.take_on (i := 7) (v := ?_) rfl (by kernel_rfl) (by kernel_rfl) (by kernel_rfl) (fun _ _ _ h => h) (by rfl) (SW.out _ HS35.out) ?_ ?_
      rotate_left
      · intro wS hSw; (try dsimp only at hSw); go_simp; try with_reducible rfl
      try simp only [Act.put, List.setIfInBounds_toArray, List.set_cons_zero, List.set_cons_succ]
      refine wpAnyH_done (by kernel_rfl) ?_ _
      have RG := Lib.hid (regs_of HO5.out.row)
      have hcap : N ≤ c5 := ownK_cap HO5.out
      have HSW5 := Lib.hid (HS3.out.trans HS35.out)
      have HB5 := Lib.hid (HB3.out.same HS35.out)
      have RGA5 := Lib.hid (RGA.out.same HS35.out)
      have RGB5 := Lib.hid (RGB.out.same HS35.out)
      clear HO5 HS34 RA RB SW RGA RGB HS3 HB3 HS35 HW3 hz3
      go_wp2_with fail
      go_loopg [42, 8, 9] N (fun gk iv mv hv wx => ∃ i : Nat, i + gk = N ∧ iv = .int .i64 i ∧ mv = .int .i64 (metK x (cutL L) i).1 ∧ hv = .int .i64 (metK x (cutL L) i).2 ∧ Same w5 wx)
      case atStart => exact ⟨0, by omega, rfl, rfl, rfl, Same.refl _⟩
      case round =>
        obtain ⟨i, hik, rfl, rfl, rfl, sx⟩ := hrel
        have HSX := Lib.hid sx
        clear sx
        cases gk with
        | zero =>
          obtain rfl : N = i := by omega
          have hge : ¬ (N : Int) < (N : Int) := by omega
          have ME := met_end HNN.out x n (by rw [← HN.out]; omega)
          rw [← HN.out] at ME
          have OW := Lib.hid (fun w' (s : Same w5 w') => owner_any A2 B2 n c2 m d2 (sumL L) ((cutL L).take n) ((cutL L).drop n) x w' (by rw [List.length_take, cut_len, ← HN.out]; omega) (by omega) (by rw [List.length_drop, cut_len, ← HN.out]; omega) (by omega) HX.out (RGA5.out.same s) (RGB5.out.same s))
          obtain ⟨z0, z1, z2⟩ := layout_cells (HB5.out.same HSX.out)
          have hS0 : sumL L ≤ 4096 := HS4.out
          rcases ME with ⟨hu, hno, ho⟩ | ⟨k, hk, hu, hx0, hxS, ho⟩
          · rw [hu]
            rw [ho] at OW
            dsimp only at OW ⊢
            clear hu ho
            generalize sumL L = S at *
            by_cases hx0 : 0 ≤ x
            · have hxs : ¬ x < S := fun h => hno ⟨hx0, h⟩
              clear hno
              go_wp2_with fail
              refine (OW.out _ HSX.out).mono ?_
              rintro e w7 ⟨rfl, s7⟩
              have HS7 := Lib.hid (HSW5.out.trans (HSX.out.trans s7))
              obtain ⟨z0, z1, z2⟩ := layout_cells (HB5.out.same (HSX.out.trans s7))
              clear s7 OW
              go_wp2_with fail
              refine (AW.out _).mono ?_
              rintro e wq ⟨rfl, sq⟩
              have HSQ := Lib.hid (HS7.out.trans sq)
              clear sq
              go_wp2_with fail
              go_ret
              exact ⟨rfl, HSQ.out⟩
            · clear hno
              go_wp2_with fail
              refine (OW.out _ HSX.out).mono ?_
              rintro e w7 ⟨rfl, s7⟩
              have HS7 := Lib.hid (HSW5.out.trans (HSX.out.trans s7))
              obtain ⟨z0, z1, z2⟩ := layout_cells (HB5.out.same (HSX.out.trans s7))
              clear s7 OW
              go_wp2_with fail
              refine (AW.out _).mono ?_
              rintro e wq ⟨rfl, sq⟩
              have HSQ := Lib.hid (HS7.out.trans sq)
              clear sq
              go_wp2_with fail
              go_ret
              exact ⟨rfl, HSQ.out⟩
          · rw [hu]
            dsimp only
            clear hu
            skip
            rcases ho with ⟨hkn, ho⟩ | ⟨hkn, ho⟩
            · rw [ho] at OW
              dsimp only at OW
              clear ho
              generalize sumL L = S at *
              have hkn' : (k : Int) < n := by omega
              have hk0 : (0 : Int) ≤ k := by omega
              have hk9 : (k : Int) ≤ 120 := by omega
              have hn0 : (0 : Int) ≤ n := by omega
              have hn9 : (n : Int) ≤ 60 := by omega
              go_wp2_with fail
              refine (OW.out _ HSX.out).mono ?_
              rintro e w7 ⟨rfl, s7⟩
              have HS7 := Lib.hid (HSW5.out.trans (HSX.out.trans s7))
              obtain ⟨z0, z1, z2⟩ := layout_cells (HB5.out.same (HSX.out.trans s7))
              clear s7 OW
              go_wp2_with fail
              refine (AW.out _).mono ?_
              rintro e wq ⟨rfl, sq⟩
              have HSQ := Lib.hid (HS7.out.trans sq)
              clear sq
              go_wp2_with fail
              go_ret
              exact ⟨rfl, HSQ.out⟩
            · rw [ho] at OW
              dsimp only at OW
              clear ho
              generalize sumL L = S at *
              have hkn' : ¬ (k : Int) < n := by omega
              have hk0 : (0 : Int) ≤ k := by omega
              have hk9 : (k : Int) ≤ 120 := by omega
              have hn0 : (0 : Int) ≤ n := by omega
              have hn9 : (n : Int) ≤ 60 := by omega
              go_wp2_with fail
              refine (OW.out _ HSX.out).mono ?_
              rintro e w7 ⟨rfl, s7⟩
              have HS7 := Lib.hid (HSW5.out.trans (HSX.out.trans s7))
              obtain ⟨z0, z1, z2⟩ := layout_cells (HB5.out.same (HSX.out.trans s7))
              clear s7 OW
              go_wp2_with fail
              refine (AW.out _).mono ?_
              rintro e wq ⟨rfl, sq⟩
              have HSQ := Lib.hid (HS7.out.trans sq)
              clear sq
              go_wp2_with fail
              go_ret
              exact ⟨rfl, HSQ.out⟩
        | succ GK =>
          have hlt : (i : Int) < N := by omega
          have i0' : (0 : Int) ≤ i := by omega
          have hic : (i : Int) ≤ c5 := by omega
          obtain ⟨r, hkr⟩ : ∃ r, (cutL L)[i]? = some r := ⟨_, List.getElem?_eq_getElem (by rw [cut_len, ← HN.out]; omega)⟩
          obtain ⟨b, o, hA, c1, c2'⟩ := RG.out i r hkr
          subst hA
          have q1 := cut_one HNN.out HS4.out hkr
          have HMN := Lib.hid (met_next (x := x) hkr)
          have HKR := Lib.hid hkr
          have mb := met_bd HNN.out x (i := i) (by rw [← HN.out]; omega)
          replace c1 := HSX.out.cell c1
          replace c2' := HSX.out.cell c2'
          obtain ⟨r1, r2⟩ := r
          simp only at c1 c2' q1
          obtain ⟨q1, q2, q3⟩ := q1
          clear hkr
          generalize metK x (cutL L) i = u at *
          obtain ⟨u0, u1⟩ := u
          dsimp only at mb
          obtain ⟨mb0, mb1⟩ := mb
          have hbr := Blk.new wr 44 #[.int .i64 r1, .int .i64 r2]
          have HBR := Lib.hid hbr
          have HSR := Lib.hid (HSX.out.alloc (.cells #[.int .i64 r1, .int .i64 r2] 44))
          obtain ⟨y0, y1⟩ := two_cells hbr
          clear hbr
          skip
          have f1 : r1 + r2 ≤ 9223372036854775807 := by omega
          have f0 : -9223372036854775808 ≤ r1 + r2 := by omega
          by_cases e3 : r1 ≤ x
          · by_cases e4 : x < r1 + r2
            · skip
              have HM2 := Lib.hid (HMN.out.trans (met_hit (u := (u0, u1)) (i := i) (r := (r1, r2)) e3 e4))
              clear HMN
              go_wp2_with fail
              clear c1 c2' y0 y1
              go_loopg [67] i (fun gj jv wy => ∃ j : Nat, j + gj = i ∧ jv = .int .i64 j ∧ Same (wr.alloc (.cells #[.int .i64 r1, .int .i64 r2] 44)) wy)
              case atStart => exact ⟨0, by omega, rfl, Same.refl _⟩
              case round =>
                obtain ⟨j, hj, rfl, sy⟩ := hrel
                have HSY := Lib.hid sy
                clear sy
                cases gk with
                | zero =>
                  obtain rfl : i = j := by omega
                  have hge : ¬ (i : Int) < (i : Int) := by omega
                  go_wp2_with fail
                  go_roundg GK
                  case rel =>
                    refine ⟨i + 1, by omega, by go_num, ?_, ?_, HSR.out.trans HSY.out⟩
                    · rw [HM2.out]
                    · rw [HM2.out]
                  case measure => omega
                | succ GJ =>
                  have hltj : (j : Int) < i := by omega
                  have j0 : (0 : Int) ≤ j := by omega
                  obtain ⟨q, hkq⟩ : ∃ q, (cutL L)[j]? = some q := ⟨_, List.getElem?_eq_getElem (by rw [cut_len, ← HN.out]; omega)⟩
                  obtain ⟨b', o', hA, e1, e2⟩ := RG.out j q hkq
                  injection hA with hA
                  injection hA with hA1 hA2
                  subst hA1
                  subst hA2
                  have hap := cut_two HNN.out HS4.out (show j < i by omega) hkq HKR.out
                  replace e1 := (HSR.out.trans HSY.out).cell e1
                  replace e2 := (HSR.out.trans HSY.out).cell e2
                  obtain ⟨q1', q2'⟩ := q
                  simp only at e1 e2 hap
                  have AP := Lib.hid (fun w' => apart_any q1' q2' r1 r2 hap w')
                  clear hap hkq
                  have hbq := Blk.new wr 44 #[.int .i64 q1', .int .i64 q2']
                  obtain ⟨x0, x1⟩ := two_cells hbq
                  obtain ⟨y0, y1⟩ := two_cells (HBR.out.same (HSY.out.alloc (.cells #[.int .i64 q1', .int .i64 q2'] 44)))
                  clear hbq
                  have HSZ := Lib.hid (HSY.out.alloc (.cells #[.int .i64 q1', .int .i64 q2'] 44))
                  go_wp2_with fail
                  refine (AP.out _).mono ?_
                  rintro e w8 ⟨rfl, s8⟩
                  have HS8 := Lib.hid (HSZ.out.trans s8)
                  clear s8
                  go_wp2_with fail
                  go_roundg GJ
                  case rel => exact ⟨j + 1, by omega, by go_num, HS8.out⟩
                  case measure => omega
            · skip
              have HM2 := Lib.hid (HMN.out.trans (met_miss (u := (u0, u1)) (i := i) (r := (r1, r2)) (fun _ h => e4 h)))
              clear HMN
              go_wp2_with fail
              clear c1 c2' y0 y1
              go_loopg [67] i (fun gj jv wy => ∃ j : Nat, j + gj = i ∧ jv = .int .i64 j ∧ Same (wr.alloc (.cells #[.int .i64 r1, .int .i64 r2] 44)) wy)
              case atStart => exact ⟨0, by omega, rfl, Same.refl _⟩
              case round =>
                obtain ⟨j, hj, rfl, sy⟩ := hrel
                have HSY := Lib.hid sy
                clear sy
                cases gk with
                | zero =>
                  obtain rfl : i = j := by omega
                  have hge : ¬ (i : Int) < (i : Int) := by omega
                  go_wp2_with fail
                  go_roundg GK
                  case rel =>
                    refine ⟨i + 1, by omega, by go_num, ?_, ?_, HSR.out.trans HSY.out⟩
                    · rw [HM2.out]
                    · rw [HM2.out]
                  case measure => omega
                | succ GJ =>
                  have hltj : (j : Int) < i := by omega
                  have j0 : (0 : Int) ≤ j := by omega
                  obtain ⟨q, hkq⟩ : ∃ q, (cutL L)[j]? = some q := ⟨_, List.getElem?_eq_getElem (by rw [cut_len, ← HN.out]; omega)⟩
                  obtain ⟨b', o', hA, e1, e2⟩ := RG.out j q hkq
                  injection hA with hA
                  injection hA with hA1 hA2
                  subst hA1
                  subst hA2
                  have hap := cut_two HNN.out HS4.out (show j < i by omega) hkq HKR.out
                  replace e1 := (HSR.out.trans HSY.out).cell e1
                  replace e2 := (HSR.out.trans HSY.out).cell e2
                  obtain ⟨q1', q2'⟩ := q
                  simp only at e1 e2 hap
                  have AP := Lib.hid (fun w' => apart_any q1' q2' r1 r2 hap w')
                  clear hap hkq
                  have hbq := Blk.new wr 44 #[.int .i64 q1', .int .i64 q2']
                  obtain ⟨x0, x1⟩ := two_cells hbq
                  obtain ⟨y0, y1⟩ := two_cells (HBR.out.same (HSY.out.alloc (.cells #[.int .i64 q1', .int .i64 q2'] 44)))
                  clear hbq
                  have HSZ := Lib.hid (HSY.out.alloc (.cells #[.int .i64 q1', .int .i64 q2'] 44))
                  go_wp2_with fail
                  refine (AP.out _).mono ?_
                  rintro e w8 ⟨rfl, s8⟩
                  have HS8 := Lib.hid (HSZ.out.trans s8)
                  clear s8
                  go_wp2_with fail
                  go_roundg GJ
                  case rel => exact ⟨j + 1, by omega, by go_num, HS8.out⟩
                  case measure => omega
          · skip
            have HM2 := Lib.hid (HMN.out.trans (met_miss (u := (u0, u1)) (i := i) (r := (r1, r2)) (fun h _ => e3 h)))
            clear HMN
            go_wp2_with fail
            clear c1 c2' y0 y1
            go_loopg [67] i (fun gj jv wy => ∃ j : Nat, j + gj = i ∧ jv = .int .i64 j ∧ Same (wr.alloc (.cells #[.int .i64 r1, .int .i64 r2] 44)) wy)
            case atStart => exact ⟨0, by omega, rfl, Same.refl _⟩
            case round =>
              obtain ⟨j, hj, rfl, sy⟩ := hrel
              have HSY := Lib.hid sy
              clear sy
              cases gk with
              | zero =>
                obtain rfl : i = j := by omega
                have hge : ¬ (i : Int) < (i : Int) := by omega
                go_wp2_with fail
                go_roundg GK
                case rel =>
                  refine ⟨i + 1, by omega, by go_num, ?_, ?_, HSR.out.trans HSY.out⟩
                  · rw [HM2.out]
                  · rw [HM2.out]
                case measure => omega
              | succ GJ =>
                have hltj : (j : Int) < i := by omega
                have j0 : (0 : Int) ≤ j := by omega
                obtain ⟨q, hkq⟩ : ∃ q, (cutL L)[j]? = some q := ⟨_, List.getElem?_eq_getElem (by rw [cut_len, ← HN.out]; omega)⟩
                obtain ⟨b', o', hA, e1, e2⟩ := RG.out j q hkq
                injection hA with hA
                injection hA with hA1 hA2
                subst hA1
                subst hA2
                have hap := cut_two HNN.out HS4.out (show j < i by omega) hkq HKR.out
                replace e1 := (HSR.out.trans HSY.out).cell e1
                replace e2 := (HSR.out.trans HSY.out).cell e2
                obtain ⟨q1', q2'⟩ := q
                simp only at e1 e2 hap
                have AP := Lib.hid (fun w' => apart_any q1' q2' r1 r2 hap w')
                clear hap hkq
                have hbq := Blk.new wr 44 #[.int .i64 q1', .int .i64 q2']
                obtain ⟨x0, x1⟩ := two_cells hbq
                obtain ⟨y0, y1⟩ := two_cells (HBR.out.same (HSY.out.alloc (.cells #[.int .i64 q1', .int .i64 q2'] 44)))
                clear hbq
                have HSZ := Lib.hid (HSY.out.alloc (.cells #[.int .i64 q1', .int .i64 q2'] 44))
                go_wp2_with fail
                refine (AP.out _).mono ?_
                rintro e w8 ⟨rfl, s8⟩
                have HS8 := Lib.hid (HSZ.out.trans s8)
                clear s8
                go_wp2_with fail
                go_roundg GJ
                case rel => exact ⟨j + 1, by omega, by go_num, HS8.out⟩
                case measure => omega

end Go.Proofs.Ytikjkmomokhanab.Ly
