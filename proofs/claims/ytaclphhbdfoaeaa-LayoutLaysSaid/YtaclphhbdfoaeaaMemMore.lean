/-

  The rest of package mem: a region's words, a memory's like, a memory that is filled; two rows of words held against each other; the law's helper.
-/
import Derived.Test.YtaclphhbdfoaeaaMemBase
set_option linter.unusedSimpArgs false
set_option linter.unusedVariables false
namespace Go.Proofs.Ytaclphhbdfoaeaa.Mm
open Go.ChangeShapes Go.WideShapes Go.ChangeAt Go.RowKit Ws

theorem words_one (l : List Int) : ∀ u ∈ l.map (Value.int .u32), u.oneCell' = true := by
  intro u hu
  obtain ⟨x, _, rfl⟩ := List.mem_map.1 hu
  rfl

theorem own_none (w : World) (e : TypeId) : Own (w.alloc (.cells #[] e)) w.heap.size e (some ⟨w.heap.size, 0, none⟩) 0 [] := World.ownsRow_made w #[] 0 (Nat.le_refl _) (Nat.zero_le _) rfl

set_option maxRecDepth 100000 in
theorem clone_words (ad : Addr) (n c : Nat) (l : List Int) (w : World) (h : Row w (some ad) (l.map (Value.int .u32))) (hn : l.length = n) (hl : n ≤ 4096) :
    Calls Try.prog 33 #[.slice (some ad) n c] w fun e w' => ∃ g' c', e = .returned (.slice (some ⟨g', 0, none⟩) n c') ∧ Same w w' ∧ Own w' w.heap.size 44 (some ⟨g', 0, none⟩) c' (l.map (Value.int .u32)) := by
  obtain ⟨i0, hi, hz0, hz1, hz2⟩ := info_parts u32_info
  have HN := Lib.hid hn
  clear hn
  have hq : ∀ (w : World) (a : Option Addr) (n c n' c' : Nat), (binOp .eql 39 (.slice a n c) (.slice none n' c')).run Try.prog w = .ok (.bool a.isNone) w := fun w a n c n' c' => Lib.run_eql_slice_nil w _ _ a n c n' c' Try.underlying39
  go_enter Try.func33, Try.ntmps33
  go_wp2_with (at_builtin; refine wpList_app rfl _ _ 39 rfl w.heap.size 44 i0 _ 4 Try.underlying39 hi hz0 hz1 hz2 rfl _ _ _ [] rfl rfl (own_none w 44) _ _ _ (l.map (Value.int .u32)) rfl ?c1 ?c2 (words_one l) ?c3 (by omega) ?c4 ?c5)
  case c1 => rw [List.length_map]; exact HN.out
  case c2 => exact h.same ((Same.refl _).alloc _)
  case c3 => have := HN.out; simp; omega
  case c4 => simp
  intro A' c' w1 ho hc hA
  have hs : Same w w1 := Same.more ((Same.refl w).alloc (.cells #[] 44)) hc (fun i hi => by have hi : w.heap.size = i := by simpa using hi
                                                                                            omega)
  go_wp2
  go_ret
  rcases hA with hA | hA
  · exact ⟨_, c', by rw [hA]; rfl, hs, hA ▸ ho⟩
  · exact ⟨_, c', by rw [hA]; rfl, hs, hA ▸ ho⟩

/-! ### all words of a memory -/
theorem whole_in (n : Nat) : wiB n 0 n = 0 := by unfold wiB inB; rw [if_pos]; simp

theorem look_all {R : Nat → Prop} {g n : Nat} {l : List Int} {s : Int} (w : World) (h : Mem w R g l s) (hn : l.length = n) :
    Calls Try.prog 24 #[.pointer (some ⟨g, 0, none⟩), .agg #[.int .i64 0, .int .i64 n]] w fun e w' => ∃ g' c', e = .returned (.tuple #[.slice (some ⟨g', 0, none⟩) n c', .int .i64 0]) ∧ Same w w' ∧ Own w' w.heap.size 44 (some ⟨g', 0, none⟩) c' (l.map (Value.int .u32)) := by
  obtain ⟨_, hs, g2, c, hb, ho, _⟩ := h
  rw [hn] at hb hs
  have h0 : w.cell? ⟨g, 0, none⟩ = some (.slice (some ⟨g2, 0, none⟩) n c) := by simpa using hb.cell 0
  obtain ⟨_, _, hlc, hcm⟩ := own_lt ho
  rw [List.length_map, hn] at hlc
  have hrow := ho.row
  have HN := Lib.hid hn
  clear hn hb ho
  go_enter Try.func24, Try.ntmps24
  go_wp2_with fail
  refine (within_any g _ n c _ _ hs _ (((Same.refl w).alloc _).cell h0)).mono ?_
  rintro e w1 ⟨rfl, s1⟩
  rw [whole_in]
  have b0 : w1.cell? ⟨w.heap.size, 0, none⟩ = some (.int .i64 0) := s1.new rfl
  have b1 : w1.cell? ⟨w.heap.size, 1, none⟩ = some (.int .i64 n) := s1.new rfl
  have s2 := Same.trans ((Same.refl w).alloc _) s1
  have h1 := s2.cell h0
  have r1 := hrow.same s2
  clear s1 h0 hrow
  generalize w.heap.size = hz at *
  go_wp2_with fail
  have f1 : IntKind.i64.wrap (n : Int) = n := Go.IntWalk.i64_in _ (by omega)
  have f2 : IntKind.i64.wrap (0 + (n : Int)) = n := by rw [Int.zero_add]; exact f1
  have f3 : (0 : Int) ≤ n := by omega
  have f4 : (n : Int) ≤ c := by omega
  have f5 : ((n : Int)).toNat = n := Int.toNat_natCast n
  go_region_held3 (fun w' => w'.cell? ⟨g, 0, none⟩ = some (.slice (some ⟨g2, 0, none⟩) n c) ∧ w'.cell? ⟨hz, 0, none⟩ = some (.int .i64 0) ∧ w'.cell? ⟨hz, 1, none⟩ = some (.int .i64 n) ∧ Row w' (some ⟨g2, 0, none⟩) (l.map (Value.int .u32)) ∧ Same w w')
    (first | assumption | exact ⟨h1, b0, b1, r1.drew, s2.drew⟩ | (rcases ‹_ ∧ _ ∧ _ ∧ _ ∧ Same _ _› with ⟨x1, x2, x3, x4, x5⟩; exact ⟨hx.cell x1, hx.cell x2, hx.cell x3, x4.same hx, x5.trans hx⟩))
    (first | (go_at_call 33; refine (clone_words _ n c l _ (by rcases ‹_ ∧ _ ∧ _ ∧ _ ∧ Same _ _› with ⟨x1, x2, x3, x4, x5⟩; exact x4) HN.out hs).mono ?_; rintro e w' ⟨g', c', rfl, hx, ho⟩))
  rcases ‹_ ∧ _ ∧ _ ∧ _ ∧ Same _ _› with ⟨_, _, _, _, x5⟩
  clear f1 f2 f3 f4 f5 b0 b1 h1 r1
  go_wp2
  go_ret2
  exact ⟨g', c', rfl, x5, ho.base s2.size⟩

theorem u32_one : (Try.prog.info? 44).map (·.size) = some 1 := by kernel_rfl

theorem fill_all {R : Nat → Prop} {g n : Nat} {l : List Int} {s : Int} (w : World) (h : Mem w R g l s) (hn : l.length = n) (C : Option Addr) (d : Nat) (ys : List Int) (hy : ys.length = n) (hr : Row w C (ys.map (Value.int .u32))) :
    Calls Try.prog 20 #[.pointer (some ⟨g, 0, none⟩), .int .i64 0, .slice C n d] w fun e w' => e = .returned (.int .i64 0) ∧ Mem w' R g ys s ∧ Chg R w w' := by
  obtain ⟨r1, hs, g2, c, hb, ho, r2⟩ := h
  rw [hn] at hb hs
  have h0 : w.cell? ⟨g, 0, none⟩ = some (.slice (some ⟨g2, 0, none⟩) n c) := by simpa using hb.cell 0
  obtain ⟨_, _, hlc, hcm⟩ := own_lt ho
  rw [List.length_map, hn] at hlc
  have hxn : (l.map (Value.int .u32)).length = n := by rw [List.length_map]; exact hn
  have hym : (ys.map (Value.int .u32)).length = n := by rw [List.length_map]; exact hy
  have HX := Lib.hid hxn
  have HY := Lib.hid hym
  have HN := Lib.hid hn
  have HZ := Lib.hid hy
  clear hxn hym hn hy
  go_enter Try.func20, Try.ntmps20
  go_wp2_with fail
  refine (within_any g _ n c _ _ hs _ h0).mono ?_
  rintro e w1 ⟨rfl, s1⟩
  rw [whole_in]
  have h1 := s1.cell h0
  have f3 : (0 : Int) ≤ n := by omega
  have f4 : (n : Int) ≤ c := by omega
  clear h0
  go_wp2_with (with_reducible refine wpList_cp rfl (.tmp 22) (.tmp 23) 39 39 rfl 44 Try.underlying39 u32_one 0 (some ⟨g2, 0, none⟩) n c c (l.map (Value.int .u32)) rfl HX.out (ho.same s1) C n d (ys.map (Value.int .u32)) rfl HY.out (hr.same s1) (words_one _) ?_)
  intro w2 ho2 hc2
  have hyn : (ys.map (Value.int .u32)).take n ++ (l.map (Value.int .u32)).drop n = ys.map (Value.int .u32) := by
    rw [List.take_of_length_le (by have := HY.out; omega), List.drop_of_length_le (by have := HX.out; omega), List.append_nil]
  rw [hyn] at ho2
  have hb2 := (hb.same s1).chg hc2 (ho.ne hb (by decide) g2 rfl)
  have HB := Lib.hid hb2
  clear hb2 hyn h1 f3 f4
  go_wp2
  go_ret
  have e := HZ.out
  exact ⟨rfl, ⟨r1, by omega, g2, c, by rw [e]; exact HB.out, ho2, r2⟩, (s1.chg R).trans (hc2.weak fun i _ (hi : g2 = i) => hi ▸ r2)⟩

theorem words_eq (A C : Option Addr) (n m c d : Nat) (xs ys : List Int) (w : World) (hn : xs.length = n) (hm : ys.length = m) (hx : Row w A (xs.map (Value.int .u32))) (hy : Row w C (ys.map (Value.int .u32)))
    (b1 : n ≤ 4294967296) (b2 : m ≤ 4294967296) :
    Calls Try.prog 10 #[.slice A n c, .slice C m d] w fun e w' => e = .returned (.bool (decide (xs = ys))) ∧ ∃ k, w' = w.drewN k := by
  by_cases hl : n = m
  · subst hl
    have HX := Lib.hid hn
    have HY := Lib.hid hm
    clear hn hm
    go_enter Try.func10, Try.ntmps10
    go_wp2
    go_loopw [5, 13] (fun _ i wr => ∃ k : Nat, k ≤ n ∧ i = .int .i64 k ∧ xs.take k = ys.take k ∧ ∃ q, wr = w.drewN q) (fun _ i _ => n - (intOf i).toNat)
    case atStart => exact ⟨0, Nat.zero_le _, rfl, by simp, 0, rfl⟩
    case round =>
      obtain ⟨k, hk, rfl, hp, q, rfl⟩ := hrel
      have HP := Lib.hid hp
      clear hp
      by_cases hlt : k < n
      · obtain ⟨b, o, rfl, hc1⟩ := hx.at_ (k := k) (by have := HX.out; simp; omega)
        obtain ⟨b', o', rfl, hc2⟩ := hy.at_ (k := k) (by have := HY.out; simp; omega)
        rw [List.getElem_map] at hc1 hc2
        have hkx : k < xs.length := by have := HX.out; omega
        have hky : k < ys.length := by have := HY.out; omega
        have hsx : xs.take (k + 1) = xs.take k ++ [xs[k]] := by rw [List.take_succ_eq_append_getElem hkx]
        have hsy : ys.take (k + 1) = ys.take k ++ [ys[k]] := by rw [List.take_succ_eq_append_getElem hky]
        obtain ⟨x, hxx⟩ : ∃ x, x = xs[k] := ⟨_, rfl⟩
        obtain ⟨y, hyy⟩ : ∃ y, y = ys[k] := ⟨_, rfl⟩
        rw [← hxx] at hc1 hsx
        rw [← hyy] at hc2 hsy
        have HSX := Lib.hid hsx
        have HSY := Lib.hid hsy
        clear hsx hsy hxx hyy
        by_cases hxy : x = y
        · have hb : (x != y) = false := by simpa using hxy
          have HXY := Lib.hid hxy
          clear hxy
          go_wp2
          go_quiet (fail)
          go_wp2
          go_roundw
          case rel => exact ⟨k + 1, by omega, by go_num, by rw [HSX.out, HSY.out, HP.out, HXY.out], _, rfl⟩
          case measure => simp [intOf]; omega
        · have hb : (x != y) = true := by simpa using hxy
          have hd : decide (xs = ys) = false := by
            rw [decide_eq_false_iff_not]
            rintro rfl
            have := HSX.out
            rw [HSY.out] at this
            have := List.append_cancel_left this
            injection this with this
            exact hxy this.symm
          have HD := Lib.hid hd
          clear hd hxy
          go_wp2
          go_quiet (fail)
          go_wp2
          go_ret
          exact ⟨ret_bool HD.out.symm, q + nq, by simp⟩
      · have hkn : k = n := by omega
        subst hkn
        have hd : decide (xs = ys) = true := by
          rw [decide_eq_true_iff]
          have h1 := HP.out
          rw [List.take_of_length_le (by have := HX.out; omega), List.take_of_length_le (by have := HY.out; omega)] at h1
          exact h1
        have HD := Lib.hid hd
        clear hd
        go_wp2
        go_ret
        exact ⟨ret_bool HD.out.symm, _, rfl⟩
  · have hd : decide (xs = ys) = false := by
      rw [decide_eq_false_iff_not]
      rintro rfl
      omega
    have HD := Lib.hid hd
    clear hd
    have hne : ((n : Int) != (m : Int)) = true := by simp; omega
    go_enter Try.func10, Try.ntmps10
    go_wp2
    go_ret
    exact ⟨ret_bool HD.out.symm, 0, rfl⟩

/-! ### nobody's memory -/
theorem nil_look (a l : Int) (w : World) : Calls Try.prog 24 #[.pointer none, .agg #[.int .i64 a, .int .i64 l]] w fun e w' => e = .returned (.tuple #[.slice none 0 0, .int .i64 1]) ∧ Same w w' := by
  go_enter Try.func24, Try.ntmps24
  go_wp2_with fail
  refine (within_nil _ _ _).mono ?_
  rintro e w1 ⟨rfl, s1⟩
  go_wp2_with fail
  go_ret2
  exact ⟨rfl, Same.trans ((Same.refl _).alloc _) s1⟩
theorem nil_fill (a : Int) (A : Option Addr) (n c : Nat) (w : World) : Calls Try.prog 20 #[.pointer none, .int .i64 a, .slice A n c] w fun e w' => e = .returned (.int .i64 1) ∧ Same w w' := by
  go_enter Try.func20, Try.ntmps20
  go_wp2_with fail
  refine (within_nil _ _ _).mono ?_
  rintro e w1 ⟨rfl, s1⟩
  go_wp2_with fail
  go_ret
  exact ⟨rfl, s1⟩

/-! ### the chapter's example -/
end Go.Proofs.Ytaclphhbdfoaeaa.Mm
