/-

  A record's text: what strings.Builder does here, and the digits of small words, as contracts of their calls.
  (In this translation copyCheck ends in a statement that the loader refuses, so the library's own contracts of it do not lie here.)
-/
import Derived.Test.YtejajmdmfipplaaDoorRecBase
import Derived.Test.YtejajmdmfipplaaDoorShelf
import Derived.Lib.FrozenHead2
set_option linter.unusedSimpArgs false
set_option linter.unusedVariables false
namespace Go.Proofs.YtejajmdmfipplaaDoor.Rc
open Go.ChangeShapes Go.WideShapes Go.ChangeAt Go.RowKit Ws
open Go.Lib (IsBuilderF BuilderAtF)

theorem size_builder : (Tryd.prog.info? 128).map (·.size) = some 2 := by kernel_rfl
theorem info_byte : (Tryd.prog.info? 5).map (fun i => (i.zero, i.size, i.bytes)) = some (some (.int .u8 0), 1, 1) := by kernel_rfl

theorem lies_builder : liesAt Tryd.prog Tryd.prog.depth 128 (2 / Tryd.prog.cellsOf 128) 0 128 1 = true := by kernel_rfl

set_option maxHeartbeats 1000000 in
set_option maxRecDepth 100000 in
theorem check_fresh (b : Nat) (w : World) (h0 : w.cell? ⟨b, 0, none⟩ = some (.pointer none)) (hsh : w.shape? b = some (128, 2)) (hfz : w.frozen? ⟨b, 0, none⟩ = false) :
    Calls Tryd.prog 130 #[.pointer (some ⟨b, 0, none⟩)] w fun e w' => e = .returned (.tuple #[]) ∧ w' = w.setCell ⟨b, 0, none⟩ (.pointer (some ⟨b, 0, none⟩)) := by
  obtain ⟨j, hj, hjs⟩ := Option.map_eq_some_iff.1 size_builder
  go_enter Tryd.func130, Tryd.ntmps130
  go_wp2
  rw [Go.Lib.run_to_unsafe w ⟨b, 0, none⟩ Tryd.underlying125 Tryd.underlying168 hj (by rw [hjs]; decide) hsh (Nat.zero_lt_succ 1)]
  simp only [Result.andThen]
  rw [Oper.upon_value]
  go_wp2
  rw [run_callFunc_extern Tryd.func143 (by kernel_rfl) (by kernel_rfl) (by kernel_rfl) (e := Extern.AbiNoEscape.same) (by kernel_rfl)]
  rw [Go.Lib.run_noEscape]
  simp only [Result.andThen]
  rw [Oper.upon_value]
  go_wp2
  rw [Go.Lib.run_from_unsafe w ⟨b, 0, none⟩ Tryd.underlying168 Tryd.underlying125 hj hsh lies_builder]
  simp only [Result.andThen]
  rw [Oper.upon_value]
  go_wp2
  go_end0
  exact ⟨rfl, rfl⟩

set_option maxHeartbeats 1000000 in
set_option maxRecDepth 100000 in
theorem check_used (b : Nat) (w : World) (h0 : w.cell? ⟨b, 0, none⟩ = some (.pointer (some ⟨b, 0, none⟩))) :
    Calls Tryd.prog 130 #[.pointer (some ⟨b, 0, none⟩)] w fun e w' => e = .returned (.tuple #[]) ∧ w' = w := by
  obtain ⟨j, hj, hjs⟩ := Option.map_eq_some_iff.1 size_builder
  go_enter Tryd.func130, Tryd.ntmps130
  go_wp2
  rw [Go.Lib.run_neq_ptr_same w _ Tryd.underlying125 hj]
  go_wp2
  go_end0
  exact ⟨rfl, rfl⟩

theorem check_any (B b : Nat) (bs : List Value) (w : World) (h : IsBuilderF 128 5 B b bs w) :
    Calls Tryd.prog 130 #[.pointer (some ⟨b, 0, none⟩)] w fun e w' => e = .returned (.tuple #[]) ∧ BuilderAtF 128 5 B b (.pointer (some ⟨b, 0, none⟩)) bs w' ∧ Below B w w' := by
  rcases h with h | h
  · refine (check_fresh b w h.cell0 h.shape h.frozen0).mono ?_
    rintro e w' ⟨rfl, rfl⟩
    exact ⟨rfl, h.used _, (Below.refl B w).setCell (p := ⟨b, 0, none⟩) h.1 _⟩
  · refine (check_used b w h.cell0).mono ?_
    rintro e w' ⟨rfl, rfl⟩
    exact ⟨rfl, h, Below.refl B _⟩

theorem lt_of_block {w : World} {b : Nat} {o : Obj} (h : w.heap[b]? = some o) : b < w.heap.size := by
  rcases Nat.lt_or_ge b w.heap.size with h' | h'
  · exact h'
  · rw [Array.getElem?_eq_none h'] at h
    cases h

set_option maxHeartbeats 1000000 in
set_option maxRecDepth 100000 in
theorem wbyte_any (B b : Nat) (bs : List Value) (c : Int) (w : World) (h : IsBuilderF 128 5 B b bs w) (hlen : bs.length + 1 ≤ 140737488355328) (hBw : B ≤ w.heap.size) :
    Calls Tryd.prog 102 #[.pointer (some ⟨b, 0, none⟩), .int .u8 c] w fun e w' => e = .returned .nilIface ∧ BuilderAtF 128 5 B b (.pointer (some ⟨b, 0, none⟩)) (bs ++ [.int .u8 c]) w' ∧ Below B w w' := by
  obtain ⟨i0, hi, hz0, hz1, hz2⟩ := info_parts info_byte
  go_enter Tryd.func102, Tryd.ntmps102
  go_wp2_with fail
  refine (check_any B b bs w h).mono ?_
  rintro e w1 ⟨rfl, h1, hb1⟩
  obtain ⟨hB, v, hbk, hown, hne⟩ := h1
  have c0 : w1.cell? ⟨b, 0, none⟩ = some (.pointer (some ⟨b, 0, none⟩)) := by rw [Go.Lib.cell_of_heap hbk]; rfl
  have c1 : w1.cell? ⟨b, 1, none⟩ = some v := by rw [Go.Lib.cell_of_heap hbk]; rfl
  go_wp2_with (at_builtin; refine wpList_append_ownF _ rfl _ _ 126 rfl B 5 i0 (.int .u8 0) 1 1 Tryd.underlying126 hi hz0 hz1 hz2 rfl (by decide) _ _ _ rfl (hown.alloc _) ⟨w1.heap.size, 0, none⟩ 1 1 [.int .u8 c] rfl rfl ?c1 ?c2 ?c3 ?c4 ?c5 ?_)
  case c1 =>
    intro j u hj
    match j, hj with
    | 0, hj => simp at hj; subst hj; simp [Addr.add]
  case c2 => intro u hu; simp at hu; subst hu; rfl
  case c3 => unfold maxLen; omega
  case c4 => omega
  case c5 => have := hb1.size; simp; omega
  intro v' w2 hown' hgrow _
  have hlt := lt_of_block hbk
  have hb2 : w2.heap[b]? = some (.cells #[.pointer (some ⟨b, 0, none⟩), v] 128 (0, 0)) := by
    rw [hgrow.block b (by simp; omega) (fun e => hne e.symm), Go.Lib.alloc_old w1 _ b hlt]
    exact hbk
  have d0 : w2.cell? ⟨b, 0, none⟩ = some (.pointer (some ⟨b, 0, none⟩)) := by rw [Go.Lib.cell_of_heap hb2]; rfl
  have d1 : w2.cell? ⟨b, 1, none⟩ = some v := by rw [Go.Lib.cell_of_heap hb2]; rfl
  have f1 : w2.frozen? ⟨b, 1, none⟩ = false := Go.Lib.frozen_of_heap hb2 1
  obtain ⟨g, cap, rfl⟩ : ∃ g cap, v' = .slice (some ⟨g, 0, none⟩) (bs.length + 1) cap := by
    rcases hown'.2 with ⟨_, h0⟩ | ⟨g, cap, cur, fz, hv, _⟩
    · omega
    · exact ⟨g, cap, hv⟩
  go_wp2
  go_ret
  refine ⟨rfl, ?_, ?_⟩
  · exact Go.Lib.BuilderAtF.put (T := 128) (e := 5) hB hb2 (bs' := bs ++ [.int .u8 c]) (by simpa using hown') (by decide)
  · exact ((hb1.alloc (by have := hb1.size; omega) _).grown hgrow (by have := hb1.size; simp; omega) (fun k hk => (hown.lt k hk).1)).setCell (p := ⟨b, 1, none⟩) hB _

set_option maxHeartbeats 1000000 in
set_option maxRecDepth 100000 in
theorem wstring_any (B b : Nat) (bs : List Value) (s : ByteArray) (w : World) (h : IsBuilderF 128 5 B b bs w) (hlen : bs.length + s.size ≤ 140737488355328) (hBw : B ≤ w.heap.size) :
    Calls Tryd.prog 103 #[.pointer (some ⟨b, 0, none⟩), .string s] w fun e w' => e = .returned (.tuple #[.int .i64 s.size, .nilIface]) ∧ BuilderAtF 128 5 B b (.pointer (some ⟨b, 0, none⟩)) (bs ++ Go.Lib.strCells s) w' ∧ Below B w w' := by
  obtain ⟨i0, hi, hz0, hz1, hz2⟩ := info_parts info_byte
  go_enter Tryd.func103, Tryd.ntmps103
  go_wp2_with fail
  refine (check_any B b bs w h).mono ?_
  rintro e w1 ⟨rfl, h1, hb1⟩
  obtain ⟨hB, v, hbk, hown, hne⟩ := h1
  have c0 : w1.cell? ⟨b, 0, none⟩ = some (.pointer (some ⟨b, 0, none⟩)) := by rw [Go.Lib.cell_of_heap hbk]; rfl
  have c1 : w1.cell? ⟨b, 1, none⟩ = some v := by rw [Go.Lib.cell_of_heap hbk]; rfl
  go_wp2_with (at_builtin; refine Go.Lib.wpList_append_own_stringF _ rfl _ _ 126 9 rfl B 5 i0 Tryd.underlying126 Tryd.underlying9 hi hz0 hz1 hz2 _ _ _ rfl hown s rfl ?c3 ?c4 ?c5 ?_)
  case c3 => unfold maxLen; omega
  case c4 => omega
  case c5 => have := hb1.size; omega
  intro v' w2 hown' hgrow _
  have hlt := lt_of_block hbk
  have hb2 : w2.heap[b]? = some (.cells #[.pointer (some ⟨b, 0, none⟩), v] 128 (0, 0)) := by
    rw [hgrow.block b hlt (fun e => hne e.symm)]
    exact hbk
  have d0 : w2.cell? ⟨b, 0, none⟩ = some (.pointer (some ⟨b, 0, none⟩)) := by rw [Go.Lib.cell_of_heap hb2]; rfl
  have d1 : w2.cell? ⟨b, 1, none⟩ = some v := by rw [Go.Lib.cell_of_heap hb2]; rfl
  have f1 : w2.frozen? ⟨b, 1, none⟩ = false := Go.Lib.frozen_of_heap hb2 1
  obtain ⟨ao, n', cap, rfl⟩ : ∃ ao n' cap, v' = .slice ao n' cap := by
    rcases hown'.2 with ⟨hv, _⟩ | ⟨g, cap, cur, fz, hv, _⟩
    · exact ⟨_, _, _, hv⟩
    · exact ⟨_, _, _, hv⟩
  go_wp2
  go_ret2
  refine ⟨rfl, ?_, ?_⟩
  · exact Go.Lib.BuilderAtF.put (T := 128) (e := 5) hB hb2 (bs' := bs ++ Go.Lib.strCells s) (by simpa [Go.Lib.strCells_length] using hown') (by decide)
  · exact (hb1.grown hgrow (by have := hb1.size; omega) (fun k hk => (hown.lt k hk).1)).setCell (p := ⟨b, 1, none⟩) hB _

/-! ### the digits of small words -/
set_option maxRecDepth 100000 in
theorem digits_5 (w : World) : Calls Tryd.prog 104 #[.int .u32 5] w fun e w' => e = .returned (.string ⟨#[53]⟩) ∧ w = w' := by
  go_enter Tryd.func104, Tryd.ntmps104
  go_wp2
  go_ret
  exact ⟨rfl, rfl⟩
set_option maxRecDepth 100000 in
theorem digits_16 (w : World) : Calls Tryd.prog 104 #[.int .u32 16] w fun e w' => e = .returned (.string ⟨#[49, 54]⟩) ∧ w = w' := by
  go_enter Tryd.func104, Tryd.ntmps104
  go_wp2
  go_ret
  exact ⟨rfl, rfl⟩

/-! ### a record's text, whatever the digits of its words are -/
def txt (dg : Int → List UInt8) : List Int → List UInt8
  | [] => []
  | x :: r => dg x ++ r.flatMap fun y => 32 :: dg y
theorem txt_one (dg : Int → List UInt8) (x : Int) : txt dg ([] ++ [x]) = dg x := by simp [txt]
theorem txt_snoc (dg : Int → List UInt8) (l : List Int) (hl : l ≠ []) (x : Int) : txt dg (l ++ [x]) = txt dg l ++ ([32] ++ dg x) := by
  cases l with
  | nil => exact absurd rfl hl
  | cons y r => simp [txt, List.flatMap_append]

def ShowRel (w : World) (B b : Nat) (dg : Int → List UInt8) (l : List Int) (n : Nat) (i : Value) (wr : World) : Prop :=
  ∃ q : Nat, q ≤ n ∧ i = .int .i64 q ∧ IsBuilderF 128 5 B b (Go.Lib.byteCells (txt dg (l.take q))) wr ∧ Below B w wr ∧ (txt dg (l.take q)).length ≤ q * 11

set_option maxRecDepth 100000 in
theorem show_any (dg : Int → List UInt8) (A : Option Addr) (n c : Nat) (l : List Int) (w : World) (hn : l.length = n) (hm : n ≤ 65536) (hr : Row w A (w32 l)) (hd : ∀ x ∈ l, (dg x).length ≤ 10 ∧ ∀ w : World, Calls Tryd.prog 104 #[.int .u32 x] w fun e w' => e = .returned (.string ⟨(dg x).toArray⟩) ∧ w = w') :
    Calls Tryd.prog 70 #[.slice A n c] w fun e w' => e = .returned (.string ⟨(txt dg l).toArray⟩) ∧ Same w w' := by
  have HN := Lib.hid hn
  clear hn
  have HD := Lib.hid hd
  clear hd
  go_enter Tryd.func70, Tryd.ntmps70
  go_wp2_with fail
  go_loopw [4, 5, 8] (fun _ _ i wr => ShowRel w w.heap.size w.heap.size dg l n i wr) (fun _ _ i _ => n - (intOf i).toNat)
  case atStart => exact ⟨0, Nat.zero_le _, rfl, .inl ⟨Nat.le_refl _, .slice none 0 0, heap_alloc_new w _, World.ownsRowF_nil _ _ _ _, by simp [Value.ownBlock]⟩, (Below.refl _ _).alloc (Nat.le_refl _) _, by simp [txt]⟩
  case round =>
    obtain ⟨q, hq, rfl, hb, hw, hlen⟩ := hrel
    by_cases hlt : q < n
    · have hqn : (q : Int) < n := by omega
      have hql : q < l.length := by have := HN.out; omega
      have hrw : Row wr A (w32 l) := hr.same (Same.of_below hw)
      obtain ⟨b, o, rfl, hc⟩ := hrw.at_ (k := q) (by rw [w32_len]; exact hql)
      simp only [w32, List.getElem_map] at hc
      have HT := Lib.hid (show l.take (q + 1) = l.take q ++ [l[q]] from List.take_succ_eq_append_getElem hql)
      obtain ⟨d1, d2⟩ := HD.out l[q] (List.getElem_mem _)
      obtain ⟨x, hx⟩ : ∃ x, x = l[q] := ⟨_, rfl⟩
      rw [← hx] at hc HT d1
      have D2 := Lib.hid (show ∀ w : World, Calls Tryd.prog 104 #[.int .u32 x] w fun e w' => e = .returned (.string ⟨(dg x).toArray⟩) ∧ w = w' from hx ▸ d2)
      clear hx d2 hrw
      by_cases h0 : q = 0
      · subst h0
        have e0 : ((0 : Nat) : Int) = 0 := rfl
        rw [Nat.add_zero] at hc
        rw [e0]
        rw [e0] at hqn
        go_wp2_with fail
        refine (D2.out _).mono ?_
        rintro e w2 ⟨rfl, rfl⟩
        go_wp2_with fail
        refine (wstring_any _ _ _ _ _ hb (by simp [Go.Lib.byteCells_length, ByteArray.size, txt]; omega) hw.size).mono ?_
        rintro e w3 ⟨rfl, hb3, hw3⟩
        have hb4 : IsBuilderF 128 5 w.heap.size w.heap.size (Go.Lib.byteCells (txt dg (l.take (0 + 1)))) w3 := by
          rw [HT.out, List.take_zero, txt_one]
          exact .inr (by simpa [Go.Lib.strCells_eq, txt, Go.Lib.byteCells] using hb3)
        have hw4 := hw.trans hw3
        have hl4 : (txt dg (l.take (0 + 1))).length ≤ (0 + 1) * 11 := by
          rw [HT.out, List.take_zero, txt_one]
          omega
        clear hb3 hw3
        go_wp2_with fail
        go_roundw
        case rel => exact ⟨0 + 1, by omega, by go_num, hb4, hw4, hl4⟩
        case measure => simp [intOf]; omega
      · have hq0 : (0 : Int) < q := by omega
        have htq : l.take q ≠ [] := by
          intro h
          have h2 : (l.take q).length = 0 := by rw [h]; rfl
          rw [List.length_take] at h2
          omega
        go_wp2_with fail
        refine (wbyte_any _ _ _ _ _ hb (by rw [Go.Lib.byteCells_length]; omega) hw.size).mono ?_
        rintro e w2 ⟨rfl, hb2, hw2⟩
        have hw3 := hw.trans hw2
        clear hw2 hb
        go_wp2_with fail
        refine (D2.out _).mono ?_
        rintro e w2 ⟨rfl, rfl⟩
        go_wp2_with fail
        refine (wstring_any _ _ _ _ _ (.inr hb2) (by simp [Go.Lib.byteCells_length, ByteArray.size]; omega) hw3.size).mono ?_
        rintro e w4 ⟨rfl, hb4, hw4⟩
        have hb5 : IsBuilderF 128 5 w.heap.size w.heap.size (Go.Lib.byteCells (txt dg (l.take (q + 1)))) w4 := by
          rw [HT.out, txt_snoc dg _ htq, Go.Lib.byteCells_append, Go.Lib.byteCells_append, ← List.append_assoc]
          exact .inr hb4
        have hw5 := hw3.trans hw4
        have hl5 : (txt dg (l.take (q + 1))).length ≤ (q + 1) * 11 := by
          rw [HT.out, txt_snoc dg _ htq, List.length_append, List.length_append]
          simp
          omega
        clear hb4 hw4 hb2 hw3 htq
        go_wp2_with fail
        go_roundw
        case rel => exact ⟨q + 1, by omega, by go_num, hb5, hw5, hl5⟩
        case measure => simp [intOf]; omega
    · have hqn : ¬ (q : Int) < n := by omega
      have htk : l.take q = l := List.take_of_length_le (by have := HN.out; omega)
      rw [htk] at hb
      go_wp2_with fail
      refine (Tryd.Builder_String_any_f _ _ _ _ hb hw.size).mono ?_
      rintro e w2 ⟨rfl, _, hw2⟩
      go_wp2
      go_ret
      exact ⟨rfl, Same.of_below (hw.trans hw2)⟩

end Go.Proofs.YtejajmdmfipplaaDoor.Rc
