/-

  Events (layer 46): the document's own answer on Preempts: step by step, looking back.
-/
import Derived.Test.YtnlndkpjfgpodabObsPre
import Derived.Test.YtnlndkpjfgpodabWordsK
import Derived.Test.YtnlndkpjfgpodabRows
set_option linter.unusedVariables false
set_option linter.unusedSimpArgs false
namespace Go.Proofs.Ytnlndkpjfgpodab.Ob
open Go.ChangeShapes Go.WideShapes Go.ChangeAt Go.RowKit Ws
open Go.Shelf Rr

theorem take_snoc {l : List Ev} {j : Nat} {y : Ev} (h : l[j]? = some y) : l.take (j + 1) = l.take j ++ [y] := by
  obtain ⟨hj, rfl⟩ := List.getElem?_eq_some_iff.1 h
  exact List.take_succ_eq_append_getElem hj
def evL (e : Ev) : List Value := [.int .i64 e.t, .int .i64 e.k, .int .i64 e.s, .int .i64 e.a, .int .i64 e.b]
def evCells (l : List Ev) : List Value := l.flatMap evL
theorem evCells_snoc (l : List Ev) (x : Ev) : evCells (l ++ [x]) = evCells l ++ evL x := by
  unfold evCells
  rw [List.flatMap_append]
  simp
theorem evCells_len (l : List Ev) : (evCells l).length = l.length * 5 := by
  unfold evCells
  induction l with
  | nil => rfl
  | cons x t ih => rw [List.flatMap_cons, List.length_append, ih, List.length_cons]; simp only [evL, List.length_cons, List.length_nil]; omega
theorem evCells_get {l : List Ev} {j r : Nat} {x : Ev} (h : l[j]? = some x) (hr : r < 5) : (evCells l)[j * 5 + r]? = (evL x)[r]? := by
  induction l generalizing j with
  | nil => cases h
  | cons y t ih =>
    have e : evCells (y :: t) = evL y ++ evCells t := rfl
    cases j with
    | zero =>
      injection h with h
      subst h
      rw [e, List.getElem?_append_left (by simp only [evL, List.length_cons, List.length_nil]; omega)]
      congr 1
      omega
    | succ j =>
      rw [e, List.getElem?_append_right (by simp only [evL, List.length_cons, List.length_nil]; omega)]
      have := ih (j := j) h
      rw [← this]
      congr 1
      simp only [evL, List.length_cons, List.length_nil]
      omega
theorem evs_row {w : World} {A : Option Addr} {l : List Ev} (hf : ∀ e, e ∈ l → (Lit.int .i64 e.a).wf = true) (h : Row w A (evCells l)) : Evs w A l := by
  intro j e he
  refine ⟨hf e (List.mem_of_getElem? he), ?_⟩
  have g : ∀ r, r < 5 → ∀ u, (evL e)[r]? = some u → ∃ b o, A = some ⟨b, o, none⟩ ∧ w.cell? ⟨b, o + (j * 5 + r), none⟩ = some u := fun r hr u hu => h (j * 5 + r) u (by rw [evCells_get he hr]; exact hu)
  obtain ⟨b, o, rfl, h0⟩ := g 0 (by omega) _ rfl
  refine ⟨b, o, rfl, by rw [Nat.add_zero] at h0; exact h0, ?_, ?_, ?_, ?_⟩
  · obtain ⟨b', o', e', h1⟩ := g 1 (by omega) _ rfl
    cases e'
    rw [← Nat.add_assoc] at h1
    exact h1
  · obtain ⟨b', o', e', h1⟩ := g 2 (by omega) _ rfl
    cases e'
    rw [← Nat.add_assoc] at h1
    exact h1
  · obtain ⟨b', o', e', h1⟩ := g 3 (by omega) _ rfl
    cases e'
    rw [← Nat.add_assoc] at h1
    exact h1
  · obtain ⟨b', o', e', h1⟩ := g 4 (by omega) _ rfl
    cases e'
    rw [← Nat.add_assoc] at h1
    exact h1
theorem ev_info : (Try.prog.info? 74).map (fun i => (i.zero, i.size, i.bytes)) = some (some (.agg #[.int .i64 0, .int .i64 0, .int .i64 0, .int .i64 0, .int .i64 0]), 5, 40) := by kernel_rfl
theorem ev_one (x : Ev) : ∀ u ∈ [Value.int .i64 x.t, .int .i64 x.k, .int .i64 x.s, .int .i64 x.a, .int .i64 x.b], u.oneCell' = true := by
  intro u hu
  simp only [List.mem_cons, List.not_mem_nil, or_false] at hu
  rcases hu with rfl | rfl | rfl | rfl | rfl <;> rfl
set_option maxRecDepth 100000 in
set_option maxHeartbeats 4000000 in
theorem rpre_any (A : Option Addr) (m c : Nat) (evs : List Ev) (i : Int) (w : World) (hl : evs.length = m) (hm : m ≤ 300) (hE : Evs w A evs) :
    Calls Try.prog 32 #[.slice A m c, .int .i64 i] w fun e w' => e = .returned (.int .i64 ((ppN i (kindsL [5, 6] evs) : Nat) : Int)) ∧ Same w w' := by
  obtain ⟨i0, hi, hz0, hz1, hz2⟩ := info_parts ev_info
  have HL := Lib.hid hl
  have HE := Lib.hid hE
  have HF := Lib.hid (show ∀ (k : Nat) (e : Ev), e ∈ kindsL [5, 6] (evs.take k) → (Lit.int .i64 e.a).wf = true from fun k e he => by
    obtain ⟨j, hj, ee⟩ := List.getElem_of_mem (List.mem_of_mem_take (List.mem_filter.1 he).1)
    exact (hE j e (by rw [List.getElem?_eq_getElem hj, ee])).1)
  clear hl hE
  go_enter Try.func32, Try.ntmps32
  go_wp2_with fail
  go_loopg [14, 5, 6] m (fun gk iv sv nv wx => ∃ (k : Nat) (A' : Option Addr) (n' c' : Nat), k + gk = m ∧ iv = .int .i64 k ∧ sv = .slice A' n' c' ∧ n' = (kindsL [5, 6] (evs.take k)).length ∧ nv = .int .i64 ((ppN i (kindsL [5, 6] (evs.take k)) : Nat) : Int) ∧
    OwnK wx w.heap.size 74 5 A' n' c' (evCells (kindsL [5, 6] (evs.take k))) ∧ Same w wx)
  case atStart => exact ⟨0, none, 0, 0, by omega, rfl, rfl, rfl, rfl, OwnK.none _ _ _ _, Same.refl _⟩
  case round =>
    obtain ⟨k, A', n', c', hk, rfl, rfl, hn, rfl, ho, sx⟩ := hrel
    have HO := Lib.hid ho
    have HS := Lib.hid sx
    have HN := Lib.hid hn
    clear ho sx hn
    cases gk with
    | zero =>
      obtain rfl : k = m := by omega
      have hge : ¬ (k : Int) < (k : Int) := by omega
      have e : evs.take k = evs := List.take_of_length_le (by have := HL.out; omega)
      rw [e]
      clear e
      obtain ⟨v, hv⟩ : ∃ v, v = ((ppN i (kindsL [5, 6] evs) : Nat) : Int) := ⟨_, rfl⟩
      rw [← hv]
      have HV := Lib.hid hv
      clear hv
      go_wp2_with fail
      go_ret
      exact ⟨ret_int HV.out, HS.out⟩
    | succ GK =>
      have hlt : (k : Int) < m := by omega
      have hk0 : (0 : Int) ≤ (k : Int) := by omega
      obtain ⟨x, hx⟩ : ∃ x, evs[k]? = some x := ⟨_, List.getElem?_eq_getElem (show k < evs.length by have := HL.out; omega)⟩
      have HT := Lib.hid (kinds_take (ks := [5, 6]) hx)
      obtain ⟨hwf, b, o, rfl, c0, c1, c2, c3, c4⟩ := (HE.out.same HS.out) k _ hx
      have hn3 : n' ≤ 300 := by
        have h1 := kinds_len [5, 6] (evs.take k)
        have h2 := HN.out
        have h3 : (evs.take k).length ≤ k := by rw [List.length_take]; omega
        omega
      have HFK := Lib.hid (HF.out k)
      obtain ⟨L, hL⟩ : ∃ L, L = kindsL [5, 6] (evs.take k) := ⟨_, rfl⟩
      rw [← hL] at HO HN HT HFK ⊢
      have HLK := Lib.hid hL
      clear hL hx hwf
      obtain ⟨u, hu⟩ : ∃ u, u = ((ppN i L : Nat) : Int) := ⟨_, rfl⟩
      rw [← hu]
      have HU := Lib.hid hu
      have hu3 : u ≤ 300 := by have h1 := ppN_le i L; have h2 := HN.out; omega
      have hu0 : 0 ≤ u := by omega
      have HPS := Lib.hid (ppN_snoc i L x)
      clear hu
      have hs1 := (Same.refl wr).alloc (.cells #[.int .i64 x.t, .int .i64 x.k, .int .i64 x.s, .int .i64 x.a, .int .i64 x.b] 74)
      have HS1 := Lib.hid (HS.out.trans hs1)
      have HO1 := Lib.hid (HO.out.same hs1)
      have HB1 := Lib.hid (Blk.new wr 74 #[.int .i64 x.t, .int .i64 x.k, .int .i64 x.s, .int .i64 x.a, .int .i64 x.b])
      clear hs1
      by_cases hx5 : x.k = 5
      · skip
        have hT : kindsL [5, 6] (evs.take (k + 1)) = L ++ [x] := by
          rw [HT.out, if_pos (by simp only [List.mem_cons, List.not_mem_nil, or_false]; omega)]
        have HT' := Lib.hid hT
        clear hT HT
        rw [hx5] at HS1 HO1 HB1
        have HX := Lib.hid hx5
        go_wp2_with fail
        generalize hw1 : wr.alloc (.cells #[.int .i64 x.t, .int .i64 5, .int .i64 x.s, .int .i64 x.a, .int .i64 x.b] 74) = w1 at *
        obtain ⟨p, hp⟩ : ∃ p, p = wr.heap.size := ⟨_, rfl⟩
        rw [← hp] at HB1 ⊢
        clear hw1 hp c0 c1 c2 c3 c4
        go_loopg [28, 9] n' (fun gj jv av wx => ∃ j : Nat, j + gj = n' ∧ jv = .int .i64 j ∧ av = .int .i64 (lastX i x.a (L.take j)) ∧ Same w1 wx)
        case atStart => exact ⟨0, by omega, rfl, by unfold lastX; rfl, Same.refl _⟩
        case round =>
          obtain ⟨j, hj, rfl, rfl, sj⟩ := hrel
          have HSJ := Lib.hid sj
          clear sj
          cases gk with
          | zero =>
            obtain rfl : j = n' := by omega
            have hjge : ¬ (j : Int) < (j : Int) := by omega
            rw [List.take_of_length_le (by have := HN.out; omega)]
            have hb1 := HB1.out.same HSJ.out
            have d0 : wr.cell? ⟨p, 0, none⟩ = some (.int .i64 x.t) := hb1.cell 0
            have d1 : wr.cell? ⟨p, 1, none⟩ = some (.int .i64 5) := hb1.cell 1
            have d2 : wr.cell? ⟨p, 2, none⟩ = some (.int .i64 x.s) := hb1.cell 2
            have d3 : wr.cell? ⟨p, 3, none⟩ = some (.int .i64 x.a) := hb1.cell 3
            have d4 : wr.cell? ⟨p, 4, none⟩ = some (.int .i64 x.b) := hb1.cell 4
            have HOJ := Lib.hid (HO1.out.same HSJ.out)
            have HSW := Lib.hid (HS1.out.trans HSJ.out)
            have hLb := lastX_bd i x.a L
            obtain ⟨X, hX⟩ : ∃ X, X = lastX i x.a L := ⟨_, rfl⟩
            rw [← hX] at hLb HPS ⊢
            have hLn := HN.out
            rw [← hLn] at hLb HPS
            clear hb1 hX HB1 hx5 hLn
            by_cases hxs : x.s = i
            · rw [hxs] at d2
              by_cases h0 : 0 ≤ X
              · by_cases hne : X + 1 = (j : Int)
                · have hq : X = (j : Int) - 1 := by omega
                  have hqj : (0 : Int) ≤ (j : Int) - 1 := by omega
                  have HQ := Lib.hid hq
                  have HC := Lib.hid (show ¬ ((x.k = 5 ∧ x.s = i) ∧ 0 ≤ X ∧ X + 1 ≠ (j : Int)) from fun h => h.2.2 hne)
                  clear hne
                  subst hq
                  go_wp2_with (at_builtin; go_loud (refine wpList_appK rfl (.tmp 73) (.tmp 75) 72 rfl w.heap.size 74 i0 _ 5 40 Try.underlying72 hi hz0 hz1 hz2 rfl (by omega) A' j c' (evCells L) rfl (HOJ.out.same ((Same.refl _).alloc _)) _ 1 1 [.int .i64 x.t, .int .i64 5, .int .i64 i, .int .i64 x.a, .int .i64 x.b] rfl rfl (row_new _ _ _) ?c3 (by omega) (by omega) ?c2 ?_))
                  case c2 => have := HSW.out.size; first | omega | exact (HSW.out.alloc _).size
                  case c3 => first | exact ⟨rfl, rfl, rfl, rfl, rfl⟩ | (intro u hu; simp only [List.mem_cons, List.not_mem_nil, or_false] at hu; rcases hu with rfl | rfl | rfl | rfl | rfl <;> rfl)
                  intro A2 c2' w2 ho2 hc2
                  have HS2 := Lib.hid (Same.more (HSW.out.alloc _) hc2 fun g hg => by
                    have hg : A' = some ⟨g, 0, none⟩ := hg
                    subst hg
                    exact HOJ.out.lt.1)
                  have ho3 : OwnK w2 w.heap.size 74 5 A2 (j + 1) c2' (evCells (L ++ [x])) := by
                    rw [evCells_snoc]
                    unfold evL
                    rw [HX.out]
                    first | exact ho2 | (rw [hxs]; exact ho2)
                  have HO2 := Lib.hid ho3
                  clear ho2 hc2 ho3
                  go_wp2_with fail
                  go_roundg GK
                  case rel => exact ⟨k + 1, A2, j + 1, c2', by omega, by go_num, rfl, by rw [HT'.out, List.length_append, ← HN.out]; rfl, by rw [HT'.out, HPS.out, if_neg HC.out, Int.natCast_add, HU.out]; rfl, by rw [HT'.out]; exact HO2.out, HS2.out⟩
                  case measure => omega
                · have hq : ¬ X = (j : Int) - 1 := by omega
                  have hqb : (X != (j : Int) - 1) = true := by simpa using hq
                  have HC := Lib.hid (show ((x.k = 5 ∧ x.s = i) ∧ 0 ≤ X ∧ X + 1 ≠ (j : Int)) from ⟨⟨HX.out, hxs⟩, h0, hne⟩)
                  clear hne
                  go_wp2_with (at_builtin; go_loud (refine wpList_appK rfl (.tmp 73) (.tmp 75) 72 rfl w.heap.size 74 i0 _ 5 40 Try.underlying72 hi hz0 hz1 hz2 rfl (by omega) A' j c' (evCells L) rfl (HOJ.out.same ((Same.refl _).alloc _)) _ 1 1 [.int .i64 x.t, .int .i64 5, .int .i64 i, .int .i64 x.a, .int .i64 x.b] rfl rfl (row_new _ _ _) ?c3 (by omega) (by omega) ?c2 ?_))
                  case c2 => have := HSW.out.size; first | omega | exact (HSW.out.alloc _).size
                  case c3 => first | exact ⟨rfl, rfl, rfl, rfl, rfl⟩ | (intro u hu; simp only [List.mem_cons, List.not_mem_nil, or_false] at hu; rcases hu with rfl | rfl | rfl | rfl | rfl <;> rfl)
                  intro A2 c2' w2 ho2 hc2
                  have HS2 := Lib.hid (Same.more (HSW.out.alloc _) hc2 fun g hg => by
                    have hg : A' = some ⟨g, 0, none⟩ := hg
                    subst hg
                    exact HOJ.out.lt.1)
                  have ho3 : OwnK w2 w.heap.size 74 5 A2 (j + 1) c2' (evCells (L ++ [x])) := by
                    rw [evCells_snoc]
                    unfold evL
                    rw [HX.out]
                    first | exact ho2 | (rw [hxs]; exact ho2)
                  have HO2 := Lib.hid ho3
                  clear ho2 hc2 ho3
                  go_wp2_with fail
                  go_roundg GK
                  case rel => exact ⟨k + 1, A2, j + 1, c2', by omega, by go_num, rfl, by rw [HT'.out, List.length_append, ← HN.out]; rfl, by rw [HT'.out, HPS.out, if_pos HC.out, Int.natCast_add, HU.out]; rfl, by rw [HT'.out]; exact HO2.out, HS2.out⟩
                  case measure => omega
              · have HC := Lib.hid (show ¬ ((x.k = 5 ∧ x.s = i) ∧ 0 ≤ X ∧ X + 1 ≠ (j : Int)) from fun h => h0 h.2.1)
                go_wp2_with (at_builtin; go_loud (refine wpList_appK rfl (.tmp 73) (.tmp 75) 72 rfl w.heap.size 74 i0 _ 5 40 Try.underlying72 hi hz0 hz1 hz2 rfl (by omega) A' j c' (evCells L) rfl (HOJ.out.same ((Same.refl _).alloc _)) _ 1 1 [.int .i64 x.t, .int .i64 5, .int .i64 i, .int .i64 x.a, .int .i64 x.b] rfl rfl (row_new _ _ _) ?c3 (by omega) (by omega) ?c2 ?_))
                case c2 => have := HSW.out.size; first | omega | exact (HSW.out.alloc _).size
                case c3 => first | exact ⟨rfl, rfl, rfl, rfl, rfl⟩ | (intro u hu; simp only [List.mem_cons, List.not_mem_nil, or_false] at hu; rcases hu with rfl | rfl | rfl | rfl | rfl <;> rfl)
                intro A2 c2' w2 ho2 hc2
                have HS2 := Lib.hid (Same.more (HSW.out.alloc _) hc2 fun g hg => by
                  have hg : A' = some ⟨g, 0, none⟩ := hg
                  subst hg
                  exact HOJ.out.lt.1)
                have ho3 : OwnK w2 w.heap.size 74 5 A2 (j + 1) c2' (evCells (L ++ [x])) := by
                  rw [evCells_snoc]
                  unfold evL
                  rw [HX.out]
                  first | exact ho2 | (rw [hxs]; exact ho2)
                have HO2 := Lib.hid ho3
                clear ho2 hc2 ho3
                go_wp2_with fail
                go_roundg GK
                case rel => exact ⟨k + 1, A2, j + 1, c2', by omega, by go_num, rfl, by rw [HT'.out, List.length_append, ← HN.out]; rfl, by rw [HT'.out, HPS.out, if_neg HC.out, Int.natCast_add, HU.out]; rfl, by rw [HT'.out]; exact HO2.out, HS2.out⟩
                case measure => omega
            · have HC := Lib.hid (show ¬ ((x.k = 5 ∧ x.s = i) ∧ 0 ≤ X ∧ X + 1 ≠ (j : Int)) from fun h => hxs h.1.2)
              go_wp2_with (at_builtin; go_loud (refine wpList_appK rfl (.tmp 73) (.tmp 75) 72 rfl w.heap.size 74 i0 _ 5 40 Try.underlying72 hi hz0 hz1 hz2 rfl (by omega) A' j c' (evCells L) rfl (HOJ.out.same ((Same.refl _).alloc _)) _ 1 1 [.int .i64 x.t, .int .i64 5, .int .i64 x.s, .int .i64 x.a, .int .i64 x.b] rfl rfl (row_new _ _ _) ?c3 (by omega) (by omega) ?c2 ?_))
              case c2 => have := HSW.out.size; first | omega | exact (HSW.out.alloc _).size
              case c3 => first | exact ⟨rfl, rfl, rfl, rfl, rfl⟩ | (intro u hu; simp only [List.mem_cons, List.not_mem_nil, or_false] at hu; rcases hu with rfl | rfl | rfl | rfl | rfl <;> rfl)
              intro A2 c2' w2 ho2 hc2
              have HS2 := Lib.hid (Same.more (HSW.out.alloc _) hc2 fun g hg => by
                have hg : A' = some ⟨g, 0, none⟩ := hg
                subst hg
                exact HOJ.out.lt.1)
              have ho3 : OwnK w2 w.heap.size 74 5 A2 (j + 1) c2' (evCells (L ++ [x])) := by
                rw [evCells_snoc]
                unfold evL
                rw [HX.out]
                first | exact ho2 | (rw [hxs]; exact ho2)
              have HO2 := Lib.hid ho3
              clear ho2 hc2 ho3
              go_wp2_with fail
              go_roundg GK
              case rel => exact ⟨k + 1, A2, j + 1, c2', by omega, by go_num, rfl, by rw [HT'.out, List.length_append, ← HN.out]; rfl, by rw [HT'.out, HPS.out, if_neg HC.out, Int.natCast_add, HU.out]; rfl, by rw [HT'.out]; exact HO2.out, HS2.out⟩
              case measure => omega
          | succ GJ =>
            have hjlt : (j : Int) < n' := by omega
            have hj0 : (0 : Int) ≤ (j : Int) := by omega
            obtain ⟨y, hy⟩ : ∃ y, L[j]? = some y := ⟨_, List.getElem?_eq_getElem (show j < L.length by have := HN.out; omega)⟩
            obtain ⟨hwf, b', o', rfl, c0, c1, c2, c3, c4⟩ := (evs_row HFK.out (HO1.out.row.same HSJ.out)) j _ hy
            have hst : lastX i x.a (L.take (j + 1)) = if y.k = 5 ∧ y.s = i ∧ y.a = x.a then ((j : Nat) : Int) else lastX i x.a (L.take j) := by
              rw [take_snoc hy, lastX_snoc, List.length_take, Nat.min_eq_left (by have := HN.out; omega)]
            have HST := Lib.hid hst
            have d3 : wr.cell? ⟨p, 3, none⟩ = some (.int .i64 x.a) := (HB1.out.same HSJ.out).cell 3
            have hpl : p < wr.heap.size := (HB1.out.same HSJ.out).lt
            have HSN := Lib.hid (HSJ.out.trans ((Same.refl wr).alloc (.cells #[.int .i64 y.t, .int .i64 y.k, .int .i64 y.s, .int .i64 y.a, .int .i64 y.b] 74)))
            obtain ⟨X, hX⟩ : ∃ X, X = lastX i x.a (L.take j) := ⟨_, rfl⟩
            rw [← hX] at HST ⊢
            clear hst hy hwf hX hx5
            by_cases hyk : y.k = 5
            · rw [hyk] at HSN
              by_cases hys : y.s = i
              · rw [hys] at HSN
                by_cases hya : y.a = x.a
                · rw [hya] at HSN
                  have hst := HST.out
                  rw [if_pos ⟨hyk, hys, hya⟩] at hst
                  have HST' := Lib.hid hst
                  clear hst HST
                  go_wp2_with fail
                  go_roundg GJ
                  case rel => exact ⟨j + 1, by omega, by go_num, by rw [HST'.out], HSN.out⟩
                  case measure => omega
                · have hst := HST.out
                  rw [if_neg (fun h => hya h.2.2)] at hst
                  have HST' := Lib.hid hst
                  clear hst HST
                  go_wp2_with fail
                  go_roundg GJ
                  case rel => exact ⟨j + 1, by omega, by go_num, by rw [HST'.out], HSN.out⟩
                  case measure => omega
              · have hst := HST.out
                rw [if_neg (fun h => hys h.2.1)] at hst
                have HST' := Lib.hid hst
                clear hst HST
                go_wp2_with fail
                go_roundg GJ
                case rel => exact ⟨j + 1, by omega, by go_num, by rw [HST'.out], HSN.out⟩
                case measure => omega
            · have hst := HST.out
              rw [if_neg (fun h => hyk h.1)] at hst
              have HST' := Lib.hid hst
              clear hst HST
              go_wp2_with fail
              go_roundg GJ
              case rel => exact ⟨j + 1, by omega, by go_num, by rw [HST'.out], HSN.out⟩
              case measure => omega
      · by_cases hx6 : x.k = 6
        · skip
          have hT : kindsL [5, 6] (evs.take (k + 1)) = L ++ [x] := by
            rw [HT.out, if_pos (by simp only [List.mem_cons, List.not_mem_nil, or_false]; omega)]
          have HT' := Lib.hid hT
          clear hT HT
          rw [hx6] at HS1 HO1 HB1
          have HX := Lib.hid hx6
          go_wp2_with fail
          generalize hw1 : wr.alloc (.cells #[.int .i64 x.t, .int .i64 6, .int .i64 x.s, .int .i64 x.a, .int .i64 x.b] 74) = w1 at *
          obtain ⟨p, hp⟩ : ∃ p, p = wr.heap.size := ⟨_, rfl⟩
          rw [← hp] at HB1 ⊢
          clear hw1 hp c0 c1 c2 c3 c4
          go_loopg [28, 9] n' (fun gj jv av wx => ∃ j : Nat, j + gj = n' ∧ jv = .int .i64 j ∧ av = .int .i64 (lastX i x.a (L.take j)) ∧ Same w1 wx)
          case atStart => exact ⟨0, by omega, rfl, by unfold lastX; rfl, Same.refl _⟩
          case round =>
            obtain ⟨j, hj, rfl, rfl, sj⟩ := hrel
            have HSJ := Lib.hid sj
            clear sj
            cases gk with
            | zero =>
              obtain rfl : j = n' := by omega
              have hjge : ¬ (j : Int) < (j : Int) := by omega
              rw [List.take_of_length_le (by have := HN.out; omega)]
              have hb1 := HB1.out.same HSJ.out
              have d0 : wr.cell? ⟨p, 0, none⟩ = some (.int .i64 x.t) := hb1.cell 0
              have d1 : wr.cell? ⟨p, 1, none⟩ = some (.int .i64 6) := hb1.cell 1
              have d2 : wr.cell? ⟨p, 2, none⟩ = some (.int .i64 x.s) := hb1.cell 2
              have d3 : wr.cell? ⟨p, 3, none⟩ = some (.int .i64 x.a) := hb1.cell 3
              have d4 : wr.cell? ⟨p, 4, none⟩ = some (.int .i64 x.b) := hb1.cell 4
              have HOJ := Lib.hid (HO1.out.same HSJ.out)
              have HSW := Lib.hid (HS1.out.trans HSJ.out)
              have hLb := lastX_bd i x.a L
              obtain ⟨X, hX⟩ : ∃ X, X = lastX i x.a L := ⟨_, rfl⟩
              rw [← hX] at hLb HPS ⊢
              have hLn := HN.out
              rw [← hLn] at hLb HPS
              clear hb1 hX HB1 hx6 hLn
              have HC := Lib.hid (show ¬ ((x.k = 5 ∧ x.s = i) ∧ 0 ≤ X ∧ X + 1 ≠ (j : Int)) from fun h => hx5 h.1.1)
              go_wp2_with (at_builtin; go_loud (refine wpList_appK rfl (.tmp 73) (.tmp 75) 72 rfl w.heap.size 74 i0 _ 5 40 Try.underlying72 hi hz0 hz1 hz2 rfl (by omega) A' j c' (evCells L) rfl (HOJ.out.same ((Same.refl _).alloc _)) _ 1 1 [.int .i64 x.t, .int .i64 6, .int .i64 x.s, .int .i64 x.a, .int .i64 x.b] rfl rfl (row_new _ _ _) ?c3 (by omega) (by omega) ?c2 ?_))
              case c2 => have := HSW.out.size; first | omega | exact (HSW.out.alloc _).size
              case c3 => first | exact ⟨rfl, rfl, rfl, rfl, rfl⟩ | (intro u hu; simp only [List.mem_cons, List.not_mem_nil, or_false] at hu; rcases hu with rfl | rfl | rfl | rfl | rfl <;> rfl)
              intro A2 c2' w2 ho2 hc2
              have HS2 := Lib.hid (Same.more (HSW.out.alloc _) hc2 fun g hg => by
                have hg : A' = some ⟨g, 0, none⟩ := hg
                subst hg
                exact HOJ.out.lt.1)
              have ho3 : OwnK w2 w.heap.size 74 5 A2 (j + 1) c2' (evCells (L ++ [x])) := by
                rw [evCells_snoc]
                unfold evL
                rw [HX.out]
                first | exact ho2 | (rw [hxs]; exact ho2)
              have HO2 := Lib.hid ho3
              clear ho2 hc2 ho3
              go_wp2_with fail
              go_roundg GK
              case rel => exact ⟨k + 1, A2, j + 1, c2', by omega, by go_num, rfl, by rw [HT'.out, List.length_append, ← HN.out]; rfl, by rw [HT'.out, HPS.out, if_neg HC.out, Int.natCast_add, HU.out]; rfl, by rw [HT'.out]; exact HO2.out, HS2.out⟩
              case measure => omega
            | succ GJ =>
              have hjlt : (j : Int) < n' := by omega
              have hj0 : (0 : Int) ≤ (j : Int) := by omega
              obtain ⟨y, hy⟩ : ∃ y, L[j]? = some y := ⟨_, List.getElem?_eq_getElem (show j < L.length by have := HN.out; omega)⟩
              obtain ⟨hwf, b', o', rfl, c0, c1, c2, c3, c4⟩ := (evs_row HFK.out (HO1.out.row.same HSJ.out)) j _ hy
              have hst : lastX i x.a (L.take (j + 1)) = if y.k = 5 ∧ y.s = i ∧ y.a = x.a then ((j : Nat) : Int) else lastX i x.a (L.take j) := by
                rw [take_snoc hy, lastX_snoc, List.length_take, Nat.min_eq_left (by have := HN.out; omega)]
              have HST := Lib.hid hst
              have d3 : wr.cell? ⟨p, 3, none⟩ = some (.int .i64 x.a) := (HB1.out.same HSJ.out).cell 3
              have hpl : p < wr.heap.size := (HB1.out.same HSJ.out).lt
              have HSN := Lib.hid (HSJ.out.trans ((Same.refl wr).alloc (.cells #[.int .i64 y.t, .int .i64 y.k, .int .i64 y.s, .int .i64 y.a, .int .i64 y.b] 74)))
              obtain ⟨X, hX⟩ : ∃ X, X = lastX i x.a (L.take j) := ⟨_, rfl⟩
              rw [← hX] at HST ⊢
              clear hst hy hwf hX hx6
              by_cases hyk : y.k = 5
              · rw [hyk] at HSN
                by_cases hys : y.s = i
                · rw [hys] at HSN
                  by_cases hya : y.a = x.a
                  · rw [hya] at HSN
                    have hst := HST.out
                    rw [if_pos ⟨hyk, hys, hya⟩] at hst
                    have HST' := Lib.hid hst
                    clear hst HST
                    go_wp2_with fail
                    go_roundg GJ
                    case rel => exact ⟨j + 1, by omega, by go_num, by rw [HST'.out], HSN.out⟩
                    case measure => omega
                  · have hst := HST.out
                    rw [if_neg (fun h => hya h.2.2)] at hst
                    have HST' := Lib.hid hst
                    clear hst HST
                    go_wp2_with fail
                    go_roundg GJ
                    case rel => exact ⟨j + 1, by omega, by go_num, by rw [HST'.out], HSN.out⟩
                    case measure => omega
                · have hst := HST.out
                  rw [if_neg (fun h => hys h.2.1)] at hst
                  have HST' := Lib.hid hst
                  clear hst HST
                  go_wp2_with fail
                  go_roundg GJ
                  case rel => exact ⟨j + 1, by omega, by go_num, by rw [HST'.out], HSN.out⟩
                  case measure => omega
              · have hst := HST.out
                rw [if_neg (fun h => hyk h.1)] at hst
                have HST' := Lib.hid hst
                clear hst HST
                go_wp2_with fail
                go_roundg GJ
                case rel => exact ⟨j + 1, by omega, by go_num, by rw [HST'.out], HSN.out⟩
                case measure => omega
        · have hT : kindsL [5, 6] (evs.take (k + 1)) = L := by
            rw [HT.out, if_neg (by simp only [List.mem_cons, List.not_mem_nil, or_false]; omega), List.append_nil]
          have HT' := Lib.hid hT
          have e5 : (x.k != 5) = true := by simpa using hx5
          have e6 : (x.k != 6) = true := by simpa using hx6
          clear hT
          go_wp2_with fail
          go_roundg GK
          case rel => exact ⟨k + 1, A', n', c', by omega, by go_num, rfl, by rw [HT'.out]; exact HN.out, by rw [HT'.out, HU.out], by rw [HT'.out]; exact HO1.out, HS1.out⟩
          case measure => omega
end Go.Proofs.Ytnlndkpjfgpodab.Ob
