/-

  The document's Fine, May and Next (layer 10).
-/
import Derived.Test.YtnlndkpjfgpodaaDoorFlowUse
import Derived.Test.YtnlndkpjfgpodaaDoorRefFlowCk
set_option linter.unusedVariables false
set_option linter.unusedSimpArgs false
namespace Go.Proofs.YtnlndkpjfgpodaaDoor.Fw
open Go.ChangeShapes Go.WideShapes Go.ChangeAt Go.RowKit Ws Fp
open Go.Proofs.YtnlndkpjfgpodaaDoor.Is (Tabs ins rightB leadB rleads_any)

theorem rfine_any (A : Option Addr) (m c : Nat) (p : List Ins) (w : World) (hl : p.length = m) (hm : m ≤ 5000) (hp : Prg w A p) :
    Calls Tryd.prog 15 #[.slice A m c] w fun e w' => e = .returned (.bool (okB p)) ∧ Same w w' := by
  have CK := Lib.hid (rcheck_any A m c p w hl hm hp)
  have hE : (ckE p == 0) = okB p := by unfold okB; rw [Bool.eq_iff_iff]; simp
  have HE := Lib.hid hE
  clear hl hp hE
  go_enter Tryd.func15, Tryd.ntmps15
  go_wp2_with fail
  refine CK.out.mono ?_
  rintro e w1 ⟨rfl, s1⟩
  go_wp2_with fail
  go_ret
  exact ⟨ret_bool HE.out, s1⟩
theorem lead_iff (op : Int) : leadB op = decide (op = 14 ∨ op = 15 ∨ op = 16) := by
  unfold leadB
  rw [Bool.eq_iff_iff]
  simp
  try omega
set_option maxRecDepth 100000 in
theorem rmay_any (A : Option Addr) (m c : Nat) (p : List Ins) (k t : Nat) (w : World) (hl : p.length = m) (hm : m ≤ 5000) (hk : k < m) (ht : t < m) (hp : Prg w A p) :
    Calls Tryd.prog 98 #[.slice A m c, .int .i64 k, .int .i64 t] w fun e w' => e = .returned (.bool (mayB p k t)) ∧ Same w w' := by
  obtain ⟨hok, b, o, rfl, c0, c1, c2, c3, c4⟩ := hp.at_ (k := k) (by omega)
  have hki : (k : Int) < m := by omega
  have hk0 : (0 : Int) ≤ k := by omega
  have hE : mayB p k t = (!decide ((Fp.at_ p k).op = 21) && ((decide ((Fp.at_ p k).op = 14 ∨ (Fp.at_ p k).op = 15 ∨ (Fp.at_ p k).op = 16) && decide ((t : Int) = (Fp.at_ p k).n)) || (!decide ((Fp.at_ p k).op = 14) && decide ((t : Int) = (k : Int) + 1)))) := rfl
  clear hp hl
  generalize Fp.at_ p k = x at *
  have hn := hok
  unfold Ins.ok at hn
  have f1 := i64_of x.n (by omega)
  have f2 := i64_of ((k : Int) + 1) (by omega)
  have LD := Lib.hid (fun w' => rleads_any x.op w')
  rw [← lead_iff] at hE
  have hs2 := (Same.refl w).alloc (.cells #[.int .i64 x.op, .int .i64 x.a, .int .i64 x.b, .int .i64 x.c, .int .u32 x.n] 67)
  have HS2 := Lib.hid hs2
  clear hs2
  by_cases h21 : x.op = 21
  · have b1 : (x.op == 21) = true := by simpa using h21
    rw [decide_eq_true h21] at hE
    have HE := Lib.hid hE
    clear hE h21
    go_enter Tryd.func98, Tryd.ntmps98
    go_wp2_with fail
    go_ret
    exact ⟨ret_bool (by rw [HE.out]; rfl), HS2.out⟩
  · have b1 : (x.op == 21) = false := by simpa using h21
    rw [decide_eq_false h21] at hE
    clear h21
    cases hl : leadB x.op
    · rw [hl] at LD hE
      cases h14 : (x.op != 14)
      · have h14' : x.op = 14 := by simpa using h14
        rw [decide_eq_true h14'] at hE
        have HE := Lib.hid hE
        clear hE h14' hl
        go_enter Tryd.func98, Tryd.ntmps98
        go_wp2_with fail
        refine (LD.out _).mono ?_
        rintro e w2 ⟨rfl, rfl⟩
        go_wp2_with fail
        go_ret
        exact ⟨ret_bool (by rw [HE.out]; rfl), HS2.out⟩
      · have h14' : ¬ x.op = 14 := by simpa using h14
        rw [decide_eq_false h14'] at hE
        have HE := Lib.hid hE
        clear hE h14' hl
        by_cases htk : (t : Int) = (k : Int) + 1
        · have e1 : ((t : Int) == (k : Int) + 1) = true := by simpa using htk
          have HD := Lib.hid (decide_eq_true htk)
          clear htk
          go_enter Tryd.func98, Tryd.ntmps98
          go_wp2_with fail
          refine (LD.out _).mono ?_
          rintro e w2 ⟨rfl, rfl⟩
          go_wp2_with fail
          go_ret
          exact ⟨ret_bool (by rw [HE.out, HD.out]; rfl), HS2.out⟩
        · have e1 : ((t : Int) == (k : Int) + 1) = false := by simpa using htk
          have HD := Lib.hid (decide_eq_false htk)
          clear htk
          go_enter Tryd.func98, Tryd.ntmps98
          go_wp2_with fail
          refine (LD.out _).mono ?_
          rintro e w2 ⟨rfl, rfl⟩
          go_wp2_with fail
          go_ret
          exact ⟨ret_bool (by rw [HE.out, HD.out]; rfl), HS2.out⟩
    · rw [hl] at LD hE
      by_cases htn : (t : Int) = x.n
      · have e0 : ((t : Int) == x.n) = true := by simpa using htn
        rw [decide_eq_true htn] at hE
        have HE := Lib.hid hE
        clear hE htn hl
        go_enter Tryd.func98, Tryd.ntmps98
        go_wp2_with fail
        refine (LD.out _).mono ?_
        rintro e w2 ⟨rfl, rfl⟩
        go_wp2_with fail
        go_ret
        exact ⟨ret_bool (by rw [HE.out]; rfl), HS2.out⟩
      · have e0 : ((t : Int) == x.n) = false := by simpa using htn
        rw [decide_eq_false htn] at hE
        clear htn hl
        cases h14 : (x.op != 14)
        · have h14' : x.op = 14 := by simpa using h14
          rw [decide_eq_true h14'] at hE
          have HE := Lib.hid hE
          clear hE h14'
          go_enter Tryd.func98, Tryd.ntmps98
          go_wp2_with fail
          refine (LD.out _).mono ?_
          rintro e w2 ⟨rfl, rfl⟩
          go_wp2_with fail
          go_ret
          exact ⟨ret_bool (by rw [HE.out]; rfl), HS2.out⟩
        · have h14' : ¬ x.op = 14 := by simpa using h14
          rw [decide_eq_false h14'] at hE
          have HE := Lib.hid hE
          clear hE h14'
          by_cases htk : (t : Int) = (k : Int) + 1
          · have e1 : ((t : Int) == (k : Int) + 1) = true := by simpa using htk
            have HD := Lib.hid (decide_eq_true htk)
            clear htk
            go_enter Tryd.func98, Tryd.ntmps98
            go_wp2_with fail
            refine (LD.out _).mono ?_
            rintro e w2 ⟨rfl, rfl⟩
            go_wp2_with fail
            go_ret
            exact ⟨ret_bool (by rw [HE.out, HD.out]; rfl), HS2.out⟩
          · have e1 : ((t : Int) == (k : Int) + 1) = false := by simpa using htk
            have HD := Lib.hid (decide_eq_false htk)
            clear htk
            go_enter Tryd.func98, Tryd.ntmps98
            go_wp2_with fail
            refine (LD.out _).mono ?_
            rintro e w2 ⟨rfl, rfl⟩
            go_wp2_with fail
            go_ret
            exact ⟨ret_bool (by rw [HE.out, HD.out]; rfl), HS2.out⟩

theorem int_info : (Tryd.prog.info? 3).map (fun i => (i.zero, i.size, i.bytes)) = some (some (.int .i64 0), 1, 8) := by kernel_rfl
theorem own_nil (w : World) (B : Nat) (e : TypeId) : Own w B e none 0 [] := ⟨by simp, .inl ⟨rfl, rfl⟩⟩
/-- the first j places to which one may come from k -/
def waysTo (p : List Ins) (k j : Nat) : List Int := ((List.range j).filter fun t : Nat => mayB p k (t : Int)).map fun t : Nat => (t : Int)
theorem waysTo_next (p : List Ins) (k j : Nat) : waysTo p k (j + 1) = waysTo p k j ++ (if mayB p k (j : Int) = true then [(j : Int)] else []) := by
  unfold waysTo
  rw [List.range_succ, List.filter_append, List.map_append]
  congr 1
  by_cases h : mayB p k (j : Int) = true
  · rw [if_pos h]
    simp [h]
  · rw [if_neg h]
    simp [h]
theorem waysTo_len (p : List Ins) (k j : Nat) : (waysTo p k j).length ≤ j := by
  unfold waysTo
  rw [List.length_map]
  have := List.length_filter_le (fun t : Nat => mayB p k (t : Int)) (List.range j)
  rw [List.length_range] at this
  exact this
theorem nums_mk {w w' : World} {l : List Int} {A : Option Addr} {n c : Nat} (hn : n = l.length) (hr : Row w' A (l.map (Value.int .i64))) (hs : Same w w') : Nums w l (.returned (.slice A n c)) w' := by
  subst hn
  exact ⟨A, c, rfl, hr, hs⟩
set_option maxRecDepth 100000 in
theorem rnext_any (A : Option Addr) (m c : Nat) (p : List Ins) (b : Nat) (w : World) (hl : p.length = m) (hm : m ≤ 5000) (hb : b < m) (hp : Prg w A p) :
    Calls Tryd.prog 72 #[.slice A m c, .int .i64 b] w (Nums w (rnextL p b)) := by
  have hE : rnextL p b = waysTo p b m := by unfold rnextL waysTo; rw [hl]
  rw [hE]
  obtain ⟨i0, hi, hz0, hz1, hz2⟩ := info_parts int_info
  have AH := Lib.hid (fun (a : Nat) (ha : a < m) w' (s : Same w w') => rmay_any A m c p b a w' hl hm hb ha (hp.same s))
  clear hp hl hE
  go_enter Tryd.func72, Tryd.ntmps72
  go_wp2_with fail
  go_loopg [9, 5] m (fun gk iv lv wx => ∃ (k : Nat) (A' : Option Addr) (n' c' : Nat), k + gk = m ∧ iv = .int .i64 k ∧ lv = .slice A' n' c' ∧ n' = (waysTo p b k).length ∧ Own wx w.heap.size 3 A' c' ((waysTo p b k).map (Value.int .i64)) ∧ Same w wx)
  case atStart => exact ⟨0, none, 0, 0, by omega, rfl, rfl, rfl, own_nil _ _ _, Same.refl _⟩
  case round =>
    obtain ⟨k, A', n', c', hk, rfl, rfl, hn, ho, sx⟩ := hrel
    have HO := Lib.hid ho
    have HS := Lib.hid sx
    have HN := Lib.hid hn
    clear ho sx hn
    cases gk with
    | zero =>
      obtain rfl : m = k := by omega
      have hge : ¬ (m : Int) < (m : Int) := by omega
      go_wp2_with fail
      go_ret
      exact nums_mk HN.out HO.out.row HS.out
    | succ GK =>
      have hlt : (k : Int) < m := by omega
      have HE := Lib.hid (waysTo_next p b k)
      have AK := Lib.hid (AH.out k (by omega) _ HS.out)
      have hlen := waysTo_len p b k
      go_wp2_with fail
      refine AK.out.mono ?_
      rintro e w1 ⟨rfl, s1⟩
      have HS1 := Lib.hid (HS.out.trans s1)
      have HO1 := Lib.hid (HO.out.same s1)
      clear s1 AK
      cases hab : mayB p b (k : Int)
      · have hE := HE.out
        rw [hab, if_neg Bool.false_ne_true, List.append_nil] at hE
        have HE' := Lib.hid hE
        clear hE hab
        go_wp2_with fail
        go_roundg GK
        case rel => exact ⟨k + 1, A', n', c', by omega, by go_num, rfl, by rw [HE'.out]; exact HN.out, by rw [HE'.out]; exact HO1.out, HS1.out⟩
        case measure => omega
      · have hE := HE.out
        rw [hab, if_pos rfl] at hE
        have HE' := Lib.hid hE
        clear hE hab
        go_wp2_with (at_builtin; go_loud (refine wpList_app rfl (.tmp 16) (.tmp 18) 23 rfl w.heap.size 3 i0 _ 8 Tryd.underlying23 hi hz0 hz1 hz2 rfl A' n' c' ((waysTo p b k).map (Value.int .i64)) rfl ?c1 (HO1.out.same ((Same.refl _).alloc _)) _ 1 1 [.int .i64 (k : Int)] rfl rfl (row_new _ _ _) ?c2 ?c3 (by omega) ?c4 ?_))
        case c1 => first | exact HN.out.symm | (rw [List.length_map]; exact HN.out.symm)
        case c2 => intro u hu; simp at hu; subst hu; rfl
        case c3 => first | omega | (rw [List.length_map]; simp; omega)
        case c4 => have := HS1.out.size; simp at this ⊢; omega
        intro A2 c2' w2 ho2 hc2 _
        have HS2 := Lib.hid (Same.more (HS1.out.alloc _) hc2 fun g hg => by
          have hg : A' = some ⟨g, 0, none⟩ := hg
          subst hg
          rcases HO.out.2 with ⟨h2, _⟩ | ⟨g2, cap, cur, hv, hb2, _⟩
          · cases h2
          · injection hv with hv
            injection hv with hv
            injection hv with hv
            omega)
        rw [show (waysTo p b k).map (Value.int .i64) ++ [.int .i64 (k : Int)] = (waysTo p b (k + 1)).map (Value.int .i64) by rw [HE'.out, List.map_append]; rfl] at ho2
        have HO2 := Lib.hid ho2
        clear ho2 hc2
        go_wp2_with fail
        go_roundg GK
        case rel => exact ⟨k + 1, A2, n' + 1, c2', by omega, by go_num, rfl, by rw [HE'.out, List.length_append, HN.out]; rfl, HO2.out, HS2.out⟩
        case measure => omega

end Go.Proofs.YtnlndkpjfgpodaaDoor.Fw
