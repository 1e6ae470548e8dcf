/-

  The document's Next tells in memory of its own. (gen156.py's neighbour: out of FlowMay's rnext_any.)
-/
import Derived.Test.YtiipdeionmndcaaDoorCstNext
import Derived.Test.YtiipdeionmndcaaDoorFlowMay
set_option linter.unusedVariables false
set_option linter.unusedSimpArgs false
namespace Go.Proofs.YtiipdeionmndcaaDoor.Fw
open Go.ChangeShapes Go.WideShapes Go.ChangeAt Go.RowKit Ws Fp
open Go.Proofs.YtiipdeionmndcaaDoor.Is (Tabs ins rightB leadB rleads_any)

set_option maxRecDepth 100000 in
theorem rnextf_any (A : Option Addr) (m c : Nat) (p : List Ins) (b : Nat) (w : World) (hl : p.length = m) (hm : m ≤ 5000) (hb : b < m) (hp : Prg w A p) :
    Calls Tryd.prog 69 #[.slice A m c, .int .i64 b] w (NumF w (rnextL p b)) := by
  have hE : rnextL p b = waysTo p b m := by unfold rnextL waysTo; rw [hl]
  rw [hE]
  obtain ⟨i0, hi, hz0, hz1, hz2⟩ := info_parts int_info
  have AH := Lib.hid (fun (a : Nat) (ha : a < m) w' (s : Same w w') => rmay_any A m c p b a w' hl hm hb ha (hp.same s))
  clear hp hl hE
  go_enter Tryd.func69, Tryd.ntmps69
  go_wp2_with fail
  go_loopg [9, 5] m (fun gk iv lv wx => ∃ (k : Nat) (A' : Option Addr) (n' c' : Nat), k + gk = m ∧ iv = .int .i64 k ∧ lv = .slice A' n' c' ∧ n' = (waysTo p b k).length ∧ Own wx w.heap.size 3 A' c' ((waysTo p b k).map (Value.int .i64)) ∧ Same w wx)
  case atStart => exact ⟨0, none, 0, 0, by omega, rfl, rfl, rfl, own_nil _ _ _, Same.refl _⟩
  case round =>
    obtain ⟨k, A', n', c', hk, rfl, rfl, hn, ho, sx⟩ := hrel
    have HO := Lib.hid ho
    have HS := Lib.hid sx
    have HN := Lib.hid hn
    clear ho sx hn
    cases gk with
    | zero =>
      obtain rfl : m = k := by omega
      have hge : ¬ (m : Int) < (m : Int) := by omega
      go_wp2_with fail
      go_ret
      have h := HN.out
      subst h
      refine ⟨A', c', rfl, HO.out.row, HS.out, fun b' o' e => ?_⟩
      subst e
      rcases HO.out.2 with ⟨h2, _⟩ | ⟨g2, cap, cur, hv, hb2, _⟩
      · cases h2
      · injection hv with hv
        injection hv with hv
        injection hv with hv
        omega
    | succ GK =>
      have hlt : (k : Int) < m := by omega
      have HE := Lib.hid (waysTo_next p b k)
      have AK := Lib.hid (AH.out k (by omega) _ HS.out)
      have hlen := waysTo_len p b k
      go_wp2_with fail
      refine AK.out.mono ?_
      rintro e w1 ⟨rfl, s1⟩
      have HS1 := Lib.hid (HS.out.trans s1)
      have HO1 := Lib.hid (HO.out.same s1)
      clear s1 AK
      cases hab : mayB p b (k : Int)
      · have hE := HE.out
        rw [hab, if_neg Bool.false_ne_true, List.append_nil] at hE
        have HE' := Lib.hid hE
        clear hE hab
        go_wp2_with fail
        go_roundg GK
        case rel => exact ⟨k + 1, A', n', c', by omega, by go_num, rfl, by rw [HE'.out]; exact HN.out, by rw [HE'.out]; exact HO1.out, HS1.out⟩
        case measure => omega
      · have hE := HE.out
        rw [hab, if_pos rfl] at hE
        have HE' := Lib.hid hE
        clear hE hab
        go_wp2_with (at_builtin; go_loud (refine wpList_app rfl (.tmp 16) (.tmp 18) 23 rfl w.heap.size 3 i0 _ 8 Tryd.underlying23 hi hz0 hz1 hz2 rfl A' n' c' ((waysTo p b k).map (Value.int .i64)) rfl ?c1 (HO1.out.same ((Same.refl _).alloc _)) _ 1 1 [.int .i64 (k : Int)] rfl rfl (row_new _ _ _) ?c2 ?c3 (by omega) ?c4 ?_))
        case c1 => first | exact HN.out.symm | (rw [List.length_map]; exact HN.out.symm)
        case c2 => intro u hu; simp at hu; subst hu; rfl
        case c3 => first | omega | (rw [List.length_map]; simp; omega)
        case c4 => have := HS1.out.size; simp at this ⊢; omega
        intro A2 c2' w2 ho2 hc2 _
        have HS2 := Lib.hid (Same.more (HS1.out.alloc _) hc2 fun g hg => by
          have hg : A' = some ⟨g, 0, none⟩ := hg
          subst hg
          rcases HO.out.2 with ⟨h2, _⟩ | ⟨g2, cap, cur, hv, hb2, _⟩
          · cases h2
          · injection hv with hv
            injection hv with hv
            injection hv with hv
            omega)
        rw [show (waysTo p b k).map (Value.int .i64) ++ [.int .i64 (k : Int)] = (waysTo p b (k + 1)).map (Value.int .i64) by rw [HE'.out, List.map_append]; rfl] at ho2
        have HO2 := Lib.hid ho2
        clear ho2 hc2
        go_wp2_with fail
        go_roundg GK
        case rel => exact ⟨k + 1, A2, n' + 1, c2', by omega, by go_num, rfl, by rw [HE'.out, List.length_append, HN.out]; rfl, HO2.out, HS2.out⟩
        case measure => omega

end Go.Proofs.YtiipdeionmndcaaDoor.Fw
