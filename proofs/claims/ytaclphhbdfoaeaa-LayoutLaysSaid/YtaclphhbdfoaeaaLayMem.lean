/-

  A memory: Fill at any place; what it holds after so many objects.
-/
import Derived.Test.YtaclphhbdfoaeaaMemMore
import Derived.Test.YtaclphhbdfoaeaaFaceLay
import Derived.Test.YtaclphhbdfoaeaaLayBd
section
set_option linter.unusedSimpArgs false
set_option linter.unusedVariables false
namespace Go.Proofs.Ytaclphhbdfoaeaa.Mm
open Go.ChangeShapes Go.WideShapes Go.ChangeAt Go.RowKit Ws

theorem words_any {R : Nat → Prop} {g : Nat} {l : List Int} {s : Int} (w : World) (h : Mem w R g l s) :
    Calls Try.prog 11 #[.pointer (some ⟨g, 0, none⟩)] w fun e w' => ∃ g' c', e = .returned (.slice (some ⟨g', 0, none⟩) l.length c') ∧ Same w w' ∧ Own w' w.heap.size 44 (some ⟨g', 0, none⟩) c' (l.map (Value.int .u32)) := by
  obtain ⟨n, hn⟩ : ∃ n, n = l.length := ⟨_, rfl⟩
  have HN := Lib.hid hn.symm
  have HM := Lib.hid h
  rw [← hn]
  clear h
  have HL := Lib.hid (len_any w HM.out)
  rw [HN.out] at HL
  clear hn
  go_enter Try.func11, Try.ntmps11
  go_wp2_with fail
  refine HL.out.mono ?_
  rintro e w' ⟨rfl, rfl⟩
  go_wp2_with fail
  refine (look_all _ HM.out HN.out).mono ?_
  rintro e w1 ⟨g', c', rfl, s1, o1⟩
  have HO := Lib.hid o1
  have HS := Lib.hid s1
  clear o1 s1
  go_wp2
  go_ret
  exact ⟨g', c', rfl, HS.out, HO.out⟩

end Go.Proofs.Ytaclphhbdfoaeaa.Mm
end
section
set_option linter.unusedVariables false
set_option linter.unusedSimpArgs false
namespace Go.Proofs.Ytaclphhbdfoaeaa.Mm
open Go.ChangeShapes Go.WideShapes Go.ChangeAt Go.RowKit Ws
open Go.Proofs.Ytaclphhbdfoaeaa.Fc (chg_setRow)

/-- words laid at a place -/
def layA (l : List Int) (a : Nat) (ys : List Int) : List Int := l.take a ++ (ys ++ l.drop (a + ys.length))
set_option maxHeartbeats 1000000 in
set_option maxRecDepth 100000 in
theorem fill_at {R : Nat → Prop} {g n : Nat} {l : List Int} {s : Int} (w : World) (h : Mem w R g l s) (hn : l.length = n) (C : Option Addr) (m d : Nat) (ys : List Int) (hy : ys.length = m) (a : Nat) (hm : a + m ≤ n) (hm0 : 0 < m) (hr : Row w C (ys.map (Value.int .u32))) :
    Calls Try.prog 20 #[.pointer (some ⟨g, 0, none⟩), .int .i64 a, .slice C m d] w fun e w' => e = .returned (.int .i64 0) ∧ Mem w' R g (layA l a ys) s ∧ Chg R w w' := by
  obtain ⟨r1, hs, g2, c, hb, ho, r2⟩ := h
  rw [hn] at hb hs
  have h0 : w.cell? ⟨g, 0, none⟩ = some (.slice (some ⟨g2, 0, none⟩) n c) := by simpa using hb.cell 0
  obtain ⟨_, _, hlc, hcm⟩ := own_lt ho
  rw [List.length_map, hn] at hlc
  have hne := ho.ne hb (by decide) g2 rfl
  obtain ⟨cur, hcur, hcl, hcm2, hct⟩ : ∃ cur : Array Value, w.heap[g2]? = some (.cells cur 44 (0, 0)) ∧ cur.size = c ∧ c ≤ maxLen ∧ cur.toList.take n = l.map (Value.int .u32) := by
    rcases ho.2 with ⟨h2, _⟩ | ⟨g3, cap, cur, hv, _, hg, h1, h2, h3, h4⟩
    · cases h2
    · injection hv with hv _ hc
      injection hv with hv
      injection hv with hv
      subst hc
      subst hv
      rw [List.length_map, hn, Nat.mul_one] at h4
      exact ⟨cur, hg, by simpa using h3, h2, h4⟩
  have hwi : wiB n a m = 0 := by
    unfold wiB inB
    rw [if_pos]
    simp
    omega
  have HY := Lib.hid hy
  have HN := Lib.hid hn
  have HB := Lib.hid hb
  have HR := Lib.hid hr
  have HCT := Lib.hid hct
  have HCL := Lib.hid hcl
  have HCM := Lib.hid hcm2
  have HCU := Lib.hid hcur
  have HMN := Lib.hid hm
  have HNE := Lib.hid hne
  clear hb hr ho hct hcl hcm2 hcur hy hn hne
  go_enter Try.func20, Try.ntmps20
  go_wp2_with fail
  refine (within_any g _ n c _ _ hs _ h0).mono ?_
  rintro e w1 ⟨rfl, s1⟩
  rw [hwi]
  have h1 := s1.cell h0
  have f0 : (0 : Int) ≤ a := by omega
  have f1 : (a : Int) ≤ n := by omega
  have f2 : a ≤ n := by omega
  have f4 : (n : Int) ≤ c := by omega
  have f5 : ¬ c = a := by omega
  have f6 : ¬ n = a := by omega
  have f7 : (a : Int) ≤ c := by omega
  have hcur1 : w1.heap[g2]? = some (.cells cur.toList.toArray 44 (0, 0)) := (s1.block g2 (Blk.lt (t := 44) HCU.out) id).trans HCU.out
  have HC1 := Lib.hid hcur1
  have HS1 := Lib.hid s1
  clear h0 hcur1 hwi s1 hm
  obtain ⟨cb, co, hCA, _⟩ := (HR.out.same HS1.out).at_ (k := 0) (by have := HY.out; rw [List.length_map]; omega)
  have hsrc : ∀ j v, (ys.map (Value.int .u32))[j]? = some v → w1.cell? ((⟨cb, co, none⟩ : Addr).add j) = some v := by
    intro j v hj
    obtain ⟨b', o', hA', hc⟩ := (HR.out.same HS1.out) j v hj
    rw [hCA] at hA'
    injection hA' with hA'
    injection hA' with e1 e2
    subst e1
    subst e2
    rw [Fo.add_plain]
    exact hc
  have HSR := Lib.hid hsrc
  clear hsrc
  subst hCA
  go_wp2_with (with_reducible refine wpList_copy_own rfl (.tmp 22) (.tmp 23) 39 39 rfl 44 Try.underlying39 u32_one g2 a (n - a) (c - a) ⟨cb, co, none⟩ m d rfl rfl cur 44 HC1.out (ys.map (Value.int .u32)) ?c1 HSR.out ?c3 (words_one _) ?_)
  case c1 =>
    have := HY.out
    have := HMN.out
    rw [List.length_map]
    show _ = min m (n - a)
    omega
  case c3 =>
    have h1 := HY.out
    have h2 := HMN.out
    have h3 := HCL.out
    rw [List.length_map]
    omega
  have C2 : Chg (fun i => i = g2) w1 (w1.setRow g2 (cur.toList.take a ++ (ys.map (Value.int .u32) ++ cur.toList.drop (a + ys.length))).toArray) := chg_setRow (Chg.refl (fun i => i = g2) w1) (.inl rfl) _
  have HC2 := Lib.hid C2
  have HH := Lib.hid (setRow_heap w1 g2 cur (cur.toList.take a ++ (ys.map (Value.int .u32) ++ cur.toList.drop (a + ys.length))).toArray 44 (0, 0) HC1.out)
  have HB2 := Lib.hid ((HB.out.same HS1.out).chg C2 (fun h => HNE.out h.symm))
  clear C2
  generalize w1.setRow g2 (cur.toList.take a ++ (ys.map (Value.int .u32) ++ cur.toList.drop (a + ys.length))).toArray = w2 at *
  go_wp2
  go_ret
  have hy := HY.out
  have hn := HN.out
  have hm := HMN.out
  have hlen : (layA l a ys).length = n := by unfold layA; rw [List.length_append, List.length_append, List.length_take, List.length_drop]; omega
  refine ⟨rfl, ⟨r1, by rw [hlen]; omega, g2, c, by rw [hlen]; exact HB2.out, ⟨by rw [Nat.mul_one], .inr ⟨g2, c, _, by rw [List.length_map], Nat.zero_le _, HH.out, by rw [List.length_map, hlen]; omega, HCM.out, ?_, ?_⟩⟩, r2⟩, (HS1.out.chg R).trans (HC2.out.weak fun i _ hi => by have h : i = g2 := hi; rw [h]; exact r2)⟩
  · have h3 := HCL.out
    simp only [List.size_toArray, List.length_append, List.length_take, List.length_drop, List.length_map, Array.length_toList, Nat.mul_one]
    omega
  · have hct := HCT.out
    have e1 : layA l a ys = l.take a ++ (ys ++ l.drop (a + ys.length)) := rfl
    have h3 := HCL.out
    rw [List.length_map, hlen, Nat.mul_one, e1, List.map_append, List.map_append, List.map_take, List.map_drop, ← hct]
    simp only [List.length_map]
    have e2 : (cur.toList.take n).take a = cur.toList.take a := by rw [List.take_take, Nat.min_eq_left (by omega)]
    have e3 : (cur.toList.take n).drop (a + ys.length) = (cur.toList.drop (a + ys.length)).take (n - (a + ys.length)) := by rw [List.drop_take]
    have la : (cur.toList.take a).length = a := by rw [List.length_take, Array.length_toList]; omega
    rw [e2, e3, List.take_append, la, List.take_of_length_le (l := cur.toList.take a) (by omega), List.take_append, List.length_map, List.take_of_length_le (l := ys.map (Value.int .u32)) (by rw [List.length_map]; omega)]
    congr 3
    omega


theorem mem_weak2 {R R' : Nat → Prop} {w : World} {g : Nat} {l : List Int} {s : Int} (h : Mem w R g l s) (hR : ∀ i, R i → R' i) : Mem w R' g l s := by
  obtain ⟨h1, h2, g2, c, hb, ho, hr⟩ := h
  exact ⟨hR _ h1, h2, g2, c, hb, ho, hR _ hr⟩
end Go.Proofs.Ytaclphhbdfoaeaa.Mm
namespace Go.Proofs.Ytaclphhbdfoaeaa.Ly
open Go.ChangeShapes Go.WideShapes Go.ChangeAt Go.RowKit Ws
theorem siz_pos {k wd sl cp sa : Int} {il rl : Nat} (hr : Fc.rightF k wd sl cp sa il rl = true) : 1 ≤ Fc.sizeF k wd sl cp sa il rl := by
  have hk : k = 1 ∨ k = 2 ∨ k = 3 ∨ k = 4 ∨ k = 5 ∨ k = 6 := by
    by_cases h : k < 1 ∨ 6 < k
    · rw [Fc.right_none wd sl cp sa il rl h] at hr
      cases hr
    · omega
  rcases hk with rfl | rfl | rfl | rfl | rfl | rfl
  · rw [Fc.right_1] at hr
    rw [Fc.size_1, if_pos hr]
    have hq := of_decide_eq_true hr
    omega
  · rw [Fc.right_2] at hr
    rw [Fc.size_2, if_pos hr]
    have hq := of_decide_eq_true hr
    have hp := prod_bd (a := (rl : Int) + 2) (b := wd) (p := 6) (q := 8) (by omega) (by omega) (by omega) (by omega) (by omega)
    omega
  · rw [Fc.right_3] at hr
    rw [Fc.size_3, if_pos hr]
    have hq := of_decide_eq_true hr
    omega
  · rw [Fc.right_4] at hr
    rw [Fc.size_4, if_pos hr]
    have hq := of_decide_eq_true hr
    have hp := prod_bd (a := sl) (b := wd) (p := 16) (q := 8) (by omega) (by omega) (by omega) (by omega) (by omega)
    omega
  · rw [Fc.right_5] at hr
    rw [Fc.size_5, if_pos hr]
    have hq := of_decide_eq_true hr
    have hp := prod_bd (a := sl) (b := wd) (p := 16) (q := 8) (by omega) (by omega) (by omega) (by omega) (by omega)
    omega
  · rw [Fc.right_6] at hr
    rw [Fc.size_6, if_pos hr]
    have hq := Ff.HQ hr
    have hp := prod_bd (a := sl) (b := wd) (p := 16) (q := 8) (by omega) (by omega) (by omega) (by omega) (by omega)
    omega
/-- what a memory of N words holds when the words of some objects were laid from T on, one behind the other -/
def memK (N T : Nat) (ws : List Int) : List Int := List.replicate T 0 ++ (ws ++ List.replicate (N - T - ws.length) 0)
theorem memK_nil {N T : Nat} (h : T ≤ N) : memK N T [] = List.replicate N 0 := by
  unfold memK
  rw [List.nil_append, List.replicate_append_replicate]
  congr 1
  simp
  omega
theorem memK_len {N T : Nat} {ws : List Int} (h : T + ws.length ≤ N) : (memK N T ws).length = N := by
  unfold memK
  simp
  omega
theorem memK_next {N T a : Nat} {ws ys : List Int} (ha : a = T + ws.length) (h : T + ws.length + ys.length ≤ N) : Mm.layA (memK N T ws) a ys = memK N T (ws ++ ys) := by
  unfold Mm.layA memK
  have h1 : (List.replicate T (0 : Int) ++ (ws ++ List.replicate (N - T - ws.length) 0)).take a = List.replicate T 0 ++ ws := by
    rw [← List.append_assoc, List.take_left' (by simp; omega)]
  have h2 : (List.replicate T (0 : Int) ++ (ws ++ List.replicate (N - T - ws.length) 0)).drop (a + ys.length) = List.replicate (N - T - (ws ++ ys).length) 0 := by
    rw [← List.append_assoc, List.drop_append, List.drop_eq_nil_of_le (by simp; omega), List.nil_append, List.drop_replicate]
    congr 1
    simp
    omega
  rw [h1, h2]
  simp [List.append_assoc]
theorem memK_full {N T : Nat} {ws : List Int} (h : T + ws.length = N) : memK N T ws = List.replicate T 0 ++ ws := by
  unfold memK
  rw [show N - T - ws.length = 0 by omega]
  simp
end Go.Proofs.Ytaclphhbdfoaeaa.Ly
end
