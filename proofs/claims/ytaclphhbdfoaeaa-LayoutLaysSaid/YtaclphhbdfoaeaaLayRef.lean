/-

  Where all of a system stands, by the document (coxswainref31.Of).
-/
import Derived.Test.YtaclphhbdfoaeaaLayOf2
import Derived.Test.YtaclphhbdfoaeaaLayBd
import Derived.Test.YtaclphhbdfoaeaaLaySame
import Derived.Test.YtaclphhbdfoaeaaLayPure
import Derived.Test.YtaclphhbdfoaeaaOperApp
set_option linter.unusedVariables false
set_option linter.unusedSimpArgs false
namespace Go.Proofs.Ytaclphhbdfoaeaa.Ly
open Go.ChangeShapes Go.WideShapes Go.ChangeAt Go.RowKit Ws

theorem chg_mono {S T : Nat → Prop} {a b : World} (h : Chg S a b) (k : ∀ i, S i → T i) : Chg T a b := ⟨h.1, h.2, h.3, h.4, fun i hi hn => h.5 i hi (fun hs => hn (k i hs))⟩
/-- between two rounds: the system's box, the result's, and what is being built -/
def RS (S : Array Value) (w : World) (v0 v1 : Value) (wx : World) : Prop := Same w wx ∧ Blk wx w.heap.size 25 S ∧ Blk wx (w.heap.size + 1) 30 #[.slice none 0 0, .slice none 0 0, .int .i64 0] ∧ Blk wx (w.heap.size + 1 + 1) 30 #[v0, v1, .int .i64 0]
theorem RS.chg {S : Array Value} {w wx wy : World} {v0 v1 : Value} {T : Nat → Prop} (h : RS S w v0 v1 wx) (s : Chg T wx wy) (hT : ∀ i, T i → w.heap.size + 1 + 1 + 1 ≤ i) : RS S w v0 v1 wy :=
  ⟨h.1.more s (fun i hi => by have := hT i hi; omega), h.2.1.chg s (fun hi => by have := hT _ hi; omega), h.2.2.1.chg s (fun hi => by have := hT _ hi; omega), h.2.2.2.chg s (fun hi => by have := hT _ hi; omega)⟩
theorem RS.same {S : Array Value} {w wx wy : World} {v0 v1 : Value} (h : RS S w v0 v1 wx) (s : Same wx wy) : RS S w v0 v1 wy := h.chg s (fun _ f => f.elim)
theorem RS.size {S : Array Value} {w wx : World} {v0 v1 : Value} (h : RS S w v0 v1 wx) : w.heap.size + 1 + 1 + 1 ≤ wx.heap.size := h.2.2.2.lt
theorem RS.put {S : Array Value} {w wx : World} {v0 v1 u0 u1 : Value} (h : RS S w v0 v1 wx) (k : Nat) (a : Value) (hu : (#[v0, v1, .int .i64 0] : Array Value).setIfInBounds k a = #[u0, u1, .int .i64 0]) : RS S w u0 u1 (wx.setCell ⟨w.heap.size + 1 + 1, k, none⟩ a) := by
  have hc : Chg (fun i => i = w.heap.size + 1 + 1) wx (wx.setCell ⟨w.heap.size + 1 + 1, k, none⟩ a) := Chg.set (S := fun i => i = w.heap.size + 1 + 1) (p := ⟨w.heap.size + 1 + 1, k, none⟩) (Chg.refl _ wx) (.inl rfl) a
  refine ⟨h.1.more hc (fun i hi => by have h1 : i = w.heap.size + 1 + 1 := hi; omega), h.2.1.chg hc (fun hi => by have h1 : w.heap.size = w.heap.size + 1 + 1 := hi; omega), h.2.2.1.chg hc (fun hi => by have h1 : w.heap.size + 1 = w.heap.size + 1 + 1 := hi; omega), ?_⟩
  have hb := h.2.2.2.put k a
  rw [hu] at hb
  exact hb
theorem RS.own {S : Array Value} {w wx : World} {v0 v1 : Value} (h : RS S w v0 v1 wx) : wx.cell? ⟨w.heap.size + 1 + 1, 0, none⟩ = some v0 ∧ wx.cell? ⟨w.heap.size + 1 + 1, 1, none⟩ = some v1 ∧ wx.frozen? ⟨w.heap.size + 1 + 1, 0, none⟩ = false ∧ wx.frozen? ⟨w.heap.size + 1 + 1, 1, none⟩ = false := ⟨h.2.2.2.cell 0, h.2.2.2.cell 1, h.2.2.2.thaw 0, h.2.2.2.thaw 1⟩
theorem RS.res {S : Array Value} {w wx : World} {v0 v1 : Value} (h : RS S w v0 v1 wx) : wx.cell? ⟨w.heap.size + 1, 0, none⟩ = some (.slice none 0 0) ∧ wx.cell? ⟨w.heap.size + 1, 1, none⟩ = some (.slice none 0 0) ∧ wx.cell? ⟨w.heap.size + 1, 2, none⟩ = some (.int .i64 0) ∧ wx.frozen? ⟨w.heap.size + 1, 0, none⟩ = false ∧ wx.frozen? ⟨w.heap.size + 1, 1, none⟩ = false ∧ wx.frozen? ⟨w.heap.size + 1, 2, none⟩ = false := ⟨h.2.2.1.cell 0, h.2.2.1.cell 1, h.2.2.1.cell 2, h.2.2.1.thaw 0, h.2.2.1.thaw 1, h.2.2.1.thaw 2⟩
theorem ownK_keep {S : Nat → Prop} {w w' : World} {B : Nat} {e : TypeId} {s : Nat} {A : Option Addr} {n c : Nat} {l : List Value} (h : OwnK w B e s A n c l) (hc : Chg S w w') (hn : ∀ i, S i → i < B) : OwnK w' B e s A n c l := by
  obtain ⟨h1, h2⟩ := h
  refine ⟨h1, ?_⟩
  rcases h2 with h2 | ⟨g, cap, cur, hv, hb, hg, rest⟩
  · exact .inl h2
  · exact .inr ⟨g, cap, cur, hv, hb, (hc.block g (Blk.lt (t := e) (cs := cur) hg) (fun hi => by have := hn g hi; omega)).trans hg, rest⟩
theorem ownK_lt {w : World} {B : Nat} {e : TypeId} {s : Nat} {A : Option Addr} {n c : Nat} {l : List Value} (h : OwnK w B e s A n c l) {g : Nat} (hA : A = some ⟨g, 0, none⟩) : g < w.heap.size := by
  subst hA
  rcases h.2 with ⟨hv, _⟩ | ⟨g2, cap, cur, hv, _, hg, _⟩
  · cases hv
  · injection hv with hv
    injection hv with hv
    injection hv with hv
    subst hv
    exact Blk.lt (t := e) (cs := cur) hg
theorem sum_bd {K : Int} : ∀ (l : List Int), (∀ x ∈ l, 0 ≤ x ∧ x ≤ K) → 0 ≤ sumL l ∧ sumL l ≤ K * l.length
  | [], _ => by simp [sumL]
  | x :: l, h => by
    have h1 := h x (by simp)
    have h2 := sum_bd l (fun y hy => h y (by simp [hy]))
    have e : sumL (x :: l) = x + sumL l := rfl
    have e2 : K * ((x :: l).length : Int) = K * l.length + K := by rw [List.length_cons, Int.natCast_add, Int.mul_add, Int.natCast_one, Int.mul_one]
    rw [e, e2]
    omega
/-- what was built of the tasks -/
def tR (ts : List Tk.Task) (i : Nat) : List Value := rC ((cutL (tL ts)).take i)
theorem tR_next {ts : List Tk.Task} {i : Nat} (h : i < ts.length) : tR ts (i + 1) = tR ts i ++ [.int .i64 (sumL ((tL ts).take i)), .int .i64 (Tk.at_ ts i).own] := by
  have h1 : (tL ts)[i]? = some (Tk.at_ ts i).own := by
    unfold tL
    rw [List.getElem?_map, Tk.at_get h]
    rfl
  unfold tR
  rw [List.take_add_one, cut_at h1, rC_app]
  rfl
theorem lens_bad {ts : List Tk.Task} {os : List Objt} {i : Nat} (h : i < ts.length) (ho : ownOk (Tk.at_ ts i) = false) : lensF ts os = none := by
  unfold lensF
  rw [if_neg]
  rw [all_no (Tk.at_get h) ho]
  simp
theorem sum_own {ts : List Tk.Task} {i : Nat} (h : i < ts.length) : sumL ((tL ts).take (i + 1)) = sumL ((tL ts).take i) + (Tk.at_ ts i).own :=
  sum_next (by unfold tL; rw [List.getElem?_map, Tk.at_get h]; rfl)
theorem own_sum {ts : List Tk.Task} {i : Nat} (hi : i ≤ ts.length) (hn : ts.length ≤ 60) (h : ∀ j, j < i → ownOk (Tk.at_ ts j) = true) : 0 ≤ sumL ((tL ts).take i) ∧ sumL ((tL ts).take i) ≤ 3840 := by
  have := sum_bd (K := 64) ((tL ts).take i) (fun x hx => by
    obtain ⟨j, hj, rfl⟩ := List.getElem_of_mem hx
    rw [List.length_take] at hj
    have hj2 : j < ts.length := by omega
    have e : ((tL ts).take i)[j]'(by rw [List.length_take]; exact hj) = (Tk.at_ ts j).own := by
      rw [List.getElem_take]
      unfold tL Tk.at_
      rw [List.getElem_map, List.getElem?_eq_getElem hj2]
      rfl
    rw [e]
    have := of_decide_eq_true (h j (by omega))
    omega)
  rw [List.length_take] at this
  have hl : (tL ts).length = ts.length := by unfold tL; rw [List.length_map]
  omega
theorem cutG_app : ∀ (l m : List Int) (a : Int), cutG a (l ++ m) = cutG a l ++ cutG (a + sumL l) m
  | [], m, a => by simp [cutG, sumL]
  | x :: l, m, a => by
    have e : a + x + sumL l = a + sumL (x :: l) := by show a + x + sumL l = a + (x + sumL l); omega
    simp only [List.cons_append, cutG]
    rw [cutG_app l m (a + x), e]
theorem cut_take {ts : List Tk.Task} {os : List Objt} : (cutL (tL ts ++ oL os)).take ts.length = cutL (tL ts) := by
  unfold cutL
  rw [cutG_app, List.take_append_of_le_length (by rw [cutG_len]; simp [tL]), List.take_of_length_le (by rw [cutG_len]; simp [tL])]
theorem tR_all (ts : List Tk.Task) (os : List Objt) : tR ts ts.length = rC ((cutL (tL ts ++ oL os)).take ts.length) := by
  rw [cut_take]
  unfold tR
  rw [List.take_of_length_le (by rw [cut_len]; simp [tL])]
/-- what was built of the objects -/
def oR (ts : List Tk.Task) (os : List Objt) (j : Nat) : List Value := rC (((cutL (tL ts ++ oL os)).drop ts.length).take j)
theorem oR_next (ts : List Tk.Task) {os : List Objt} {j : Nat} (h : j < os.length) : oR ts os (j + 1) = oR ts os j ++ [.int .i64 (sumL (tL ts ++ (oL os).take j)), .int .i64 (siz (oat os j))] := by
  have hlen : (tL ts).length = ts.length := by simp [tL]
  have h1 : (tL ts ++ oL os)[ts.length + j]? = some (siz (oat os j)) := by
    rw [List.getElem?_append_right (by omega), hlen, Nat.add_sub_cancel_left]
    unfold oL
    rw [List.getElem?_map, oat_get h]
    rfl
  have h2 := cut_at h1
  have h3 : (tL ts ++ oL os).take (ts.length + j) = tL ts ++ (oL os).take j := by
    rw [List.take_append, hlen, Nat.add_sub_cancel_left, List.take_of_length_le (by omega)]
  rw [h3] at h2
  unfold oR
  rw [List.take_add_one, List.getElem?_drop, h2, rC_app]
  rfl
theorem oR_all (ts : List Tk.Task) (os : List Objt) : oR ts os os.length = rC ((cutL (tL ts ++ oL os)).drop ts.length) := by
  unfold oR
  rw [List.take_of_length_le (by rw [List.length_drop, cut_len]; simp [tL, oL])]
theorem lens_obad (ts : List Tk.Task) {os : List Objt} {j : Nat} (h : j < os.length) (ho : shp (oat os j) = false) : lensF ts os = none := by
  unfold lensF
  rw [if_neg]
  rw [all_no (oat_get h) ho]
  simp
theorem sum_obj (ts : List Tk.Task) {os : List Objt} {j : Nat} (h : j < os.length) : sumL (tL ts ++ (oL os).take (j + 1)) = sumL (tL ts ++ (oL os).take j) + siz (oat os j) := by
  rw [sum_app, sum_app, sum_next (show (oL os)[j]? = some (siz (oat os j)) by unfold oL; rw [List.getElem?_map, oat_get h]; rfl)]
  omega
theorem obj_sum {ts : List Tk.Task} (os : List Objt) (j : Nat) (hn : ts.length ≤ 60) (hm : os.length ≤ 60) (h : ∀ i, i < ts.length → ownOk (Tk.at_ ts i) = true) : 0 ≤ sumL (tL ts ++ (oL os).take j) ∧ sumL (tL ts ++ (oL os).take j) ≤ 60003840 := by
  have h1 := own_sum (Nat.le_refl ts.length) hn h
  rw [List.take_of_length_le (by simp [tL])] at h1
  have h2 := sum_bd (K := 1000000) ((oL os).take j) (fun x hx => by
    obtain ⟨o, _, rfl⟩ := List.mem_map.1 (List.mem_of_mem_take hx)
    exact siz_bd _ _ _ _ _ _ _)
  have h3 : ((oL os).take j).length ≤ 60 := by rw [List.length_take]; simp [oL]; omega
  rw [sum_app]
  omega
set_option maxRecDepth 100000 in
set_option maxHeartbeats 4000000 in
theorem rof_any (A B : Option Addr) (n c m d : Nat) (ts : List Tk.Task) (os : List Objt) (w : World) (hn : ts.length = n) (hm : os.length = m) (hn6 : n ≤ 60) (hm6 : m ≤ 60) (ht : Tk.Tasks w A ts) (ho : Objs w B os) :
    Calls Try.prog 8 #[.agg #[.slice A n c, .slice B m d]] w (OfP w n m (lensF ts os)) := by
  obtain ⟨i0, hi, hz0, hz1, hz2⟩ := info_parts region_info
  obtain ⟨R, hR⟩ : ∃ R, R = lensF ts os := ⟨_, rfl⟩
  rw [← hR]
  have HRR := Lib.hid hR
  clear hR
  have hb0 := Blk.new w 25 #[.slice A n c, .slice B m d]
  have a0 : (w.alloc (.cells #[.slice A n c, .slice B m d] 25)).cell? ⟨w.heap.size, 0, none⟩ = some (.slice A n c) := hb0.cell 0
  have hs1 := (Same.refl (w.alloc (.cells #[.slice A n c, .slice B m d] 25))).alloc (.cells #[.slice none 0 0, .slice none 0 0, .int .i64 0] 30)
  have hb1 := Blk.new (w.alloc (.cells #[.slice A n c, .slice B m d] 25)) 30 #[.slice none 0 0, .slice none 0 0, .int .i64 0]
  rw [World.size_alloc] at hb1
  have hs2 := (Same.refl ((w.alloc (.cells #[.slice A n c, .slice B m d] 25)).alloc (.cells #[.slice none 0 0, .slice none 0 0, .int .i64 0] 30))).alloc (.cells #[.slice none 0 0, .slice none 0 0, .int .i64 0] 30)
  have hb2 := Blk.new ((w.alloc (.cells #[.slice A n c, .slice B m d] 25)).alloc (.cells #[.slice none 0 0, .slice none 0 0, .int .i64 0] 30)) 30 #[.slice none 0 0, .slice none 0 0, .int .i64 0]
  rw [World.size_alloc, World.size_alloc] at hb2
  have RS0 := Lib.hid (show RS #[.slice A n c, .slice B m d] w (.slice none 0 0) (.slice none 0 0) (((w.alloc (.cells #[.slice A n c, .slice B m d] 25)).alloc (.cells #[.slice none 0 0, .slice none 0 0, .int .i64 0] 30)).alloc (.cells #[.slice none 0 0, .slice none 0 0, .int .i64 0] 30)) from ⟨((Same.refl w).alloc _).trans (hs1.trans hs2), (hb0.same hs1).same hs2, hb1.same hs2, hb2⟩)
  have a0' := ((hb0.same hs1).same hs2).cell 0
  simp only [List.getElem?_toArray, List.getElem?_cons_zero, List.getElem?_cons_succ] at a0'
  have HN := Lib.hid hn
  have HM := Lib.hid hm
  have HT := Lib.hid ht
  have HO := Lib.hid ho
  clear hb0 hs1 hb1 hs2 hb2 hn hm ht ho
  go_enter Try.func8, Try.ntmps8
  go_wp2_with fail
  clear a0 a0'
  go_loopg [14, 5] n (fun gk iv av wx => ∃ (i : Nat) (A' : Option Addr) (c' : Nat), i + gk = n ∧ iv = .int .i64 i ∧ av = .int .i64 (sumL ((tL ts).take i)) ∧ OwnK wx (w.heap.size + 1 + 1 + 1) 53 2 A' i c' (tR ts i) ∧ (∀ j, j < i → ownOk (Tk.at_ ts j) = true) ∧ RS #[.slice A n c, .slice B m d] w (.slice A' i c') (.slice none 0 0) wx)
  case atStart => exact ⟨0, none, 0, by omega, rfl, rfl, OwnK.none _ _ _ _, fun j hj => by omega, RS0.out⟩
  case round =>
    obtain ⟨i, A', c', hik, rfl, rfl, hown, hall, hrs⟩ := hrel
    have HOW := Lib.hid hown
    have HALL := Lib.hid hall
    have HRS := Lib.hid hrs
    clear hown hall hrs RS0
    cases gk with
    | zero =>
      obtain rfl : n = i := by omega
      have hge : ¬ (n : Int) < (n : Int) := by omega
      have hsn : (tL ts).take n = tL ts := List.take_of_length_le (by have := HN.out; simp [tL]; omega)
      have HTA := Lib.hid (show tR ts n = rC ((cutL (tL ts ++ oL os)).take n) by rw [← HN.out]; exact tR_all ts os)
      have HTS := Lib.hid (show ts.all ownOk = true by
        rw [List.all_eq_true]
        intro x hx
        obtain ⟨j, hj, hjx⟩ := List.getElem_of_mem hx
        have := HALL.out j (by have := HN.out; omega)
        unfold Tk.at_ at this
        rw [List.getElem?_eq_getElem hj] at this
        rw [← hjx]
        exact this)
      have OS := Lib.hid (fun j => obj_sum (ts := ts) os j (by have := HN.out; omega) (by have := HM.out; omega) (fun q hq => HALL.out q (by have := HN.out; omega)))
      have a1 : wr.cell? ⟨w.heap.size, 1, none⟩ = some (.slice B m d) := HRS.out.2.1.cell 1
      obtain ⟨H2, hH2⟩ : ∃ H2, H2 = wr.heap.size := ⟨_, rfl⟩
      have hH3 : w.heap.size + 1 + 1 + 1 ≤ H2 := by rw [hH2]; exact HRS.out.size
      have HLA := Lib.hid (fun b o (h : A' = some ⟨b, o, none⟩) => show w.heap.size + 1 + 1 + 1 ≤ b ∧ b < H2 by
        rcases HOW.out.2 with ⟨hv, _⟩ | ⟨g2, cap, cur, hv, hb2, hg, _⟩
        · rw [h] at hv
          cases hv
        · rw [h] at hv
          injection hv with hv
          injection hv with hv
          injection hv with hv
          subst hv
          exact ⟨hb2, by rw [hH2]; exact Blk.lt (t := 53) (cs := cur) hg⟩)
      have HROW := Lib.hid HOW.out.row
      have HH2 := Lib.hid (show H2 ≤ wr.heap.size by omega)
      have HH3 := Lib.hid hH3
      clear hH2 hH3
      go_wp2_with fail
      clear a1
      go_loopg [44, 5] m (fun gj jv av wy => ∃ (j : Nat) (B' : Option Addr) (c2 : Nat), j + gj = m ∧ jv = .int .i64 j ∧ av = .int .i64 (sumL (tL ts ++ (oL os).take j)) ∧ OwnK wy H2 53 2 B' j c2 (oR ts os j) ∧ (∀ q, q < j → shp (oat os q) = true) ∧ Row wy A' (tR ts n) ∧ H2 ≤ wy.heap.size ∧ RS #[.slice A n c, .slice B m d] w (.slice A' n c') (.slice B' j c2) wy)
      case atStart => exact ⟨0, none, 0, by omega, rfl, by rw [List.take_zero, List.append_nil, ← hsn], OwnK.none _ _ _ _, fun j hj => by omega, HROW.out, HH2.out, HRS.out⟩
      case round =>
        obtain ⟨j, B', c2, hj, rfl, rfl, hown, hshp, hrow, hsz, hrs⟩ := hrel
        have HOW2 := Lib.hid hown
        have HSHP := Lib.hid hshp
        have HRW := Lib.hid hrow
        have HSZ := Lib.hid hsz
        have HRS2 := Lib.hid hrs
        clear hown hshp hrow hsz hrs hsn
        cases gk with
        | zero =>
          obtain rfl : m = j := by omega
          have hge2 : ¬ (m : Int) < (m : Int) := by omega
          have hall : os.all shp = true := by
            rw [List.all_eq_true]
            intro x hx
            obtain ⟨j, hj, hjx⟩ := List.getElem_of_mem hx
            have := HSHP.out j (by have := HM.out; omega)
            unfold oat at this
            rw [List.getElem?_eq_getElem hj] at this
            rw [← hjx]
            exact this
          have hR : R = some (tL ts ++ oL os) := by
            rw [HRR.out]
            unfold lensF
            rw [if_pos (by rw [HTS.out, hall]; rfl)]
          subst hR
          have hom : (oL os).take m = oL os := List.take_of_length_le (by have := HM.out; simp [oL]; omega)
          rw [hom]
          have HRA := Lib.hid (show Row wr A' (rC ((cutL (tL ts ++ oL os)).take n)) by rw [← HTA.out]; exact HRW.out)
          have HRB := Lib.hid (show Row wr B' (rC ((cutL (tL ts ++ oL os)).drop n)) by have h := HOW2.out.row; rw [← HM.out, oR_all, HN.out] at h; exact h)
          have HFB := Lib.hid (fun g (h : B' = some ⟨g, 0, none⟩) => ownK_fence HOW2.out h)
          have HFB2 := Lib.hid (fun b o (h : B' = some ⟨b, o, none⟩) => show H2 ≤ b by
            rcases HOW2.out.2 with ⟨hv, _⟩ | ⟨g2, cap, cur, hv, hb2, hg, _⟩
            · rw [h] at hv
              cases hv
            · rw [h] at hv
              injection hv with hv
              injection hv with hv
              injection hv with hv
              subst hv
              exact hb2)
          clear hall hom
          by_cases hbig : 4096 < sumL (tL ts ++ oL os)
          · generalize tL ts ++ oL os = L at *
            obtain ⟨r0, r1, r2, f0, f1, f2⟩ := HRS2.out.res
            go_wp2_with fail
            refine bodyPost_ret (v := .tuple #[.agg #[.slice none 0 0, .slice none 0 0, .int .i64 0], .int .i64 6]) (Fc.results_cell2 Try.results8 _ _ (w.heap.size + 1) 30 #[.slice none 0 0, .slice none 0 0, .int .i64 0] (0, 0) _ rfl (three_blk HRS2.out.2.2.1 _ _ _) Try.underlying30 rfl layout_size) rfl ?_
            exact of_room (by omega) (three_same HRS2.out.1 (by omega) _ _ _)
          · generalize tL ts ++ oL os = L at *
            obtain ⟨e0, e1, g0, g1⟩ := HRS2.out.own
            have e2 : wr.cell? ⟨w.heap.size + 1 + 1, 2, none⟩ = some (.int .i64 0) := HRS2.out.2.2.2.cell 2
            have g2 : wr.frozen? ⟨w.heap.size + 1 + 1, 2, none⟩ = false := HRS2.out.2.2.2.thaw 2
            obtain ⟨wf, hwf⟩ : ∃ wf, wf = wr.setCell ⟨w.heap.size + 1 + 1, 2, none⟩ (.int .i64 (sumL L)) := ⟨_, rfl⟩
            have hcf : Chg (fun i => i = w.heap.size + 1 + 1) wr wf := by rw [hwf]; exact Chg.set (S := fun i => i = w.heap.size + 1 + 1) (p := ⟨w.heap.size + 1 + 1, 2, none⟩) (Chg.refl _ wr) (.inl rfl) _
            have hbf : Blk wf (w.heap.size + 1 + 1) 30 #[.slice A' n c', .slice B' m c2, .int .i64 (sumL L)] := by rw [hwf]; exact HRS2.out.2.2.2.put 2 _
            have hbr : Blk wf (w.heap.size + 1) 30 #[.slice none 0 0, .slice none 0 0, .int .i64 0] := HRS2.out.2.2.1.chg hcf (fun h => by have h1 : w.heap.size + 1 = w.heap.size + 1 + 1 := h; omega)
            obtain ⟨x0, x1, x2⟩ := layout_cells hbf
            obtain ⟨y0, y1, y2⟩ := layout_cells hbr
            have k0 := hbr.thaw 0
            have k1 := hbr.thaw 1
            have k2 := hbr.thaw 2
            have HSF := Lib.hid (HRS2.out.1.more hcf (fun i hi => by have h1 : i = w.heap.size + 1 + 1 := hi; omega))
            have HBR := Lib.hid hbr
            have HCF := Lib.hid hcf
            rw [hwf] at x0 x1 x2 y0 y1 y2 k0 k1 k2
            have HWF := Lib.hid hwf
            clear hwf hcf hbf hbr
            go_wp2_with fail
            rw [← HWF.out]
            have hch := three_chg wf (w.heap.size + 1) (.slice A' n c') (.slice B' m c2) (.int .i64 (sumL L))
            refine bodyPost_ret (v := .tuple #[.agg #[.slice A' n c', .slice B' m c2, .int .i64 (sumL L)], .int .i64 0]) (Fc.results_cell2 Try.results8 _ _ (w.heap.size + 1) 30 #[.slice A' n c', .slice B' m c2, .int .i64 (sumL L)] (0, 0) _ rfl (three_blk HBR.out _ _ _) Try.underlying30 rfl layout_size) rfl ?_
            have hra := (HRA.out.chg HCF.out (fun b o h _ hb => by have h1 : b = w.heap.size + 1 + 1 := hb; have := (HLA.out b o h).1; omega)).chg hch (fun b o h _ hb => by have h1 : b = w.heap.size + 1 := hb; have := (HLA.out b o h).1; omega)
            have hrb := (HRB.out.chg HCF.out (fun b o h _ hb => by have h1 : b = w.heap.size + 1 + 1 := hb; have := HFB2.out b o h; have := HH3.out; omega)).chg hch (fun b o h _ hb => by have h1 : b = w.heap.size + 1 := hb; have := HFB2.out b o h; have := HH3.out; omega)
            exact of_yes (by omega) rfl rfl (regs_of hra) (regs_of hrb) (three_same HSF.out (by omega) _ _ _)
        | succ GJ =>
          have hlt2 : (j : Int) < m := by omega
          have j0 : (0 : Int) ≤ j := by omega
          have hjl : j < os.length := by have := HM.out; omega
          have SB := OS.out j
          have SN := Lib.hid (sum_obj ts hjl)
          have OR := Lib.hid (oR_next ts hjl)
          have LBO := Lib.hid (fun h => lens_obad ts hjl h)
          obtain ⟨hsa, b, o, hB, d0, d1, d2, d3, d4, d5, d6, d7⟩ := (HO.out.same HRS2.out.1).at_ hjl
          have HSX := Lib.hid (show shp (oat os j) = Fc.rightF (oat os j).k (oat os j).wd (oat os j).sl (oat os j).cp (oat os j).sa (oat os j).il (oat os j).rl ∧ siz (oat os j) = Fc.sizeF (oat os j).k (oat os j).wd (oat os j).sl (oat os j).cp (oat os j).sa (oat os j).il (oat os j).rl ∧ (0 ≤ siz (oat os j) ∧ siz (oat os j) ≤ 1000000) from ⟨rfl, rfl, siz_bd _ _ _ _ _ _ _⟩)
          have HSPQ := Lib.hid (show ∀ q, q = j → shp (oat os q) = shp (oat os j) from fun q h => by rw [h])
          generalize shp (oat os j) = sp at *
          generalize siz (oat os j) = z at *
          generalize oat os j = x at *
          obtain ⟨k_, wd, sl, cp, sa, ia, il, ic, ow, ra, rl, rc⟩ := x
          simp only at hsa d0 d1 d2 d3 d4 d5 d6 d7 HSX
          subst hB
          obtain ⟨hsp, hzz, hzb⟩ := HSX.out
          have hs2 := (Same.refl wr).alloc (.cells #[.int .i64 k_, .int .i64 wd, .int .i64 sl, .int .i64 cp, .int .u32 sa, .slice ia il ic, .int .i64 ow, .slice ra rl rc] 47)
          have hb2 := Blk.new wr 47 #[.int .i64 k_, .int .i64 wd, .int .i64 sl, .int .i64 cp, .int .u32 sa, .slice ia il ic, .int .i64 ow, .slice ra rl rc]
          have HS2 := Lib.hid (HRS2.out.same hs2)
          have HB2 := Lib.hid hb2
          have HO2 := Lib.hid (ownK_keep (S := fun _ => False) HOW2.out hs2 (fun _ f => f.elim))
          have HW2 := Lib.hid (HRW.out.same hs2)
          have RR := Lib.hid (fun w' => Fc.rright_any k_ wd sl cp sa ow ia ra il ic rl rc w' hsa)
          have SZ := Lib.hid (fun w' => Fc.rsize_any k_ wd sl cp sa ow ia ra il ic rl rc w' hsa)
          rw [← hsp] at RR
          rw [← hzz] at SZ
          have HZB := Lib.hid hzb
          have hsz2 := hs2.size
          have HGL := Lib.hid (fun g (h : B' = some ⟨g, 0, none⟩) => ownK_lt HOW2.out h)
          obtain ⟨z0, z1, z2, z3, z4, z5, z6, z7⟩ := (⟨hb2.cell 0, hb2.cell 1, hb2.cell 2, hb2.cell 3, hb2.cell 4, hb2.cell 5, hb2.cell 6, hb2.cell 7⟩ : _ ∧ _ ∧ _ ∧ _ ∧ _ ∧ _ ∧ _ ∧ _)
          simp only [List.getElem?_toArray, List.getElem?_cons_zero, List.getElem?_cons_succ] at z0 z1 z2 z3 z4 z5 z6 z7
          clear hsp hzz hzb hs2 hb2 hjl HSX
          cases sp with
          | false =>
            have hnone : R = none := HRR.out.trans (LBO.out rfl)
            subst hnone
            go_wp2_with fail
            refine (RR.out _).mono ?_
            rintro e w3 ⟨rfl, s3⟩
            have HS3 := Lib.hid (HS2.out.same s3)
            clear s3
            obtain ⟨r0, r1, r2, f0, f1, f2⟩ := HS3.out.res
            go_wp2_with fail
            refine bodyPost_ret (v := .tuple #[.agg #[.slice none 0 0, .slice none 0 0, .int .i64 0], .int .i64 1]) (Fc.results_cell2 Try.results8 _ _ (w.heap.size + 1) 30 #[.slice none 0 0, .slice none 0 0, .int .i64 0] (0, 0) _ rfl (three_blk HS3.out.2.2.1 _ _ _) Try.underlying30 rfl layout_size) rfl ?_
            exact of_none (three_same HS3.out.1 (by omega) _ _ _)
          | true =>
            go_wp2_with fail
            refine (RR.out _).mono ?_
            rintro e w3 ⟨rfl, s3⟩
            have HS3 := Lib.hid (HS2.out.same s3)
            have HO3 := Lib.hid (ownK_keep (S := fun _ => False) HO2.out s3 (fun _ f => f.elim))
            have HW3 := Lib.hid (HW2.out.same s3)
            have hsz3 := s3.size
            obtain ⟨gO, hgO⟩ : ∃ g, g = wr.heap.size := ⟨_, rfl⟩
            have hgO2 : w.heap.size + 1 + 1 + 1 ≤ gO := by rw [hgO]; exact HRS2.out.size
            have hgO3 : H2 ≤ gO := by rw [hgO]; exact HSZ.out
            have hgO4 : gO < w3.heap.size := by rw [hgO]; have h1 := World.size_alloc wr (.cells #[.int .i64 k_, .int .i64 wd, .int .i64 sl, .int .i64 cp, .int .u32 sa, .slice ia il ic, .int .i64 ow, .slice ra rl rc] 47); omega
            have hb3 := HB2.out.same s3
            rw [← hgO] at z0 z1 z2 z3 z4 z5 z6 z7 hb3 HGL
            have HB3 := Lib.hid hb3
            have SW := Lib.hid (fun w' (s : Chg (fun g => g ≠ gO) w3 w') => (show w'.cell? ⟨gO, 0, none⟩ = some (.int .i64 k_) ∧ w'.cell? ⟨gO, 1, none⟩ = some (.int .i64 wd) ∧ w'.cell? ⟨gO, 2, none⟩ = some (.int .i64 sl) ∧ w'.cell? ⟨gO, 3, none⟩ = some (.int .i64 cp) ∧ w'.cell? ⟨gO, 4, none⟩ = some (.int .u32 sa) ∧ w'.cell? ⟨gO, 5, none⟩ = some (.slice ia il ic) ∧ w'.cell? ⟨gO, 6, none⟩ = some (.int .i64 ow) ∧ w'.cell? ⟨gO, 7, none⟩ = some (.slice ra rl rc) from ⟨s.cell (hb3.cell 0) (fun h => h rfl), s.cell (hb3.cell 1) (fun h => h rfl), s.cell (hb3.cell 2) (fun h => h rfl), s.cell (hb3.cell 3) (fun h => h rfl), s.cell (hb3.cell 4) (fun h => h rfl), s.cell (hb3.cell 5) (fun h => h rfl), s.cell (hb3.cell 6) (fun h => h rfl), s.cell (hb3.cell 7) (fun h => h rfl)⟩))
            go_upto_region 16 with fail
            rw [← hgO]
            have HGO := Lib.hid hgO
            clear hgO hb3 z0 z1 z2 z3 z4 z5 z6 z7 s3 hsz2
            obtain ⟨e0, e1, g0, g1⟩ := HS3.out.own
            generalize sumL (tL ts ++ (oL os).take j) = at0 at *
            have SD := Lib.hid (SW.out _ (((Same.refl w3).drew).chg _))
            refine wp_region_held_drew (S := fun w' => w'.cell? ⟨gO, 0, none⟩ = some (.int .i64 k_) ∧ w'.cell? ⟨gO, 1, none⟩ = some (.int .i64 wd) ∧ w'.cell? ⟨gO, 2, none⟩ = some (.int .i64 sl) ∧ w'.cell? ⟨gO, 3, none⟩ = some (.int .i64 cp) ∧ w'.cell? ⟨gO, 4, none⟩ = some (.int .u32 sa) ∧ w'.cell? ⟨gO, 5, none⟩ = some (.slice ia il ic) ∧ w'.cell? ⟨gO, 6, none⟩ = some (.int .i64 ow) ∧ w'.cell? ⟨gO, 7, none⟩ = some (.slice ra rl rc)) (by kernel_rfl) ?_ (fun hH => ?_)
            · exact SD.out
            clear hH
            refine Ro.take_on (i := 0) (v := ?_) rfl (by kernel_rfl) (by kernel_rfl) (by kernel_rfl) (fun _ _ _ h => h) (by rfl) (SD.out) ?_ ?_
            rotate_left
            · intro wS hSw; (try dsimp only at hSw); go_simp; try with_reducible rfl
            try simp only [Act.put, List.setIfInBounds_toArray, List.set_cons_zero, List.set_cons_succ]
            refine Ro.take_on (i := 2) (v := ?_) rfl (by kernel_rfl) (by kernel_rfl) (by kernel_rfl) (fun _ _ _ h => h) (by rfl) (SD.out) ?_ ?_
            rotate_left
            · intro wS hSw; (try dsimp only at hSw); go_simp; try with_reducible rfl
            try simp only [Act.put, List.setIfInBounds_toArray, List.set_cons_zero, List.set_cons_succ]
            refine Ro.take_on (i := 3) (v := ?_) rfl (by kernel_rfl) (by kernel_rfl) (by kernel_rfl) (fun _ _ _ h => h) (by rfl) (SD.out) ?_ ?_
            rotate_left
            · intro wS hSw; (try dsimp only at hSw); go_simp; try with_reducible rfl
            try simp only [Act.put, List.setIfInBounds_toArray, List.set_cons_zero, List.set_cons_succ]
            refine Ra.two_on (i := 1) (j := 4) rfl rfl (by kernel_rfl) (by rfl) (by rfl) (fun K hK => ?_) (fun K hK => ?_)
            · go_simp
              refine hK.out _ _ (SD.out) (fun hNew => ?_)
              clear hK K hNew
              try simp only [Act.put, List.setIfInBounds_toArray, List.set_cons_zero, List.set_cons_succ]
              refine Ro.one_on (i := 4) rfl (by kernel_rfl) (by rfl) (fun K hK => ?_)
              go_simp
              go_at_call 23
              refine (SZ.out _).mono ?_
              rintro e w4 ⟨rfl, s4'⟩
              have s4 := (Same.refl w3).drew.trans s4'
              have HS4 := Lib.hid (HS3.out.same s4)
              have HO4 := Lib.hid (ownK_keep (S := fun _ => False) HO3.out s4 (fun _ f => f.elim))
              have HC4 := Lib.hid s4
              have hsz4 := s4.size
              have S4 := Lib.hid (SW.out _ (s4.chg _))
              clear s4 s4'
              refine hK.out _ _ (S4.out) (fun hNew => ?_)
              clear hK K hNew
              try simp only [Act.put, List.setIfInBounds_toArray, List.set_cons_zero, List.set_cons_succ]
              refine Ro.take_on (i := 5) (v := ?_) rfl (by kernel_rfl) (by kernel_rfl) (by kernel_rfl) (fun _ _ _ h => h) (by rfl) (S4.out) ?_ ?_
              rotate_left
              · intro wS hSw; (try dsimp only at hSw); go_simp; try with_reducible rfl
              try simp only [Act.put, List.setIfInBounds_toArray, List.set_cons_zero, List.set_cons_succ]
              refine Ro.one_on (i := 6) rfl (by kernel_rfl) (by rfl) (fun K hK => ?_)
              go_simp
              refine hK.out _ _ (SW.out _ ((HC4.out.trans ((Same.refl w4).alloc (.cells #[.int .i64 at0, .int .i64 z] 53))).chg _)) (fun hNew => ?_)
              clear hK K hNew
              try simp only [Act.put, List.setIfInBounds_toArray, List.set_cons_zero, List.set_cons_succ]
              have hs5 := (Same.refl w4).alloc (.cells #[.int .i64 at0, .int .i64 z] 53)
              have HO5 := Lib.hid (ownK_keep (S := fun _ => False) HO4.out hs5 (fun _ f => f.elim))
              have hrow5 := row_new w4 #[.int .i64 at0, .int .i64 z] 53
              have HROW5 := Lib.hid hrow5
              have HC5 := Lib.hid (HC4.out.trans hs5)
              have hsz5 := hs5.size
              clear hs5 hrow5
              refine Ro.one_on (i := 7) rfl (by kernel_rfl) (by rfl) (fun K hK => ?_)
              refine oper_app (.tmp 53) (.tmp 58) 28 rfl H2 53 i0 _ 2 16 Try.underlying28 hi hz0 hz1 hz2 rfl (by omega) B' j c2 (oR ts os j) rfl HO5.out (some ⟨w4.heap.size, 0, none⟩) 1 1 [.int .i64 at0, .int .i64 z] rfl rfl HROW5.out ?_ (by omega) (by omega) ?_ (j + 1) rfl ?_
              · intro u hu; simp only [List.mem_cons, List.not_mem_nil, or_false] at hu; rcases hu with rfl | rfl <;> rfl
              · omega
              intro A8 c8 w8 ho8 hc8
              have hgb : ∀ g, B' = some ⟨g, 0, none⟩ → g ≠ gO := fun g h he => by have := HGL.out g h; omega
              have HC8 := Lib.hid ((HC5.out.chg (fun g => g ≠ gO)).trans (chg_mono hc8 hgb))
              have HS8 := Lib.hid ((HS3.out.same HC5.out).chg hc8 (fun g hg => by have h1 := ownK_fence HO5.out hg; have := HH3.out; omega))
              have HW8 := Lib.hid ((HW3.out.same HC5.out).chg hc8 (fun bb oo h _ hb => by have h1 := ownK_fence HO5.out hb; have := (HLA.out bb oo h).2; omega))
              have hsz8 := hc8.size
              have HO8 := Lib.hid ho8
              clear ho8 hc8 hgb
              refine hK.out _ _ (SW.out _ HC8.out) (fun hNew => ?_)
              clear hK K hNew
              try simp only [Act.put, List.setIfInBounds_toArray, List.set_cons_zero, List.set_cons_succ]
              obtain ⟨e0, e1, g0, g1⟩ := HS8.out.own
              refine Ro.take_on (i := 8) (v := ?_) rfl (by kernel_rfl) (by kernel_rfl) (by kernel_rfl) (fun _ _ _ h => h) (by rfl) (SW.out _ HC8.out) ?_ ?_
              rotate_left
              · intro wS hSw; (try dsimp only at hSw); go_simp; try with_reducible rfl
              try simp only [Act.put, List.setIfInBounds_toArray, List.set_cons_zero, List.set_cons_succ]
              refine Ro.one_on (i := 9) rfl (by kernel_rfl) (by rfl) (fun K hK => ?_)
              go_simp
              refine hK.out _ _ (SW.out _ (HC8.out.trans (Chg.set (S := fun g => g ≠ gO) (p := ⟨w.heap.size + 1 + 1, 1, none⟩) (Chg.refl _ w8) (by simp only; omega) _))) (fun hNew => ?_)
              clear hK K hNew
              try simp only [Act.put, List.setIfInBounds_toArray, List.set_cons_zero, List.set_cons_succ]
              refine wpAnyH_done (by kernel_rfl) ?_ _
              have hst : Chg (fun i => i = w.heap.size + 1 + 1) w8 (w8.setCell ⟨w.heap.size + 1 + 1, 1, none⟩ (.slice A8 (j + 1) c8)) := Chg.set (S := fun i => i = w.heap.size + 1 + 1) (p := ⟨w.heap.size + 1 + 1, 1, none⟩) (Chg.refl _ w8) (.inl rfl) _
              have HS9 := Lib.hid (HS8.out.put 1 (.slice A8 (j + 1) c8) rfl)
              have HO9 := Lib.hid (ownK_keep HO8.out hst (fun i hi => by have h1 : i = w.heap.size + 1 + 1 := hi; have := HH3.out; omega))
              have HW9 := Lib.hid (HW8.out.chg hst (fun bb oo h _ hb => by have h1 : bb = w.heap.size + 1 + 1 := hb; have := (HLA.out bb oo h).1; omega))
              obtain ⟨z0, z1, z2, z3, z4, z5, z6, z7⟩ := SW.out _ (HC8.out.trans (chg_mono hst (fun i hi => by have h1 : i = w.heap.size + 1 + 1 := hi; omega)))
              have hsz9 := hst.size
              generalize w8.setCell ⟨w.heap.size + 1 + 1, 1, none⟩ (.slice A8 (j + 1) c8) = w9 at *
              clear hst e0 e1 g0 g1 HS8 HW8 HO8 HO5 HC5 HROW5
              have f1 : at0 + z ≤ 9223372036854775807 := by have := HZB.out; omega
              have f2 : -9223372036854775808 ≤ at0 + z := by have := HZB.out; omega
              go_wp2_with fail
              refine (SZ.out _).mono ?_
              rintro e w10 ⟨rfl, s10⟩
              have HS10 := Lib.hid (HS9.out.same s10)
              have HO10 := Lib.hid (ownK_keep (S := fun _ => False) HO9.out s10 (fun _ f => f.elim))
              have HW10 := Lib.hid (HW9.out.same s10)
              have hsz10 := s10.size
              clear s10 z0 z1 z2 z3 z4 z5 z6 z7
              go_wp2_with fail
              go_roundg GJ
              case rel =>
                refine ⟨j + 1, A8, c8, by omega, by go_num, by rw [SN.out], by rw [OR.out]; exact HO10.out, fun q hq => ?_, HW10.out, by omega, HS10.out⟩
                by_cases hqj : q < j
                · exact HSHP.out q hqj
                · exact HSPQ.out q (by omega)
              case measure => omega
            · go_simp
              go_at_call 23
              refine (SZ.out _).mono ?_
              rintro e w4 ⟨rfl, s4'⟩
              have s4 := (Same.refl w3).drew.trans s4'
              have HS4 := Lib.hid (HS3.out.same s4)
              have HO4 := Lib.hid (ownK_keep (S := fun _ => False) HO3.out s4 (fun _ f => f.elim))
              have HC4 := Lib.hid s4
              have hsz4 := s4.size
              have S4 := Lib.hid (SW.out _ (s4.chg _))
              clear s4 s4'
              refine hK.out _ _ (S4.out) (fun hNew => ?_)
              clear hK K hNew
              try simp only [Act.put, List.setIfInBounds_toArray, List.set_cons_zero, List.set_cons_succ]
              obtain ⟨e0, e1, g0, g1⟩ := HS4.out.own
              refine Ro.take_on (i := 5) (v := ?_) rfl (by kernel_rfl) (by kernel_rfl) (by kernel_rfl) (fun _ _ _ h => h) (by rfl) (S4.out) ?_ ?_
              rotate_left
              · intro wS hSw; (try dsimp only at hSw); go_simp; try with_reducible rfl
              try simp only [Act.put, List.setIfInBounds_toArray, List.set_cons_zero, List.set_cons_succ]
              refine Ra.two_on (i := 1) (j := 6) rfl rfl (by kernel_rfl) (by rfl) (by rfl) (fun K hK => ?_) (fun K hK => ?_)
              · go_simp
                refine hK.out _ _ (S4.out) (fun hNew => ?_)
                clear hK K hNew
                try simp only [Act.put, List.setIfInBounds_toArray, List.set_cons_zero, List.set_cons_succ]
                refine Ro.one_on (i := 6) rfl (by kernel_rfl) (by rfl) (fun K hK => ?_)
                go_simp
                refine hK.out _ _ (SW.out _ ((HC4.out.trans ((Same.refl w4).alloc (.cells #[.int .i64 at0, .int .i64 z] 53))).chg _)) (fun hNew => ?_)
                clear hK K hNew
                try simp only [Act.put, List.setIfInBounds_toArray, List.set_cons_zero, List.set_cons_succ]
                have hs5 := (Same.refl w4).alloc (.cells #[.int .i64 at0, .int .i64 z] 53)
                have HO5 := Lib.hid (ownK_keep (S := fun _ => False) HO4.out hs5 (fun _ f => f.elim))
                have hrow5 := row_new w4 #[.int .i64 at0, .int .i64 z] 53
                have HROW5 := Lib.hid hrow5
                have HC5 := Lib.hid (HC4.out.trans hs5)
                have hsz5 := hs5.size
                clear hs5 hrow5
                refine Ro.one_on (i := 7) rfl (by kernel_rfl) (by rfl) (fun K hK => ?_)
                refine oper_app (.tmp 53) (.tmp 58) 28 rfl H2 53 i0 _ 2 16 Try.underlying28 hi hz0 hz1 hz2 rfl (by omega) B' j c2 (oR ts os j) rfl HO5.out (some ⟨w4.heap.size, 0, none⟩) 1 1 [.int .i64 at0, .int .i64 z] rfl rfl HROW5.out ?_ (by omega) (by omega) ?_ (j + 1) rfl ?_
                · intro u hu; simp only [List.mem_cons, List.not_mem_nil, or_false] at hu; rcases hu with rfl | rfl <;> rfl
                · omega
                intro A8 c8 w8 ho8 hc8
                have hgb : ∀ g, B' = some ⟨g, 0, none⟩ → g ≠ gO := fun g h he => by have := HGL.out g h; omega
                have HC8 := Lib.hid ((HC5.out.chg (fun g => g ≠ gO)).trans (chg_mono hc8 hgb))
                have HS8 := Lib.hid ((HS3.out.same HC5.out).chg hc8 (fun g hg => by have h1 := ownK_fence HO5.out hg; have := HH3.out; omega))
                have HW8 := Lib.hid ((HW3.out.same HC5.out).chg hc8 (fun bb oo h _ hb => by have h1 := ownK_fence HO5.out hb; have := (HLA.out bb oo h).2; omega))
                have hsz8 := hc8.size
                have HO8 := Lib.hid ho8
                clear ho8 hc8 hgb
                refine hK.out _ _ (SW.out _ HC8.out) (fun hNew => ?_)
                clear hK K hNew
                try simp only [Act.put, List.setIfInBounds_toArray, List.set_cons_zero, List.set_cons_succ]
                obtain ⟨e0, e1, g0, g1⟩ := HS8.out.own
                refine Ro.take_on (i := 8) (v := ?_) rfl (by kernel_rfl) (by kernel_rfl) (by kernel_rfl) (fun _ _ _ h => h) (by rfl) (SW.out _ HC8.out) ?_ ?_
                rotate_left
                · intro wS hSw; (try dsimp only at hSw); go_simp; try with_reducible rfl
                try simp only [Act.put, List.setIfInBounds_toArray, List.set_cons_zero, List.set_cons_succ]
                refine Ro.one_on (i := 9) rfl (by kernel_rfl) (by rfl) (fun K hK => ?_)
                go_simp
                refine hK.out _ _ (SW.out _ (HC8.out.trans (Chg.set (S := fun g => g ≠ gO) (p := ⟨w.heap.size + 1 + 1, 1, none⟩) (Chg.refl _ w8) (by simp only; omega) _))) (fun hNew => ?_)
                clear hK K hNew
                try simp only [Act.put, List.setIfInBounds_toArray, List.set_cons_zero, List.set_cons_succ]
                refine wpAnyH_done (by kernel_rfl) ?_ _
                have hst : Chg (fun i => i = w.heap.size + 1 + 1) w8 (w8.setCell ⟨w.heap.size + 1 + 1, 1, none⟩ (.slice A8 (j + 1) c8)) := Chg.set (S := fun i => i = w.heap.size + 1 + 1) (p := ⟨w.heap.size + 1 + 1, 1, none⟩) (Chg.refl _ w8) (.inl rfl) _
                have HS9 := Lib.hid (HS8.out.put 1 (.slice A8 (j + 1) c8) rfl)
                have HO9 := Lib.hid (ownK_keep HO8.out hst (fun i hi => by have h1 : i = w.heap.size + 1 + 1 := hi; have := HH3.out; omega))
                have HW9 := Lib.hid (HW8.out.chg hst (fun bb oo h _ hb => by have h1 : bb = w.heap.size + 1 + 1 := hb; have := (HLA.out bb oo h).1; omega))
                obtain ⟨z0, z1, z2, z3, z4, z5, z6, z7⟩ := SW.out _ (HC8.out.trans (chg_mono hst (fun i hi => by have h1 : i = w.heap.size + 1 + 1 := hi; omega)))
                have hsz9 := hst.size
                generalize w8.setCell ⟨w.heap.size + 1 + 1, 1, none⟩ (.slice A8 (j + 1) c8) = w9 at *
                clear hst e0 e1 g0 g1 HS8 HW8 HO8 HO5 HC5 HROW5
                have f1 : at0 + z ≤ 9223372036854775807 := by have := HZB.out; omega
                have f2 : -9223372036854775808 ≤ at0 + z := by have := HZB.out; omega
                go_wp2_with fail
                refine (SZ.out _).mono ?_
                rintro e w10 ⟨rfl, s10⟩
                have HS10 := Lib.hid (HS9.out.same s10)
                have HO10 := Lib.hid (ownK_keep (S := fun _ => False) HO9.out s10 (fun _ f => f.elim))
                have HW10 := Lib.hid (HW9.out.same s10)
                have hsz10 := s10.size
                clear s10 z0 z1 z2 z3 z4 z5 z6 z7
                go_wp2_with fail
                go_roundg GJ
                case rel =>
                  refine ⟨j + 1, A8, c8, by omega, by go_num, by rw [SN.out], by rw [OR.out]; exact HO10.out, fun q hq => ?_, HW10.out, by omega, HS10.out⟩
                  by_cases hqj : q < j
                  · exact HSHP.out q hqj
                  · exact HSPQ.out q (by omega)
                case measure => omega
              · go_simp
                refine hK.out _ _ (SW.out _ ((HC4.out.trans ((Same.refl w4).alloc (.cells #[.int .i64 at0, .int .i64 z] 53))).chg _)) (fun hNew => ?_)
                clear hK K hNew
                try simp only [Act.put, List.setIfInBounds_toArray, List.set_cons_zero, List.set_cons_succ]
                have e1' := (HS4.out.same ((Same.refl w4).alloc (.cells #[.int .i64 at0, .int .i64 z] 53))).own.2.1
                refine Ro.one_on (i := 1) rfl (by kernel_rfl) (by rfl) (fun K hK => ?_)
                go_simp
                refine hK.out _ _ (SW.out _ ((HC4.out.trans ((Same.refl w4).alloc (.cells #[.int .i64 at0, .int .i64 z] 53))).chg _)) (fun hNew => ?_)
                clear hK K hNew
                try simp only [Act.put, List.setIfInBounds_toArray, List.set_cons_zero, List.set_cons_succ]
                clear e1'
                have hs5 := (Same.refl w4).alloc (.cells #[.int .i64 at0, .int .i64 z] 53)
                have HO5 := Lib.hid (ownK_keep (S := fun _ => False) HO4.out hs5 (fun _ f => f.elim))
                have hrow5 := row_new w4 #[.int .i64 at0, .int .i64 z] 53
                have HROW5 := Lib.hid hrow5
                have HC5 := Lib.hid (HC4.out.trans hs5)
                have hsz5 := hs5.size
                clear hs5 hrow5
                refine Ro.one_on (i := 7) rfl (by kernel_rfl) (by rfl) (fun K hK => ?_)
                refine oper_app (.tmp 53) (.tmp 58) 28 rfl H2 53 i0 _ 2 16 Try.underlying28 hi hz0 hz1 hz2 rfl (by omega) B' j c2 (oR ts os j) rfl HO5.out (some ⟨w4.heap.size, 0, none⟩) 1 1 [.int .i64 at0, .int .i64 z] rfl rfl HROW5.out ?_ (by omega) (by omega) ?_ (j + 1) rfl ?_
                · intro u hu; simp only [List.mem_cons, List.not_mem_nil, or_false] at hu; rcases hu with rfl | rfl <;> rfl
                · omega
                intro A8 c8 w8 ho8 hc8
                have hgb : ∀ g, B' = some ⟨g, 0, none⟩ → g ≠ gO := fun g h he => by have := HGL.out g h; omega
                have HC8 := Lib.hid ((HC5.out.chg (fun g => g ≠ gO)).trans (chg_mono hc8 hgb))
                have HS8 := Lib.hid ((HS3.out.same HC5.out).chg hc8 (fun g hg => by have h1 := ownK_fence HO5.out hg; have := HH3.out; omega))
                have HW8 := Lib.hid ((HW3.out.same HC5.out).chg hc8 (fun bb oo h _ hb => by have h1 := ownK_fence HO5.out hb; have := (HLA.out bb oo h).2; omega))
                have hsz8 := hc8.size
                have HO8 := Lib.hid ho8
                clear ho8 hc8 hgb
                refine hK.out _ _ (SW.out _ HC8.out) (fun hNew => ?_)
                clear hK K hNew
                try simp only [Act.put, List.setIfInBounds_toArray, List.set_cons_zero, List.set_cons_succ]
                obtain ⟨e0, e1, g0, g1⟩ := HS8.out.own
                refine Ro.take_on (i := 8) (v := ?_) rfl (by kernel_rfl) (by kernel_rfl) (by kernel_rfl) (fun _ _ _ h => h) (by rfl) (SW.out _ HC8.out) ?_ ?_
                rotate_left
                · intro wS hSw; (try dsimp only at hSw); go_simp; try with_reducible rfl
                try simp only [Act.put, List.setIfInBounds_toArray, List.set_cons_zero, List.set_cons_succ]
                refine Ro.one_on (i := 9) rfl (by kernel_rfl) (by rfl) (fun K hK => ?_)
                go_simp
                refine hK.out _ _ (SW.out _ (HC8.out.trans (Chg.set (S := fun g => g ≠ gO) (p := ⟨w.heap.size + 1 + 1, 1, none⟩) (Chg.refl _ w8) (by simp only; omega) _))) (fun hNew => ?_)
                clear hK K hNew
                try simp only [Act.put, List.setIfInBounds_toArray, List.set_cons_zero, List.set_cons_succ]
                refine wpAnyH_done (by kernel_rfl) ?_ _
                have hst : Chg (fun i => i = w.heap.size + 1 + 1) w8 (w8.setCell ⟨w.heap.size + 1 + 1, 1, none⟩ (.slice A8 (j + 1) c8)) := Chg.set (S := fun i => i = w.heap.size + 1 + 1) (p := ⟨w.heap.size + 1 + 1, 1, none⟩) (Chg.refl _ w8) (.inl rfl) _
                have HS9 := Lib.hid (HS8.out.put 1 (.slice A8 (j + 1) c8) rfl)
                have HO9 := Lib.hid (ownK_keep HO8.out hst (fun i hi => by have h1 : i = w.heap.size + 1 + 1 := hi; have := HH3.out; omega))
                have HW9 := Lib.hid (HW8.out.chg hst (fun bb oo h _ hb => by have h1 : bb = w.heap.size + 1 + 1 := hb; have := (HLA.out bb oo h).1; omega))
                obtain ⟨z0, z1, z2, z3, z4, z5, z6, z7⟩ := SW.out _ (HC8.out.trans (chg_mono hst (fun i hi => by have h1 : i = w.heap.size + 1 + 1 := hi; omega)))
                have hsz9 := hst.size
                generalize w8.setCell ⟨w.heap.size + 1 + 1, 1, none⟩ (.slice A8 (j + 1) c8) = w9 at *
                clear hst e0 e1 g0 g1 HS8 HW8 HO8 HO5 HC5 HROW5
                have f1 : at0 + z ≤ 9223372036854775807 := by have := HZB.out; omega
                have f2 : -9223372036854775808 ≤ at0 + z := by have := HZB.out; omega
                go_wp2_with fail
                refine (SZ.out _).mono ?_
                rintro e w10 ⟨rfl, s10⟩
                have HS10 := Lib.hid (HS9.out.same s10)
                have HO10 := Lib.hid (ownK_keep (S := fun _ => False) HO9.out s10 (fun _ f => f.elim))
                have HW10 := Lib.hid (HW9.out.same s10)
                have hsz10 := s10.size
                clear s10 z0 z1 z2 z3 z4 z5 z6 z7
                go_wp2_with fail
                go_roundg GJ
                case rel =>
                  refine ⟨j + 1, A8, c8, by omega, by go_num, by rw [SN.out], by rw [OR.out]; exact HO10.out, fun q hq => ?_, HW10.out, by omega, HS10.out⟩
                  by_cases hqj : q < j
                  · exact HSHP.out q hqj
                  · exact HSPQ.out q (by omega)
                case measure => omega
    | succ GK =>
      have hlt : (i : Int) < n := by omega
      have i0' : (0 : Int) ≤ i := by omega
      have hil : i < ts.length := by have := HN.out; omega
      have SM := own_sum (Nat.le_of_lt hil) (by have := HN.out; omega) HALL.out
      have SN := Lib.hid (sum_own hil)
      have TR := Lib.hid (tR_next hil)
      have LB := Lib.hid (fun h => lens_bad (os := os) hil h)
      obtain ⟨_, b, o, hA, c0, c1, c2, c3, c4, c5, c6⟩ := (HT.out.same HRS.out.1).at_ hil
      have HIL := Lib.hid hil
      have HX := Lib.hid (show ∀ y, y = Tk.at_ ts i → ownOk y = ownOk (Tk.at_ ts i) from fun y h => by rw [h])
      obtain ⟨x, hx⟩ : ∃ x, x = Tk.at_ ts i := ⟨_, rfl⟩
      rw [← hx] at c0 c1 c2 c3 c4 c5 c6 SN TR LB
      have HXX := Lib.hid hx
      clear hx hil HX
      subst hA
      have HS2 := Lib.hid (HRS.out.same ((Same.refl wr).alloc (.cells #[.int .i64 x.kind, .int .i64 x.prio, .int .i64 x.per, .int .i64 x.off, .int .i64 x.dl, .int .i64 x.own, .slice x.A x.len x.cap] 51)))
      have hbt := Blk.new wr 51 #[.int .i64 x.kind, .int .i64 x.prio, .int .i64 x.per, .int .i64 x.off, .int .i64 x.dl, .int .i64 x.own, .slice x.A x.len x.cap]
      have t5 : (wr.alloc (.cells #[.int .i64 x.kind, .int .i64 x.prio, .int .i64 x.per, .int .i64 x.off, .int .i64 x.dl, .int .i64 x.own, .slice x.A x.len x.cap] 51)).cell? ⟨wr.heap.size, 5, none⟩ = some (.int .i64 x.own) := hbt.cell 5
      have HBT := Lib.hid hbt
      clear hbt
      by_cases o1 : x.own < 1
      · have hnone : R = none := HRR.out.trans (LB.out (by unfold ownOk; exact decide_eq_false (by omega)))
        subst hnone
        obtain ⟨r0, r1, r2, f0, f1, f2⟩ := HS2.out.res
        go_wp2_with fail
        refine bodyPost_ret (v := .tuple #[.agg #[.slice none 0 0, .slice none 0 0, .int .i64 0], .int .i64 1]) (Fc.results_cell2 Try.results8 _ _ (w.heap.size + 1) 30 #[.slice none 0 0, .slice none 0 0, .int .i64 0] (0, 0) _ rfl (three_blk HS2.out.2.2.1 _ _ _) Try.underlying30 rfl layout_size) rfl ?_
        exact of_none (three_same HS2.out.1 (by omega) _ _ _)
      by_cases o2 : 64 < x.own
      · have hnone : R = none := HRR.out.trans (LB.out (by unfold ownOk; exact decide_eq_false (by omega)))
        subst hnone
        obtain ⟨r0, r1, r2, f0, f1, f2⟩ := HS2.out.res
        go_wp2_with fail
        refine bodyPost_ret (v := .tuple #[.agg #[.slice none 0 0, .slice none 0 0, .int .i64 0], .int .i64 1]) (Fc.results_cell2 Try.results8 _ _ (w.heap.size + 1) 30 #[.slice none 0 0, .slice none 0 0, .int .i64 0] (0, 0) _ rfl (three_blk HS2.out.2.2.1 _ _ _) Try.underlying30 rfl layout_size) rfl ?_
        exact of_none (three_same HS2.out.1 (by omega) _ _ _)
      have hok : ownOk (Tk.at_ ts i) = true := by rw [← HXX.out]; unfold ownOk; exact decide_eq_true (by omega)
      have HOK := Lib.hid hok
      clear hok
      obtain ⟨e0, e1, g0, g1⟩ := HS2.out.own
      generalize sumL ((tL ts).take i) = at0 at *
      have f1 : at0 + x.own ≤ 9223372036854775807 := by omega
      have f2 : -9223372036854775808 ≤ at0 + x.own := by omega
      have hsl := (Same.refl (wr.alloc (.cells #[.int .i64 x.kind, .int .i64 x.prio, .int .i64 x.per, .int .i64 x.off, .int .i64 x.dl, .int .i64 x.own, .slice x.A x.len x.cap] 51))).alloc (.cells #[.int .i64 at0, .int .i64 x.own] 53)
      have hrl := row_new (wr.alloc (.cells #[.int .i64 x.kind, .int .i64 x.prio, .int .i64 x.per, .int .i64 x.off, .int .i64 x.dl, .int .i64 x.own, .slice x.A x.len x.cap] 51)) #[.int .i64 at0, .int .i64 x.own] 53
      rw [World.size_alloc] at hrl
      have HRL := Lib.hid hrl
      have HS3 := Lib.hid (HS2.out.same hsl)
      have HOW3 := Lib.hid (ownK_keep (S := fun _ => False) HOW.out (((Same.refl wr).alloc (.cells #[.int .i64 x.kind, .int .i64 x.prio, .int .i64 x.per, .int .i64 x.off, .int .i64 x.dl, .int .i64 x.own, .slice x.A x.len x.cap] 51)).trans hsl) (fun _ f => f.elim))
      have t5l := hsl.cell t5
      have e0l := hsl.cell e0
      clear hrl hsl
      go_wp2_with (at_builtin; go_loud (refine wpList_appK rfl (.tmp 28) (.tmp 33) 28 rfl (w.heap.size + 1 + 1 + 1) 53 i0 _ 2 16 Try.underlying28 hi hz0 hz1 hz2 rfl (by omega) A' i c' (tR ts i) rfl HOW3.out ⟨wr.heap.size + 1, 0, none⟩ 1 1 [.int .i64 at0, .int .i64 x.own] rfl rfl HRL.out (by intro u hu; simp at hu; rcases hu with rfl | rfl <;> rfl) (by omega) (by omega) HS3.out.size ?_))
      intro A2 c2' w2 ho2 hc2
      have t5w : w2.cell? ⟨wr.heap.size, 5, none⟩ = some (.int .i64 x.own) := hc2.cell t5l (fun h => by have h1 : wr.heap.size < wr.heap.size := ownK_lt HOW.out h; omega)
      have t5s : (w2.setCell ⟨w.heap.size + 1 + 1, 0, none⟩ (.slice A2 (i + 1) c2')).cell? ⟨wr.heap.size, 5, none⟩ = some (.int .i64 x.own) := Chg.cell (Chg.set (S := fun i => i = w.heap.size + 1 + 1) (p := ⟨w.heap.size + 1 + 1, 0, none⟩) (Chg.refl _ w2) (.inl rfl) _) t5w (fun h => by have h1 : wr.heap.size = w.heap.size + 1 + 1 := h; have := HRS.out.size; omega)
      have HS4 := Lib.hid (HS3.out.chg hc2 (fun g hg => ownK_fence HOW3.out hg))
      rw [← TR.out] at ho2
      have HO4 := Lib.hid ho2
      clear ho2 hc2 HOW3 HS3 HRL e0 e1 g0 g1 c0 c1 c2 c3 c4 c5 c6
      obtain ⟨e0, e1, g0, g1⟩ := HS4.out.own
      skip
      go_wp2_with fail
      go_roundg GK
      case rel =>
        refine ⟨i + 1, A2, c2', by omega, by go_num, by rw [SN.out], ownK_keep HO4.out (Chg.set (S := fun i => i = w.heap.size + 1 + 1) (p := ⟨w.heap.size + 1 + 1, 0, none⟩) (Chg.refl _ w2) (.inl rfl) _) (fun i hi => by have h1 : i = w.heap.size + 1 + 1 := hi; omega), fun j hj => ?_, HS4.out.put 0 _ rfl⟩
        by_cases hji : j < i
        · exact HALL.out j hji
        · obtain rfl : j = i := by omega
          exact HOK.out
      case measure => omega

end Go.Proofs.Ytaclphhbdfoaeaa.Ly
