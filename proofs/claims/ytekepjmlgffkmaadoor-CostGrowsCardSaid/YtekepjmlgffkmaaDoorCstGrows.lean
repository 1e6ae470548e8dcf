/-

  CostGrows returns true for every program and all weights: the walk.
-/
import Derived.Test.YtekepjmlgffkmaaDoorCstMost
import Derived.Test.YtekepjmlgffkmaaDoorFlowChecks
set_option linter.unusedVariables false
set_option linter.unusedSimpArgs false
namespace Go.Proofs.YtekepjmlgffkmaaDoor.Cs
open Go.ChangeShapes Go.WideShapes Go.ChangeAt Go.RowKit Ws
open Go.Proofs.YtekepjmlgffkmaaDoor.Fp (Ins at_ Fine at_some lp loopsL nextL hasB)
open Go.Proofs.YtekepjmlgffkmaaDoor.Fw (Prg Spn spanCells spn_of)

/-- the greater one of two weights, where there are two -/
def gv (ws ms : List Int) (j : Nat) : Int := if j < ms.length ∧ ws.getD j 0 < ms.getD j 0 then ms.getD j 0 else ws.getD j 0
def gL (ws ms : List Int) (i : Nat) : List Int := (List.range ws.length).map fun j => if j < i then gv ws ms j else 0
theorem gL_len (ws ms : List Int) (i : Nat) : (gL ws ms i).length = ws.length := by simp [gL]
theorem gL_zero (ws ms : List Int) : gL ws ms 0 = List.replicate ws.length 0 := by
  unfold gL
  apply List.ext_getElem
  · simp
  · intro i h1 h2
    simp
theorem gL_next (ws ms : List Int) {i : Nat} (h : i < ws.length) : gL ws ms (i + 1) = (gL ws ms i).set i (gv ws ms i) := by
  unfold gL
  apply List.ext_getElem
  · simp
  · intro j h1 h2
    simp only [List.getElem_map, List.getElem_range, List.getElem_set]
    by_cases e : i = j
    · subst e
      rw [if_pos rfl, if_pos (by omega)]
    · rw [if_neg e]
      by_cases h3 : j < i
      · rw [if_pos h3, if_pos (by omega)]
      · rw [if_neg h3, if_neg (by omega)]
theorem gL_ge (ws ms : List Int) (k : Nat) : ws.getD k 0 ≤ (gL ws ms ws.length).getD k 0 := by
  by_cases h : k < ws.length
  · have e : (gL ws ms ws.length).getD k 0 = gv ws ms k := by
      unfold gL
      rw [List.getD_eq_getElem?_getD, List.getElem?_map, List.getElem?_range h]
      simp [h]
    rw [e]
    unfold gv
    split <;> omega
  · rw [List.getD_eq_getElem?_getD, List.getElem?_eq_none (by omega), List.getD_eq_getElem?_getD, List.getElem?_eq_none (by rw [gL_len]; omega)]
    exact Int.le_refl _
theorem wei_grows (mx : Bool) (p : List Ins) (ws ms : List Int) : weI mx p ws ≤ weI mx p (gL ws ms ws.length) := by
  unfold weI
  rw [gL_len]
  split
  · exact le_weigh (mono_bt mx) (gL_ge ws ms) 
  · exact Int.le_refl _
theorem gL_at {ws ms : List Int} {k : Nat} (h : k < ws.length) : (gL ws ms k)[k]? = some 0 := by
  unfold gL
  rw [List.getElem?_map, List.getElem?_range h]
  simp
theorem gL_put {ws ms : List Int} {k : Nat} (h : k < ws.length) {v : Int} (hv : gv ws ms k = v) : ((gL ws ms k).map (Value.int .i64)).set k (.int .i64 v) = (gL ws ms (k + 1)).map (Value.int .i64) := by
  rw [gL_next ws ms h, hv, List.map_set]
theorem gL_put2 {ws ms : List Int} {k : Nat} (h : k < ws.length) {v : Int} (u : Value) (hv : gv ws ms k = v) : (((gL ws ms k).map (Value.int .i64)).set k u).set k (.int .i64 v) = (gL ws ms (k + 1)).map (Value.int .i64) := by
  rw [List.set_set, gL_put h hv]
theorem g1_get {w : World} {B : Nat} {e : TypeId} {g c n k : Nat} {l : List Value} {u : Value} (h : OwnK w B e 1 (some ⟨g, 0, none⟩) n c l) (hk : l[k]? = some u) : w.cell? ⟨g, k, none⟩ = some u := by
  have := h.row.get hk
  rw [Nat.zero_add] at this
  exact this
theorem g1_thaw {w : World} {B : Nat} {e : TypeId} {s g c n : Nat} {l : List Value} (h : OwnK w B e s (some ⟨g, 0, none⟩) n c l) (j : Nat) : w.frozen? ⟨g, j, none⟩ = false := by
  rcases h.2 with ⟨h2, _⟩ | ⟨g2, cap, cur, hv, hb, hg, rest⟩
  · cases h2
  · injection hv with hv
    injection hv with hv
    injection hv with hv
    subst hv
    exact Blk.thaw (t := e) hg j
theorem g1_set {w : World} {B : Nat} {e : TypeId} {s g c n : Nat} {l : List Value} (h : OwnK w B e s (some ⟨g, 0, none⟩) n c l) (j : Nat) (u : Value) :
    OwnK (w.setCell ⟨g, j, none⟩ u) B e s (some ⟨g, 0, none⟩) n c (l.set j u) := (World.ownsRow.stored h j u).1
theorem own1_new (w : World) (n : Nat) (hn : n ≤ 100000) : OwnK (w.alloc (.cells (izr n) 3)) w.heap.size 3 1 (some ⟨w.heap.size, 0, none⟩) n n (izr n).toList := by
  have hz : (izr n).size = n := by
    have := congrArg List.length (izr_list n)
    simpa using this
  refine ⟨by simp [hz], .inr ⟨w.heap.size, n, (izr n).toList.toArray, rfl, Nat.le_refl _, Blk.new w _ _, Nat.le_refl _, by unfold maxLen; omega, by simp [hz], ?_⟩⟩
  simp only [Nat.mul_one]
  exact List.take_of_length_le (by simp [hz])
set_option maxRecDepth 100000 in
set_option maxHeartbeats 2000000 in
theorem grows_walk (A : Option Addr) (m c : Nat) (p : List Ins) (Wt : Option Addr) (wn cW : Nat) (ws : List Int) (MA : Option Addr) (mn cM : Nat) (ms : List Int) (w : World) (hl : p.length = m) (hp : Prg w A p) (hW : Row w Wt (ws.map (Value.int .i64))) (hwl : ws.length = wn)
    (hM : Row w MA (ms.map (Value.int .i64))) (hml : ms.length = mn) (hmn : mn ≤ 9223372036854775807) (hT : Is.Tabs w) :
    Calls Tryd.prog 4 #[.slice A m c, .slice Wt wn cW, .slice MA mn cM] w fun e w' => e = .returned (.bool true) ∧ Same w w' := by
  have HT := Lib.hid hT
  by_cases h1 : (200 : Int) < m
  · have AW := Lib.hid (awake12 w hT)
    clear hl hp hW hwl hM hml hT
    go_enter Tryd.func4, Tryd.ntmps4
    go_wp2_with fail
    refine AW.out.mono ?_
    rintro e w1 ⟨rfl, s1⟩
    go_wp2_with fail
    go_ret
    exact ⟨rfl, s1⟩
  by_cases h2 : (200 : Int) < wn
  · have AW := Lib.hid (awake12 w hT)
    clear hl hp hW hwl hM hml hT
    go_enter Tryd.func4, Tryd.ntmps4
    go_wp2_with fail
    refine AW.out.mono ?_
    rintro e w1 ⟨rfl, s1⟩
    go_wp2_with fail
    go_ret
    exact ⟨rfl, s1⟩
  have HP := Lib.hid hp
  have HW := Lib.hid hW
  have HM := Lib.hid hM
  have HL := Lib.hid hl
  have HWL := Lib.hid hwl
  have HML := Lib.hid hml
  have ON := Lib.hid (ones_any A m c w (by omega))
  have hm2 : m ≤ 200 := by omega
  have hw2 : wn ≤ 200 := by omega
  clear hl hp hW hwl hM hml hT
  go_enter Tryd.func4, Tryd.ntmps4
  go_wp2_with fail
  refine ON.out.mono ?_
  rintro e w1 ⟨OA, oc, rfl, ho, s1⟩
  have HO := Lib.hid ho
  have S1 := Lib.hid s1
  clear ho s1 ON
  go_wp2_with fail
  go_loopg [38] m (fun gk iv wx => ∃ k : Nat, k + gk = m ∧ iv = .int .i64 k ∧ Same w1 wx)
  case atStart => exact ⟨0, by omega, rfl, Same.refl _⟩
  case round =>
    obtain ⟨k, hk, rfl, sx⟩ := hrel
    have HS := Lib.hid sx
    clear sx
    cases gk with
    | succ GK =>
      have hlt : (k : Int) < m := by omega
      have hk0 : (0 : Int) ≤ k := by omega
      obtain ⟨b, o, rfl, c0⟩ := (HO.out.same HS.out) k (.int .i64 1) (by rw [List.getElem?_map, List.getElem?_replicate, if_pos (by omega)]; rfl)
      go_wp2_with fail
      go_roundg GK
      case rel => exact ⟨k + 1, by omega, by go_num, HS.out⟩
      case measure => omega
    | zero =>
      obtain rfl : m = k := by omega
      have hge : ¬ (m : Int) < (m : Int) := by omega
      have hmk := izr_make wn (by omega) wr
      have hwq : w.heap.size ≤ wr.heap.size := (S1.out.trans HS.out).size
      have s3 := (S1.out.trans HS.out).alloc (.cells (izr wn) 3)
      have HO3 := Lib.hid (show OwnK (wr.alloc (.cells (izr wn) 3)) wr.heap.size 3 1 (some ⟨wr.heap.size, 0, none⟩) wn wn ((gL ws ms 0).map (Value.int .i64)) from by
        rw [gL_zero, HWL.out, ← izr_list]
        exact own1_new wr wn (by omega))
      have HS3 := Lib.hid s3
      clear s3 HO HS S1 hk
      generalize wr.alloc (.cells (izr wn) 3) = w3 at *
      generalize wr.heap.size = q at *
      have HQ := Lib.hid hwq
      clear hwq
      go_wp2_with fail
      go_loopg [50] wn (fun gi iv wx => ∃ k : Nat, k + gi = wn ∧ iv = .int .i64 k ∧ OwnK wx q 3 1 (some ⟨q, 0, none⟩) wn wn ((gL ws ms k).map (Value.int .i64)) ∧ Same w wx)
      case atStart => exact ⟨0, by omega, rfl, HO3.out, HS3.out⟩
      case round =>
        clear HO3 HS3 hmk
        obtain ⟨k, hk, rfl, ho, sx⟩ := hrel
        have HO := Lib.hid ho
        have HS := Lib.hid sx
        clear ho sx
        cases gk with
        | zero =>
          obtain rfl : wn = k := by omega
          have hge : ¬ (wn : Int) < (wn : Int) := by omega
          have HR := Lib.hid (HO.out.row)
          have hgl : (gL ws ms wn).length = wn := (gL_len ws ms wn).trans HWL.out
          have hee : weE p (gL ws ms wn).length = weE p ws.length := by rw [gL_len]
          have M1 := Lib.hid (most_any A m c p Wt wn cW ws wr HL.out (by omega) (HP.out.same HS.out) (HW.out.same HS.out) HWL.out (HT.out.same HS.out))
          have M2 := Lib.hid (fun W (s : Same wr W) => hee ▸ most_any A m c p (some ⟨q, 0, none⟩) wn wn (gL ws ms wn) W HL.out (by omega) (HP.out.same (HS.out.trans s)) (HR.out.same s) hgl (HT.out.same (HS.out.trans s)))
          have L1 := Lib.hid (fun W (s : Same wr W) => least_any A m c p Wt wn cW ws W HL.out (by omega) (HP.out.same (HS.out.trans s)) (HW.out.same (HS.out.trans s)) HWL.out (HT.out.same (HS.out.trans s)))
          have L2 := Lib.hid (fun W (s : Same wr W) => hee ▸ least_any A m c p (some ⟨q, 0, none⟩) wn wn (gL ws ms wn) W HL.out (by omega) (HP.out.same (HS.out.trans s)) (HR.out.same s) hgl (HT.out.same (HS.out.trans s)))
          have AW := Lib.hid (fun W (s : Same wr W) => awake12 W (HT.out.same (HS.out.trans s)))
          have ha : decide (weI true p ws ≤ weI true p (gL ws ms wn)) = true := decide_eq_true (by have := wei_grows true p ws ms; rwa [HWL.out] at this)
          have hb : decide (weI false p ws ≤ weI false p (gL ws ms wn)) = true := decide_eq_true (by have := wei_grows false p ws ms; rwa [HWL.out] at this)
          clear hee hgl HR HO HP HW HM HL HWL HML HT
          generalize weI true p ws = x1 at *
          generalize weI true p (gL ws ms wn) = x2 at *
          generalize weI false p ws = y1 at *
          generalize weI false p (gL ws ms wn) = y2 at *
          generalize weE p ws.length = er at *
          go_wp2_with fail
          refine M1.out.mono ?_
          rintro e w4 ⟨rfl, s4⟩
          have HS4 := Lib.hid s4
          clear s4 M1
          go_wp2_with fail
          refine (M2.out _ HS4.out).mono ?_
          rintro e w5 ⟨rfl, s5⟩
          have HS5 := Lib.hid (HS4.out.trans s5)
          clear s5 M2 HS4
          go_wp2_with fail
          refine (L1.out _ HS5.out).mono ?_
          rintro e w6 ⟨rfl, s6⟩
          have HS6 := Lib.hid (HS5.out.trans s6)
          clear s6 L1 HS5
          go_wp2_with fail
          refine (L2.out _ HS6.out).mono ?_
          rintro e w7 ⟨rfl, s7⟩
          have HS7 := Lib.hid (HS6.out.trans s7)
          clear s7 L2 HS6
          go_wp2_with fail
          refine (AW.out _ HS7.out).mono ?_
          rintro e w8 ⟨rfl, s8⟩
          have HS8 := Lib.hid (HS.out.trans (HS7.out.trans s8))
          clear s8 AW HS7
          go_wp2_with fail
          go_ret
          exact ⟨rfl, HS8.out⟩
        | succ GK =>
          have hlt : (k : Int) < wn := by omega
          have hk0 : (0 : Int) ≤ k := by omega
          have hkw := Lib.hid (show k < ws.length by have := HWL.out; omega)
          have hcw := Lib.hid (show (ws.map (Value.int .i64))[k]? = some (.int .i64 (ws.getD k 0)) by rw [List.getElem?_map, List.getD_eq_getElem?_getD, List.getElem?_eq_getElem hkw.out]; rfl)
          obtain ⟨bW, oW, rfl, cw⟩ := (HW.out.same HS.out) k (.int .i64 (ws.getD k 0)) hcw.out
          have t0 := g1_thaw HO.out k
          have c0 := g1_get HO.out (k := k) (u := .int .i64 0) (by rw [List.getElem?_map, gL_at hkw.out]; rfl)
          have HO3 := Lib.hid (g1_set HO.out k (.int .i64 (ws.getD k 0)))
          have HS3 := Lib.hid (HS.out.set (p := ⟨q, k, none⟩) (.inr (by have := HQ.out; simp only; omega)) (.int .i64 (ws.getD k 0)))
          have hgv := Lib.hid (show gv ws ms k = if k < ms.length ∧ ws.getD k 0 < ms.getD k 0 then ms.getD k 0 else ws.getD k 0 from rfl)
          generalize ws.getD k 0 = wk at *
          go_upto_region 17 with fail
          generalize wr.setCell ⟨q, k, none⟩ (.int .i64 wk) = W2 at *
          by_cases hkm : k < mn
          · have hkm' : k < ms.length := by have := HML.out; omega
            have d1 : decide ((k : Int) < (mn : Int)) = true := decide_eq_true (by omega)
            have hmlt : (k : Int) < (mn : Int) := by omega
            obtain ⟨bM, oM, rfl, cm⟩ := (HM.out.same HS3.out) k (.int .i64 (ms.getD k 0)) (by rw [List.getElem?_map, List.getD_eq_getElem?_getD, List.getElem?_eq_getElem hkm']; rfl)
            have cw2 := (HW.out.same HS3.out).get hcw.out
            generalize ms.getD k 0 = mk at *
            by_cases hwm : wk < mk
            · have d2 : decide (wk < mk) = true := decide_eq_true hwm
              have hv : gv ws ms k = mk := by rw [hgv.out, if_pos ⟨hkm', hwm⟩]
              have HV := Lib.hid hv
              have t2 : ∀ j, (W2.drewN j).frozen? ⟨q, k, none⟩ = false := fun j => g1_thaw (HO3.out.same ((Same.refl _).drewN j)) k
              have HO4 := Lib.hid (fun j => gL_put2 hkw.out (.int .i64 wk) HV.out ▸ g1_set (HO3.out.same ((Same.refl _).drewN j)) k (.int .i64 mk))
              have HS4 := Lib.hid (fun j => (HS3.out.drewN j).set (p := ⟨q, k, none⟩) (.inr (by have := HQ.out; simp only; omega)) (.int .i64 mk))
              have c2 : W2.cell? ⟨q, k, none⟩ = some (.int .i64 wk) := g1_get HO3.out (k := k) (by rw [List.getElem?_set_self (by rw [List.length_map, gL_len]; exact hkw.out)])
              clear hv hkm' c0 t0 cw
              go_quiet (fail)
              go_wp2_with fail
              go_roundg GK
              case rel => exact ⟨k + 1, by omega, by go_num, HO4.out _, HS4.out _⟩
              case measure => omega
            · have d2 : decide (wk < mk) = false := decide_eq_false hwm
              have hv : gv ws ms k = wk := by rw [hgv.out, if_neg (fun h => hwm h.2)]
              have HO4 := Lib.hid (gL_put hkw.out hv ▸ HO3.out)
              clear hv hkm' c0 t0 cw
              go_quiet (fail)
              go_wp2_with fail
              go_roundg GK
              case rel => exact ⟨k + 1, by omega, by go_num, HO4.out.same ((Same.refl _).drewN _), HS3.out.drewN _⟩
              case measure => omega
          · have d1 : decide ((k : Int) < (mn : Int)) = false := decide_eq_false (by omega)
            have hmlt : ¬ (k : Int) < (mn : Int) := by omega
            have hv : gv ws ms k = wk := by rw [hgv.out, if_neg (fun h => hkm (by have := HML.out; omega))]
            have HO4 := Lib.hid (gL_put hkw.out hv ▸ HO3.out)
            clear hv c0 t0 cw
            go_quiet (fail)
            go_wp2_with fail
            go_roundg GK
            case rel => exact ⟨k + 1, by omega, by go_num, HO4.out.same ((Same.refl _).drewN _), HS3.out.drewN _⟩
            case measure => omega
theorem grows_any (A : Option Addr) (m c : Nat) (rows : List (List Int)) (Wt : Option Addr) (wn cW : Nat) (ws : List Int) (MA : Option Addr) (mn cM : Nat) (ms : List Int) (w : World) (hr : Fl.Rows w A [.i64, .i64, .i64, .i64, .u32] rows) (hl : rows.length = m)
    (hW : Row w Wt (ws.map (Value.int .i64))) (hwl : ws.length = wn) (hM : Row w MA (ms.map (Value.int .i64))) (hml : ms.length = mn) (hmn : mn ≤ maxLen) (ht : Is.Tabs w) :
    Calls Tryd.prog 4 #[.slice A m c, .slice Wt wn cW, .slice MA mn cM] w fun e w' => e = .returned (.bool true) ∧ Same w w' := by
  obtain ⟨p, hp, hP⟩ := Fw.prg_in hr
  exact grows_walk A m c p Wt wn cW ws MA mn cM ms w (hp.trans hl) hP hW hwl hM hml (by unfold maxLen at hmn; omega) ht
end Go.Proofs.YtekepjmlgffkmaaDoor.Cs
