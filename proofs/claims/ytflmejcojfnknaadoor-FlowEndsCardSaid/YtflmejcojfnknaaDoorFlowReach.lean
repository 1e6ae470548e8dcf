/-

  Contracts of package flow (layer 10): Reached.
-/
import Derived.Test.YtflmejcojfnknaaDoorFlowInner
set_option linter.unusedVariables false
set_option linter.unusedSimpArgs false
namespace Go.Proofs.YtflmejcojfnknaaDoor.Fw
open Go.ChangeShapes Go.WideShapes Go.ChangeAt Go.RowKit Ws Fp
open Go.Proofs.YtflmejcojfnknaaDoor.Is (Tabs ins rightB leadB)

theorem bool_info : (Tryd.prog.info? 4).map (fun i => (i.zero, i.size, i.bytes)) = some (some (.bool false), 1, 1) := by kernel_rfl
/-- a list of n truths -/
def BL (n : Nat) (f : Nat → Bool) : List Value := (List.range n).map fun x => Value.bool (f x)
theorem BL_len (n : Nat) (f : Nat → Bool) : (BL n f).length = n := by simp [BL]
theorem BL_get {n k : Nat} (f : Nat → Bool) (h : k < n) : (BL n f)[k]? = some (.bool (f k)) := by
  unfold BL
  rw [List.getElem?_map, List.getElem?_range h]
  rfl
theorem BL_congr {n : Nat} {f g : Nat → Bool} (h : ∀ x, x < n → f x = g x) : BL n f = BL n g := by
  unfold BL
  apply List.map_congr_left
  intro x hx
  rw [h x (List.mem_range.1 hx)]
theorem BL_set {n k : Nat} (f : Nat → Bool) (b : Bool) (h : k < n) : (BL n f).set k (.bool b) = BL n (fun x => if x = k then b else f x) := by
  apply List.ext_getElem?
  intro i
  rw [List.getElem?_set]
  by_cases hi : i < n
  · by_cases hk : k = i
    · subst hk
      rw [if_pos rfl, if_pos (by rw [BL_len]; exact h), BL_get _ h, if_pos rfl]
    · rw [if_neg hk, BL_get _ hi, BL_get _ hi, if_neg (fun h => hk h.symm)]
  · rw [List.getElem?_eq_none (l := BL n (fun x => if x = k then b else f x)) (by rw [BL_len]; omega)]
    by_cases hk : k = i
    · omega
    · rw [if_neg hk, List.getElem?_eq_none (by rw [BL_len]; omega)]
/-- what is reached, told -/
def reachF (p : List Ins) (k j : Nat) (x : Nat) : Bool := R p k x || decide ((x : Int) ∈ (nextL p k).take j)
theorem reach_zero (p : List Ins) (n k : Nat) : BL n (reachF p k 0) = BL n (R p k) := BL_congr fun x _ => by simp [reachF]
theorem reach_end (p : List Ins) (n k : Nat) (h : R p k k = true) : BL n (reachF p k (nextL p k).length) = BL n (R p (k + 1)) := BL_congr fun x _ => by
  rw [reachF, List.take_length, R, h]
  rfl
theorem reach_skip (p : List Ins) (n k : Nat) (h : R p k k = false) : BL n (R p k) = BL n (R p (k + 1)) := BL_congr fun x _ => by
  rw [R, h]
  simp
theorem reach_set {p : List Ins} {n k j : Nat} {t : Nat} (ht : (nextL p k)[j]? = some (t : Int)) (htn : t < n) : (BL n (reachF p k j)).set t (.bool true) = BL n (reachF p k (j + 1)) := by
  rw [BL_set _ _ htn]
  apply BL_congr
  intro x _
  have e : (nextL p k).take (j + 1) = (nextL p k).take j ++ [(t : Int)] := by rw [List.take_add_one, ht]; rfl
  unfold reachF
  rw [e]
  by_cases hx : x = t
  · rw [if_pos hx, Bool.eq_iff_iff]
    simp [hx]
  · have hx' : ¬ (x : Int) = (t : Int) := fun h => hx (by omega)
    rw [if_neg hx, Bool.eq_iff_iff]
    simp [hx']
theorem reach_init (p : List Ins) (n : Nat) (h : 0 < n) : (BL n (fun _ => false)).set 0 (.bool true) = BL n (R p 0) := by
  rw [BL_set _ _ h]
  apply BL_congr
  intro x _
  by_cases hx : x = 0
  · rw [if_pos hx, R, decide_eq_true hx]
  · rw [if_neg hx, R, decide_eq_false hx]
theorem made_BL (n : Nat) : (madeCells (Value.bool false).cells (n * 1)).toList = BL n (fun _ => false) := by
  apply List.ext_getElem?
  intro i
  rw [Nat.mul_one]
  by_cases hi : i < n
  · rw [BL_get _ hi]
    have e : (#[Value.bool false] : Array Value)[i % 1]! = .bool false := by rw [Nat.mod_one]; rfl
    simp only [madeCells, Value.cells, List.size_toArray, List.length_cons, List.length_nil, Array.toList_map, Array.toList_range, List.getElem?_map, List.getElem?_range hi, Option.map_some]
    exact congrArg some e
  · rw [List.getElem?_eq_none (l := BL n (fun _ => false)) (by rw [BL_len]; omega), List.getElem?_eq_none (by rw [Array.length_toList, size_madeCells]; omega)]

theorem own_get {w : World} {B : Nat} {e : TypeId} {g c n k : Nat} {f : Nat → Bool} (h : OwnK w B e 1 (some ⟨g, 0, none⟩) n c (BL n f)) (hk : k < n) : w.cell? ⟨g, k, none⟩ = some (.bool (f k)) := by
  obtain ⟨b, o, hA, hc⟩ := h.row k _ (BL_get f hk)
  injection hA with hA
  injection hA with e1 e2
  subst e1
  subst e2
  rw [Nat.zero_add] at hc
  exact hc
theorem own_thaw {w : World} {B : Nat} {e : TypeId} {g c n : Nat} {l : List Value} (h : OwnK w B e 1 (some ⟨g, 0, none⟩) n c l) (j : Nat) : w.frozen? ⟨g, j, none⟩ = false := by
  rcases h.2 with ⟨h2, _⟩ | ⟨g2, cap, cur, hv, hb, hg, rest⟩
  · cases h2
  · injection hv with hv
    injection hv with hv
    injection hv with hv
    subst hv
    exact Blk.thaw (t := e) hg j
theorem own_set {w : World} {B : Nat} {e : TypeId} {g c n : Nat} {l : List Value} (h : OwnK w B e 1 (some ⟨g, 0, none⟩) n c l) (j : Nat) (u : Value) :
    OwnK (w.setCell ⟨g, j, none⟩ u) B e 1 (some ⟨g, 0, none⟩) n c (l.set j u) := (World.ownsRow.stored h j u).1
theorem own_bool {w : World} {B : Nat} {e : TypeId} {g n o : Nat} {f : Nat → Bool} {x : Int} (h : OwnK w B e 1 (some ⟨g, 0, none⟩) n n (BL n f)) (hc : w.cell? ⟨g, o, none⟩ = some (.int .i64 x)) : False := by
  rcases h.2 with ⟨h2, _⟩ | ⟨g2, cap, cur, hv, hb, hg, h1, h2, h3, h4⟩
  · cases h2
  · injection hv with hv _ hcap
    injection hv with hv
    injection hv with hv
    subst hv
    subst hcap
    rw [Nat.mul_one] at h3 h4
    rw [List.take_of_length_le (by simp; omega)] at h4
    have hcell : w.cell? ⟨g, o, none⟩ = cur[o]? := Blk.cell (t := e) hg o
    rw [hcell, ← Array.getElem?_toList, h4] at hc
    by_cases ho : o < n
    · rw [BL_get f ho] at hc
      cases hc
    · rw [List.getElem?_eq_none (by rw [BL_len]; omega)] at hc
      cases hc
def reachL (p : List Ins) : List Value := if okB p = true then BL p.length (R p p.length) else []
def Bools (w : World) (l : List Value) (e : Ending) (w' : World) : Prop := ∃ A c, e = .returned (.slice A l.length c) ∧ Row w' A l ∧ Same w w'
theorem bools_mk {w w' : World} {l : List Value} {A : Option Addr} {n c : Nat} (hn : n = l.length) (hr : Row w' A l) (hs : Same w w') : Bools w l (.returned (.slice A n c)) w' := by
  subst hn
  exact ⟨A, c, rfl, hr, hs⟩
set_option maxRecDepth 100000 in
theorem reached_any (A : Option Addr) (m c : Nat) (p : List Ins) (w : World) (hl : p.length = m) (hm : m ≤ 5000) (hp : Prg w A p) (ht : Tabs w) :
    Calls Tryd.prog 32 #[.slice A m c] w (Bools w (reachL p)) := by
  have MA := Lib.hid (may_any A m c p w hl hm hp ht)
  have NX := Lib.hid (fun (k : Nat) (hk : k < m) w' (s : Same w w') => next_any A m c p k w' hl hm hk (hp.same s))
  have hnn : ∀ j, j < p.length → 0 ≤ (Fp.at_ p j).n := fun j hj => (hp.at_ hj).1.1
  have HNN := Lib.hid hnn
  have HL := Lib.hid hl
  clear hl hp ht hnn
  cases hok : okB p
  · rw [hok] at MA
    have hE : reachL p = [] := by unfold reachL; rw [hok]; rfl
    rw [hE]
    clear hok hE
    go_enter Tryd.func32, Tryd.ntmps32
    go_wp2_with fail
    refine MA.out.mono ?_
    rintro e w1 ⟨rfl, s1⟩
    go_wp2_with fail
    go_ret
    exact bools_mk rfl (Row.nil _ _) s1
  · rw [hok] at MA
    have hF := okB_fine hok
    have hE : reachL p = BL m (R p m) := by unfold reachL; rw [hok, HL.out]; rfl
    rw [hE]
    have hpos : 0 < m := by have := hF.size; have := HL.out; omega
    have hED : ∀ k, k < m → ∀ t ∈ nextL p k, ∃ x : Nat, t = (x : Int) ∧ x < m := fun k hk t ht => by
      have := (hF.edge HNN.out (by rw [HL.out]; exact hk) ht).1
      have := HL.out
      exact ⟨t.toNat, by omega, by omega⟩
    have HED := Lib.hid hED
    clear hok hE hF hED
    obtain ⟨i0, hi, hz0, hz1, hz2⟩ := info_parts bool_info
    go_enter Tryd.func32, Tryd.ntmps32
    go_wp2_with fail
    refine MA.out.mono ?_
    rintro e w1 ⟨rfl, s1⟩
    have HS1 := Lib.hid s1
    clear s1 MA
    go_wp2_with fail
    obtain ⟨w2, hrun, ho, hg⟩ := run_make_full (P := Tryd.prog) w1 w1.heap.size 49 4 i0 _ 1 Tryd.underlying49 hi hz0 hz1 .i64 .i64 m (by rw [hz2]; omega) (by unfold maxLen; omega) (Nat.le_refl _)
    rw [hrun]
    clear hrun
    have s2 : Same w1 w2 := (Chg.of_grown hg).weak fun g _ h => by cases h
    rw [made_BL] at ho
    have HO2 := Lib.hid (show OwnK w2 w1.heap.size 4 1 (some ⟨w1.heap.size, 0, none⟩) m m (BL m fun _ => false) from ho)
    have HS2 := Lib.hid (HS1.out.trans s2)
    have HQ := Lib.hid (HS1.out.size)
    clear ho hg s2
    generalize w1.heap.size = q at *
    have c0 := own_get HO2.out hpos
    have t0 := own_thaw HO2.out 0
    have hpi : (0 : Int) < m := by omega
    have ho3 := own_set HO2.out 0 (.bool true)
    rw [reach_init p m hpos] at ho3
    have HO3 := Lib.hid ho3
    have HS3 := Lib.hid (HS2.out.set (p := ⟨q, 0, none⟩) (.inr HQ.out) (.bool true))
    clear ho3
    go_wp2_with fail
    go_loopg [17] m (fun gk iv wx => ∃ k : Nat, k + gk = m ∧ iv = .int .i64 k ∧ OwnK wx q 4 1 (some ⟨q, 0, none⟩) m m (BL m (R p k)) ∧ Same w wx)
    case atStart => exact ⟨0, by omega, rfl, HO3.out, HS3.out⟩
    case round =>
      clear c0 t0 HO2 HS2 HO3 HS3
      obtain ⟨k, hk, rfl, ho, sx⟩ := hrel
      have HO := Lib.hid ho
      have HS := Lib.hid sx
      clear ho sx
      cases gk with
      | zero =>
        obtain rfl : m = k := by omega
        have hge : ¬ (m : Int) < (m : Int) := by omega
        go_wp2_with fail
        go_ret
        exact bools_mk (BL_len _ _).symm HO.out.row HS.out
      | succ GA =>
        have hlt : (k : Int) < m := by omega
        have hk0 : (0 : Int) ≤ k := by omega
        have hkm : k < m := by omega
        have c0 := own_get HO.out hkm
        cases hr : R p k k
        · rw [hr] at c0
          have hsk := reach_skip p m k hr
          have ho' := HO.out
          rw [hsk] at ho'
          have HO' := Lib.hid ho'
          clear hr hsk ho'
          go_wp2_with fail
          go_roundg GA
          case rel => exact ⟨k + 1, by omega, by go_num, HO'.out, HS.out⟩
          case measure => omega
        · rw [hr] at c0
          have HEND := Lib.hid (reach_end p m k hr)
          have HED2 := Lib.hid (HED.out k hkm)
          have NXK := Lib.hid (NX.out k hkm _ HS.out)
          have hlz : (nextL p k).length ≤ 2 := by
            unfold nextL
            repeat' split
            all_goals simp
          obtain ⟨N, hN⟩ : ∃ N, N = nextL p k := ⟨_, rfl⟩
          have HNK := Lib.hid hN
          rw [← hN] at hlz
          clear hr hN
          go_wp2_with fail
          refine NXK.out.mono ?_
          rintro e w4 ⟨A4, c4, rfl, r4, s4⟩
          rw [← HNK.out] at r4
          rw [← HNK.out]
          have HR4 := Lib.hid r4
          have ho4 := HO.out.same s4
          rw [← reach_zero] at ho4
          have HO4 := Lib.hid ho4
          have HS4 := Lib.hid (HS.out.trans s4)
          clear r4 s4 ho4 NXK c0
          obtain ⟨n, hn⟩ : ∃ n, n = N.length := ⟨_, rfl⟩
          rw [← hn]
          have HNL := Lib.hid hn
          rw [← hn] at hlz
          clear hn
          have HQ4 := Lib.hid (show ∀ b o, A4 = some ⟨b, o, none⟩ → N.map (Value.int .i64) ≠ [] → ¬ b = q from fun b o h h0 e => by
            cases hN : N with
            | nil => rw [hN] at h0; exact h0 rfl
            | cons x r =>
              obtain ⟨b', o', h', hc⟩ := HR4.out 0 _ (by rw [hN]; rfl)
              rw [h] at h'
              injection h' with h'
              injection h' with h' _
              subst h'
              subst e
              exact own_bool HO4.out hc)
          go_wp2_with fail
          go_loopg [29] n (fun gk iv wx => ∃ j : Nat, j + gk = n ∧ iv = .int .i64 j ∧ OwnK wx q 4 1 (some ⟨q, 0, none⟩) m m (BL m (reachF p k j)) ∧ Same w wx ∧ Chg (fun i => i = q) w4 wx)
          case atStart => exact ⟨0, by omega, rfl, HO4.out, HS4.out, Chg.refl _ _⟩
          case round =>
            obtain ⟨j, hj, rfl, ho, sx, sq⟩ := hrel
            have HOJ := Lib.hid ho
            have HSJ := Lib.hid sx
            have HSQ := Lib.hid sq
            clear ho sx sq
            cases gk with
            | zero =>
              obtain rfl : n = j := by omega
              have hge : ¬ (n : Int) < (n : Int) := by omega
              have ho5 := HOJ.out
              rw [HNL.out, HNK.out, HEND.out] at ho5
              have HO5 := Lib.hid ho5
              clear ho5
              go_wp2_with fail
              go_roundg GA
              case rel => exact ⟨k + 1, by omega, by go_num, HO5.out, HSJ.out⟩
              case measure => omega
            | succ GB =>
              have hltj : (j : Int) < n := by omega
              have hj0 : (0 : Int) ≤ j := by omega
              have hjn : j < N.length := by have := HNL.out; omega
              obtain ⟨b, o, rfl, d0⟩ := (HR4.out.chg HSQ.out HQ4.out).at_ (k := j) (by rw [List.length_map]; exact hjn)
              obtain ⟨t, ht, htm⟩ := HED2.out (N[j]) (by rw [← HNK.out]; exact List.getElem_mem hjn)
              have hset := reach_set (p := p) (n := m) (k := k) (j := j) (t := t) (by rw [← HNK.out, List.getElem?_eq_getElem hjn, ht]) htm
              rw [List.getElem_map, ht] at d0
              have c0 := own_get HOJ.out htm
              have t0 := own_thaw HOJ.out t
              have ho6 := own_set HOJ.out t (.bool true)
              rw [hset] at ho6
              have HO6 := Lib.hid ho6
              have HS6 := Lib.hid (HSJ.out.set (p := ⟨q, t, none⟩) (.inr HQ.out) (.bool true))
              have HQ6 := Lib.hid (HSQ.out.set (p := ⟨q, t, none⟩) (.inl rfl) (.bool true))
              have ht0 : (0 : Int) ≤ (t : Int) := by omega
              have ht1 : (t : Int) < m := by omega
              clear ho6 hset ht
              go_wp2_with fail
              go_roundg GB
              case rel => exact ⟨j + 1, by omega, by go_num, HO6.out, HS6.out, HQ6.out⟩
              case measure => omega

end Go.Proofs.YtflmejcojfnknaaDoor.Fw
