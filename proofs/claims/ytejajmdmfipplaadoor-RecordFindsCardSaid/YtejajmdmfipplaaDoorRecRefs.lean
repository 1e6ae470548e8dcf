/-

  The document's own answers on layer 4 on where a record stands and whether it is mixed, and what the law RecordFinds asks besides, as contracts of their calls.
-/
import Derived.Test.YtejajmdmfipplaaDoorRecAwake
import Derived.WalkSpells
set_option linter.unusedSimpArgs false
set_option linter.unusedVariables false
namespace Go.Proofs.YtejajmdmfipplaaDoor.Rc
open Go.ChangeShapes Go.WideShapes Go.ChangeAt Go.RowKit Ws

theorem own_none4 (w : World) (e : TypeId) : Own (w.alloc (.cells #[] e)) w.heap.size e (some ⟨w.heap.size, 0, none⟩) 0 [] := World.ownsRow_made w #[] 0 (Nat.le_refl _) (Nat.zero_le _) rfl

def CopyPost (w : World) (l : List Int) (n : Nat) (e : Ending) (w' : World) : Prop := ∃ A c, e = .returned (.slice A n c) ∧ Row w' A (w32 l) ∧ Same w w'

set_option maxRecDepth 100000 in
theorem clone_any (A : Option Addr) (n c : Nat) (l : List Int) (w : World) (h : Row w A (w32 l)) (hn : l.length = n) (hl : n ≤ 4096) (hA : A = none → n = 0) :
    Calls Tryd.prog 71 #[.slice A n c] w (CopyPost w l n) := by
  obtain ⟨i0, hi, hz0, hz1, hz2⟩ := info_parts u32_info
  have HN := Lib.hid hn
  have HA := Lib.hid hA
  clear hn hA
  have hq : ∀ (w : World) (a : Option Addr) (n c n' c' : Nat), (binOp .eql 37 (.slice a n c) (.slice none n' c')).run Tryd.prog w = .ok (.bool a.isNone) w := fun w a n c n' c' => Lib.run_eql_slice_nil w _ _ a n c n' c' Tryd.underlying37
  cases A with
  | none =>
    obtain rfl : n = 0 := HA.out rfl
    have hl0 : l = [] := List.eq_nil_of_length_eq_zero HN.out
    have HL := Lib.hid hl0
    clear hl0
    go_enter Tryd.func71, Tryd.ntmps71
    go_wp2
    go_ret
    exact ⟨none, _, rfl, by rw [HL.out]; exact Row.nil _ _, Same.refl _⟩
  | some ad =>
    go_enter Tryd.func71, Tryd.ntmps71
    go_wp2_with (at_builtin; refine wpList_app rfl _ _ 37 rfl w.heap.size 62 i0 _ 4 Tryd.underlying37 hi hz0 hz1 hz2 rfl _ _ _ [] rfl rfl (own_none4 w 62) _ _ _ (w32 l) rfl ?c1 ?c2 (w32_one l) ?c3 (by omega) ?c4 ?c5)
    case c1 => rw [w32_len]; exact HN.out
    case c2 => exact h.same ((Same.refl _).alloc _)
    case c3 => have := HN.out; simp [w32_len]; omega
    case c4 => simp
    intro A' c' w1 ho hc hA
    have hs : Same w w1 := Same.more ((Same.refl w).alloc (.cells #[] 62)) hc (fun i hi => by
      have hi : w.heap.size = i := by simpa using hi
      omega)
    go_wp2
    go_ret
    exact ⟨A', c', rfl, by simpa using ho.row, hs⟩

theorem copy_any (A : Option Addr) (n c : Nat) (l : List Int) (w : World) (h : Row w A (w32 l)) (hn : l.length = n) (hl : n ≤ 4096) (hA : A = none → n = 0) :
    Calls Tryd.prog 27 #[.slice A n c] w (CopyPost w l n) := by
  go_enter Tryd.func27, Tryd.ntmps27
  go_wp2_with fail
  refine (clone_any A n c l w h hn hl hA).mono ?_
  rintro e w' ⟨A', c', rfl, hr, hs⟩
  clear hn hA
  go_wp2
  go_ret
  exact ⟨A', c', rfl, hr, hs⟩

def fewB (l : List (List Int)) : Bool := decide (l.length ≤ 60) && l.all fun x => decide (x.length ≤ 60)

theorem few_any (A : Option Addr) (n c : Nat) (l : List (List Int)) (w : World) (hn : l.length = n) (hl : Recs w A l) (hb : ∀ x ∈ l, x.length ≤ 9223372036854775807) :
    Calls Tryd.prog 23 #[.slice A n c] w fun e w' => e = .returned (.bool (fewB l)) ∧ w = w' := by
  have HN := Lib.hid hn
  have HB := Lib.hid hb
  clear hn hb
  by_cases h60 : n ≤ 60
  · have h1 : ¬ (60 : Int) < (n : Int) := by omega
    go_enter Tryd.func23, Tryd.ntmps23
    go_wp2_with fail
    go_loopg [10] n (fun gk i wx => ∃ k : Nat, k + gk = n ∧ i = .int .i64 k ∧ (∀ x ∈ l.take k, x.length ≤ 60) ∧ wx = w)
    case atStart => exact ⟨0, by omega, rfl, fun x hx => by simp at hx, rfl⟩
    case round =>
      obtain ⟨k, hkg, rfl, hall, rfl⟩ := hrel
      have HA := Lib.hid hall
      clear hall
      cases gk with
      | zero =>
        obtain rfl : k = n := by omega
        have hkk : ¬ (k : Int) < k := by omega
        have hf : fewB l = true := by
          unfold fewB
          rw [Bool.and_eq_true, decide_eq_true_eq, List.all_eq_true]
          refine ⟨by rw [HN.out]; exact h60, fun x hx => ?_⟩
          have := HA.out x (by rw [List.take_of_length_le (by have := HN.out; omega)]; exact hx)
          simpa using this
        have HF := Lib.hid hf
        clear hf
        go_wp2_with fail
        go_ret
        exact ⟨ret_bool HF.out.symm, rfl⟩
      | succ gk =>
        have hkk : (k : Int) < n := by omega
        obtain ⟨y, hy⟩ : ∃ y, l[k]? = some y := ⟨_, List.getElem?_eq_getElem (by have := HN.out; omega)⟩
        obtain ⟨b, o, D, c', rfl, hc, hrow⟩ := hl k y hy
        have hyb := HB.out y (List.mem_of_getElem? hy)
        have HY := Lib.hid hy
        clear hy
        obtain ⟨m, hm⟩ : ∃ m, m = y.length := ⟨_, rfl⟩
        rw [← hm] at hc hyb
        have HM := Lib.hid hm
        clear hm
        by_cases hy6 : m ≤ 60
        · have h2 : ¬ (60 : Int) < (m : Int) := by omega
          go_wp2_with fail
          go_roundg gk
          case measure => omega
          case rel => exact ⟨k + 1, by omega, by go_num, fun x hx => by
            rw [List.take_add_one, HY.out] at hx
            rcases List.mem_append.1 hx with hx | hx
            · exact HA.out x hx
            · simp at hx
              rw [hx, ← HM.out]
              exact hy6, rfl⟩
        · have h2 : (60 : Int) < (m : Int) := by omega
          have hf : fewB l = false := by
            unfold fewB
            have : (l.all fun x => decide (x.length ≤ 60)) = false := by
              rw [List.all_eq_false]
              exact ⟨y, List.mem_of_getElem? HY.out, by rw [← HM.out]; simp; omega⟩
            rw [this]
            simp
          have HF := Lib.hid hf
          clear hf
          go_wp2_with fail
          go_ret
          exact ⟨ret_bool HF.out.symm, rfl⟩
  · have h1 : (60 : Int) < (n : Int) := by omega
    have hf : fewB l = false := by
      unfold fewB
      rw [show decide (l.length ≤ 60) = false by rw [HN.out]; simp; omega]
      rfl
    have HF := Lib.hid hf
    clear hf
    go_enter Tryd.func23, Tryd.ntmps23
    go_wp2_with fail
    go_ret
    exact ⟨ret_bool HF.out.symm, rfl⟩

def RFindPost (w : World) (l : List (List Int)) (r : List Int) (e : Ending) (w' : World) : Prop :=
  ((∃ i : Nat, Found l r i ∧ e = .returned (.int .i64 i)) ∨ (r ∉ l ∧ e = .returned (.int .i64 (-1)))) ∧ ∃ q, w' = w.drewN q

theorem rfind_any (A C : Option Addr) (n c m d : Nat) (l : List (List Int)) (r : List Int) (w : World) (hn : l.length = n) (hm : r.length = m) (hm2 : m ≤ 4294967296) (hn2 : n ≤ 4294967296) (hs : ∀ x ∈ l, x.length ≤ 4294967296) (hl : Recs w A l) (hr : Row w C (w32 r)) :
    Calls Tryd.prog 25 #[.slice A n c, .slice C m d] w (RFindPost w l r) := by
  have HN := Lib.hid hn
  have HM := Lib.hid hm
  clear hn hm
  go_enter Tryd.func25, Tryd.ntmps25
  go_wp2_with fail
  go_loopw [8] (fun i wr => FindRel w l r n i wr) (fun i _ => n - (intOf i).toNat)
  case atStart => exact ⟨0, Nat.zero_le _, rfl, fun x hx => by simp at hx, 0, rfl⟩
  case round =>
    obtain ⟨k, hk, rfl, hp, q, rfl⟩ := hrel
    by_cases hlt : k < n
    · have hkn : (k : Int) < n := by omega
      obtain ⟨y, hy⟩ : ∃ y, l[k]? = some y := ⟨_, List.getElem?_eq_getElem (by have := HN.out; omega)⟩
      obtain ⟨b, o, D, c', rfl, hc, hrow⟩ := hl k y hy
      have HP := Lib.hid hp
      have HY := Lib.hid hy
      have hyl := hs y (List.mem_of_getElem? hy)
      have HYL := Lib.hid hyl
      clear hp hy hyl
      go_wp2_with fail
      refine (rsame_any D C y.length m c' d y r _ rfl HM.out (hrow.drewN q) (hr.drewN q) HYL.out hm2).mono ?_
      rintro e w2 ⟨rfl, q2, rfl⟩
      by_cases hyr : y = r
      · have hb : decide (y = r) = true := decide_eq_true hyr
        have HYR := Lib.hid hyr
        clear hyr
        rw [hb]
        clear hb
        go_wp2_with fail
        go_ret
        exact ⟨.inl ⟨k, ⟨by rw [HY.out, HYR.out], HP.out⟩, rfl⟩, q + q2, by simp⟩
      · have hb : decide (y = r) = false := decide_eq_false hyr
        have HYR := Lib.hid hyr
        clear hyr
        rw [hb]
        clear hb
        go_wp2_with fail
        go_roundw
        case rel => exact ⟨k + 1, by omega, by go_num, find_step HY.out HP.out HYR.out, q + q2, by simp⟩
        case measure => simp [intOf]; omega
    · have hkn : ¬ (k : Int) < n := by omega
      have hall : r ∉ l := fun h => hp r (by rw [List.take_of_length_le (by have := HN.out; omega)]; exact h) rfl
      have HA := Lib.hid hall
      clear hall hp
      go_wp2_with fail
      go_ret
      exact ⟨.inr ⟨HA.out, rfl⟩, q, rfl⟩

def someB (l : List (List Int)) (p k : Nat) (x : Int) : Bool := (l.take p).any fun y => decide (y[k]? = some x)
theorem someB_succ {l : List (List Int)} {p k : Nat} {x : Int} {y : List Int} (hy : l[p]? = some y) : someB l (p + 1) k x = (someB l p k x || decide (y[k]? = some x)) := by
  unfold someB
  rw [List.take_add_one, hy, List.any_append]
  simp
theorem someB_all {l : List (List Int)} {n k : Nat} (h : l.length = n) (x : Int) : someB l n k x = coverB l k x := by unfold someB coverB; rw [List.take_of_length_le (by omega)]

set_option maxRecDepth 100000 in
set_option maxHeartbeats 2000000 in
theorem rmixed_any (A C : Option Addr) (n c m d : Nat) (l : List (List Int)) (r : List Int) (w : World) (hn : l.length = n) (hm : r.length = m) (hm2 : m ≤ 4294967296) (hn2 : n ≤ 4294967296) (hs : ∀ x ∈ l, x.length ≤ 4294967296) (hl : Recs w A l) (hr : Row w C (w32 r)) :
    Calls Tryd.prog 29 #[.slice A n c, .slice C m d] w fun e w' => e = .returned (.bool (mixB l r)) ∧ ∃ q, w' = w.drewN q := by
  have HF := Lib.hid (rfind_any A C n c m d l r w hn hm hm2 hn2 hs hl hr)
  have HN := Lib.hid hn
  have HM := Lib.hid hm
  have HS := Lib.hid hs
  clear hn hm hs
  by_cases hm0 : m = 0
  · have hr0 : r = [] := List.eq_nil_of_length_eq_zero (HM.out.trans hm0)
    have HB := Lib.hid (show mixB l r = false by rw [hr0]; rfl)
    subst hm0
    clear hr0
    go_enter Tryd.func29, Tryd.ntmps29
    go_wp2_with fail
    go_ret
    exact ⟨ret_bool HB.out.symm, 0, rfl⟩
  · have hmz : ((m : Int) == 0) = false := by simp; omega
    have HR0 := Lib.hid (show r.isEmpty = false by cases r with | nil => (have := HM.out; simp at this; omega) | cons => rfl)
    go_enter Tryd.func29, Tryd.ntmps29
    go_wp2_with fail
    refine HF.out.mono ?_
    rintro e w1 ⟨hf, q, rfl⟩
    rcases hf with ⟨i, hi, rfl⟩ | ⟨hni, rfl⟩
    · have hb : mixB l r = false := by
        have : r ∈ l := List.mem_of_getElem? hi.1
        unfold mixB
        simp [this]
      have HB := Lib.hid hb
      have hi0 : (0 : Int) ≤ (i : Int) := by omega
      clear hb hi
      go_wp2_with fail
      go_ret
      exact ⟨ret_bool HB.out.symm, q, rfl⟩
    · have HNI := Lib.hid hni
      clear hni
      go_wp2_with fail
      go_loopg [20] m (fun gk i wx => ∃ k : Nat, k + gk = m ∧ i = .int .i64 k ∧ (∀ j, j < k → coverB l j (r[j]?.getD 0) = true) ∧ ∃ q, wx = w.drewN q)
      case atStart => exact ⟨0, by omega, rfl, fun j hj => absurd hj (by omega), q, rfl⟩
      case round =>
        obtain ⟨k, hkg, rfl, hcov, q1, rfl⟩ := hrel
        have HC := Lib.hid hcov
        clear hcov
        cases gk with
        | zero =>
          obtain rfl : k = m := by omega
          have hkm : ¬ (k : Int) < (k : Int) := by omega
          have hb : mixB l r = true := by
            unfold mixB
            rw [HR0.out, decide_eq_true HNI.out]
            simp only [Bool.not_false, Bool.true_and, List.all_eq_true, List.mem_range]
            intro j hj
            exact HC.out j (by have := HM.out; omega)
          have HB := Lib.hid hb
          clear hb
          go_wp2_with fail
          go_ret
          exact ⟨ret_bool HB.out.symm, q1, rfl⟩
        | succ g =>
          have hkm : (k : Int) < (m : Int) := by omega
          have hkr : k < r.length := by have := HM.out; omega
          obtain ⟨b, o, rfl, hc⟩ := hr.at_ (k := k) (by rw [w32_len]; exact hkr)
          simp only [w32, List.getElem_map] at hc
          obtain ⟨x, hx⟩ : ∃ x, x = r[k] := ⟨_, rfl⟩
          rw [← hx] at hc
          have HX := Lib.hid (show r[k]?.getD 0 = x by rw [List.getElem?_eq_getElem hkr, hx]; rfl)
          clear hx
          go_wp2_with fail
          go_loopg [6, 25] n (fun g2 s i wx => ∃ p : Nat, p + g2 = n ∧ i = .int .i64 p ∧ s = .bool (someB l p k x) ∧ ∃ q, wx = w.drewN q)
          case atStart => exact ⟨0, by omega, rfl, rfl, q1, rfl⟩
          case round =>
            obtain ⟨p, hpg, rfl, rfl, q2, rfl⟩ := hrel
            cases gk with
            | zero =>
              obtain rfl : p = n := by omega
              have hpn : ¬ (p : Int) < (p : Int) := by omega
              have hsb : someB l p k x = coverB l k (r[k]?.getD 0) := by rw [HX.out]; exact someB_all HN.out x
              obtain ⟨v, hv⟩ : ∃ v, v = coverB l k (r[k]?.getD 0) := ⟨_, rfl⟩
              rw [hsb, ← hv]
              have HV := Lib.hid hv
              clear hsb hv
              cases v
              · have hb : mixB l r = false := by
                  unfold mixB
                  have hall : (List.range r.length).all (fun i => coverB l i (r[i]?.getD 0)) = false := by
                    rw [List.all_eq_false]
                    exact ⟨k, List.mem_range.2 hkr, by simp [← HV.out]⟩
                  rw [hall]
                  simp
                have HB := Lib.hid hb
                clear hb
                go_wp2_with fail
                go_ret
                exact ⟨ret_bool HB.out.symm, q2, rfl⟩
              · go_wp2_with fail
                go_roundg g
                case measure => omega
                case rel => exact ⟨k + 1, by omega, by go_num, fun j hj => by
                  rcases (by omega : j < k ∨ j = k) with h | rfl
                  · exact HC.out j h
                  · exact HV.out.symm, q2, rfl⟩
            | succ g2 =>
              have hpn : (p : Int) < (n : Int) := by omega
              obtain ⟨y, hy⟩ : ∃ y, l[p]? = some y := ⟨_, List.getElem?_eq_getElem (by have := HN.out; omega)⟩
              obtain ⟨b', o', D, c', rfl, hcy, hrow⟩ := hl p y hy
              have HY := Lib.hid hy
              have hyl := HS.out y (List.mem_of_getElem? hy)
              have hss := someB_succ (k := k) (x := x) hy
              clear hy
              obtain ⟨v, hv⟩ : ∃ v, v = someB l p k x := ⟨_, rfl⟩
              rw [← hv] at hss ⊢
              obtain ⟨my, hmy⟩ : ∃ my, my = y.length := ⟨_, rfl⟩
              rw [← hmy] at hcy hyl
              cases v
              · by_cases hky : k < y.length
                · obtain ⟨b2, o2, rfl, hc2⟩ := hrow.at_ (k := k) (by rw [w32_len]; exact hky)
                  simp only [w32, List.getElem_map] at hc2
                  obtain ⟨z, hz⟩ : ∃ z, z = y[k] := ⟨_, rfl⟩
                  rw [← hz] at hc2
                  rw [show y[k]? = some z by rw [List.getElem?_eq_getElem hky, hz]] at hss
                  have hkm2 : (k : Int) < (my : Int) := by omega
                  have hkn2 : k < my := by omega
                  have hd2 : decide ((k : Int) < (my : Int)) = true := decide_eq_true hkm2
                  have hd3 : decide (k < my) = true := decide_eq_true hkn2
                  clear hz hv
                  by_cases hzx : z = x
                  · have he : (z == x) = true := by simp [hzx]
                    have HSS := Lib.hid (show someB l (p + 1) k x = true by rw [hss, hzx]; simp)
                    clear hss hzx hmy
                    go_wp2_with fail
                    go_quiet (fail)
                    go_wp2_with fail
                    go_roundg g2
                    case measure => omega
                    case rel => exact ⟨p + 1, by omega, by go_num, by rw [HSS.out], q2 + nq, by simp⟩
                  · have he : (z == x) = false := by simp [hzx]
                    have HSS := Lib.hid (show someB l (p + 1) k x = false by rw [hss]; simp [hzx])
                    clear hss hzx hmy
                    go_wp2_with fail
                    go_quiet (fail)
                    go_wp2_with fail
                    go_roundg g2
                    case measure => omega
                    case rel => exact ⟨p + 1, by omega, by go_num, by rw [HSS.out], q2 + nq, by simp⟩
                · have hd2 : decide ((k : Int) < (my : Int)) = false := by simp; omega
                  have hd3 : decide (k < my) = false := by simp; omega
                  have HSS := Lib.hid (show someB l (p + 1) k x = false by rw [hss, List.getElem?_eq_none (by omega)]; simp)
                  clear hss hmy hv
                  go_wp2_with fail
                  go_quiet (fail)
                  go_wp2_with fail
                  go_roundg g2
                  case measure => omega
                  case rel => exact ⟨p + 1, by omega, by go_num, by rw [HSS.out], q2 + nq, by simp⟩
              · have HSS := Lib.hid (show someB l (p + 1) k x = true by rw [hss]; simp)
                clear hss hmy hv
                go_wp2_with fail
                go_quiet (fail)
                go_wp2_with fail
                go_roundg g2
                case measure => omega
                case rel => exact ⟨p + 1, by omega, by go_num, by rw [HSS.out], q2 + nq, by simp⟩

end Go.Proofs.YtejajmdmfipplaaDoor.Rc
