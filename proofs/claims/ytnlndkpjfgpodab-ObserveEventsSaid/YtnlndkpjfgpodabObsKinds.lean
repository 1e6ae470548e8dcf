/-

  Events (layer 46): a slice of events; slices.Contains of numbers; the iterator over events of some kinds (package pick).
-/
import Derived.Test.YtnlndkpjfgpodabProg
import Derived.Test.YtnlndkpjfgpodabWords
import Derived.WalkKit
import Derived.WalkLawsBesides
import Derived.ProofKit
import Derived.Lib.Hide
import Derived.Deep.QuietTactic
import Derived.Deep.LoopGhost
import Derived.OpenShut
import Derived.Test.YtnlndkpjfgpodabFlat
import Derived.Test.YtnlndkpjfgpodabObsRange
import Derived.RangeFuncNested
import Derived.RangeFuncBound
import Derived.RangeFuncCalls
import Derived.RangeFuncLeaves
import Derived.Shelf.Abstract
import Derived.Shelf.RegionOpen
import Derived.OwnWalkIn
import Derived.TacticsInMore
import Derived.LoopNIn
import Derived.LoopIn
import Derived.Sort.LoopGhostIn
import Derived.BigQuiet
import Derived.Outline
set_option linter.unusedVariables false
set_option linter.unusedSimpArgs false
namespace Go.Proofs.Ytnlndkpjfgpodab.Ob
open Go.ChangeShapes Go.WideShapes Go.ChangeAt Go.RowKit Ws
open Go.Shelf Rr

/-- an event: when, its kind, whose, and two numbers -/
structure Ev where
  t : Int
  k : Int
  s : Int
  a : Int
  b : Int
def evC (e : Ev) : Array Value := #[.int .i64 e.t, .int .i64 e.k, .int .i64 e.s, .int .i64 e.a, .int .i64 e.b]
/-- the slice at A holds these events -/
def Evs (w : World) (A : Option Addr) (l : List Ev) : Prop :=
  ∀ i e, l[i]? = some e → (Lit.int .i64 e.a).wf = true ∧ ∃ b o, A = some ⟨b, o, none⟩ ∧ w.cell? ⟨b, o + i * 5, none⟩ = some (.int .i64 e.t) ∧ w.cell? ⟨b, o + i * 5 + 1, none⟩ = some (.int .i64 e.k) ∧ w.cell? ⟨b, o + i * 5 + 2, none⟩ = some (.int .i64 e.s) ∧
    w.cell? ⟨b, o + i * 5 + 3, none⟩ = some (.int .i64 e.a) ∧ w.cell? ⟨b, o + i * 5 + 4, none⟩ = some (.int .i64 e.b)
theorem Evs.chg {S : Nat → Prop} {w w' : World} {A : Option Addr} {l : List Ev} (h : Evs w A l) (hc : Chg S w w') (hn : ∀ b o, A = some ⟨b, o, none⟩ → b < w.heap.size → ¬ S b) : Evs w' A l := by
  intro i e hi
  obtain ⟨h0, b, o, hA, h1, h2, h3, h4, h5⟩ := h i e hi
  have hS := hn b o hA (World.block_lt_of_cell? w _ h1)
  exact ⟨h0, b, o, hA, hc.cell h1 hS, hc.cell h2 hS, hc.cell h3 hS, hc.cell h4 hS, hc.cell h5 hS⟩
theorem Evs.same {w w' : World} {A : Option Addr} {l : List Ev} (h : Evs w A l) (hs : Same w w') : Evs w' A l := h.chg hs (fun _ _ _ _ f => f)
theorem Evs.kc {S : Nat → Prop} {w w' : World} {A : Option Addr} {l : List Ev} (h : Evs w A l) (hc : Kc S w w') (hn : ∀ b o, A = some ⟨b, o, none⟩ → l ≠ [] → ¬ S b) : Evs w' A l := by
  intro i e hi
  obtain ⟨h0, b, o, hA, h1, h2, h3, h4, h5⟩ := h i e hi
  have hS := hn b o hA (fun e => by subst e; simp at hi)
  exact ⟨h0, b, o, hA, hc.cell _ _ h1 hS, hc.cell _ _ h2 hS, hc.cell _ _ h3 hS, hc.cell _ _ h4 hS, hc.cell _ _ h5 hS⟩
theorem rowkc {S : Nat → Prop} {w w' : World} {A : Option Addr} {l : List Value} (h : Row w A l) (hc : Kc S w w') (hn : ∀ b o, A = some ⟨b, o, none⟩ → l ≠ [] → ¬ S b) : Row w' A l := by
  intro j u hj
  obtain ⟨b, o, hA, h1⟩ := h j u hj
  exact ⟨b, o, hA, hc.cell _ _ h1 (hn b o hA (fun e => by subst e; simp at hj))⟩
theorem Evs.lt {w : World} {A : Option Addr} {l : List Ev} (h : Evs w A l) (b o : Nat) (hA : A = some ⟨b, o, none⟩) (hl : l ≠ []) : b < w.heap.size := by
  cases l with
  | nil => exact absurd rfl hl
  | cons x t =>
    obtain ⟨_, b', o', e, h1, _⟩ := h 0 x rfl
    rw [hA] at e
    cases e
    exact World.block_lt_of_cell? w _ h1
theorem evs_in {w : World} {A : Option Addr} {rows : List (List Int)} (h : Fl.Rows w A [.i64, .i64, .i64, .i64, .i64] rows) : ∃ l : List Ev, l.length = rows.length ∧ Evs w A l := by
  refine ⟨rows.map fun r => ⟨r.getD 0 0, r.getD 1 0, r.getD 2 0, r.getD 3 0, r.getD 4 0⟩, by simp, ?_⟩
  intro i e he
  rw [List.getElem?_map] at he
  cases hr : rows[i]? with
  | none => rw [hr] at he; cases he
  | some r =>
    rw [hr] at he
    injection he with he
    obtain ⟨⟨hl, hf⟩, b, o, hA, hc⟩ := h i r hr
    match r, hl with
    | [x0, x1, x2, x3, x4], _ =>
      subst he
      exact ⟨hf 3 .i64 rfl, b, o, hA, hc 0 _ rfl, hc 1 _ rfl, hc 2 _ rfl, hc 3 _ rfl, hc 4 _ rfl⟩
theorem ret_bool {a b : Bool} (h : a = b) : Ending.returned (.bool a) = .returned (.bool b) := by rw [h]
theorem ret_int {a b : Int} (h : a = b) : Ending.returned (.int .i64 a) = .returned (.int .i64 b) := by rw [h]

/-! ### slices.Contains of numbers -/
def idxI (ks : List Int) (v : Int) : Int := if v ∈ ks then (ks.idxOf v : Nat) else -1
set_option maxRecDepth 100000 in
theorem index_any (A : Option Addr) (n c : Nat) (ks : List Int) (v : Int) (w : World) (hl : ks.length = n) (hn : n ≤ 1000) (hr : Row w A (ks.map (Value.int .i64))) :
    Calls Try.prog 140 #[.slice A n c, .int .i64 v] w fun e w' => (∃ r : Int, e = .returned (.int .i64 r) ∧ (0 ≤ r ↔ v ∈ ks)) ∧ w = w' := by
  have HL := Lib.hid hl
  have HR := Lib.hid hr
  clear hl hr
  go_enter Try.func140, Try.ntmps140
  go_wp2_with fail
  go_loopg [8] n (fun gk iv wx => ∃ k : Nat, k + gk = n ∧ iv = .int .i64 (k : Int) ∧ (∀ j, j < k → ks.getD j 0 ≠ v) ∧ w = wx)
  case atStart => exact ⟨0, by omega, rfl, fun j hj => by omega, rfl⟩
  case round =>
    obtain ⟨k, hk, rfl, hno, rfl⟩ := hrel
    have HNO := Lib.hid hno
    clear hno
    cases gk with
    | zero =>
      obtain rfl : k = n := by omega
      have hge : ¬ (k : Int) < k := by omega
      go_wp2_with fail
      go_ret
      refine ⟨⟨-1, rfl, fun h => by omega, fun h => ?_⟩, rfl⟩
      obtain ⟨j, hj, e⟩ := List.getElem_of_mem h
      have := HNO.out j (by have := HL.out; omega)
      rw [List.getD_eq_getElem?_getD, List.getElem?_eq_getElem hj] at this
      exact absurd e this
    | succ GK =>
      have hlt : (k : Int) < n := by omega
      have hk0 : (0 : Int) ≤ (k : Int) := by omega
      have hkl := Lib.hid (show k < ks.length by have := HL.out; omega)
      obtain ⟨b, o, rfl, hc⟩ := HR.out k (.int .i64 (ks.getD k 0)) (by rw [List.getElem?_map, List.getD_eq_getElem?_getD, List.getElem?_eq_getElem hkl.out]; rfl)
      obtain ⟨u, hu⟩ : ∃ u, u = ks.getD k 0 := ⟨_, rfl⟩
      rw [← hu] at hc
      have HU := Lib.hid hu
      have HK := Lib.hid hk
      clear hu hk
      by_cases huv : v = u
      · have e1 : (v == u) = true := by simpa using huv
        have HUV := Lib.hid huv
        clear huv
        go_wp2_with fail
        go_ret
        refine ⟨⟨(k : Int), rfl, fun _ => ?_, fun _ => by omega⟩, rfl⟩
        rw [HUV.out, HU.out, List.getD_eq_getElem?_getD, List.getElem?_eq_getElem hkl.out]
        exact List.getElem_mem hkl.out
      · have e1 : (v == u) = false := by simpa using huv
        have HUV := Lib.hid huv
        clear huv
        go_wp2_with fail
        go_roundg GK
        case rel => exact ⟨k + 1, by have := HK.out; omega, by go_num, fun j hj => by
          rcases Nat.lt_or_ge j k with h | h
          · exact HNO.out j h
          · have : j = k := by omega
            subst this
            rw [← HU.out]
            exact fun e => HUV.out e.symm, rfl⟩
        case measure => omega
theorem contains_any (A : Option Addr) (n c : Nat) (ks : List Int) (v : Int) (w : World) (hl : ks.length = n) (hn : n ≤ 1000) (hr : Row w A (ks.map (Value.int .i64))) :
    Calls Try.prog 105 #[.slice A n c, .int .i64 v] w fun e w' => e = .returned (.bool (decide (v ∈ ks))) ∧ w = w' := by
  have IX := Lib.hid (index_any A n c ks v w hl hn hr)
  clear hl hr
  go_enter Try.func105, Try.ntmps105
  go_wp2_with fail
  refine IX.out.mono ?_
  rintro e w1 ⟨⟨r, rfl, hiff⟩, rfl⟩
  have HI := Lib.hid hiff
  clear hiff
  go_wp2_with fail
  go_ret
  exact ⟨ret_bool (by rw [decide_eq_decide]; exact HI.out), rfl⟩
/-! ### the iterator -/
def kindsL (ks : List Int) (l : List Ev) : List Ev := l.filter fun e => decide (e.k ∈ ks)
theorem kinds_take {ks : List Int} {l : List Ev} {k : Nat} {x : Ev} (h : l[k]? = some x) : kindsL ks (l.take (k + 1)) = kindsL ks (l.take k) ++ if x.k ∈ ks then [x] else [] := by
  obtain ⟨hk, rfl⟩ := List.getElem?_eq_some_iff.1 h
  unfold kindsL
  rw [List.take_succ_eq_append_getElem hk, List.filter_append]
  congr 1
  by_cases hm : (l[k]'hk).k ∈ ks
  · rw [if_pos hm, List.filter_cons, decide_eq_true hm]; rfl
  · rw [if_neg hm, List.filter_cons, decide_eq_false hm]; rfl
theorem kinds_pre {ks : List Int} {l : List Ev} (k : Nat) : kindsL ks (l.take k) <+: kindsL ks l := by
  refine ⟨kindsL ks (l.drop k), ?_⟩
  unfold kindsL
  rw [← List.filter_append, List.take_append_drop]
theorem kinds_len (ks : List Int) (l : List Ev) : (kindsL ks l).length ≤ l.length := List.length_filter_le _ _
theorem kinds_any (A : Option Addr) (m c : Nat) (C : Option Addr) (n d : Nat) (w : World) :
    Calls Try.prog 70 #[.slice A m c, .slice C n d] w fun e w' => e = .returned (.func (.func 104) #[] #[.pointer (some ⟨w.heap.size, 0, none⟩), .pointer (some ⟨w.heap.size + 1, 0, none⟩)]) ∧ w' = (w.alloc (.cells #[.slice A m c] 72)).alloc (.cells #[.slice C n d] 24) := by
  go_enter Try.func70, Try.ntmps70
  go_wp2_with fail
  go_ret
  exact ⟨rfl, rfl⟩
theorem grown_of_same {w w' : World} (h : Same w w') : w.grownBy w' none := ⟨h.os, h.tape, h.output, h.size, fun i hi _ => h.block i hi id⟩
set_option maxRecDepth 100000 in
set_option maxHeartbeats 4000000 in
theorem kinds_seq (n : Nat) (hn : 1 ≤ n) (bl bk : Nat) (A : Option Addr) (m c : Nat) (evs : List Ev) (KA : Option Addr) (kn kc : Nat) (ks : List Int) (S : Nat → Prop) (w : World) (hl : evs.length = m) (hm9 : m < 9223372036854775807) (hkl : ks.length = kn) (hkn : kn ≤ 1000)
    (hE : Evs w A evs) (hK : Row w KA (ks.map (Value.int .i64))) (hbl : w.cell? ⟨bl, 0, none⟩ = some (.slice A m c)) (hbk : w.cell? ⟨bk, 0, none⟩ = some (.slice KA kn kc))
    (hSA : ∀ b o, A = some ⟨b, o, none⟩ → evs ≠ [] → ¬ S b) (hSK : ∀ b o, KA = some ⟨b, o, none⟩ → ¬ S b) (hSk : ¬ S bk) :
    SeqO n Try.prog 104 #[.pointer (some ⟨bl, 0, none⟩), .pointer (some ⟨bk, 0, none⟩)] (fun e : Ev => #[.agg (evC e)]) (Kc S) (fun xs => xs = kindsL ks evs) (fun pre => pre <+: kindsL ks evs) w := by
  intro l J Jx W hW hJ hJx hY h0
  have hSW : Same w W := Same.of_below hW
  replace hE := hE.same hSW
  replace hK := hK.same hSW
  replace hbl := hSW.cell hbl
  replace hbk := hSW.cell hbk
  clear hW hSW
  refine callsIn_of_wp Try.func104 rfl trivial ?_ rfl
  simp only [Try.ntmps104, List.size_toArray, List.length_cons, List.length_nil, Nat.reduceAdd, Nat.reduceSub, Array.replicate_succ, Array.replicate_zero, List.push_toArray, List.append_toArray, List.nil_append, List.cons_append]
  have HL := Lib.hid hl
  have HSA := Lib.hid hSA
  gi_wp2
  gi_loopg [8] m (fun gk iv wx => ∃ k : Nat, k + gk = m ∧ iv = .int .i64 (k : Int) ∧ J (kindsL ks (evs.take k)) wx ∧ Kc S W wx)
  case atStart => exact ⟨0, by omega, rfl, h0, Kc.refl _ _⟩
  case round =>
    obtain ⟨k, hk, rfl, hJk, hbw⟩ := hrel
    cases gk with
    | zero =>
      obtain rfl : k = m := by omega
      have hge : ¬ (k : Int) < k := by omega
      gi_wp2
      refine bodyPost_end (results_none rfl _ _ _) rfl ?_
      refine ⟨⟨_, rfl⟩, .inl ?_⟩
      have e : evs.take k = evs := List.take_of_length_le (by omega)
      rw [e] at hJk
      first | exact hJk | exact ⟨_, rfl, hJk⟩
    | succ GK =>
      have hlt : (k : Int) < m := by omega
      have hk0 : (0 : Int) ≤ (k : Int) := by omega
      obtain ⟨x, hx⟩ : ∃ x, evs[k]? = some x := ⟨_, List.getElem?_eq_getElem (show k < evs.length by omega)⟩
      have hnx := Lib.hid (kinds_take (ks := ks) hx)
      have hpr := Lib.hid (kinds_pre (ks := ks) (l := evs) (k + 1))
      obtain ⟨hwf, b, o, rfl, c0, c1, c2, c3, c4⟩ := (hE.kc hbw HSA.out) k _ hx
      have hbK : (wr.alloc (.cells (evC x) 74)).cell? ⟨bk, 0, none⟩ = some (.slice KA kn kc) := (hbw.alloc (.cells (evC x) 74)).cell _ _ hbk hSk
      have hRK : Row (wr.alloc (.cells (evC x) 74)) KA (ks.map (Value.int .i64)) := rowkc hK (hbw.alloc _) (fun b o e _ => hSK b o e)
      have CT := Lib.hid (contains_any KA kn kc ks x.k _ hkl hkn hRK)
      have hJA : J (kindsL ks (evs.take k)) (wr.alloc (.cells (evC x) 74)) := hJ _ _ _ none hJk (grown_of_same (Same.alloc (Same.refl _) _)) (fun _ h => by cases h)
      have HJA := Lib.hid hJA
      have HBA := Lib.hid (hbw.alloc (.cells (evC x) 74))
      have HK := Lib.hid hk
      clear hbw hJk hK hE hRK hJA hk
      simp only [evC] at hbK CT HJA HBA hY
      by_cases hm : x.k ∈ ks
      · have d1 : decide (x.k ∈ ks) = true := decide_eq_true hm
        rw [d1] at CT
        have HM := Lib.hid hm
        clear hm d1
        obtain ⟨fn, tmps, assign, body, hy, hR⟩ := hY _ x _ HJA.out (by
          have h1 := hpr.out
          rw [hnx.out, if_pos HM.out] at h1
          exact h1)
        gi_wp2_with (refine ⟨trivial, ?_⟩; gi_at_call 105; refine (callsIn_wide.2 CT.out).mono ?_; rintro e w' ⟨rfl, rfl⟩)
        refine hR.mono ?_
        rintro e W3 ⟨_, (⟨rfl, hJ3, hk3⟩ | ⟨rfl, hJx3⟩)⟩
        · gi_wp2
          go_roundg GK
          case rel => exact ⟨k + 1, by have := HK.out; omega, by go_num, by
            rw [hnx.out, if_pos HM.out]; exact hJ3, HBA.out.trans hk3⟩
          case measure => omega
        · gi_wp2
          refine bodyPost_ret (results_none rfl _ _ _) rfl ?_
          refine ⟨⟨_, rfl⟩, .inr ⟨_, ?_, hJx3⟩⟩
          have h1 := hpr.out
          rw [hnx.out, if_pos HM.out] at h1
          exact h1
      · have d1 : decide (x.k ∈ ks) = false := decide_eq_false hm
        rw [d1] at CT
        have HM := Lib.hid hm
        clear hm d1
        gi_wp2_with (refine ⟨trivial, ?_⟩; gi_at_call 105; refine (callsIn_wide.2 CT.out).mono ?_; rintro e w' ⟨rfl, rfl⟩)
        refine ⟨fun _ h => (by cases h), ?_⟩
        gi_wp2
        go_roundg GK
        case rel => exact ⟨k + 1, by have := HK.out; omega, by go_num, by
          rw [hnx.out, if_neg HM.out, List.append_nil]; exact HJA.out, HBA.out⟩
        case measure => omega
end Go.Proofs.Ytnlndkpjfgpodab.Ob
