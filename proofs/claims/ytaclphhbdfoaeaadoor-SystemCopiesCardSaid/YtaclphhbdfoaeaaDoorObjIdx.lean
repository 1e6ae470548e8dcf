/-

  The place of a number in a list; who reads an object: package object's Reader, and the document's.
-/
import Derived.Deep.RegionHeld3
import Derived.BigQuiet
import Derived.Test.YtaclphhbdfoaeaaDoorRows
import Derived.Test.YtaclphhbdfoaeaaDoorWordsK
import Derived.Test.YtaclphhbdfoaeaaDoorOpKeep
import Derived.WalkKit
import Derived.WalkLawsBesides
import Derived.ProofKit
import Derived.OpenShut
import Derived.Lib.Hide
import Derived.Deep.QuietTactic
import Derived.Deep.LoopGhost
import Derived.Deep.CutRange
import Derived.Deep.CutBlock
import Derived.StillTailTactics
import Derived.Test.YtaclphhbdfoaeaaDoorTaskPlain
import Derived.Test.YtaclphhbdfoaeaaDoorFlowCk
import Derived.Deep.Upon
import Derived.Test.YtaclphhbdfoaeaaDoorWords
import Derived.Laws.Rows
import Derived.Laws.ResultCell
section
section
section
section
set_option linter.unusedSimpArgs false
set_option linter.unusedVariables false
namespace Go.Proofs.YtaclphhbdfoaeaaDoor.Ro

section
variable {P : Program} {l : List Oper} {Q : Exit → Act → World → Prop} {md : Region.Mode} {S : World → Prop}
theorem at_drop {i : Nat} {o : Oper} {rest : List Oper} (h : l.drop i = o :: rest) : l.toArray[i]? = some o := by
  rw [List.getElem?_toArray]
  have h2 : (l.drop i)[0]? = some o := by rw [h]; rfl
  rw [List.getElem?_drop] at h2
  exact h2
theorem take_off {i : Nat} {oi : Oper} {rest : List Oper} {fuel : Nat} {listed : Array Bool} {a : Act} {w : World} (hd : l.drop i = oi :: rest)
    (hs : Region.noSelect l.toArray = true) (hf : Region.free md l.toArray listed i = true) (hr : (Region.ready md l.toArray listed).contains i = true)
    (hQ : ∀ c a w, Q (.panic c) (a.put oi.dst undef) w → Q (.panic c) a w) (hw : Region.wanted oi (yielded l.toArray a.tmps) = false) (hS : S w)
    (h : wpAnyH P md l.toArray Q S fuel (listed.setIfInBounds i true) (a.put oi.dst undef) w) : wpAnyH P md l.toArray Q S (fuel + 1) listed a w :=
  wpAnyH_take (at_drop hd) hs hf hr hQ (.inr ⟨hw, rfl⟩) hS h
theorem take_on {i : Nat} {oi : Oper} {rest : List Oper} {v : Value} {fuel : Nat} {listed : Array Bool} {a : Act} {w : World} (hd : l.drop i = oi :: rest)
    (hs : Region.noSelect l.toArray = true) (hf : Region.free md l.toArray listed i = true) (hr : (Region.ready md l.toArray listed).contains i = true)
    (hQ : ∀ c a w, Q (.panic c) (a.put oi.dst v) w → Q (.panic c) a w) (hw : Region.wanted oi (yielded l.toArray a.tmps) = true) (hS : S w)
    (hy : ∀ w, S w → (execOp a.eval oi).run P w = .ok (.value v) w)
    (h : wpAnyH P md l.toArray Q S fuel (listed.setIfInBounds i true) (a.put oi.dst v) w) : wpAnyH P md l.toArray Q S (fuel + 1) listed a w :=
  wpAnyH_take (at_drop hd) hs hf hr hQ (.inl ⟨hw, hy⟩) hS h
theorem one_on {i : Nat} {o : Oper} {rest : List Oper} {fuel : Nat} {listed : Array Bool} {a : Act} {w : World} (hd : l.drop i = o :: rest)
    (hr : Region.ready md l.toArray listed = [i]) (hw : Region.wanted o (yielded l.toArray a.tmps) = true)
    (h : ∀ K' : Act → World → Prop, Shut (∀ a w, S w → (S w → wpAnyH P md l.toArray Q S fuel (listed.setIfInBounds i true) a w) → K' a w) → Oper.wp P o a w K' Q) : wpAnyH P md l.toArray Q S (fuel + 1) listed a w :=
  wpAnyH_ready hr (by simp) (AllReadyH.cons (at_drop hd) (fun K' hK => by rw [if_pos hw]; exact h K' hK) AllReadyH.nil)
end

end Go.Proofs.YtaclphhbdfoaeaaDoor.Ro
end
section
set_option linter.unusedSimpArgs false
set_option linter.unusedVariables false

namespace Go.Proofs.YtaclphhbdfoaeaaDoor.Mm
theorem ret_int {k : IntKind} {a b : Int} (h : a = b) : Ending.returned (.int k a) = .returned (.int k b) := by rw [h]
theorem ret_bool {a b : Bool} (h : a = b) : Ending.returned (.bool a) = .returned (.bool b) := by rw [h]
end Go.Proofs.YtaclphhbdfoaeaaDoor.Mm
namespace Go.Proofs.YtaclphhbdfoaeaaDoor.Pa
theorem here : True := trivial
end Go.Proofs.YtaclphhbdfoaeaaDoor.Pa
end
end
section
set_option linter.unusedVariables false
set_option linter.unusedSimpArgs false
namespace Go.Proofs.YtaclphhbdfoaeaaDoor.Tp
open Go.ChangeShapes Go.WideShapes Go.ChangeAt Go.RowKit Ws
open Go.Proofs.YtaclphhbdfoaeaaDoor.Fw (Prg ckI ckE check_any)
open Go.Proofs.YtaclphhbdfoaeaaDoor.Fp (Ins)
open Go.Proofs.YtaclphhbdfoaeaaDoor.Is (Tabs)

def fI (k p r o d ow : Int) (P : List Ins) : Int := if plainB k p r o d ow = true then (if ckE P = 0 then -1 else ckI P) else -1
def fE (k p r o d ow : Int) (P : List Ins) : Int := if plainB k p r o d ow = true then ckE P else 1
set_option maxRecDepth 100000 in
theorem fault_any (k p r o d ow : Int) (A : Option Addr) (n c : Nat) (P : List Ins) (w : World) (hl : P.length = n) (hm : n ≤ 200) (hp : Prg w A P) (ht : Tabs w) :
    Calls Tryd.prog 37 #[.agg #[.int .i64 k, .int .i64 p, .int .i64 r, .int .i64 o, .int .i64 d, .int .i64 ow, .slice A n c]] w fun e w' => e = .returned (.tuple #[.int .i64 (fI k p r o d ow P), .int .i64 (fE k p r o d ow P)]) ∧ Same w w' := by
  have hs0 := (Same.refl w).alloc (.cells #[.int .i64 k, .int .i64 p, .int .i64 r, .int .i64 o, .int .i64 d, .int .i64 ow, .slice A n c] 32)
  have PL := plain_any k p r o d ow A n c (w.alloc (.cells #[.int .i64 k, .int .i64 p, .int .i64 r, .int .i64 o, .int .i64 d, .int .i64 ow, .slice A n c] 32))
  have CK := fun w' (s : Same w w') => check_any A n c P w' hl (by omega) (hp.same s) (ht.same s)
  unfold fI fE
  have HS0 := Lib.hid hs0
  clear hl hp ht hs0
  generalize ckI P = ii at *
  generalize ckE P = ee at *
  cases hpl : plainB k p r o d ow
  · rw [hpl] at PL
    rw [if_neg Bool.false_ne_true, if_neg Bool.false_ne_true]
    have HPL := Lib.hid PL
    clear PL hpl CK
    go_enter Tryd.func37, Tryd.ntmps37
    go_wp2_with fail
    refine HPL.out.mono ?_
    rintro e w1 ⟨rfl, s1⟩
    go_wp2_with fail
    go_ret2
    exact ⟨rfl, HS0.out.trans s1⟩
  · rw [hpl] at PL
    rw [if_pos rfl, if_pos rfl]
    have HPL := Lib.hid PL
    have HCK := Lib.hid CK
    clear PL hpl CK
    by_cases he : ee = 0
    · subst he
      rw [if_pos rfl]
      go_enter Tryd.func37, Tryd.ntmps37
      go_wp2_with fail
      refine HPL.out.mono ?_
      rintro e w1 ⟨rfl, s1⟩
      have y6 : w1.cell? ⟨w.heap.size, 6, none⟩ = some (.slice A n c) := s1.new (i := 6) rfl
      have HS1 := Lib.hid (HS0.out.trans s1)
      clear s1
      go_wp2_with fail
      refine (HCK.out _ HS1.out).mono ?_
      rintro e w2 ⟨rfl, s2⟩
      go_wp2_with fail
      go_ret2
      exact ⟨rfl, HS1.out.trans s2⟩
    · have b0 : (ee == 0) = false := by simpa using he
      have b1 : (ee != 0) = true := by simpa using he
      rw [if_neg he]
      clear he
      go_enter Tryd.func37, Tryd.ntmps37
      go_wp2_with fail
      refine HPL.out.mono ?_
      rintro e w1 ⟨rfl, s1⟩
      have y6 : w1.cell? ⟨w.heap.size, 6, none⟩ = some (.slice A n c) := s1.new (i := 6) rfl
      have HS1 := Lib.hid (HS0.out.trans s1)
      clear s1
      go_wp2_with fail
      refine (HCK.out _ HS1.out).mono ?_
      rintro e w2 ⟨rfl, s2⟩
      go_wp2_with fail
      go_ret2
      exact ⟨rfl, HS1.out.trans s2⟩
end Go.Proofs.YtaclphhbdfoaeaaDoor.Tp
end
end
section
set_option linter.unusedVariables false
set_option linter.unusedSimpArgs false
namespace Go.Proofs.YtaclphhbdfoaeaaDoor.Ra
open Go.RowKit Ws

/-- an append to a row of one's own, wherever it stands -/
theorem oper_app {P : Program} {w : World} {o : Oper} {a : Act} {K : Act → World → Prop} {Q : Exit → Act → World → Prop} (s x : Operand) (t : TypeId)
    (ho : o.op = .call { callee := .builtin .append, args := #[s, x], argTypes := #[t, t] })
    (base : Nat) (e : TypeId) (i : TypeInfo) (z : Value) (sz bytes : Nat) (ht : P.underlying t = some (.slice e)) (hi : P.info? e = some i) (hz : i.zero = some z)
    (hsize : i.size = sz) (hby : i.bytes = bytes) (hzs : z.cells.size = sz) (hsz : 0 < sz)
    (A : Option Addr) (n c : Nat) (xs : List Value) (hs : a.eval s = .slice A n c) (hown : OwnK w base e sz A n c xs)
    (B : Option Addr) (m d : Nat) (ys : List Value) (hx : a.eval x = .slice B m d) (hm : ys.length = m * sz) (hr : Row w B ys) (h1 : ∀ u ∈ ys, u.oneCell' = true)
    (h63 : n + m ≤ 4294967296) (hby2 : bytes ≤ 4096) (hbase : base ≤ w.heap.size) (N : Nat) (hN : n + m = N)
    (h : ∀ A' c' w', OwnK w' base e sz A' N c' (xs ++ ys) → Chg (fun g => A = some ⟨g, 0, .none⟩) w w' → K (a.put o.dst (.slice A' N c')) w') :
    Oper.wp P o a w K Q := by
  subst hN
  cases B with
  | some ad =>
    obtain ⟨A', c', w', hrun, h2, h3⟩ := run_appK (P := P) w base t o.type e i z sz bytes ht hi hz hsize hby hzs hsz A n c xs hown ad m d ys hm hr h1 h63 hby2 hbase
    unfold Oper.wp execOp
    simp only [ho, resolve, invoke, builtin, Sem.run_bind, Sem.run_pure, Result.andThen_ok, List.map_toArray, List.map_cons, List.map_nil, hs, hx, hrun]
    exact h _ _ _ h2 h3
  | none =>
    have hy : ys = [] := by
      cases ys with
      | nil => rfl
      | cons u ys =>
        obtain ⟨b, o, hA, _⟩ := hr 0 u rfl
        cases hA
    subst hy
    have hm0 : m = 0 := by
      rcases Nat.eq_zero_or_pos m with h0 | h0
      · exact h0
      · have := Nat.mul_pos h0 hsz
        simp at hm
        omega
    subst hm0
    have hle : n ≤ c := by
      rcases hown.2 with ⟨hv, hn⟩ | ⟨g, cap, cur, hv, _, _, hcap, _⟩
      · omega
      · injection hv with _ _ hv
        omega
    have hrun := run_append_nothing (P := P) w t t o.type e i ht hi A n c hle (.slice none 0 d) (Src.ofNil w ht d)
    unfold Oper.wp execOp
    simp only [ho, resolve, invoke, builtin, Sem.run_bind, Sem.run_pure, Result.andThen_ok, List.map_toArray, List.map_cons, List.map_nil, hs, hx, hrun]
    exact h A c w (by rw [List.append_nil]; exact hown) (Chg.refl _ w)


theorem two_on {P : Program} {l : List Oper} {Q : Exit → Act → World → Prop} {md : Region.Mode} {S : World → Prop} {i j : Nat} {oi oj : Oper} {ri rj : List Oper} {fuel : Nat} {listed : Array Bool} {a : Act} {w : World} (hi : l.drop i = oi :: ri) (hj : l.drop j = oj :: rj)
    (hr : Region.ready md l.toArray listed = [i, j]) (hwi : Region.wanted oi (yielded l.toArray a.tmps) = true) (hwj : Region.wanted oj (yielded l.toArray a.tmps) = true)
    (h1 : ∀ K' : Act → World → Prop, Shut (∀ a w, S w → (S w → wpAnyH P md l.toArray Q S fuel (listed.setIfInBounds i true) a w) → K' a w) → Oper.wp P oi a w K' Q)
    (h2 : ∀ K' : Act → World → Prop, Shut (∀ a w, S w → (S w → wpAnyH P md l.toArray Q S fuel (listed.setIfInBounds j true) a w) → K' a w) → Oper.wp P oj a w K' Q) : wpAnyH P md l.toArray Q S (fuel + 1) listed a w :=
  wpAnyH_ready hr (by simp) (AllReadyH.cons (Ro.at_drop hi) (fun K' hK => by rw [if_pos hwi]; exact h1 K' hK) (AllReadyH.cons (Ro.at_drop hj) (fun K' hK => by rw [if_pos hwj]; exact h2 K' hK) AllReadyH.nil))
end Go.Proofs.YtaclphhbdfoaeaaDoor.Ra
end
end
section
set_option linter.unusedVariables false
set_option linter.unusedSimpArgs false
namespace Go.Proofs.YtaclphhbdfoaeaaDoor.Os
open Go.ChangeShapes Go.WideShapes Go.ChangeAt Go.RowKit Ws

theorem ocs8 {w : World} {b : Nat} {T : TypeId} {v0 v1 v2 v3 v4 v5 v6 v7 : Value} (h : Blk w b T #[v0, v1, v2, v3, v4, v5, v6, v7]) : w.cell? ⟨b, 0, none⟩ = some v0 ∧ w.cell? ⟨b, 1, none⟩ = some v1 ∧ w.cell? ⟨b, 2, none⟩ = some v2 ∧ w.cell? ⟨b, 3, none⟩ = some v3 ∧ w.cell? ⟨b, 4, none⟩ = some v4 ∧ w.cell? ⟨b, 5, none⟩ = some v5 ∧ w.cell? ⟨b, 6, none⟩ = some v6 ∧ w.cell? ⟨b, 7, none⟩ = some v7 :=
  ⟨h.cell 0, h.cell 1, h.cell 2, h.cell 3, h.cell 4, h.cell 5, h.cell 6, h.cell 7⟩
theorem int_info : (Tryd.prog.info? 3).map (fun i => (i.zero, i.size, i.bytes)) = some (some (.int .i64 0), 1, 8) := by kernel_rfl
theorem own_lit (w : World) (T : TypeId) (v : Value) : Ws.Own (w.alloc (.cells #[v] T)) w.heap.size T (some ⟨w.heap.size, 0, none⟩) 1 [v] := by
  refine ⟨by simp, .inr ⟨w.heap.size, 1, #[v], rfl, Nat.le_refl _, heap_alloc_new w _, by simp, by decide, by simp, ?_⟩⟩
  simp
/-- the place of a number; -1: none -/
noncomputable def idxF (l : List Int) (x : Int) : Int := match l.findIdx? (fun y => y == x) with
  | none => -1
  | some i => (i : Int)
theorem idx_none {l : List Int} {x : Int} (h : ∀ (k : Nat) (q : Int), l[k]? = some q → q ≠ x) : idxF l x = -1 := by
  unfold idxF
  have : l.findIdx? (fun y => y == x) = none := by
    rw [List.findIdx?_eq_none_iff]
    intro y hy
    obtain ⟨j, hj, hjy⟩ := List.getElem_of_mem hy
    have := h j y (by rw [← hjy]; exact List.getElem?_eq_getElem hj)
    simpa using this
  rw [this]
theorem idx_some {l : List Int} {x : Int} {k : Nat} (hk : l[k]? = some x) (hn : ∀ (j : Nat) (q : Int), j < k → l[j]? = some q → q ≠ x) : idxF l x = k := by
  unfold idxF
  have : l.findIdx? (fun y => y == x) = some k := by
    rw [List.findIdx?_eq_some_iff_getElem]
    obtain ⟨h1, h2⟩ := List.getElem?_eq_some_iff.1 hk
    refine ⟨h1, by simp [h2], fun j hj => ?_⟩
    have := hn j _ hj (List.getElem?_eq_getElem (by omega))
    simpa using this
  rw [this]
theorem ret_bool {a b : Bool} (h : a = b) : Ending.returned (.bool a) = .returned (.bool b) := by rw [h]
theorem ret_int {k : IntKind} {a b : Int} (h : a = b) : Ending.returned (.int k a) = .returned (.int k b) := by rw [h]
set_option maxRecDepth 100000 in
theorem index_any (A : Option Addr) (n c : Nat) (l : List Int) (x : Int) (w : World) (hl : l.length = n) (hn5 : n ≤ 5000) (hr : Row w A (l.map (Value.int .i64))) :
    Calls Tryd.prog 94 #[.slice A n c, .int .i64 x] w fun e w' => e = .returned (.int .i64 (idxF l x)) ∧ Same w w' := by
  have HL := Lib.hid hl
  have HR := Lib.hid hr
  clear hl hr
  go_enter Tryd.func94, Tryd.ntmps94
  go_wp2_with fail
  go_loopg [8] n (fun gk iv wx => ∃ i : Nat, i + gk = n ∧ iv = .int .i64 i ∧ (∀ (j : Nat) (q : Int), j < i → l[j]? = some q → q ≠ x) ∧ Same w wx)
  case atStart => exact ⟨0, by omega, rfl, fun j q hj => by omega, Same.refl _⟩
  case round =>
    obtain ⟨i, hi, rfl, hn, sx⟩ := hrel
    have HN := Lib.hid hn
    have HS := Lib.hid sx
    clear hn sx
    cases gk with
    | zero =>
      obtain rfl : n = i := by omega
      have hge : ¬ (n : Int) < (n : Int) := by omega
      go_wp2_with fail
      go_ret
      exact ⟨ret_int (idx_none (fun k q hk => HN.out k q (by obtain ⟨h1, _⟩ := List.getElem?_eq_some_iff.1 hk; have := HL.out; omega) hk)).symm, HS.out⟩
    | succ GK =>
      have hlt : (i : Int) < n := by omega
      have i0 : (0 : Int) ≤ i := by omega
      obtain ⟨y, hy⟩ : ∃ y, l[i]? = some y := ⟨_, List.getElem?_eq_getElem (by have := HL.out; omega)⟩
      obtain ⟨b, o, rfl, c1⟩ := HR.out i (.int .i64 y) (by rw [List.getElem?_map, hy]; rfl)
      replace c1 := HS.out.cell c1
      have HY := Lib.hid hy
      clear hy
      by_cases hxy : x = y
      · subst hxy
        go_wp2_with fail
        go_ret
        exact ⟨ret_int (idx_some HY.out HN.out).symm, HS.out⟩
      · have hb : (x == y) = false := by simpa using hxy
        have HXY := Lib.hid hxy
        clear hxy
        go_wp2_with fail
        go_roundg GK
        case rel => exact ⟨i + 1, by omega, by go_num, fun j q hj hq => by
          by_cases hji : j < i
          · exact HN.out j q hji hq
          · obtain rfl : j = i := by omega
            rw [HY.out] at hq
            injection hq with hq
            rw [← hq]
            exact fun h => HXY.out h.symm, HS.out⟩
        case measure => omega
set_option maxRecDepth 100000 in
theorem reader_any (k wd sl cp sa ow : Int) (ia ra : Option Addr) (il ic rl rc : Nat) (rs : List Int) (x : Int) (w : World) (hl : rs.length = rl) (hrl : rl ≤ 100) (hr : Row w ra (rs.map (Value.int .i64))) :
    Calls Tryd.prog 63 #[.agg #[.int .i64 k, .int .i64 wd, .int .i64 sl, .int .i64 cp, .int .u32 sa, .slice ia il ic, .int .i64 ow, .slice ra rl rc], .int .i64 x] w fun e w' => e = .returned (.tuple #[.int .i64 (if 0 ≤ idxF rs x then idxF rs x else 0), .bool (decide (0 ≤ idxF rs x))]) ∧ Same w w' := by
  have hb := Blk.new w 39 #[.int .i64 k, .int .i64 wd, .int .i64 sl, .int .i64 cp, .int .u32 sa, .slice ia il ic, .int .i64 ow, .slice ra rl rc]
  have hs0 := (Same.refl w).alloc (.cells #[.int .i64 k, .int .i64 wd, .int .i64 sl, .int .i64 cp, .int .u32 sa, .slice ia il ic, .int .i64 ow, .slice ra rl rc] 39)
  have HS0 := Lib.hid hs0
  obtain ⟨d0, d1, d2, d3, d4, d5, d6, d7⟩ := ocs8 hb
  have HI := Lib.hid (index_any ra rl rc rs x _ hl (by omega) (hr.same hs0))
  clear hl hr hb hs0
  generalize idxF rs x = y at *
  by_cases hy : 0 ≤ y
  · rw [if_pos hy, decide_eq_true hy]
    go_enter Tryd.func63, Tryd.ntmps63
    go_wp2_with fail
    refine HI.out.mono ?_
    rintro e w1 ⟨rfl, s1⟩
    have HS1 := Lib.hid (HS0.out.trans s1)
    clear s1
    go_wp2_with fail
    exact bodyPost_ret (v := .tuple #[.int .i64 y, .bool true]) (by simp [results, Tryd.results63, go_sem]) rfl ⟨rfl, HS1.out⟩
  · rw [if_neg hy, decide_eq_false hy]
    go_enter Tryd.func63, Tryd.ntmps63
    go_wp2_with fail
    refine HI.out.mono ?_
    rintro e w1 ⟨rfl, s1⟩
    have HS1 := Lib.hid (HS0.out.trans s1)
    clear s1
    go_wp2_with fail
    exact bodyPost_ret (v := .tuple #[.int .i64 0, .bool false]) (by simp [results, Tryd.results63, go_sem]) rfl ⟨rfl, HS1.out⟩


end Go.Proofs.YtaclphhbdfoaeaaDoor.Os
end
