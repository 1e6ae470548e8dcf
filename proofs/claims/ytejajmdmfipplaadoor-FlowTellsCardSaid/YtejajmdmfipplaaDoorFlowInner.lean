/-

  Contracts of package flow (layer 10): Inner; the document's Fine.
-/
import Derived.Test.YtejajmdmfipplaaDoorFlowUse
import Derived.Laws.Rows
import Derived.Laws.ResultCell
set_option linter.unusedVariables false
set_option linter.unusedSimpArgs false
namespace Go.Proofs.YtejajmdmfipplaaDoor.Fw
open Go.ChangeShapes Go.WideShapes Go.ChangeAt Go.RowKit Ws Fp
open Go.Proofs.YtejajmdmfipplaaDoor.Is (Tabs ins rightB leadB)

theorem results_cell2 {P : Program} {fn : Func} {p t : Tmp} {ty : TypeId} (h : fn.results = #[.cell p ty, .tmp t]) (tmps : Array Value) (w : World) (g : Nat) (T : TypeId) (cs : Array Value) (fr : Nat × Nat) (d : TypeDesc)
    (hp : tmps.getD p undef = .pointer (some ⟨g, 0, none⟩)) (hg : w.heap[g]? = some (.cells cs T fr))
    (hu : P.underlying ty = some d) (hd : (match d with | .struct _ | .array _ _ => true | _ => false) = true) (hi : (P.info? ty).map (·.size) = some cs.size) :
    (results fn tmps).run P w = .ok (.tuple #[.agg cs, tmps.getD t undef]) w := by
  have hp' : tmps[p]?.getD undef = .pointer (some ⟨g, 0, none⟩) := by simpa using hp
  simp [results, h, hp', asAddr, run_loadVar_row w g T ty cs fr d hg hu hd hi]
/-- the first loop that has a place -/
def innerI (l : List (Int × Int)) (x : Int) : Int × Int := match first l.length (fun k => hasB (lp l k) x) with | some k => lp l k | none => (0, 0)
def innerB (l : List (Int × Int)) (x : Int) : Bool := (first l.length (fun k => hasB (lp l k) x)).isSome
def InnerPost (l : List (Int × Int)) (x : Int) (e : Ending) : Prop := e = .returned (.tuple #[.agg #[.int .i64 (innerI l x).1, .int .i64 (innerI l x).2], .bool (innerB l x)])
theorem inner_yes {l : List (Int × Int)} {x : Int} {k : Nat} {t : Int × Int} (hk : k < l.length) (ht : lp l k = t) (h : hasB t x = true) (hn : ∀ j, j < k → hasB (lp l j) x = false) : InnerPost l x (.returned (.tuple #[.agg #[.int .i64 t.1, .int .i64 t.2], .bool true])) := by
  have e := first_some (n := l.length) (f := fun k => hasB (lp l k) x) hk (show hasB (lp l k) x = true by rw [ht]; exact h) hn
  unfold InnerPost innerI innerB
  rw [e]
  simp only [ht, Option.isSome]
theorem inner_no {l : List (Int × Int)} {x : Int} (hn : ∀ j, j < l.length → hasB (lp l j) x = false) : InnerPost l x (.returned (.tuple #[.agg #[.int .i64 0, .int .i64 0], .bool false])) := by
  have e := first_none (n := l.length) (f := fun k => hasB (lp l k) x) hn
  unfold InnerPost innerI innerB
  rw [e]
  rfl
theorem span_size : (Tryd.prog.info? 50).map (·.size) = some 2 := by kernel_rfl

set_option maxRecDepth 100000 in
theorem inner_any (A : Option Addr) (m c : Nat) (p : List Ins) (x : Int) (w : World) (hl : p.length = m) (hm : m ≤ 5000) (hp : Prg w A p) (ht : Tabs w) :
    Calls Tryd.prog 36 #[.slice A m c, .int .i64 x] w fun e w' => InnerPost (toldL p) x e ∧ Same w w' := by
  have hs0 := (Same.refl w).alloc (.cells #[.int .i64 0, .int .i64 0] 50)
  have TL := Lib.hid (told_any A m c p _ hl hm (hp.same hs0) (ht.same hs0))
  have HB0 := Lib.hid (Blk.new w 50 #[.int .i64 0, .int .i64 0])
  have HS0 := Lib.hid hs0
  have hlen : (toldL p).length ≤ 5000 := by
    unfold toldL
    split
    · have := loopsTo_len (p := p) p.length
      unfold loopsL
      omega
    · simp
  have HLE := Lib.hid hlen
  clear hl hp ht hlen hs0
  go_enter Tryd.func36, Tryd.ntmps36
  go_wp2_with fail
  refine TL.out.mono ?_
  rintro e w1 ⟨A1, c1, rfl, sp, s1⟩
  have HSP := Lib.hid sp
  have HS1 := Lib.hid (HS0.out.trans s1)
  have HB1 := Lib.hid (HB0.out.same s1)
  clear sp s1 TL HS0 HB0
  generalize hL : toldL p = L at *
  have HL0 := Lib.hid hL
  clear hL
  obtain ⟨n, hn⟩ : ∃ n, n = L.length := ⟨_, rfl⟩
  rw [← hn]
  have HN := Lib.hid hn
  have hn5 : n ≤ 5000 := by have := HLE.out; omega
  clear hn
  generalize hq : w.heap.size = q at *
  have HQ := Lib.hid hq
  clear hq
  go_wp2_with fail
  go_loopg [11] n (fun gk iv wx => ∃ k : Nat, k + gk = n ∧ iv = .int .i64 k ∧ (∀ j, j < k → hasB (lp L j) x = false) ∧ Same w1 wx)
  case atStart => exact ⟨0, by omega, rfl, fun j hj => by omega, Same.refl _⟩
  case round =>
    obtain ⟨k, hk, rfl, hno, sx⟩ := hrel
    have HS := Lib.hid sx
    have HNO := Lib.hid hno
    have HB := Lib.hid (HB1.out.same sx)
    clear sx hno
    cases gk with
    | zero =>
      obtain rfl : k = n := by omega
      have hge : ¬ (k : Int) < (k : Int) := by omega
      have z0 : wr.cell? ⟨q, 0, none⟩ = some (.int .i64 0) := HB.out.cell 0
      have z1 : wr.cell? ⟨q, 1, none⟩ = some (.int .i64 0) := HB.out.cell 1
      have y0 := HB.out.thaw 0
      have y1 := HB.out.thaw 1
      go_wp2_with fail
      have hb := (HB.out.put 0 (.int .i64 0)).put 1 (.int .i64 0)
      refine bodyPost_ret (v := .tuple #[.agg #[.int .i64 0, .int .i64 0], .bool false]) (results_cell2 Tryd.results36 _ _ q 50 #[.int .i64 0, .int .i64 0] (0, 0) _ rfl hb Tryd.underlying50 rfl span_size) rfl ⟨by rw [HL0.out]; exact inner_no (fun j hj => HNO.out j (by have := HN.out; omega)), ?_⟩
      exact ((HS1.out.trans HS.out).set (p := ⟨q, 0, none⟩) (.inr (by have := HQ.out; simp; omega)) _).set (p := ⟨q, 1, none⟩) (.inr (by have := HQ.out; simp; omega)) _
    | succ GK =>
      have hlt : (k : Int) < n := by omega
      have hkl : k < L.length := by have := HN.out; omega
      obtain ⟨b, o, rfl, c0, c1'⟩ := (HSP.out.same HS.out).at_ (k := k) hkl
      obtain ⟨t, ht⟩ : ∃ t, lp L k = t := ⟨_, rfl⟩
      rw [ht] at c0 c1'
      have hs2 := (Same.refl wr).alloc (.cells #[.int .i64 t.1, .int .i64 t.2] 50)
      have HS2 := Lib.hid (HS.out.trans hs2)
      have HB2 := Lib.hid (HB.out.same hs2)
      have HA := fun w' => has_any t.1 t.2 x w'
      have HKL := Lib.hid hkl
      have HTT := Lib.hid ht
      clear hs2 hkl ht
      cases u : hasB t x
      · have u' : hasB (t.1, t.2) x = false := u
        rw [u'] at HA
        have HU := Lib.hid u
        clear u u'
        go_wp2_with fail
        refine (HA _).mono ?_
        rintro e w2 ⟨rfl, s2⟩
        go_wp2_with fail
        go_roundg GK
        case rel => exact ⟨k + 1, by omega, by go_num, fun j hj => by
          by_cases hjk : j = k
          · subst hjk
            rw [HTT.out]
            exact HU.out
          · exact HNO.out j (by omega), HS2.out.trans s2⟩
        case measure => omega
      · have u' : hasB (t.1, t.2) x = true := u
        rw [u'] at HA
        have HU := Lib.hid u
        clear u u'
        go_wp2_with fail
        refine (HA _).mono ?_
        rintro e w2 ⟨rfl, s2⟩
        have d0 : w2.cell? ⟨wr.heap.size, 0, none⟩ = some (.int .i64 t.1) := s2.new (i := 0) rfl
        have d1 : w2.cell? ⟨wr.heap.size, 1, none⟩ = some (.int .i64 t.2) := s2.new (i := 1) rfl
        have HB3 := Lib.hid (HB2.out.same s2)
        have HS3 := Lib.hid (HS2.out.trans s2)
        have z0 : w2.cell? ⟨q, 0, none⟩ = some (.int .i64 0) := HB3.out.cell 0
        have z1 : w2.cell? ⟨q, 1, none⟩ = some (.int .i64 0) := HB3.out.cell 1
        have y0 := HB3.out.thaw 0
        have y1 := HB3.out.thaw 1
        clear s2
        go_wp2_with fail
        have hb := (HB3.out.put 0 (.int .i64 t.1)).put 1 (.int .i64 t.2)
        refine bodyPost_ret (v := .tuple #[.agg #[.int .i64 t.1, .int .i64 t.2], .bool true]) (results_cell2 Tryd.results36 _ _ q 50 #[.int .i64 t.1, .int .i64 t.2] (0, 0) _ rfl hb Tryd.underlying50 rfl span_size) rfl ⟨by rw [HL0.out]; exact inner_yes HKL.out HTT.out HU.out HNO.out, ?_⟩
        exact ((HS1.out.trans HS3.out).set (p := ⟨q, 0, none⟩) (.inr (by have := HQ.out; simp; omega)) _).set (p := ⟨q, 1, none⟩) (.inr (by have := HQ.out; simp; omega)) _

end Go.Proofs.YtejajmdmfipplaaDoor.Fw
