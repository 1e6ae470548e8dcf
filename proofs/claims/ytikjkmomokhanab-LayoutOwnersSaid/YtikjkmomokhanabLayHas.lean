/-

  Regions (api.Region) one behind the other: in which of them a word lies (layout.Owner).
-/
import Derived.Test.YtikjkmomokhanabRows
import Derived.Test.YtikjkmomokhanabWordsK
import Derived.Test.YtikjkmomokhanabOpen
import Derived.Test.YtikjkmomokhanabFlat
import Derived.ProofKit
import Derived.OpenShut
import Derived.WalkKit
import Derived.WalkLawsBesides
import Derived.Deep.LoopGhost
import Derived.Deep.RegionHeld3
import Derived.BigQuiet
import Derived.Lib.Hide
set_option linter.unusedVariables false
set_option linter.unusedSimpArgs false
namespace Go.Proofs.Ytikjkmomokhanab.Ly
open Go.ChangeShapes Go.WideShapes Go.ChangeAt Go.RowKit Ws

theorem ret_bool {a b : Bool} (h : a = b) : Ending.returned (.bool a) = .returned (.bool b) := by rw [h]
theorem ret_int {k : IntKind} {a b : Int} (h : a = b) : Ending.returned (.int k a) = .returned (.int k b) := by rw [h]
/-- the slice at A holds these regions -/
def Regs (w : World) (A : Option Addr) (l : List (Int × Int)) : Prop :=
  ∀ (k : Nat) (r : Int × Int), l[k]? = some r → ∃ b o, A = some ⟨b, o, none⟩ ∧ w.cell? ⟨b, o + k * 2, none⟩ = some (.int .i64 r.1) ∧ w.cell? ⟨b, o + k * 2 + 1, none⟩ = some (.int .i64 r.2)
theorem Regs.same {w w' : World} {A : Option Addr} {l : List (Int × Int)} (h : Regs w A l) (hs : Same w w') : Regs w' A l := fun k r hr => by
  obtain ⟨b, o, h1, h2, h3⟩ := h k r hr
  exact ⟨b, o, h1, hs.cell h2, hs.cell h3⟩
/-- has a region a place? -/
def hasB (r : Int × Int) (x : Int) : Bool := decide (0 ≤ r.1 ∧ r.1 ≤ x ∧ x - r.1 < r.2)
def bd (x : Int) : Prop := -9223372036854775808 ≤ x ∧ x ≤ 9223372036854775807
theorem has_any (a b x : Int) (hx : bd x) (w : World) : Calls Try.prog 38 #[.agg #[.int .i64 a, .int .i64 b], .int .i64 x] w fun e w' => e = .returned (.bool (hasB (a, b) x)) ∧ Same w w' := by
  unfold bd at hx
  go_enter Try.func38, Try.ntmps38
  go_wp2
  all_goals
    go_ret
    refine ⟨ret_bool ?_, (Same.refl _).alloc _⟩
    unfold hasB
    first
      | (rw [Bool.eq_iff_iff, decide_eq_true_eq, decide_eq_true_eq]; omega)
      | (rw [decide_eq_false (by omega)])
/-- the first one that has it; -1: none -/
def holdF (l : List (Int × Int)) (x : Int) : Int := match l.findIdx? (fun r => hasB r x) with
  | none => -1
  | some i => (i : Int)
theorem hold_none {l : List (Int × Int)} {x : Int} (h : ∀ r ∈ l, hasB r x = false) : holdF l x = -1 := by
  unfold holdF
  rw [List.findIdx?_eq_none_iff.2 h]
theorem hold_some {l : List (Int × Int)} {x : Int} {k : Nat} {r : Int × Int} (hk : l[k]? = some r) (hr : hasB r x = true) (hn : ∀ j, j < k → ∀ q, l[j]? = some q → hasB q x = false) : holdF l x = k := by
  unfold holdF
  have : l.findIdx? (fun r => hasB r x) = some k := by
    rw [List.findIdx?_eq_some_iff_getElem]
    obtain ⟨h1, h2⟩ := List.getElem?_eq_some_iff.1 hk
    refine ⟨h1, by rw [h2]; exact hr, fun j hj => ?_⟩
    have hjl : j < l.length := by omega
    have := hn j hj (l[j]) (List.getElem?_eq_getElem hjl)
    simp [this]
  rw [this]
set_option maxRecDepth 100000 in
theorem holder_any (A : Option Addr) (n c : Nat) (l : List (Int × Int)) (x : Int) (w : World) (hl : l.length = n) (hm : n ≤ 5000) (hx : bd x) (hr : Regs w A l) :
    Calls Try.prog 30 #[.slice A n c, .int .i64 x] w fun e w' => e = .returned (.int .i64 (holdF l x)) ∧ Same w w' := by
  have HL := Lib.hid hl
  have HR := Lib.hid hr
  have HX := Lib.hid hx
  clear hl hr hx
  go_enter Try.func30, Try.ntmps30
  go_wp2_with fail
  go_loopg [9] n (fun gk iv wx => ∃ k : Nat, k + gk = n ∧ iv = .int .i64 k ∧ (∀ j, j < k → ∀ q, l[j]? = some q → hasB q x = false) ∧ Same w wx)
  case atStart => exact ⟨0, by omega, rfl, fun j hj => by omega, Same.refl _⟩
  case round =>
    obtain ⟨k, hk, rfl, hn, sx⟩ := hrel
    have HN := Lib.hid hn
    have HS := Lib.hid sx
    clear hn sx
    cases gk with
    | zero =>
      obtain rfl : n = k := by omega
      have hge : ¬ (n : Int) < (n : Int) := by omega
      go_wp2_with fail
      go_ret
      exact ⟨ret_int (hold_none (fun r hr => by
        obtain ⟨j, hj, hjr⟩ := List.getElem_of_mem hr
        exact HN.out j (by have := HL.out; omega) r (by rw [← hjr]; exact List.getElem?_eq_getElem hj))).symm, HS.out⟩
    | succ GK =>
      have hlt : (k : Int) < n := by omega
      have k0 : (0 : Int) ≤ k := by omega
      obtain ⟨r, hkr⟩ : ∃ r, l[k]? = some r := ⟨_, List.getElem?_eq_getElem (by have := HL.out; omega)⟩
      obtain ⟨b, o, rfl, c1, c2⟩ := HR.out k r hkr
      have c1 := HS.out.cell c1
      have c2 := HS.out.cell c2
      obtain ⟨r1, r2⟩ := r
      simp only at c1 c2
      have HK := Lib.hid hkr
      have HHA := Lib.hid (fun w' => has_any r1 r2 x HX.out w')
      clear hkr
      have HS1 := Lib.hid (HS.out.alloc (.cells #[.int .i64 r1, .int .i64 r2] 44))
      cases hh : hasB (r1, r2) x
      · rw [hh] at HHA
        have HH := Lib.hid hh
        clear hh
        go_wp2_with fail
        refine (HHA.out _).mono ?_
        rintro e w2 ⟨rfl, s2⟩
        have HS2 := Lib.hid (HS1.out.trans s2)
        clear s2
        go_wp2_with fail
        go_roundg GK
        case rel => exact ⟨k + 1, by omega, by go_num, fun j hj q hq => by
          by_cases hjk : j < k
          · exact HN.out j hjk q hq
          · obtain rfl : j = k := by omega
            rw [HK.out] at hq
            cases hq
            exact HH.out, HS2.out⟩
        case measure => omega
      · rw [hh] at HHA
        have HH := Lib.hid hh
        clear hh
        go_wp2_with fail
        refine (HHA.out _).mono ?_
        rintro e w2 ⟨rfl, s2⟩
        have HS2 := Lib.hid (HS1.out.trans s2)
        clear s2
        go_wp2_with fail
        go_ret
        exact ⟨ret_int (hold_some HK.out HH.out HN.out).symm, HS2.out⟩
/-- whose a word is: the task, or the object -/
def ownF (l m : List (Int × Int)) (x : Int) : Int × Int := if holdF l x ≠ -1 then (holdF l x, -1) else (-1, holdF m x)
theorem layout_cells {w : World} {g : Nat} {T : TypeId} {v0 v1 v2 : Value} (h : Blk w g T #[v0, v1, v2]) : w.cell? ⟨g, 0, none⟩ = some v0 ∧ w.cell? ⟨g, 1, none⟩ = some v1 ∧ w.cell? ⟨g, 2, none⟩ = some v2 := ⟨h.cell 0, h.cell 1, h.cell 2⟩
set_option maxRecDepth 100000 in
theorem owner_any (A B : Option Addr) (n c m d : Nat) (z : Int) (l q : List (Int × Int)) (x : Int) (w : World) (hl : l.length = n) (hln : n ≤ 5000) (hq : q.length = m) (hqm : m ≤ 5000) (hx : bd x) (hr : Regs w A l) (hs : Regs w B q) :
    Calls Try.prog 15 #[.agg #[.slice A n c, .slice B m d, .int .i64 z], .int .i64 x] w fun e w' => e = .returned (.tuple #[.int .i64 (ownF l q x).1, .int .i64 (ownF l q x).2]) ∧ Same w w' := by
  have hb := Blk.new w 30 #[.slice A n c, .slice B m d, .int .i64 z]
  have HB := Lib.hid hb
  have HS0 := Lib.hid ((Same.refl w).alloc (.cells #[.slice A n c, .slice B m d, .int .i64 z] 30))
  have H1 := Lib.hid (fun w' (s : Same w w') => holder_any A n c l x w' hl hln hx (hr.same s))
  have H2 := Lib.hid (fun w' (s : Same w w') => holder_any B m d q x w' hq hqm hx (hs.same s))
  clear hb hl hq hx hr hs hln hqm
  obtain ⟨a0, a1, a2⟩ := layout_cells HB.out
  by_cases h : holdF l x = -1
  · have e : ownF l q x = (-1, holdF q x) := by unfold ownF; rw [if_neg (by simpa using h)]
    rw [h] at H1
    rw [e]
    clear h e
    generalize holdF q x = y at *
    go_enter Try.func15, Try.ntmps15
    go_wp2_with fail
    refine (H1.out _ HS0.out).mono ?_
    rintro e w1 ⟨rfl, s1⟩
    have HS1 := Lib.hid (HS0.out.trans s1)
    have HB1 := Lib.hid (HB.out.same s1)
    clear s1 a0 a1 a2
    obtain ⟨a0, a1, a2⟩ := layout_cells HB1.out
    go_wp2_with fail
    refine (H2.out _ HS1.out).mono ?_
    rintro e w2 ⟨rfl, s2⟩
    go_wp2_with fail
    go_ret2
    exact ⟨rfl, HS1.out.trans s2⟩
  · have e : ownF l q x = (holdF l x, -1) := by unfold ownF; rw [if_pos h]
    rw [e]
    have hb : (holdF l x != -1) = true := by simpa using h
    clear h e
    generalize holdF l x = y at *
    go_enter Try.func15, Try.ntmps15
    go_wp2_with fail
    refine (H1.out _ HS0.out).mono ?_
    rintro e w1 ⟨rfl, s1⟩
    have HS1 := Lib.hid (HS0.out.trans s1)
    clear s1
    go_wp2_with fail
    go_ret2
    exact ⟨rfl, HS1.out⟩

end Go.Proofs.Ytikjkmomokhanab.Ly
