/-
  An append inside a region that draws its order; and a region in which two operations are ready.
-/
import Derived.Test.YtfpefkpbiioofabDoorWords
import Derived.Deep.RegionHeld3
import Derived.BigQuiet
import Derived.Test.YtfpefkpbiioofabDoorRows
import Derived.Test.YtfpefkpbiioofabDoorOpKeep
import Derived.WalkKit
import Derived.WalkLawsBesides
import Derived.ProofKit
import Derived.OpenShut
import Derived.Lib.Hide
import Derived.Deep.QuietTactic
import Derived.Deep.LoopGhost
import Derived.Deep.CutRange
import Derived.Deep.CutBlock
import Derived.StillTailTactics
import Derived.Deep.Upon
section
set_option linter.unusedSimpArgs false
set_option linter.unusedVariables false
namespace Go.Proofs.YtfpefkpbiioofabDoor.Ws
open Go.RowKit

/-- a slice of the call's own, of n elements of s cells each: its row is a block from its head on; or it is empty and leads nowhere -/
def OwnK (w : World) (B : Nat) (e : TypeId) (s : Nat) (A : Option Addr) (n c : Nat) (l : List Value) : Prop :=
  w.ownsRow B e s (.slice A n c) n l

theorem OwnK.len {w : World} {B : Nat} {e : TypeId} {s : Nat} {A : Option Addr} {n c : Nat} {l : List Value} (h : OwnK w B e s A n c l) : l.length = n * s := h.1
theorem OwnK.none (w : World) (B : Nat) (e : TypeId) (s : Nat) : OwnK w B e s none 0 0 [] := ⟨by simp, .inl ⟨rfl, rfl⟩⟩
theorem OwnK.row {w : World} {B : Nat} {e : TypeId} {s : Nat} {A : Option Addr} {n c : Nat} {l : List Value} (h : OwnK w B e s A n c l) : Row w A l := by
  intro j u hj
  have hlt : j < l.length := by
    rcases Nat.lt_or_ge j l.length with hl | hl
    · exact hl
    · rw [List.getElem?_eq_none hl] at hj; cases hj
  have hA : ∃ g, A = some ⟨g, 0, .none⟩ := by
    rcases h.2 with ⟨_, hz⟩ | ⟨g, cap, cur, hv, _⟩
    · have := h.1
      rw [hz, Nat.zero_mul] at this
      omega
    · exact ⟨g, by injection hv⟩
  obtain ⟨g, rfl⟩ := hA
  refine ⟨g, 0, rfl, ?_⟩
  have hc := World.ownsRow.cells h (g := g) rfl j u hj
  rw [Nat.zero_add]
  cases j with
  | zero => simpa [Addr.add] using hc
  | succ j => simpa [Addr.add] using hc
theorem OwnK.chg {S : Nat → Prop} {w w' : World} {B : Nat} {e : TypeId} {s : Nat} {A : Option Addr} {n c : Nat} {l : List Value} (h : OwnK w B e s A n c l) (hc : Chg S w w')
    (hn : ∀ g, A = some ⟨g, 0, .none⟩ → ¬ S g) : OwnK w' B e s A n c l := by
  refine ⟨h.1, ?_⟩
  rcases h.2 with h2 | ⟨g, cap, cur, hv, hb, hg, rest⟩
  · exact .inl h2
  · refine .inr ⟨g, cap, cur, hv, hb, ?_, rest⟩
    have hA : A = some ⟨g, 0, .none⟩ := by injection hv
    exact Blk.chg (t := e) hg hc (hn g hA)
theorem OwnK.same {w w' : World} {B : Nat} {e : TypeId} {s : Nat} {A : Option Addr} {n c : Nat} {l : List Value} (h : OwnK w B e s A n c l) (hc : Same w w') : OwnK w' B e s A n c l := h.chg hc fun _ _ f => f
theorem OwnK.lt {w : World} {B : Nat} {e : TypeId} {s : Nat} {g n c : Nat} {l : List Value} (h : OwnK w B e s (some ⟨g, 0, .none⟩) n c l) : B ≤ g ∧ g < w.heap.size ∧ n ≤ c ∧ c ≤ 9223372036854775807 := by
  rcases h.2 with ⟨h2, _⟩ | ⟨g', cap, cur, hv, hB, hg, h1, h2, _⟩
  · cases h2
  · injection hv with hv _ hc
    injection hv with hv
    injection hv with hv
    subst hc
    subst hv
    unfold maxLen at h2
    exact ⟨hB, Blk.lt (t := e) hg, h1, h2⟩
theorem OwnK.ne {w : World} {B : Nat} {e t : TypeId} {s : Nat} {A : Option Addr} {n c : Nat} {l : List Value} {g' : Nat} {cs : Array Value} (h : OwnK w B e s A n c l) (hb : Blk w g' t cs) (hne : e ≠ t) :
    ∀ g, A = some ⟨g, 0, .none⟩ → g ≠ g' := by
  intro g hA
  rcases h.2 with ⟨h2, hz⟩ | ⟨g2, cap, cur, hv, _, hg, rest⟩
  · injection h2 with h2
    rw [hA] at h2
    cases h2
  · have : A = some ⟨g2, 0, .none⟩ := by injection hv
    rw [hA] at this
    injection this with this
    injection this with this
    subst this
    exact Blk.ne (t := e) hg hb hne
theorem OwnK.base {w : World} {B B' : Nat} {e : TypeId} {s : Nat} {A : Option Addr} {n c : Nat} {l : List Value} (h : OwnK w B e s A n c l) (hB : B' ≤ B) : OwnK w B' e s A n c l := by
  refine ⟨h.1, ?_⟩
  rcases h.2 with h2 | ⟨g, cap, cur, hv, hb, hg, rest⟩
  · exact .inl h2
  · exact .inr ⟨g, cap, cur, hv, by omega, hg, rest⟩

/-- one step of append onto such a row, the source m elements at an address -/
theorem run_appK {P : Program} (w : World) (base : Nat) (t ty e : TypeId) (i : TypeInfo) (z : Value) (s bytes : Nat) (ht : P.underlying t = some (.slice e)) (hi : P.info? e = some i) (hz : i.zero = some z)
    (hsize : i.size = s) (hby : i.bytes = bytes) (hzs : z.cells.size = s) (hs : 0 < s)
    (A : Option Addr) (n c : Nat) (xs : List Value) (hown : OwnK w base e s A n c xs) (ad : Addr) (m d : Nat) (ys : List Value) (hm : ys.length = m * s) (hr : Row w (some ad) ys) (h1 : ∀ u ∈ ys, u.oneCell' = true)
    (h63 : n + m ≤ 4294967296) (hby2 : bytes ≤ 4096) (hbase : base ≤ w.heap.size) :
    ∃ A' c' w', (Builtin.append_ #[t, t] ty #[.slice A n c, .slice (some ad) m d]).run P w = .ok (.slice A' (n + m) c') w' ∧ OwnK w' base e s A' (n + m) c' (xs ++ ys) ∧
      Chg (fun g => A = some ⟨g, 0, .none⟩) w w' := by
  have hnews : ∀ j u, ys[j]? = some u → w.cell? (ad.add j) = some u := by
    intro j u hj
    obtain ⟨b, o, hA, hc⟩ := hr j u hj
    injection hA with hA
    subst hA
    cases j with
    | zero => simpa [Addr.add] using hc
    | succ j => simpa [Addr.add] using hc
  obtain ⟨v', w', hrun, h2, h3, _, h5⟩ := run_append_own_at (P := P) w base t ty e i z s bytes ht hi hz hsize hby hzs hs (.slice A n c) n xs hown ad m d ys hm hnews h1
    (by unfold maxLen; omega) (Nat.le_trans (Nat.mul_le_mul_left _ hby2) (by omega)) hbase
  have hv : ∃ A' c', v' = .slice A' (n + m) c' := by
    rcases h2.2 with ⟨rfl, hl⟩ | ⟨g, cap, cur, rfl, _⟩
    · exact ⟨.none, 0, by rw [hl]⟩
    · exact ⟨_, cap, rfl⟩
  obtain ⟨A', c', rfl⟩ := hv
  have ob : ∀ g, (Value.slice A n c).ownBlock = some g → A = some ⟨g, 0, .none⟩ := by
    intro g hg
    rcases hown.2 with ⟨hn, _⟩ | ⟨g', cap, cur, hv, _⟩
    · injection hn with hn
      subst hn
      simp [Value.ownBlock] at hg
    · injection hv with hv
      subst hv
      simp [Value.ownBlock] at hg
      rw [hg]
  exact ⟨A', c', w', hrun, h2, (Chg.of_grown h3).weak fun g _ hg => ob g hg.symm⟩

theorem wpList_appK {P : Program} {w : World} {ops : Array Oper} {rest : List Oper} {o : Oper} {a : Act} {Q : Exit → Act → World → Prop} (hgd : o.guard = .none) (s x : Operand) (t : TypeId)
    (ho : o.op = .call { callee := .builtin .append, args := #[s, x], argTypes := #[t, t] })
    (base : Nat) (e : TypeId) (i : TypeInfo) (z : Value) (sz bytes : Nat) (ht : P.underlying t = some (.slice e)) (hi : P.info? e = some i) (hz : i.zero = some z)
    (hsize : i.size = sz) (hby : i.bytes = bytes) (hzs : z.cells.size = sz) (hsz : 0 < sz)
    (A : Option Addr) (n c : Nat) (xs : List Value) (hs : a.eval s = .slice A n c) (hown : OwnK w base e sz A n c xs)
    (ad : Addr) (m d : Nat) (ys : List Value) (hx : a.eval x = .slice (some ad) m d) (hm : ys.length = m * sz) (hr : Row w (some ad) ys) (h1 : ∀ u ∈ ys, u.oneCell' = true)
    (h63 : n + m ≤ 4294967296) (hby2 : bytes ≤ 4096) (hbase : base ≤ w.heap.size)
    (h : ∀ A' c' w', OwnK w' base e sz A' (n + m) c' (xs ++ ys) → Chg (fun g => A = some ⟨g, 0, .none⟩) w w' → wpList P ops Q rest (a.put o.dst (.slice A' (n + m) c')) w') :
    wpList P ops Q (o :: rest) a w := by
  refine wpList_plain hgd fun K hK => ?_
  obtain ⟨A', c', w', hr, h2, h3⟩ := run_appK (P := P) w base t o.type e i z sz bytes ht hi hz hsize hby hzs hsz A n c xs hown ad m d ys hm hr h1 h63 hby2 hbase
  unfold Oper.wp execOp
  simp only [ho, resolve, invoke, builtin, Sem.run_bind, Sem.run_pure, Result.andThen_ok, List.map_toArray, List.map_cons, List.map_nil, hs, hx, hr]
  exact hK _ _ (h A' c' w' h2 h3)

theorem Row.get {w : World} {b o : Nat} {l : List Value} (h : Row w (some ⟨b, o, .none⟩) l) {j : Nat} {u : Value} (hj : l[j]? = some u) : w.cell? ⟨b, o + j, .none⟩ = some u := by
  obtain ⟨b', o', hA, hc⟩ := h j u hj
  injection hA with hA
  injection hA with h1 h2
  subst h1
  subst h2
  exact hc
theorem Row.addr {w : World} {A : Option Addr} {l : List Value} (h : Row w A l) (h0 : 0 < l.length) : ∃ b o, A = some ⟨b, o, .none⟩ := by
  obtain ⟨b, o, hA, _⟩ := h.at_ h0
  exact ⟨b, o, hA⟩

/-- a literal row: what a new block of these cells holds -/
theorem row_new (w : World) (cs : Array Value) (t : TypeId) : Row (w.alloc (.cells cs t)) (some ⟨w.heap.size, 0, .none⟩) cs.toList := by
  intro j u hj
  refine ⟨_, _, rfl, ?_⟩
  rw [Nat.zero_add]
  exact (Same.refl _).new (by simpa using hj)
theorem row_new2 (w : World) (o : Obj) (cs : Array Value) (t : TypeId) : Row ((w.alloc o).alloc (.cells cs t)) (some ⟨w.heap.size + 1, 0, .none⟩) cs.toList := by
  have h := row_new (w.alloc o) cs t
  rwa [show (w.alloc o).heap.size = w.heap.size + 1 by simp] at h

end Go.Proofs.YtfpefkpbiioofabDoor.Ws
end
section
section
section
set_option linter.unusedSimpArgs false
set_option linter.unusedVariables false
namespace Go.Proofs.YtfpefkpbiioofabDoor.Ro

section
variable {P : Program} {l : List Oper} {Q : Exit → Act → World → Prop} {md : Region.Mode} {S : World → Prop}
theorem at_drop {i : Nat} {o : Oper} {rest : List Oper} (h : l.drop i = o :: rest) : l.toArray[i]? = some o := by
  rw [List.getElem?_toArray]
  have h2 : (l.drop i)[0]? = some o := by rw [h]; rfl
  rw [List.getElem?_drop] at h2
  exact h2
theorem take_off {i : Nat} {oi : Oper} {rest : List Oper} {fuel : Nat} {listed : Array Bool} {a : Act} {w : World} (hd : l.drop i = oi :: rest)
    (hs : Region.noSelect l.toArray = true) (hf : Region.free md l.toArray listed i = true) (hr : (Region.ready md l.toArray listed).contains i = true)
    (hQ : ∀ c a w, Q (.panic c) (a.put oi.dst undef) w → Q (.panic c) a w) (hw : Region.wanted oi (yielded l.toArray a.tmps) = false) (hS : S w)
    (h : wpAnyH P md l.toArray Q S fuel (listed.setIfInBounds i true) (a.put oi.dst undef) w) : wpAnyH P md l.toArray Q S (fuel + 1) listed a w :=
  wpAnyH_take (at_drop hd) hs hf hr hQ (.inr ⟨hw, rfl⟩) hS h
theorem take_on {i : Nat} {oi : Oper} {rest : List Oper} {v : Value} {fuel : Nat} {listed : Array Bool} {a : Act} {w : World} (hd : l.drop i = oi :: rest)
    (hs : Region.noSelect l.toArray = true) (hf : Region.free md l.toArray listed i = true) (hr : (Region.ready md l.toArray listed).contains i = true)
    (hQ : ∀ c a w, Q (.panic c) (a.put oi.dst v) w → Q (.panic c) a w) (hw : Region.wanted oi (yielded l.toArray a.tmps) = true) (hS : S w)
    (hy : ∀ w, S w → (execOp a.eval oi).run P w = .ok (.value v) w)
    (h : wpAnyH P md l.toArray Q S fuel (listed.setIfInBounds i true) (a.put oi.dst v) w) : wpAnyH P md l.toArray Q S (fuel + 1) listed a w :=
  wpAnyH_take (at_drop hd) hs hf hr hQ (.inl ⟨hw, hy⟩) hS h
theorem one_on {i : Nat} {o : Oper} {rest : List Oper} {fuel : Nat} {listed : Array Bool} {a : Act} {w : World} (hd : l.drop i = o :: rest)
    (hr : Region.ready md l.toArray listed = [i]) (hw : Region.wanted o (yielded l.toArray a.tmps) = true)
    (h : ∀ K' : Act → World → Prop, Shut (∀ a w, S w → (S w → wpAnyH P md l.toArray Q S fuel (listed.setIfInBounds i true) a w) → K' a w) → Oper.wp P o a w K' Q) : wpAnyH P md l.toArray Q S (fuel + 1) listed a w :=
  wpAnyH_ready hr (by simp) (AllReadyH.cons (at_drop hd) (fun K' hK => by rw [if_pos hw]; exact h K' hK) AllReadyH.nil)
end

end Go.Proofs.YtfpefkpbiioofabDoor.Ro
end
section
set_option linter.unusedSimpArgs false
set_option linter.unusedVariables false

namespace Go.Proofs.YtfpefkpbiioofabDoor.Mm
theorem ret_int {k : IntKind} {a b : Int} (h : a = b) : Ending.returned (.int k a) = .returned (.int k b) := by rw [h]
theorem ret_bool {a b : Bool} (h : a = b) : Ending.returned (.bool a) = .returned (.bool b) := by rw [h]
end Go.Proofs.YtfpefkpbiioofabDoor.Mm
namespace Go.Proofs.YtfpefkpbiioofabDoor.Pa
theorem here : True := trivial
end Go.Proofs.YtfpefkpbiioofabDoor.Pa
end
end
section
set_option linter.unusedVariables false
set_option linter.unusedSimpArgs false
namespace Go.Proofs.YtfpefkpbiioofabDoor.Ra
open Go.RowKit Ws

/-- an append to a row of one's own, wherever it stands -/
theorem oper_app {P : Program} {w : World} {o : Oper} {a : Act} {K : Act → World → Prop} {Q : Exit → Act → World → Prop} (s x : Operand) (t : TypeId)
    (ho : o.op = .call { callee := .builtin .append, args := #[s, x], argTypes := #[t, t] })
    (base : Nat) (e : TypeId) (i : TypeInfo) (z : Value) (sz bytes : Nat) (ht : P.underlying t = some (.slice e)) (hi : P.info? e = some i) (hz : i.zero = some z)
    (hsize : i.size = sz) (hby : i.bytes = bytes) (hzs : z.cells.size = sz) (hsz : 0 < sz)
    (A : Option Addr) (n c : Nat) (xs : List Value) (hs : a.eval s = .slice A n c) (hown : OwnK w base e sz A n c xs)
    (B : Option Addr) (m d : Nat) (ys : List Value) (hx : a.eval x = .slice B m d) (hm : ys.length = m * sz) (hr : Row w B ys) (h1 : ∀ u ∈ ys, u.oneCell' = true)
    (h63 : n + m ≤ 4294967296) (hby2 : bytes ≤ 4096) (hbase : base ≤ w.heap.size) (N : Nat) (hN : n + m = N)
    (h : ∀ A' c' w', OwnK w' base e sz A' N c' (xs ++ ys) → Chg (fun g => A = some ⟨g, 0, .none⟩) w w' → K (a.put o.dst (.slice A' N c')) w') :
    Oper.wp P o a w K Q := by
  subst hN
  cases B with
  | some ad =>
    obtain ⟨A', c', w', hrun, h2, h3⟩ := run_appK (P := P) w base t o.type e i z sz bytes ht hi hz hsize hby hzs hsz A n c xs hown ad m d ys hm hr h1 h63 hby2 hbase
    unfold Oper.wp execOp
    simp only [ho, resolve, invoke, builtin, Sem.run_bind, Sem.run_pure, Result.andThen_ok, List.map_toArray, List.map_cons, List.map_nil, hs, hx, hrun]
    exact h _ _ _ h2 h3
  | none =>
    have hy : ys = [] := by
      cases ys with
      | nil => rfl
      | cons u ys =>
        obtain ⟨b, o, hA, _⟩ := hr 0 u rfl
        cases hA
    subst hy
    have hm0 : m = 0 := by
      rcases Nat.eq_zero_or_pos m with h0 | h0
      · exact h0
      · have := Nat.mul_pos h0 hsz
        simp at hm
        omega
    subst hm0
    have hle : n ≤ c := by
      rcases hown.2 with ⟨hv, hn⟩ | ⟨g, cap, cur, hv, _, _, hcap, _⟩
      · omega
      · injection hv with _ _ hv
        omega
    have hrun := run_append_nothing (P := P) w t t o.type e i ht hi A n c hle (.slice none 0 d) (Src.ofNil w ht d)
    unfold Oper.wp execOp
    simp only [ho, resolve, invoke, builtin, Sem.run_bind, Sem.run_pure, Result.andThen_ok, List.map_toArray, List.map_cons, List.map_nil, hs, hx, hrun]
    exact h A c w (by rw [List.append_nil]; exact hown) (Chg.refl _ w)


theorem two_on {P : Program} {l : List Oper} {Q : Exit → Act → World → Prop} {md : Region.Mode} {S : World → Prop} {i j : Nat} {oi oj : Oper} {ri rj : List Oper} {fuel : Nat} {listed : Array Bool} {a : Act} {w : World} (hi : l.drop i = oi :: ri) (hj : l.drop j = oj :: rj)
    (hr : Region.ready md l.toArray listed = [i, j]) (hwi : Region.wanted oi (yielded l.toArray a.tmps) = true) (hwj : Region.wanted oj (yielded l.toArray a.tmps) = true)
    (h1 : ∀ K' : Act → World → Prop, Shut (∀ a w, S w → (S w → wpAnyH P md l.toArray Q S fuel (listed.setIfInBounds i true) a w) → K' a w) → Oper.wp P oi a w K' Q)
    (h2 : ∀ K' : Act → World → Prop, Shut (∀ a w, S w → (S w → wpAnyH P md l.toArray Q S fuel (listed.setIfInBounds j true) a w) → K' a w) → Oper.wp P oj a w K' Q) : wpAnyH P md l.toArray Q S (fuel + 1) listed a w :=
  wpAnyH_ready hr (by simp) (AllReadyH.cons (Ro.at_drop hi) (fun K' hK => by rw [if_pos hwi]; exact h1 K' hK) (AllReadyH.cons (Ro.at_drop hj) (fun K' hK => by rw [if_pos hwj]; exact h2 K' hK) AllReadyH.nil))
end Go.Proofs.YtfpefkpbiioofabDoor.Ra
end
end
