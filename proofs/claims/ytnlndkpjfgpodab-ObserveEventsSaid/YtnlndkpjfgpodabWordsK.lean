/-
  A slice of the call's own whose elements take several cells, and append onto it. Plain lemmas: nothing here speaks of a program.
-/
import Derived.Test.YtnlndkpjfgpodabWords
set_option linter.unusedSimpArgs false
set_option linter.unusedVariables false
namespace Go.Proofs.Ytnlndkpjfgpodab.Ws
open Go.RowKit

/-- a slice of the call's own, of n elements of s cells each: its row is a block from its head on; or it is empty and leads nowhere -/
def OwnK (w : World) (B : Nat) (e : TypeId) (s : Nat) (A : Option Addr) (n c : Nat) (l : List Value) : Prop :=
  w.ownsRow B e s (.slice A n c) n l

theorem OwnK.len {w : World} {B : Nat} {e : TypeId} {s : Nat} {A : Option Addr} {n c : Nat} {l : List Value} (h : OwnK w B e s A n c l) : l.length = n * s := h.1
theorem OwnK.none (w : World) (B : Nat) (e : TypeId) (s : Nat) : OwnK w B e s none 0 0 [] := ⟨by simp, .inl ⟨rfl, rfl⟩⟩
theorem OwnK.row {w : World} {B : Nat} {e : TypeId} {s : Nat} {A : Option Addr} {n c : Nat} {l : List Value} (h : OwnK w B e s A n c l) : Row w A l := by
  intro j u hj
  have hlt : j < l.length := by
    rcases Nat.lt_or_ge j l.length with hl | hl
    · exact hl
    · rw [List.getElem?_eq_none hl] at hj; cases hj
  have hA : ∃ g, A = some ⟨g, 0, .none⟩ := by
    rcases h.2 with ⟨_, hz⟩ | ⟨g, cap, cur, hv, _⟩
    · have := h.1
      rw [hz, Nat.zero_mul] at this
      omega
    · exact ⟨g, by injection hv⟩
  obtain ⟨g, rfl⟩ := hA
  refine ⟨g, 0, rfl, ?_⟩
  have hc := World.ownsRow.cells h (g := g) rfl j u hj
  rw [Nat.zero_add]
  cases j with
  | zero => simpa [Addr.add] using hc
  | succ j => simpa [Addr.add] using hc
theorem OwnK.chg {S : Nat → Prop} {w w' : World} {B : Nat} {e : TypeId} {s : Nat} {A : Option Addr} {n c : Nat} {l : List Value} (h : OwnK w B e s A n c l) (hc : Chg S w w')
    (hn : ∀ g, A = some ⟨g, 0, .none⟩ → ¬ S g) : OwnK w' B e s A n c l := by
  refine ⟨h.1, ?_⟩
  rcases h.2 with h2 | ⟨g, cap, cur, hv, hb, hg, rest⟩
  · exact .inl h2
  · refine .inr ⟨g, cap, cur, hv, hb, ?_, rest⟩
    have hA : A = some ⟨g, 0, .none⟩ := by injection hv
    exact Blk.chg (t := e) hg hc (hn g hA)
theorem OwnK.same {w w' : World} {B : Nat} {e : TypeId} {s : Nat} {A : Option Addr} {n c : Nat} {l : List Value} (h : OwnK w B e s A n c l) (hc : Same w w') : OwnK w' B e s A n c l := h.chg hc fun _ _ f => f
theorem OwnK.lt {w : World} {B : Nat} {e : TypeId} {s : Nat} {g n c : Nat} {l : List Value} (h : OwnK w B e s (some ⟨g, 0, .none⟩) n c l) : B ≤ g ∧ g < w.heap.size ∧ n ≤ c ∧ c ≤ 9223372036854775807 := by
  rcases h.2 with ⟨h2, _⟩ | ⟨g', cap, cur, hv, hB, hg, h1, h2, _⟩
  · cases h2
  · injection hv with hv _ hc
    injection hv with hv
    injection hv with hv
    subst hc
    subst hv
    unfold maxLen at h2
    exact ⟨hB, Blk.lt (t := e) hg, h1, h2⟩
theorem OwnK.ne {w : World} {B : Nat} {e t : TypeId} {s : Nat} {A : Option Addr} {n c : Nat} {l : List Value} {g' : Nat} {cs : Array Value} (h : OwnK w B e s A n c l) (hb : Blk w g' t cs) (hne : e ≠ t) :
    ∀ g, A = some ⟨g, 0, .none⟩ → g ≠ g' := by
  intro g hA
  rcases h.2 with ⟨h2, hz⟩ | ⟨g2, cap, cur, hv, _, hg, rest⟩
  · injection h2 with h2
    rw [hA] at h2
    cases h2
  · have : A = some ⟨g2, 0, .none⟩ := by injection hv
    rw [hA] at this
    injection this with this
    injection this with this
    subst this
    exact Blk.ne (t := e) hg hb hne
theorem OwnK.base {w : World} {B B' : Nat} {e : TypeId} {s : Nat} {A : Option Addr} {n c : Nat} {l : List Value} (h : OwnK w B e s A n c l) (hB : B' ≤ B) : OwnK w B' e s A n c l := by
  refine ⟨h.1, ?_⟩
  rcases h.2 with h2 | ⟨g, cap, cur, hv, hb, hg, rest⟩
  · exact .inl h2
  · exact .inr ⟨g, cap, cur, hv, by omega, hg, rest⟩

/-- one step of append onto such a row, the source m elements at an address -/
theorem run_appK {P : Program} (w : World) (base : Nat) (t ty e : TypeId) (i : TypeInfo) (z : Value) (s bytes : Nat) (ht : P.underlying t = some (.slice e)) (hi : P.info? e = some i) (hz : i.zero = some z)
    (hsize : i.size = s) (hby : i.bytes = bytes) (hzs : z.cells.size = s) (hs : 0 < s)
    (A : Option Addr) (n c : Nat) (xs : List Value) (hown : OwnK w base e s A n c xs) (ad : Addr) (m d : Nat) (ys : List Value) (hm : ys.length = m * s) (hr : Row w (some ad) ys) (h1 : ∀ u ∈ ys, u.oneCell' = true)
    (h63 : n + m ≤ 4294967296) (hby2 : bytes ≤ 4096) (hbase : base ≤ w.heap.size) :
    ∃ A' c' w', (Builtin.append_ #[t, t] ty #[.slice A n c, .slice (some ad) m d]).run P w = .ok (.slice A' (n + m) c') w' ∧ OwnK w' base e s A' (n + m) c' (xs ++ ys) ∧
      Chg (fun g => A = some ⟨g, 0, .none⟩) w w' := by
  have hnews : ∀ j u, ys[j]? = some u → w.cell? (ad.add j) = some u := by
    intro j u hj
    obtain ⟨b, o, hA, hc⟩ := hr j u hj
    injection hA with hA
    subst hA
    cases j with
    | zero => simpa [Addr.add] using hc
    | succ j => simpa [Addr.add] using hc
  obtain ⟨v', w', hrun, h2, h3, _, h5⟩ := run_append_own_at (P := P) w base t ty e i z s bytes ht hi hz hsize hby hzs hs (.slice A n c) n xs hown ad m d ys hm hnews h1
    (by unfold maxLen; omega) (Nat.le_trans (Nat.mul_le_mul_left _ hby2) (by omega)) hbase
  have hv : ∃ A' c', v' = .slice A' (n + m) c' := by
    rcases h2.2 with ⟨rfl, hl⟩ | ⟨g, cap, cur, rfl, _⟩
    · exact ⟨.none, 0, by rw [hl]⟩
    · exact ⟨_, cap, rfl⟩
  obtain ⟨A', c', rfl⟩ := hv
  have ob : ∀ g, (Value.slice A n c).ownBlock = some g → A = some ⟨g, 0, .none⟩ := by
    intro g hg
    rcases hown.2 with ⟨hn, _⟩ | ⟨g', cap, cur, hv, _⟩
    · injection hn with hn
      subst hn
      simp [Value.ownBlock] at hg
    · injection hv with hv
      subst hv
      simp [Value.ownBlock] at hg
      rw [hg]
  exact ⟨A', c', w', hrun, h2, (Chg.of_grown h3).weak fun g _ hg => ob g hg.symm⟩

theorem wpList_appK {P : Program} {w : World} {ops : Array Oper} {rest : List Oper} {o : Oper} {a : Act} {Q : Exit → Act → World → Prop} (hgd : o.guard = .none) (s x : Operand) (t : TypeId)
    (ho : o.op = .call { callee := .builtin .append, args := #[s, x], argTypes := #[t, t] })
    (base : Nat) (e : TypeId) (i : TypeInfo) (z : Value) (sz bytes : Nat) (ht : P.underlying t = some (.slice e)) (hi : P.info? e = some i) (hz : i.zero = some z)
    (hsize : i.size = sz) (hby : i.bytes = bytes) (hzs : z.cells.size = sz) (hsz : 0 < sz)
    (A : Option Addr) (n c : Nat) (xs : List Value) (hs : a.eval s = .slice A n c) (hown : OwnK w base e sz A n c xs)
    (ad : Addr) (m d : Nat) (ys : List Value) (hx : a.eval x = .slice (some ad) m d) (hm : ys.length = m * sz) (hr : Row w (some ad) ys) (h1 : ∀ u ∈ ys, u.oneCell' = true)
    (h63 : n + m ≤ 4294967296) (hby2 : bytes ≤ 4096) (hbase : base ≤ w.heap.size)
    (h : ∀ A' c' w', OwnK w' base e sz A' (n + m) c' (xs ++ ys) → Chg (fun g => A = some ⟨g, 0, .none⟩) w w' → wpList P ops Q rest (a.put o.dst (.slice A' (n + m) c')) w') :
    wpList P ops Q (o :: rest) a w := by
  refine wpList_plain hgd fun K hK => ?_
  obtain ⟨A', c', w', hr, h2, h3⟩ := run_appK (P := P) w base t o.type e i z sz bytes ht hi hz hsize hby hzs hsz A n c xs hown ad m d ys hm hr h1 h63 hby2 hbase
  unfold Oper.wp execOp
  simp only [ho, resolve, invoke, builtin, Sem.run_bind, Sem.run_pure, Result.andThen_ok, List.map_toArray, List.map_cons, List.map_nil, hs, hx, hr]
  exact hK _ _ (h A' c' w' h2 h3)

theorem Row.get {w : World} {b o : Nat} {l : List Value} (h : Row w (some ⟨b, o, .none⟩) l) {j : Nat} {u : Value} (hj : l[j]? = some u) : w.cell? ⟨b, o + j, .none⟩ = some u := by
  obtain ⟨b', o', hA, hc⟩ := h j u hj
  injection hA with hA
  injection hA with h1 h2
  subst h1
  subst h2
  exact hc
theorem Row.addr {w : World} {A : Option Addr} {l : List Value} (h : Row w A l) (h0 : 0 < l.length) : ∃ b o, A = some ⟨b, o, .none⟩ := by
  obtain ⟨b, o, hA, _⟩ := h.at_ h0
  exact ⟨b, o, hA⟩

/-- a literal row: what a new block of these cells holds -/
theorem row_new (w : World) (cs : Array Value) (t : TypeId) : Row (w.alloc (.cells cs t)) (some ⟨w.heap.size, 0, .none⟩) cs.toList := by
  intro j u hj
  refine ⟨_, _, rfl, ?_⟩
  rw [Nat.zero_add]
  exact (Same.refl _).new (by simpa using hj)
theorem row_new2 (w : World) (o : Obj) (cs : Array Value) (t : TypeId) : Row ((w.alloc o).alloc (.cells cs t)) (some ⟨w.heap.size + 1, 0, .none⟩) cs.toList := by
  have h := row_new (w.alloc o) cs t
  rwa [show (w.alloc o).heap.size = w.heap.size + 1 by simp] at h

end Go.Proofs.Ytnlndkpjfgpodab.Ws
