/-
  A slice of the call's own that may begin anywhere in its block: it grows by one element at its end, and loses its first.
  Nothing here speaks of a program: plain lemmas.
-/
import Derived.Test.YtejajmdmfipplabWords
import Derived.ArgAppend
set_option linter.unusedSimpArgs false
set_option linter.unusedVariables false
namespace Go.Proofs.Ytejajmdmfipplab.Qe
open Go.RowKit Ws

structure Que (w : World) (B : Nat) (e : TypeId) (A : Option Addr) (c : Nat) (xs : List Value) : Prop where
  le : xs.length ≤ c
  at_ : c = 0 ∨ ∃ g o cur, A = some ⟨g, o, none⟩ ∧ B ≤ g ∧ w.heap[g]? = some (.cells cur e (0, 0)) ∧ o + c ≤ cur.size ∧ (cur.toList.drop o).take xs.length = xs

theorem Que.nil (w : World) (B : Nat) (e : TypeId) : Que w B e none 0 [] := ⟨Nat.le_refl _, .inl rfl⟩
theorem Que.chg {S : Nat → Prop} {w w' : World} {B : Nat} {e : TypeId} {A : Option Addr} {c : Nat} {xs : List Value} (h : Que w B e A c xs) (hc : Chg S w w') (hn : ∀ g o, A = some ⟨g, o, none⟩ → c ≠ 0 → ¬ S g) : Que w' B e A c xs := by
  refine ⟨h.le, ?_⟩
  rcases h.at_ with h0 | ⟨g, o, cur, hA, hB, hg, hs, ht⟩
  · exact .inl h0
  · by_cases h0 : c = 0
    · exact .inl h0
    · exact .inr ⟨g, o, cur, hA, hB, Blk.chg (t := e) hg hc (hn g o hA h0), hs, ht⟩
theorem Que.same {w w' : World} {B : Nat} {e : TypeId} {A : Option Addr} {c : Nat} {xs : List Value} (h : Que w B e A c xs) (hc : Same w w') : Que w' B e A c xs := h.chg hc fun _ _ _ _ f => f
theorem Que.lt {w : World} {B : Nat} {e : TypeId} {A : Option Addr} {c : Nat} {xs : List Value} (h : Que w B e A c xs) : ∀ g o, A = some ⟨g, o, none⟩ → c ≠ 0 → B ≤ g ∧ g < w.heap.size := by
  intro g o hA hc
  rcases h.at_ with h0 | ⟨g', o', cur, hA', hB, hg, hs, ht⟩
  · exact absurd h0 hc
  · rw [hA] at hA'
    injection hA' with hA'
    injection hA' with h1 _
    subst h1
    exact ⟨hB, Blk.lt (t := e) hg⟩
theorem Que.row {w : World} {B : Nat} {e : TypeId} {A : Option Addr} {c : Nat} {xs : List Value} (h : Que w B e A c xs) : Row w A xs := by
  intro j u hj
  have hlt : j < xs.length := by
    rcases Nat.lt_or_ge j xs.length with hl | hl
    · exact hl
    · rw [List.getElem?_eq_none hl] at hj; cases hj
  have hle := h.le
  rcases h.at_ with h0 | ⟨g, o, cur, hA, hB, hg, hs, ht⟩
  · omega
  · refine ⟨g, o, hA, ?_⟩
    rw [Blk.cell (t := e) hg]
    rw [← ht, List.getElem?_take, if_pos hlt, List.getElem?_drop] at hj
    rw [← hj, Array.getElem?_toList]
theorem Que.tail {w : World} {B : Nat} {e : TypeId} {g o : Nat} {c : Nat} {x : Value} {xs : List Value} (h : Que w B e (some ⟨g, o, none⟩) c (x :: xs)) (A' : Option Addr) (hA : c - 1 ≠ 0 → A' = some ⟨g, o + 1, none⟩) : Que w B e A' (c - 1) xs := by
  have hle := h.le
  rw [List.length_cons] at hle
  refine ⟨by omega, ?_⟩
  by_cases h1 : c - 1 = 0
  · exact .inl h1
  · rcases h.at_ with h0 | ⟨g', o', cur, hA', hB, hg, hs, ht⟩
    · omega
    · injection hA' with hA'
      injection hA' with e1 e2
      subst e1
      subst e2
      refine .inr ⟨g, o + 1, cur, hA h1, hB, hg, by omega, ?_⟩
      have h2 : (cur.toList.drop o).drop 1 = cur.toList.drop (o + 1) := by rw [List.drop_drop]
      rw [← h2]
      generalize cur.toList.drop o = l at ht
      cases l with
      | nil => simp at ht
      | cons y l =>
        rw [List.length_cons, List.take_succ_cons] at ht
        injection ht with _ ht

theorem run_que {P : Program} (w : World) (B : Nat) (t ty e : TypeId) (i : TypeInfo) (z : Value) (bytes : Nat) (ht : P.underlying t = some (.slice e)) (hi : P.info? e = some i) (hz : i.zero = some z)
    (hsize : i.size = 1) (hby : i.bytes = bytes) (hzs : z.cells.size = 1) (A : Option Addr) (c : Nat) (xs : List Value) (hq : Que w B e A c xs) (hB : B ≤ w.heap.size) (x : Value) (ad : Addr) (d : Nat)
    (hx : w.cell? ad = some x) (h1 : x.oneCell' = true) (h63 : xs.length + 1 ≤ 4294967296) (hby2 : bytes ≤ 24) :
    ∃ A' c' w', (Builtin.append_ #[t, t] ty #[.slice A xs.length c, .slice (some ad) 1 d]).run P w = .ok (.slice A' (xs.length + 1) c') w' ∧ Que w' B e A' c' (xs ++ [x]) ∧ Chg (fun g => ∃ o, A = some ⟨g, o, none⟩ ∧ c ≠ 0) w w' := by
  have hnews : ∀ j u, [x][j]? = some u → w.cell? (ad.add j) = some u := by
    intro j u hj
    cases j with
    | zero =>
      simp at hj
      subst hj
      simpa [Addr.add] using hx
    | succ j => simp at hj
  have hnb : ∀ n, n ≤ 4294967296 → n * bytes ≤ 140737488355328 := fun n hn => Nat.le_trans (Nat.mul_le_mul hn hby2) (by omega)
  have fresh : ∀ {v' : Value} {w' : World} {n : Nat}, w'.ownsRow w.heap.size e 1 v' (n + 1) (xs ++ [x]) → n = xs.length → ∃ A' c', v' = .slice A' (xs.length + 1) c' ∧ Que w' B e A' c' (xs ++ [x]) := by
    intro v' w' n ho hn
    subst hn
    rcases ho.2 with ⟨_, hl⟩ | ⟨g, cap, cur, rfl, hb, hg, hnc, hcm, hcs, htk⟩
    · omega
    · refine ⟨_, cap, rfl, ⟨by rw [List.length_append]; simpa using hnc, .inr ⟨g, 0, cur, rfl, Nat.le_trans hB hb, hg, by rw [hcs]; omega, ?_⟩⟩⟩
      rw [List.drop_zero, List.length_append]
      simpa using htk
  by_cases hr : xs.length + 1 ≤ c
  · rcases hq.at_ with h0 | ⟨g, o, cur, hA, hBg, hg, hs, htk⟩
    · omega
    · subst hA
      have hlt : o + xs.length < cur.size := by omega
      have hrun := run_append_room_cells (P := P) w t ty e i ht hi g o xs.length c ad 1 d [x] (by rw [hsize]; rfl) hnews (by intro u hu; simp at hu; subst hu; exact h1) hr
        (by intro j hj; simp at hj; subst hj; rw [hsize, Blk.cell (t := e) hg]; simp [hlt]) (by intro j hj; rw [hsize]; exact Blk.thaw (t := e) hg _)
      rw [hsize, Nat.mul_one] at hrun
      refine ⟨_, c, _, hrun, ?_, ?_⟩
      · refine ⟨by rw [List.length_append]; simpa using hr, .inr ⟨g, o, _, rfl, hBg, Blk.put (t := e) hg (o + xs.length) x, by simpa using hs, ?_⟩⟩
        have hset : (cur.setIfInBounds (o + xs.length) x).toList = cur.toList.set (o + xs.length) x := by simp
        rw [hset, List.length_append, List.drop_set, if_neg (by omega), show o + xs.length - o = xs.length by omega]
        have hl : xs.length < (cur.toList.drop o).length := by
          have := Array.length_toList (xs := cur)
          rw [List.length_drop]
          omega
        generalize cur.toList.drop o = l at *
        rw [List.length_singleton, List.take_add_one, List.take_set, List.set_eq_of_length_le (by rw [List.length_take]; omega), htk, List.getElem?_set_self hl]
        rfl
      · exact (Chg.refl (fun i => ∃ o', some (⟨g, o, none⟩ : Addr) = some ⟨i, o', none⟩ ∧ c ≠ 0) w).set (.inl ⟨o, rfl, by omega⟩) x
  · have hgt : c < xs.length + 1 := by omega
    have hle := hq.le
    have wk : ∀ w', w.grownBy w' none → Chg (fun g => ∃ o, A = some ⟨g, o, none⟩ ∧ c ≠ 0) w w' := fun w' h => (Chg.of_grown h).weak fun i _ hi => by cases hi
    cases A with
    | none =>
      have hc0 : c = 0 := by
        rcases hq.at_ with h0 | ⟨g, o, cur, hA, _⟩
        · exact h0
        · cases hA
      subst hc0
      have hx0 : xs = [] := List.eq_nil_of_length_eq_zero (by omega)
      subst hx0
      obtain ⟨v', w', hrun, h2, h3, _⟩ := run_append_own_at (P := P) w w.heap.size t ty e i z 1 bytes ht hi hz hsize hby hzs (by omega) (.slice none 0 0) 0 [] (World.ownsRow_nil w _ e 1) ad 1 d [x] rfl hnews (by intro u hu; simp at hu; subst hu; exact h1) (by unfold maxLen; omega) (hnb _ (by omega)) (Nat.le_refl _)
      obtain ⟨A', c', rfl, hq'⟩ := fresh h2 rfl
      exact ⟨A', c', w', hrun, hq', wk w' h3⟩
    | some b =>
      have holds : ∀ j u, xs[j]? = some u → w.cell? (b.add j) = some u := by
        intro j u hj
        obtain ⟨b', o', hA, hc⟩ := hq.row j u hj
        injection hA with hA
        subst hA
        cases j with
        | zero => simpa [Addr.add] using hc
        | succ j => simpa [Addr.add] using hc
      obtain ⟨v', w', hrun, h2, h3⟩ := run_append_arg_grows (P := P) w t ty e i z 1 bytes ht hi hz hsize hby hzs (by omega) b xs.length c xs (by omega) holds ad 1 d [x] rfl hnews hgt (by unfold maxLen; omega) (hnb _ (by omega))
      obtain ⟨A', c', rfl, hq'⟩ := fresh h2 rfl
      exact ⟨A', c', w', hrun, hq', wk w' h3⟩

theorem wpList_que {P : Program} {w : World} {ops : Array Oper} {rest : List Oper} {o : Oper} {a : Act} {Q : Exit → Act → World → Prop} (hgd : o.guard = none) (s x : Operand) (t : TypeId)
    (ho : o.op = .call { callee := .builtin .append, args := #[s, x], argTypes := #[t, t] })
    (B : Nat) (e : TypeId) (i : TypeInfo) (z : Value) (bytes : Nat) (ht : P.underlying t = some (.slice e)) (hi : P.info? e = some i) (hz : i.zero = some z)
    (hsize : i.size = 1) (hby : i.bytes = bytes) (hzs : z.cells.size = 1)
    (A : Option Addr) (n c : Nat) (xs : List Value) (hs : a.eval s = .slice A n c) (hn : xs.length = n) (hq : Que w B e A c xs) (hB : B ≤ w.heap.size)
    (y : Value) (ad : Addr) (d : Nat) (hx : a.eval x = .slice (some ad) 1 d) (hy : w.cell? ad = some y) (h1 : y.oneCell' = true) (h63 : n + 1 ≤ 4294967296) (hby2 : bytes ≤ 24)
    (h : ∀ A' c' w', Que w' B e A' c' (xs ++ [y]) → Chg (fun g => ∃ o, A = some ⟨g, o, none⟩ ∧ c ≠ 0) w w' → wpList P ops Q rest (a.put o.dst (.slice A' (n + 1) c')) w') :
    wpList P ops Q (o :: rest) a w := by
  subst hn
  refine wpList_plain hgd fun K hK => ?_
  obtain ⟨A', c', w', hr, h2, h3⟩ := run_que (P := P) w B t o.type e i z bytes ht hi hz hsize hby hzs A c xs hq hB y ad d hy h1 h63 hby2
  unfold Oper.wp execOp
  simp only [ho, resolve, invoke, builtin, Sem.run_bind, Sem.run_pure, Result.andThen_ok, List.map_toArray, List.map_cons, List.map_nil, hs, hx, hr]
  exact hK _ _ (h A' c' w' h2 h3)

end Go.Proofs.Ytejajmdmfipplab.Qe
