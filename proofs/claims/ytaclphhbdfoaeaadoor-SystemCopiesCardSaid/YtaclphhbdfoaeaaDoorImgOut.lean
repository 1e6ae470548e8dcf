/-

  Layer 33: the bytes that the program lays (image.out), in memory.
-/
import Derived.Test.YtaclphhbdfoaeaaDoorCodecLay
import Derived.Test.YtaclphhbdfoaeaaDoorImgIn
import Derived.Test.YtaclphhbdfoaeaaDoorWordsK
import Derived.Test.YtaclphhbdfoaeaaDoorObjIdx
set_option linter.unusedVariables false
set_option linter.unusedSimpArgs false
namespace Go.Proofs.YtaclphhbdfoaeaaDoor.Im
open Go.ChangeShapes Go.WideShapes Go.ChangeAt Go.RowKit Ws Cd

theorem lo_low (x : Int) (n : Nat) : lo x n = low x n := rfl
/-- the bytes' row: one's own; or the constant with which one begins, which is full -/
def Rowned (w : World) (H : Nat) (A : Option Addr) (c : Nat) (l : List Int) : Prop :=
  Own w H 5 A c (by8 l) ∨ ∃ b cs fz, A = some ⟨b, 0, none⟩ ∧ c = l.length ∧ H ≤ b ∧ w.heap[b]? = some (.cells cs 5 fz) ∧ Row w A (by8 l)
theorem own_blk {w : World} {B : Nat} {e : TypeId} {A : Option Addr} {c : Nat} {l : List Value} (h : Own w B e A c l) {i : Nat} (hi : A = some ⟨i, 0, none⟩) : B ≤ i ∧ ∃ cs, Blk w i e cs := by
  subst hi
  rcases h.2 with ⟨h2, _⟩ | ⟨g', cap, cur, hv, hB, hg, _⟩
  · cases h2
  · injection hv with hv
    injection hv with hv
    injection hv with hv
    subst hv
    exact ⟨hB, _, hg⟩
theorem Rowned.row {w : World} {H : Nat} {A : Option Addr} {c : Nat} {l : List Int} (h : Rowned w H A c l) : Row w A (by8 l) := by
  rcases h with h | ⟨_, _, _, _, _, _, _, h⟩
  · exact h.row
  · exact h
theorem Rowned.at_ {w : World} {H : Nat} {A : Option Addr} {c : Nat} {l : List Int} (h : Rowned w H A c l) {i : Nat} (hi : A = some ⟨i, 0, none⟩) : H ≤ i ∧ ∃ cs fz, w.heap[i]? = some (.cells cs 5 fz) := by
  rcases h with h | ⟨b, cs, fz, h1, h2, h3, h4, h5⟩
  · obtain ⟨h1, cs, h2⟩ := own_blk h hi
    exact ⟨h1, cs, _, h2⟩
  · rw [h1] at hi
    injection hi with hi
    injection hi with hi
    subst hi
    exact ⟨h3, cs, fz, h4⟩
theorem u8_ne {w : World} {i b : Nat} {cs cs2 : Array Value} {fz : Nat × Nat} {t : TypeId} (h : w.heap[i]? = some (.cells cs 5 fz)) (hb : Blk w b t cs2) (ht : 5 ≠ t) : i ≠ b := by
  rintro rfl
  have h2 : w.heap[i]? = some (.cells cs2 t (0, 0)) := hb
  rw [h] at h2
  injection h2 with h2
  injection h2 with _ h2
  exact ht h2
theorem Rowned.ne {w : World} {H : Nat} {A : Option Addr} {c : Nat} {l : List Int} (h : Rowned w H A c l) {b : Nat} {t : TypeId} {cs : Array Value} (hb : Blk w b t cs) (ht : 5 ≠ t) : ∀ i, A = some ⟨i, 0, none⟩ → i ≠ b := fun i hi => by
  obtain ⟨_, cs2, fz, h2⟩ := h.at_ hi
  exact u8_ne h2 hb ht
theorem Rowned.chg {S : Nat → Prop} {w w' : World} {H : Nat} {A : Option Addr} {c : Nat} {l : List Int} (h : Rowned w H A c l) (hc : Chg S w w') (hn : ∀ i, A = some ⟨i, 0, none⟩ → ¬ S i) : Rowned w' H A c l := by
  rcases h with h | ⟨b, cs, fz, h1, h2, h3, h4, h5⟩
  · exact .inl (h.chg hc hn)
  · refine .inr ⟨b, cs, fz, h1, h2, h3, (hc.block b ?_ (hn b h1)).trans h4, h5.chg hc ?_⟩
    · exact (Array.getElem?_eq_some_iff.1 h4).1
    · intro b2 o2 hA _
      rw [h1] at hA
      injection hA with hA
      injection hA with hA hB
      subst hA
      exact hn b h1
theorem Rowned.same {w w' : World} {H : Nat} {A : Option Addr} {c : Nat} {l : List Int} (h : Rowned w H A c l) (hc : Same w w') : Rowned w' H A c l := h.chg hc fun _ _ f => f
/-- an append to a full row of cells -/
theorem full_app {P : Program} {w : World} {o : Oper} {a : Act} {K : Act → World → Prop} {Q : Exit → Act → World → Prop} (s x : Operand) (t : TypeId)
    (ho : o.op = .call { callee := .builtin .append, args := #[s, x], argTypes := #[t, t] })
    (base : Nat) (e : TypeId) (i : TypeInfo) (z : Value) (ht : P.underlying t = some (.slice e)) (hi : P.info? e = some i) (hz : i.zero = some z)
    (hsize : i.size = 1) (hby : i.bytes = 1) (hzs : z.cells.size = 1)
    (b n : Nat) (xs : List Value) (hs : a.eval s = .slice (some ⟨b, 0, none⟩) n n) (hn : xs.length = n) (hrow : Row w (some ⟨b, 0, none⟩) xs)
    (B : Option Addr) (m d : Nat) (ys : List Value) (hx : a.eval x = .slice B m d) (hm : ys.length = m) (hm0 : 0 < m) (hr : Row w B ys)
    (h63 : n + m ≤ 4294967296) (hbase : base ≤ w.heap.size)
    (h : ∀ A' c' w', OwnK w' base e 1 A' (n + m) c' (xs ++ ys) → Same w w' → K (a.put o.dst (.slice A' (n + m) c')) w') :
    Oper.wp P o a w K Q := by
  have add : ∀ (b o j : Nat), (⟨b, o, none⟩ : Addr).add j = ⟨b, o + j, none⟩ := fun b o j => by
    cases j with
    | zero => simp [Addr.add]
    | succ j => simp [Addr.add]
  have holds : ∀ j v, xs[j]? = some v → w.cell? ((⟨b, 0, none⟩ : Addr).add j) = some v := fun j v hj => by
    obtain ⟨b2, o2, hA, hc⟩ := hrow j v hj
    injection hA with hA
    injection hA with h1 h2
    subst h1
    subst h2
    rw [add]
    exact hc
  obtain ⟨bb, oo, rfl, _⟩ := hr 0 (ys[0]'(by omega)) (List.getElem?_eq_getElem (by omega))
  have hnews : ∀ j v, ys[j]? = some v → w.cell? ((⟨bb, oo, none⟩ : Addr).add j) = some v := fun j v hj => by
    obtain ⟨b2, o2, hA, hc⟩ := hr j v hj
    injection hA with hA
    injection hA with h1 h2
    subst h1
    subst h2
    rw [add]
    exact hc
  have hrun := run_append_grow (P := P) (w := w) t o.type e i z ht hi hz ⟨b, 0, none⟩ n n xs (by rw [hsize]; omega) holds ⟨bb, oo, none⟩ m d ys (by rw [hsize]; omega) hnews (by omega) (by omega) (growslice_fits (by omega) (by rw [hby]; omega))
  have hge := grownCap_ge w (n + m) n e
  have hcm : grownCap w (n + m) n e ≤ maxLen := grownCap_le_maxLen w (n + m) n e (by unfold maxLen; omega)
  have hlen : (xs ++ ys).length = (n + m) * 1 := by rw [List.length_append]; omega
  unfold Oper.wp execOp
  simp only [ho, resolve, invoke, builtin, Sem.run_bind, Sem.run_pure, Result.andThen_ok, List.map_toArray, List.map_cons, List.map_nil, hs, hx, hrun]
  refine h _ _ _ ⟨hlen, .inr ⟨w.heap.size, _, _, rfl, hbase, heap_alloc_new w.drew _, hge, hcm, ?_, ?_⟩⟩ (Same.alloc (Same.refl w).drew _)
  · simp only [Array.size_append, List.size_toArray, size_zeroCells, hzs, hn, hm]
    omega
  · simp only [Array.toList_append, List.append_assoc]
    rw [← List.append_assoc, ← hlen]
    exact List.take_left
theorem own_k {w : World} {H : Nat} {e : TypeId} {A : Option Addr} {c : Nat} {l : List Int} (h : Own w H e A c (by8 l)) : OwnK w H e 1 A l.length c (by8 l) := by
  unfold Own at h
  rw [by8_len] at h
  exact h
/-- an append to the bytes' row, whichever it is -/
theorem oper_app2 {P : Program} {w : World} {o : Oper} {a : Act} {K : Act → World → Prop} {Q : Exit → Act → World → Prop} (s x : Operand) (t : TypeId)
    (ho : o.op = .call { callee := .builtin .append, args := #[s, x], argTypes := #[t, t] })
    (base : Nat) (i : TypeInfo) (z : Value) (ht : P.underlying t = some (.slice 5)) (hi : P.info? 5 = some i) (hz : i.zero = some z)
    (hsize : i.size = 1) (hby : i.bytes = 1) (hzs : z.cells.size = 1)
    (A : Option Addr) (n c : Nat) (xs : List Int) (hs : a.eval s = .slice A n c) (hn : xs.length = n) (hown : Rowned w base A c xs)
    (B : Option Addr) (m d : Nat) (ys : List Int) (hx : a.eval x = .slice B m d) (hm : ys.length = m) (hm0 : 0 < m) (hr : Row w B (by8 ys))
    (h63 : n + m ≤ 4294967296) (hbase : base ≤ w.heap.size) (N : Nat) (hN : n + m = N)
    (h : ∀ A' c' w', OwnK w' base 5 1 A' N c' (by8 xs ++ by8 ys) → Chg (fun g => A = some ⟨g, 0, .none⟩) w w' → K (a.put o.dst (.slice A' N c')) w') :
    Oper.wp P o a w K Q := by
  subst hN
  subst hn
  subst hm
  rcases hown with hown | ⟨b, cs, fz, h1, h2, h3, h4, h5⟩
  · exact Ra.oper_app s x t ho base 5 i z 1 1 ht hi hz hsize hby hzs (by omega) A xs.length c (by8 xs) hs (own_k hown) B ys.length d (by8 ys) hx (by rw [by8_len]; omega) hr (by8_one _) h63 (by omega) hbase _ rfl h
  · subst h1
    subst h2
    exact full_app s x t ho base 5 i z ht hi hz hsize hby hzs b xs.length (by8 xs) hs (by rw [by8_len]) h5 B ys.length d (by8 ys) hx (by rw [by8_len]) hm0 hr h63 hbase fun A' c' w' h6 h7 => h A' c' w' h6 (h7.chg _)
/-- the blocks that may be changed -/
def Sg (w : World) (H g i : Nat) : Prop := H ≤ i ∧ (i = g ∨ ∃ cs fz, w.heap[i]? = some (.cells cs 5 fz))
def Lain (w : World) (H g : Nat) (w' : World) : Prop := Chg (Sg w H g) w w'
theorem Lain.refl (w : World) (H g : Nat) : Lain w H g w := Chg.refl _ _
theorem chg_onto {S T : Nat → Prop} {a b c : World} (h : Chg S a b) (k : Chg T b c) (hn : ∀ i, T i → S i ∨ a.heap.size ≤ i) : Chg S a c :=
  ⟨k.os.trans h.os, k.tape.trans h.tape, k.output.trans h.output, Nat.le_trans h.size k.size, fun i hi hs =>
    (k.block i (Nat.lt_of_lt_of_le hi h.size) (fun ht => (hn i ht).elim hs (fun h3 => by omega))).trans (h.block i hi hs)⟩
theorem Lain.trans {w w1 w2 : World} {H g : Nat} (h : Lain w H g w1) (k : Lain w1 H g w2) : Lain w H g w2 := by
  refine chg_onto h k ?_
  rintro i ⟨h0, h1⟩
  rcases Nat.lt_or_ge i w.heap.size with hi | hi
  · refine .inl ?_
    by_cases hs : Sg w H g i
    · exact hs
    · rcases h1 with h1 | ⟨cs, fz, h1⟩
      · exact ⟨h0, .inl h1⟩
      · exact ⟨h0, .inr ⟨cs, fz, (h.block i hi hs).symm.trans h1⟩⟩
  · exact .inr hi
theorem Lain.of {w w' : World} {H g : Nat} (h : Same w w') : Lain w H g w' := h.chg _
/-- what was there ahead of the out is as it was -/
theorem Lain.stays {w0 w w' : World} {H g : Nat} (hs : Same w0 w) (hH : w0.heap.size ≤ H) (hl : Lain w H g w') : Same w0 w' :=
  Same.more hs hl fun i hi => Nat.le_trans hH hi.1
end Go.Proofs.YtaclphhbdfoaeaaDoor.Im
