/-

  Layer 33: a system read (image.system), and how it stands in memory.
-/
import Derived.Test.YtaclphhbdfoaeaaDoorImgIn
import Derived.Test.YtaclphhbdfoaeaaDoorCodecLay
import Derived.Test.YtaclphhbdfoaeaaDoorWordsK
import Derived.Test.YtaclphhbdfoaeaaDoorObjIdx
import Derived.Deep.LoopGhost
import Derived.WalkKit
import Derived.WalkLawsBesides
import Derived.BigQuiet
section
section
set_option linter.unusedVariables false
set_option linter.unusedSimpArgs false
namespace Go.Proofs.YtaclphhbdfoaeaaDoor.Im
open Go.ChangeShapes Go.WideShapes Go.ChangeAt Go.RowKit Ws Cd

theorem nu_num : ∀ l : List Int, nu l = num l
  | [] => rfl
  | x :: l => by
    show x + 256 * nu l = x + 256 * num l
    rw [nu_num l]
theorem tld_told (l : List Int) (n : Nat) (r : Rs) : num (told l r.k n r.bad) = tld l n r := by
  unfold told tld
  split
  · rw [nu_num]
  · rfl
theorem aft_after (l : List Int) (n : Nat) (r : Rs) : after l r.k n r.bad = ((aft l n r).k, (aft l n r).bad) := by
  unfold after aft
  split <;> rfl
theorem tld_bd {l : List Int} (h : By l) {n : Nat} (hn : n ≤ 4) (r : Rs) : 0 ≤ tld l n r ∧ tld l n r < 4294967296 := by
  rw [← tld_told]
  exact num_lt (told_by h _ _ _) (told_len _ _ _ _) hn
theorem tld1_bd {l : List Int} (h : By l) (r : Rs) : 0 ≤ tld l 1 r ∧ tld l 1 r < 256 := by
  rw [← tld_told]
  have h1 := num_bd _ (told_by h r.k 1 r.bad)
  have h2 := told_len l r.k 1 r.bad
  have h3 : (256 : Int) ^ (told l r.k 1 r.bad).length ≤ 256 ^ 1 := by
    rcases Nat.lt_or_ge 0 (told l r.k 1 r.bad).length with h | h
    · rw [show (told l r.k 1 r.bad).length = 1 by omega]; exact Int.le_refl _
    · rw [show (told l r.k 1 r.bad).length = 0 by omega]; decide
  omega
theorem instr_size : (Tryd.prog.info? 35).map (·.size) = some 5 := by kernel_rfl
theorem int_info : (Tryd.prog.info? 3).map (fun i => (i.zero, i.size, i.bytes)) = some (some (.int .i64 0), 1, 8) := by kernel_rfl
theorem u32_info : (Tryd.prog.info? 33).map (fun i => (i.zero, i.size, i.bytes)) = some (some (.int .u32 0), 1, 4) := by kernel_rfl
theorem ins_info : (Tryd.prog.info? 35).map (fun i => (i.zero, i.size, i.bytes)) = some (some (.agg #[.int .i64 0, .int .i64 0, .int .i64 0, .int .i64 0, .int .u32 0]), 5, 40) := by kernel_rfl
theorem puts5 {w : World} {b : Nat} {T : TypeId} {z0  z1  z2  z3  z4 v0  v1  v2  v3  v4 : Value} (h : Blk w b T #[z0, z1, z2, z3, z4]) : Blk (((((w.setCell ⟨b, 0, none⟩ v0).setCell ⟨b, 1, none⟩ v1).setCell ⟨b, 2, none⟩ v2).setCell ⟨b, 3, none⟩ v3).setCell ⟨b, 4, none⟩ v4) b T #[v0, v1, v2, v3, v4] ∧ Chg (fun i => i = b) w (((((w.setCell ⟨b, 0, none⟩ v0).setCell ⟨b, 1, none⟩ v1).setCell ⟨b, 2, none⟩ v2).setCell ⟨b, 3, none⟩ v3).setCell ⟨b, 4, none⟩ v4) :=
  ⟨by simpa using (((((h.put 0 v0).put 1 v1).put 2 v2).put 3 v3).put 4 v4), ((((((Chg.refl (fun i => i = b) w).set (p := ⟨b, 0, none⟩) (.inl rfl) v0).set (p := ⟨b, 1, none⟩) (.inl rfl) v1).set (p := ⟨b, 2, none⟩) (.inl rfl) v2).set (p := ⟨b, 3, none⟩) (.inl rfl) v3).set (p := ⟨b, 4, none⟩) (.inl rfl) v4)⟩
theorem puts7 {w : World} {b : Nat} {T : TypeId} {z0  z1  z2  z3  z4  z5  z6 v0  v1  v2  v3  v4  v5  v6 : Value} (h : Blk w b T #[z0, z1, z2, z3, z4, z5, z6]) : Blk (((((((w.setCell ⟨b, 0, none⟩ v0).setCell ⟨b, 1, none⟩ v1).setCell ⟨b, 2, none⟩ v2).setCell ⟨b, 3, none⟩ v3).setCell ⟨b, 4, none⟩ v4).setCell ⟨b, 5, none⟩ v5).setCell ⟨b, 6, none⟩ v6) b T #[v0, v1, v2, v3, v4, v5, v6] ∧ Chg (fun i => i = b) w (((((((w.setCell ⟨b, 0, none⟩ v0).setCell ⟨b, 1, none⟩ v1).setCell ⟨b, 2, none⟩ v2).setCell ⟨b, 3, none⟩ v3).setCell ⟨b, 4, none⟩ v4).setCell ⟨b, 5, none⟩ v5).setCell ⟨b, 6, none⟩ v6) :=
  ⟨by simpa using (((((((h.put 0 v0).put 1 v1).put 2 v2).put 3 v3).put 4 v4).put 5 v5).put 6 v6), ((((((((Chg.refl (fun i => i = b) w).set (p := ⟨b, 0, none⟩) (.inl rfl) v0).set (p := ⟨b, 1, none⟩) (.inl rfl) v1).set (p := ⟨b, 2, none⟩) (.inl rfl) v2).set (p := ⟨b, 3, none⟩) (.inl rfl) v3).set (p := ⟨b, 4, none⟩) (.inl rfl) v4).set (p := ⟨b, 5, none⟩) (.inl rfl) v5).set (p := ⟨b, 6, none⟩) (.inl rfl) v6)⟩
theorem puts8 {w : World} {b : Nat} {T : TypeId} {z0  z1  z2  z3  z4  z5  z6  z7 v0  v1  v2  v3  v4  v5  v6  v7 : Value} (h : Blk w b T #[z0, z1, z2, z3, z4, z5, z6, z7]) : Blk ((((((((w.setCell ⟨b, 0, none⟩ v0).setCell ⟨b, 1, none⟩ v1).setCell ⟨b, 2, none⟩ v2).setCell ⟨b, 3, none⟩ v3).setCell ⟨b, 4, none⟩ v4).setCell ⟨b, 5, none⟩ v5).setCell ⟨b, 6, none⟩ v6).setCell ⟨b, 7, none⟩ v7) b T #[v0, v1, v2, v3, v4, v5, v6, v7] ∧ Chg (fun i => i = b) w ((((((((w.setCell ⟨b, 0, none⟩ v0).setCell ⟨b, 1, none⟩ v1).setCell ⟨b, 2, none⟩ v2).setCell ⟨b, 3, none⟩ v3).setCell ⟨b, 4, none⟩ v4).setCell ⟨b, 5, none⟩ v5).setCell ⟨b, 6, none⟩ v6).setCell ⟨b, 7, none⟩ v7) :=
  ⟨by simpa using ((((((((h.put 0 v0).put 1 v1).put 2 v2).put 3 v3).put 4 v4).put 5 v5).put 6 v6).put 7 v7), (((((((((Chg.refl (fun i => i = b) w).set (p := ⟨b, 0, none⟩) (.inl rfl) v0).set (p := ⟨b, 1, none⟩) (.inl rfl) v1).set (p := ⟨b, 2, none⟩) (.inl rfl) v2).set (p := ⟨b, 3, none⟩) (.inl rfl) v3).set (p := ⟨b, 4, none⟩) (.inl rfl) v4).set (p := ⟨b, 5, none⟩) (.inl rfl) v5).set (p := ⟨b, 6, none⟩) (.inl rfl) v6).set (p := ⟨b, 7, none⟩) (.inl rfl) v7)⟩
theorem puts2 {w : World} {b : Nat} {T : TypeId} {z0  z1 v0  v1 : Value} (h : Blk w b T #[z0, z1]) : Blk ((w.setCell ⟨b, 0, none⟩ v0).setCell ⟨b, 1, none⟩ v1) b T #[v0, v1] ∧ Chg (fun i => i = b) w ((w.setCell ⟨b, 0, none⟩ v0).setCell ⟨b, 1, none⟩ v1) :=
  ⟨by simpa using ((h.put 0 v0).put 1 v1), (((Chg.refl (fun i => i = b) w).set (p := ⟨b, 0, none⟩) (.inl rfl) v0).set (p := ⟨b, 1, none⟩) (.inl rfl) v1)⟩
/-- what is changed besides is new -/
theorem chg_new {S : Nat → Prop} {a b c : World} {n : Nat} (h : Chg S a b) (k : Chg (fun i => i = n) b c) (hn : a.heap.size ≤ n) : Chg S a c :=
  ⟨k.os.trans h.os, k.tape.trans h.tape, k.output.trans h.output, Nat.le_trans h.size k.size, fun i hi hs =>
    (k.block i (Nat.lt_of_lt_of_le hi h.size) (fun (ht : i = n) => by omega)).trans (h.block i hi hs)⟩
end Go.Proofs.YtaclphhbdfoaeaaDoor.Im
end
section
section
section
set_option linter.unusedVariables false
set_option linter.unusedSimpArgs false
namespace Go.Proofs.YtaclphhbdfoaeaaDoor.Im
open Go.ChangeShapes Go.WideShapes Go.ChangeAt Go.RowKit Ws Cd

theorem rL_len {α : Type} (f : Rdr α) : ∀ (n : Nat) (r : Rs), (rL f n r).1.length = n
  | 0, _ => rfl
  | n + 1, r => by
    show ((rL f n r).1 ++ [_]).length = n + 1
    rw [List.length_append, rL_len f n r]
    rfl
theorem rL_succ {α : Type} (f : Rdr α) (n : Nat) (r : Rs) {xs : List α} {r1 r2 : Rs} {x : α} (h1 : (xs, r1) = rL f n r) (h2 : (x, r2) = f r1) : (xs ++ [x], r2) = rL f (n + 1) r := by
  show (xs ++ [x], r2) = ((rL f n r).1 ++ [(f (rL f n r).2).1], (f (rL f n r).2).2)
  rw [← h1, ← h2]
theorem fm_snoc {α : Type} (f : α → List Value) (l : List α) (x : α) : (l ++ [x]).flatMap f = l.flatMap f ++ f x := by simp
theorem ownK_ge {w : World} {B : Nat} {e : TypeId} {s : Nat} {A : Option Addr} {n c : Nat} {l : List Value} (h : OwnK w B e s A n c l) {g : Nat} (hA : A = some ⟨g, 0, none⟩) : B ≤ g := by
  subst hA
  exact h.lt.1
def ints1 (x : Int) : List Value := [.int .i64 x]
def words1 (x : Int) : List Value := [.int .u32 x]
end Go.Proofs.YtaclphhbdfoaeaaDoor.Im
end
section
section
set_option linter.unusedVariables false
set_option linter.unusedSimpArgs false
namespace Go.Proofs.YtaclphhbdfoaeaaDoor.Im
open Go.ChangeShapes Go.WideShapes Go.ChangeAt Go.RowKit Ws Cd

theorem task_size : (Tryd.prog.info? 32).map (·.size) = some 7 := by kernel_rfl
theorem obj_size : (Tryd.prog.info? 39).map (·.size) = some 8 := by kernel_rfl
/-- a task, and where its program stands -/
structure DT where
  p : PT
  X : Option Addr
  c : Nat
def DT.cells (d : DT) : List Value := tcells d.p d.X d.c
def DT.ok (w : World) (H : Nat) (d : DT) : Prop := OwnK w H 35 5 d.X d.p.code.length d.c (d.p.code.flatMap icells)
structure DO where
  p : PO
  X : Option Addr
  c : Nat
  Y : Option Addr
  d : Nat
def DO.cells (d : DO) : List Value := ocells d.p d.X d.c d.Y d.d
def DO.ok (w : World) (H : Nat) (d : DO) : Prop := OwnK w H 33 1 d.X d.p.ini.length d.c (d.p.ini.flatMap words1) ∧ OwnK w H 3 1 d.Y d.p.rd.length d.d (d.p.rd.flatMap ints1)
theorem nat_of {x : Int} (h : 0 ≤ x ∧ x < 256) : ∃ n : Nat, x = n ∧ n ≤ 255 := ⟨x.toNat, by omega, by omega⟩
theorem DT.ok.chg {S : Nat → Prop} {w w' : World} {H : Nat} {d : DT} (h : d.ok w H) (hc : Chg S w w') (hn : ∀ i, H ≤ i → i < w.heap.size → w.heap[i]? ≠ none → S i → False) : d.ok w' H := by
  unfold DT.ok at h ⊢
  refine OwnK.chg h hc fun g hg hS => ?_
  have h2 := h
  rw [hg] at h2
  exact hn g h2.lt.1 h2.lt.2.1 (by simp [h2.lt.2.1]) hS
theorem chg_up {S : Nat → Prop} {a b c : World} {T : Nat → Prop} (h : Chg S a b) (k : Chg T b c) (hn : ∀ i, T i → a.heap.size ≤ i) : Chg S a c :=
  ⟨k.os.trans h.os, k.tape.trans h.tape, k.output.trans h.output, Nat.le_trans h.size k.size, fun i hi hs =>
    (k.block i (Nat.lt_of_lt_of_le hi h.size) (fun ht => by have := hn i ht; omega)).trans (h.block i hi hs)⟩
end Go.Proofs.YtaclphhbdfoaeaaDoor.Im
end
section
set_option linter.unusedVariables false
set_option linter.unusedSimpArgs false
namespace Go.Proofs.YtaclphhbdfoaeaaDoor.Im
open Go.ChangeShapes Go.WideShapes Go.ChangeAt Go.RowKit Ws Cd

end Go.Proofs.YtaclphhbdfoaeaaDoor.Im
end
end
end
section
set_option linter.unusedVariables false
set_option linter.unusedSimpArgs false
namespace Go.Proofs.YtaclphhbdfoaeaaDoor.Im
open Go.ChangeShapes Go.WideShapes Go.ChangeAt Go.RowKit Ws Cd

theorem tk_info : (Tryd.prog.info? 32).map (fun i => (i.zero, i.size, i.bytes)) = some (some (.agg #[.int .i64 0, .int .i64 0, .int .i64 0, .int .i64 0, .int .i64 0, .int .i64 0, .slice none 0 0]), 7, 72) := by kernel_rfl
theorem ob_info : (Tryd.prog.info? 39).map (fun i => (i.zero, i.size, i.bytes)) = some (some (.agg #[.int .i64 0, .int .i64 0, .int .i64 0, .int .i64 0, .int .u32 0, .slice none 0 0, .int .i64 0, .slice none 0 0]), 8, 96) := by kernel_rfl
theorem DT.ok.keep {S : Nat → Prop} {w w' : World} {H : Nat} {d : DT} (h : d.ok w H) (hc : Chg S w w') (hn : ∀ i, H ≤ i → ¬ S i) : d.ok w' H :=
  OwnK.chg h hc fun i hi hS => hn i (ownK_ge h hi) hS
theorem DT.ok.blk {w w' : World} {H b : Nat} {T : TypeId} {cs : Array Value} {d : DT} (h : d.ok w H) (hb : Blk w b T cs) (hc : Chg (fun i => i = b) w w') (hT : 35 ≠ T) : d.ok w' H :=
  OwnK.chg h hc fun i hi hS => OwnK.ne h hb hT i hi hS
theorem DT.ok.base {w : World} {H H' : Nat} {d : DT} (h : d.ok w H) (hH : H' ≤ H) : d.ok w H' := OwnK.base h hH
theorem DO.ok.keep {S : Nat → Prop} {w w' : World} {H : Nat} {d : DO} (h : d.ok w H) (hc : Chg S w w') (hn : ∀ i, H ≤ i → ¬ S i) : d.ok w' H :=
  ⟨OwnK.chg h.1 hc fun i hi hS => hn i (ownK_ge h.1 hi) hS, OwnK.chg h.2 hc fun i hi hS => hn i (ownK_ge h.2 hi) hS⟩
theorem DO.ok.blk {w w' : World} {H b : Nat} {T : TypeId} {cs : Array Value} {d : DO} (h : d.ok w H) (hb : Blk w b T cs) (hc : Chg (fun i => i = b) w w') (hT : 33 ≠ T) (hT2 : 3 ≠ T) : d.ok w' H :=
  ⟨OwnK.chg h.1 hc fun i hi hS => OwnK.ne h.1 hb hT i hi hS, OwnK.chg h.2 hc fun i hi hS => OwnK.ne h.2 hb hT2 i hi hS⟩
theorem DO.ok.base {w : World} {H H' : Nat} {d : DO} (h : d.ok w H) (hH : H' ≤ H) : d.ok w H' := ⟨OwnK.base h.1 hH, OwnK.base h.2 hH⟩
theorem ownK_blk {w : World} {B : Nat} {e : TypeId} {s : Nat} {A : Option Addr} {n c : Nat} {l : List Value} (h : OwnK w B e s A n c l) {i : Nat} (hi : A = some ⟨i, 0, none⟩) : ∃ cs, Blk w i e cs := by
  subst hi
  rcases h.2 with ⟨h2, _⟩ | ⟨g', cap, cur, hv, hB, hg, _⟩
  · cases h2
  · injection hv with hv
    injection hv with hv
    injection hv with hv
    subst hv
    exact ⟨_, hg⟩
theorem DT.ok.row {w w' : World} {H B : Nat} {T : TypeId} {A : Option Addr} {s n c : Nat} {l : List Value} {d : DT} (h : d.ok w H) (hA : OwnK w B T s A n c l) (hc : Chg (fun i => A = some ⟨i, 0, none⟩) w w') (hT : 35 ≠ T) : d.ok w' H :=
  OwnK.chg h hc fun i hi hS => by
    obtain ⟨cs, hb⟩ := ownK_blk hA hS
    exact OwnK.ne h hb hT i hi rfl
theorem DO.ok.row {w w' : World} {H B : Nat} {T : TypeId} {A : Option Addr} {s n c : Nat} {l : List Value} {d : DO} (h : d.ok w H) (hA : OwnK w B T s A n c l) (hc : Chg (fun i => A = some ⟨i, 0, none⟩) w w') (hT : 33 ≠ T) (hT2 : 3 ≠ T) : d.ok w' H :=
  ⟨OwnK.chg h.1 hc fun i hi hS => by
    obtain ⟨cs, hb⟩ := ownK_blk hA hS
    exact OwnK.ne h.1 hb hT i hi rfl, OwnK.chg h.2 hc fun i hi hS => by
    obtain ⟨cs, hb⟩ := ownK_blk hA hS
    exact OwnK.ne h.2 hb hT2 i hi rfl⟩
end Go.Proofs.YtaclphhbdfoaeaaDoor.Im
end
end
end
section
set_option linter.unusedVariables false
set_option linter.unusedSimpArgs false
namespace Go.Proofs.YtaclphhbdfoaeaaDoor.Im
open Go.ChangeShapes Go.WideShapes Go.ChangeAt Go.RowKit Ws Cd

theorem fm_get {α : Type} {f : α → List Value} {s : Nat} (hf : ∀ a, (f a).length = s) : ∀ (l : List α) (i : Nat) (x : α), l[i]? = some x → ∀ j v, (f x)[j]? = some v → (l.flatMap f)[i * s + j]? = some v
  | [], i, x, h, _, _, _ => by simp at h
  | y :: l, 0, x, h, j, v, hv => by
    simp at h
    subst h
    have hj : j < (f y).length := by
      rcases Nat.lt_or_ge j (f y).length with h | h
      · exact h
      · rw [List.getElem?_eq_none h] at hv; cases hv
    rw [List.flatMap_cons, Nat.zero_mul, Nat.zero_add, List.getElem?_append_left hj]
    exact hv
  | y :: l, i + 1, x, h, j, v, hv => by
    have h2 := fm_get hf l i x (by simpa using h) j v hv
    have hl := hf y
    rw [List.flatMap_cons, List.getElem?_append_right (by rw [hl, Nat.succ_mul]; omega), hl, show (i + 1) * s + j - s = i * s + j by rw [Nat.succ_mul]; omega]
    exact h2
theorem fm_row {α : Type} {f : α → List Value} {s : Nat} (hs : 0 < s) (hf : ∀ a, (f a).length = s) {w : World} {A : Option Addr} {l : List α} (h : Row w A (l.flatMap f)) {i : Nat} {x : α} (hx : l[i]? = some x) : ∃ b o, A = some ⟨b, o, none⟩ ∧ ∀ j v, (f x)[j]? = some v → w.cell? ⟨b, o + i * s + j, none⟩ = some v := by
  have hl := hf x
  obtain ⟨v0, hv0⟩ : ∃ v, (f x)[0]? = some v := ⟨_, List.getElem?_eq_getElem (by omega)⟩
  obtain ⟨b, o, hA, _⟩ := h _ _ (fm_get hf l i x hx 0 v0 hv0)
  refine ⟨b, o, hA, fun j v hv => ?_⟩
  obtain ⟨b', o', hA', hc⟩ := h _ _ (fm_get hf l i x hx j v hv)
  rw [hA] at hA'
  injection hA' with hA'
  injection hA' with e1 e2
  subst e1
  subst e2
  rw [Nat.add_assoc]
  exact hc
theorem words1_eq (l : List Int) : l.flatMap words1 = l.map (Value.int .u32) := by
  induction l with
  | nil => rfl
  | cons x l ih => rw [List.flatMap_cons, ih]; rfl
theorem ints1_eq (l : List Int) : l.flatMap ints1 = l.map (Value.int .i64) := by
  induction l with
  | nil => rfl
  | cons x l ih => rw [List.flatMap_cons, ih]; rfl
theorem ownK_max {w : World} {B : Nat} {e : TypeId} {s : Nat} {A : Option Addr} {n c : Nat} {l : List Value} (h : OwnK w B e s A n c l) : n ≤ maxLen := by
  rcases h.2 with ⟨hv, hn⟩ | ⟨g, cap, cur, hv, _, _, hcap, hmax, _⟩
  · omega
  · injection hv with _ _ hv
    omega
/-- all words are words -/
structure Wok (s : PS) : Prop where
  ins : ∀ t ∈ s.ts, ∀ i ∈ t.code, 0 ≤ i.n ∧ i.n < 4294967296
  sa : ∀ o ∈ s.os, 0 ≤ o.sa ∧ o.sa < 4294967296
  ini : ∀ o ∈ s.os, ∀ y ∈ o.ini, 0 ≤ y ∧ y < 4294967296
theorem rL_all {α : Type} {f : Rdr α} {Q : α → Prop} (h : ∀ r, Q (f r).1) : ∀ (n : Nat) (r : Rs), ∀ x ∈ (rL f n r).1, Q x
  | 0, _, x, hx => by cases hx
  | n + 1, r, x, hx => by
    rcases List.mem_append.1 hx with hx | hx
    · exact rL_all h n r x hx
    · rw [List.mem_singleton] at hx
      subst hx
      exact h _
theorem rS_ok {l : List Int} (h : By l) (r : Rs) : Wok (rS l r).1 :=
  ⟨rL_all (fun r => rL_all (fun r => tld_bd h (by omega) _) _ _) _ _, rL_all (fun r => tld_bd h (by omega) _) _ _, rL_all (fun r => rL_all (fun r => tld_bd h (by omega) _) _ _) _ _⟩
/-- how a system that was read stands in memory -/
structure SysR (w : World) (H : Nat) (A : Option Addr) (n c : Nat) (B : Option Addr) (m d : Nat) (s : PS) (ds : List DT) (es : List DO) : Prop where
  ts : ds.map (·.p) = s.ts
  os : es.map (·.p) = s.os
  tr : OwnK w H 32 7 A n c (ds.flatMap DT.cells)
  or : OwnK w H 39 8 B m d (es.flatMap DO.cells)
  tk : ∀ x ∈ ds, x.ok w H
  ok : ∀ x ∈ es, x.ok w H
theorem SysR.keep {S : Nat → Prop} {w w' : World} {H n c m d : Nat} {A B : Option Addr} {s : PS} {ds : List DT} {es : List DO} (h : SysR w H A n c B m d s ds es) (hc : Chg S w w') (hn : ∀ i, H ≤ i → ¬ S i) : SysR w' H A n c B m d s ds es :=
  ⟨h.ts, h.os, h.tr.chg hc fun i hi => hn i (ownK_ge h.tr hi), h.or.chg hc fun i hi => hn i (ownK_ge h.or hi), fun x hx => (h.tk x hx).keep hc hn, fun x hx => (h.ok x hx).keep hc hn⟩
theorem tcells_len (d : DT) : d.cells.length = 7 := rfl
theorem ocells_len (d : DO) : d.cells.length = 8 := rfl
theorem icells_len (d : Ins) : (icells d).length = 5 := rfl
theorem SysR.lens {w : World} {H n c m d : Nat} {A B : Option Addr} {s : PS} {ds : List DT} {es : List DO} (h : SysR w H A n c B m d s ds es) : s.ts.length = n ∧ s.os.length = m := by
  have h1 := h.tr.len
  have h2 := h.or.len
  have f1 : (ds.flatMap DT.cells).length = ds.length * 7 := by
    generalize ds = l
    induction l with
    | nil => rfl
    | cons x l ih => rw [List.flatMap_cons, List.length_append, ih, tcells_len, List.length_cons]; omega
  have f2 : (es.flatMap DO.cells).length = es.length * 8 := by
    generalize es = l
    induction l with
    | nil => rfl
    | cons x l ih => rw [List.flatMap_cons, List.length_append, ih, ocells_len, List.length_cons]; omega
  rw [← h.ts, ← h.os, List.length_map, List.length_map]
  omega
theorem code_of {w : World} {H : Nat} {d : DT} (h : d.ok w H) (hn : ∀ i ∈ d.p.code, 0 ≤ i.n ∧ i.n < 4294967296) : Code w d.X d.p.code := by
  intro i x hx
  refine ⟨hn x (List.mem_of_getElem? hx), ?_⟩
  exact fm_row (by omega) icells_len (OwnK.row h) hx
theorem SysR.at_ {w : World} {H n c m d : Nat} {A B : Option Addr} {s : PS} {ds : List DT} {es : List DO} (h : SysR w H A n c B m d s ds es) (hw : Wok s) : SysAt w A n B m s := by
  obtain ⟨l1, l2⟩ := h.lens
  refine ⟨l1, l2, ?_, ?_⟩
  · intro i p hp
    rw [← h.ts, List.getElem?_map] at hp
    obtain ⟨x, hx, rfl⟩ := Option.map_eq_some_iff.1 hp
    obtain ⟨b, o, hA, hc⟩ := fm_row (by omega) tcells_len h.tr.row hx
    have hm := List.mem_of_getElem? hx
    exact ⟨b, o, hA, x.X, x.c, hc, code_of (h.tk x hm) (fun y hy => hw.ins x.p (by rw [← h.ts]; exact List.mem_map.2 ⟨x, hm, rfl⟩) y hy), ownK_max (h.tk x hm)⟩
  · intro i p hp
    rw [← h.os, List.getElem?_map] at hp
    obtain ⟨x, hx, rfl⟩ := Option.map_eq_some_iff.1 hp
    obtain ⟨b, o, hA, hc⟩ := fm_row (by omega) ocells_len h.or.row hx
    have hm := List.mem_of_getElem? hx
    have hm2 : x.p ∈ s.os := by rw [← h.os]; exact List.mem_map.2 ⟨x, hm, rfl⟩
    have r1 := (h.ok x hm).1.row
    have r2 := (h.ok x hm).2.row
    rw [words1_eq] at r1
    rw [ints1_eq] at r2
    exact ⟨b, o, hA, x.X, x.c, x.Y, x.d, hc, hw.sa _ hm2, r1, hw.ini _ hm2, r2, ownK_max (h.ok x hm).1, ownK_max (h.ok x hm).2⟩
theorem sys_size : (Tryd.prog.info? 25).map (·.size) = some 2 := by kernel_rfl
end Go.Proofs.YtaclphhbdfoaeaaDoor.Im
end
