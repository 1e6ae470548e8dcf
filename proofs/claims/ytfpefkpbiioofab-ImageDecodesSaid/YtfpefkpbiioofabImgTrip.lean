/-
  Layer 33, plain: what is laid is read again, and what is read is laid so.
-/
import Derived.Test.YtfpefkpbiioofabImgPure
set_option linter.unusedVariables false
set_option linter.unusedSimpArgs false
namespace Go.Proofs.Ytfpefkpbiioofab.Im

def Byt (l : List Int) : Prop := ∀ x ∈ l, 0 ≤ x ∧ x ≤ 255
/-- from a to b stand these -/
def Seg (l : List Int) (a b : Nat) (xs : List Int) : Prop := b = a + xs.length ∧ b ≤ l.length ∧ (l.drop a).take xs.length = xs
theorem Seg.app {l : List Int} {a b c : Nat} {xs ys : List Int} (h : Seg l a b xs) (k : Seg l b c ys) : Seg l a c (xs ++ ys) := by
  obtain ⟨h1, h2, h3⟩ := h
  obtain ⟨k1, k2, k3⟩ := k
  refine ⟨by rw [List.length_append]; omega, k2, ?_⟩
  rw [List.length_append, List.take_add, h3, List.drop_drop, ← h1, k3]
theorem Seg.split {l : List Int} {a c : Nat} {xs ys : List Int} (h : Seg l a c (xs ++ ys)) : Seg l a (a + xs.length) xs ∧ Seg l (a + xs.length) c ys := by
  obtain ⟨h1, h2, h3⟩ := h
  rw [List.length_append] at h1 h3
  rw [List.take_add, List.drop_drop] at h3
  have hl : ((l.drop a).take xs.length).length = xs.length := by rw [List.length_take, List.length_drop]; omega
  obtain ⟨e1, e2⟩ := List.append_inj h3 hl
  exact ⟨⟨rfl, by omega, e1⟩, by omega, h2, e2⟩
theorem Seg.nil {l : List Int} {a : Nat} (h : a ≤ l.length) : Seg l a a [] := ⟨rfl, h, rfl⟩
theorem Seg.end_ {l : List Int} {a b : Nat} {xs : List Int} (h : Seg l a b xs) : b = a + xs.length := h.1
theorem lo_cons (x : Int) (n : Nat) : lo x (n + 1) = x % 256 :: lo (x / 256) n := by
  unfold lo
  rw [List.range_succ_eq_map, List.map_cons, List.map_map]
  congr 1
  · simp
  · apply List.map_congr_left
    intro j _
    show x / 2 ^ (8 * (j + 1)) % 256 = x / 256 / 2 ^ (8 * j) % 256
    have e : (2 : Int) ^ (8 * (j + 1)) = 256 * 2 ^ (8 * j) := by
      rw [Nat.mul_succ, Int.pow_add, Int.mul_comm]
      rfl
    rw [e, Int.ediv_ediv_of_nonneg (by omega)]
theorem nu_lo : ∀ (n : Nat) (x : Int), 0 ≤ x → x < 256 ^ n → nu (lo x n) = x
  | 0, x, h0, h1 => by
    have : x < 1 := by simpa using h1
    show (0 : Int) = x
    omega
  | n + 1, x, h0, h1 => by
    rw [lo_cons]
    show x % 256 + 256 * nu (lo (x / 256) n) = x
    have e : (256 : Int) ^ (n + 1) = 256 * 256 ^ n := by rw [Int.pow_succ, Int.mul_comm]
    rw [e] at h1
    rw [nu_lo n (x / 256) (by omega) (by omega)]
    omega
theorem lo_nu : ∀ (bs : List Int), Byt bs → lo (nu bs) bs.length = bs
  | [], _ => rfl
  | x :: bs, h => by
    have h1 := h x (by simp)
    have ih := lo_nu bs fun y hy => h y (by simp [hy])
    rw [List.length_cons, lo_cons]
    show (x + 256 * nu bs) % 256 :: lo ((x + 256 * nu bs) / 256) bs.length = x :: bs
    rw [show (x + 256 * nu bs) % 256 = x by omega, show (x + 256 * nu bs) / 256 = nu bs by omega, ih]
theorem nu_bd : ∀ (bs : List Int), Byt bs → 0 ≤ nu bs ∧ nu bs < 256 ^ bs.length
  | [], _ => by simp [nu]
  | x :: bs, h => by
    have h1 := h x (by simp)
    have ih := nu_bd bs fun y hy => h y (by simp [hy])
    have e : (256 : Int) ^ (bs.length + 1) = 256 * 256 ^ bs.length := by rw [Int.pow_succ, Int.mul_comm]
    rw [List.length_cons, e]
    show 0 ≤ x + 256 * nu bs ∧ x + 256 * nu bs < 256 * 256 ^ bs.length
    omega
/-- what f reads is what 'it' lays -/
structure Par {α : Type} (l : List Int) (f : Rdr α) (it : α → List Item) : Prop where
  le : ∀ r, r.k ≤ l.length → (f r).2.k ≤ l.length
  fwd : ∀ r, r.k ≤ l.length → (f r).2.bad = false → r.bad = false ∧ Seg l r.k (f r).2.k (enc (it (f r).1)) ∧ (it (f r).1).all fit = true
  bwd : ∀ r x m, r.bad = false → Seg l r.k m (enc (it x)) → (it x).all fit = true → f r = (x, ⟨m, false⟩)
theorem rU_le {l : List Int} {n : Nat} {r : Rs} (h : r.k ≤ l.length) : (rU l n r).2.k ≤ l.length := by
  unfold rU aft
  simp only
  split
  · next h2 => exact h2.2
  · exact h
theorem enc1 (p : Item) : enc [p] = lo p.1 p.2 := by simp [enc]
theorem par_u {l : List Int} (hb : Byt l) (n : Nat) : Par l (rU l n) (fun x => [(x, n)]) := by
  refine ⟨fun r => rU_le, ?_, ?_⟩
  · intro r _ h
    unfold rU at h ⊢
    simp only at h ⊢
    unfold aft at h ⊢
    unfold tld
    split at h
    · next h2 =>
      rw [if_pos h2, if_pos h2]
      have hl : ((l.drop r.k).take n).length = n := by rw [List.length_take, List.length_drop]; omega
      have hby : Byt ((l.drop r.k).take n) := fun y hy => hb y (List.mem_of_mem_drop (List.mem_of_mem_take hy))
      have e := lo_nu _ hby
      have e2 := nu_bd _ hby
      rw [hl] at e e2
      refine ⟨h2.1, ?_, ?_⟩
      · rw [enc1]
        refine ⟨by rw [lo_len], h2.2, ?_⟩
        rw [lo_len]
        exact e.symm
      · simp only [List.all_cons, List.all_nil, Bool.and_true, fit, decide_eq_true_eq]
        exact e2
    · cases h
  · intro r x m hr hs hf
    rw [enc1] at hs
    obtain ⟨h1, h2, h3⟩ := hs
    rw [lo_len] at h1 h3
    simp only [List.all_cons, List.all_nil, Bool.and_true, fit, decide_eq_true_eq] at hf
    unfold rU tld aft
    rw [if_pos ⟨hr, by omega⟩, if_pos ⟨hr, by omega⟩, h3, nu_lo n x hf.1 hf.2, h1]
theorem par_l {α : Type} {l : List Int} {f : Rdr α} {it : α → List Item} (h : Par l f it) : ∀ n : Nat,
    (∀ r, r.k ≤ l.length → (rL f n r).2.k ≤ l.length) ∧
    (∀ r, r.k ≤ l.length → (rL f n r).2.bad = false → r.bad = false ∧ Seg l r.k (rL f n r).2.k (enc ((rL f n r).1.flatMap it)) ∧ ((rL f n r).1.flatMap it).all fit = true) ∧
    (∀ r xs m, xs.length = n → r.bad = false → Seg l r.k m (enc (xs.flatMap it)) → (xs.flatMap it).all fit = true → rL f n r = (xs, ⟨m, false⟩))
  | 0 => by
    refine ⟨fun r hk => hk, fun r hk hr => ⟨hr, Seg.nil hk, rfl⟩, fun r xs m hx hr hs hf => ?_⟩
    have hx0 : xs = [] := List.eq_nil_of_length_eq_zero hx
    subst hx0
    have e := hs.1
    show ([], r) = _
    obtain ⟨k, bad⟩ := r
    simp only at hr
    subst hr
    congr 2
    simpa [enc] using e.symm
  | n + 1 => by
    obtain ⟨i0, i1, i2⟩ := par_l h n
    refine ⟨fun r hk => h.le _ (i0 r hk), fun r hk hr => ?_, fun r xs m hx hr hs hf => ?_⟩
    · have hr2 : (f (rL f n r).2).2.bad = false := hr
      obtain ⟨a1, a2, a3⟩ := h.fwd _ (i0 r hk) hr2
      obtain ⟨b1, b2, b3⟩ := i1 r hk a1
      show r.bad = false ∧ Seg l r.k (f (rL f n r).2).2.k (enc (((rL f n r).1 ++ [(f (rL f n r).2).1]).flatMap it)) ∧ _
      refine ⟨b1, ?_, ?_⟩
      · rw [List.flatMap_append, enc_app]
        simpa using b2.app a2
      · show (((rL f n r).1 ++ [(f (rL f n r).2).1]).flatMap it).all fit = true
        rw [List.flatMap_append, List.all_append, b3]
        simpa using a3
    · obtain ⟨ys, y, rfl⟩ : ∃ ys y, xs = ys ++ [y] := by
        refine ⟨xs.take n, xs[n]'(by omega), ?_⟩
        rw [List.take_append_getElem]
        exact (List.take_of_length_le (by omega)).symm
      have hy : ys.length = n := by simpa using hx
      rw [List.flatMap_append, enc_app] at hs
      rw [List.flatMap_append, List.all_append, Bool.and_eq_true] at hf
      obtain ⟨s1, s2⟩ := hs.split
      have e1 := i2 r ys _ hy hr s1 hf.1
      have e2 := h.bwd ⟨r.k + (enc (ys.flatMap it)).length, false⟩ y m rfl (by simpa using s2) (by simpa using hf.2)
      show ((rL f n r).1 ++ [(f (rL f n r).2).1], (f (rL f n r).2).2) = _
      rw [e1]
      simp only
      rw [e2]
theorem all_app (a b : List Item) : (a ++ b).all fit = true ↔ a.all fit = true ∧ b.all fit = true := by rw [List.all_append, Bool.and_eq_true]
end Go.Proofs.Ytfpefkpbiioofab.Im
