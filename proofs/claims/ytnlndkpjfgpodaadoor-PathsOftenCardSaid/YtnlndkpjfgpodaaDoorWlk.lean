/-
  What all walks through a program come to (chapters 11, 12): plain, over whatever may be added and multiplied.
  V: what is to come from a state (a place, and how often each Back went back); it meets the equation of one step.
-/
import Derived.Test.YtnlndkpjfgpodaaDoorCstPart
set_option linter.unusedSimpArgs false
set_option linter.unusedVariables false
set_option linter.unusedSectionVars false
namespace Go.Proofs.YtnlndkpjfgpodaaDoor.Wk
open Fp (Ins at_ Fine check loopsL hasB nextL lp has_iff)
open Cs (spn spn_lt spn_top spn_in lp_in lp_back lp_spn back_last last_back)

/-- what may be added and multiplied -/
structure Sr (α : Type) where
  add : α → α → α
  mul : α → α → α
  zero : α
  one : α
  add_comm : ∀ a b, add a b = add b a
  add_assoc : ∀ a b c, add (add a b) c = add a (add b c)
  add_zero : ∀ a, add a zero = a
  mul_assoc : ∀ a b c, mul (mul a b) c = mul a (mul b c)
  one_mul : ∀ a, mul one a = a
  mul_one : ∀ a, mul a one = a
  zero_mul : ∀ a, mul zero a = zero
  mul_zero : ∀ a, mul a zero = zero
  dl : ∀ a b c, mul a (add b c) = add (mul a b) (mul a c)
  dr : ∀ a b c, mul (add a b) c = add (mul a c) (mul b c)
/-- a part: gone through, and ended within -/
structure Wg (α : Type) where
  thru : α
  fin : α
theorem Wg.ext' {α : Type} {x y : Wg α} (h1 : x.thru = y.thru) (h2 : x.fin = y.fin) : x = y := by cases x; cases y; cases h1; cases h2; rfl
section
variable {α : Type} (S : Sr α)
theorem zero_add (a : α) : S.add S.zero a = a := by rw [S.add_comm, S.add_zero]
def mulW (x y : Wg α) : Wg α := ⟨S.mul x.thru y.thru, S.add x.fin (S.mul x.thru y.fin)⟩
def addW (x y : Wg α) : Wg α := ⟨S.add x.thru y.thru, S.add x.fin y.fin⟩
def oneW : Wg α := ⟨S.one, S.zero⟩
def zeroW : Wg α := ⟨S.zero, S.zero⟩
def sc (a : α) (x : Wg α) : Wg α := ⟨S.mul a x.thru, S.mul a x.fin⟩
def sumW : List (Wg α) → Wg α
  | [] => zeroW S
  | x :: l => addW S x (sumW l)
theorem mulW_assoc (x y z : Wg α) : mulW S (mulW S x y) z = mulW S x (mulW S y z) := Wg.ext' (S.mul_assoc _ _ _) (by simp only [mulW, S.dl, S.mul_assoc, S.add_assoc])
theorem one_mulW (x : Wg α) : mulW S (oneW S) x = x := Wg.ext' (S.one_mul _) (by simp only [mulW, oneW, S.one_mul, zero_add])
theorem mulW_one (x : Wg α) : mulW S x (oneW S) = x := Wg.ext' (S.mul_one _) (by simp only [mulW, oneW, S.mul_zero, S.add_zero])
theorem sc_mulW (a : α) (x y : Wg α) : mulW S (sc S a x) y = sc S a (mulW S x y) := Wg.ext' (S.mul_assoc _ _ _) (by simp only [mulW, sc, S.mul_assoc, S.dl])
theorem add_mulW (x y z : Wg α) : (mulW S (addW S x y) z).fin = S.add (mulW S x z).fin (mulW S y z).fin := by
  simp only [mulW, addW, S.dr]
  rw [S.add_assoc, S.add_assoc]
  congr 1
  rw [← S.add_assoc, S.add_comm y.fin, S.add_assoc]
theorem addW_comm (x y : Wg α) : addW S x y = addW S y x := Wg.ext' (S.add_comm _ _) (S.add_comm _ _)
theorem addW_assoc (x y z : Wg α) : addW S (addW S x y) z = addW S x (addW S y z) := Wg.ext' (S.add_assoc _ _ _) (S.add_assoc _ _ _)
theorem addW_zero (x : Wg α) : addW S x (zeroW S) = x := Wg.ext' (S.add_zero _) (S.add_zero _)
theorem zero_addW (x : Wg α) : addW S (zeroW S) x = x := by rw [addW_comm, addW_zero]
theorem sc_zeroW (a : α) : sc S a (zeroW S) = zeroW S := Wg.ext' (S.mul_zero _) (S.mul_zero _)
theorem zero_sc (x : Wg α) : sc S S.zero x = zeroW S := Wg.ext' (S.zero_mul _) (S.zero_mul _)
theorem one_sc (x : Wg α) : sc S S.one x = x := Wg.ext' (S.one_mul _) (S.one_mul _)
theorem sc_add (a b : α) (x : Wg α) : sc S (S.add a b) x = addW S (sc S a x) (sc S b x) := Wg.ext' (S.dr _ _ _) (S.dr _ _ _)
theorem sc_addW (a : α) (x y : Wg α) : sc S a (addW S x y) = addW S (sc S a x) (sc S a y) := Wg.ext' (S.dl _ _ _) (S.dl _ _ _)
theorem sc_sc (a b : α) (x : Wg α) : sc S a (sc S b x) = sc S (S.mul a b) x := Wg.ext' (S.mul_assoc _ _ _).symm (S.mul_assoc _ _ _).symm
theorem sc_sumW (a : α) : ∀ l : List (Wg α), sc S a (sumW S l) = sumW S (l.map (sc S a))
  | [] => sc_zeroW S a
  | x :: l => by rw [sumW, sc_addW, sc_sumW a l]; rfl
/-- so many times -/
def pw (x : Wg α) : Nat → Wg α
  | 0 => oneW S
  | n + 1 => mulW S (pw x n) x
theorem pw_succ (x : Wg α) (n : Nat) : pw S x (n + 1) = mulW S x (pw S x n) := by
  induction n with
  | zero => show mulW S (oneW S) x = mulW S x (oneW S); rw [one_mulW, mulW_one]
  | succ n ih =>
    have e : mulW S (pw S x n) x = mulW S x (pw S x n) := ih
    show mulW S (mulW S (pw S x n) x) x = mulW S x (mulW S (pw S x n) x)
    rw [e, mulW_assoc, e]

variable (p : List Ins)
/-- of the loops below n that have a place the last one -/
def lastJ : Nat → Int → Option Nat
  | 0, _ => none
  | n + 1, k => if hasB (lp (loopsL p) n) k = true then some n else lastJ n k
theorem lastJ_none {n : Nat} {k : Int} (h : ∀ j, j < n → hasB (lp (loopsL p) j) k = false) : lastJ p n k = none := by
  induction n with
  | zero => rfl
  | succ n ih =>
    rw [lastJ, h n (by omega), if_neg Bool.false_ne_true]
    exact ih fun j hj => h j (by omega)
theorem lastJ_cases (n : Nat) (k : Int) : (lastJ p n k = none ∧ ∀ j, j < n → hasB (lp (loopsL p) j) k = false) ∨ ∃ j, lastJ p n k = some j ∧ j < n ∧ hasB (lp (loopsL p) j) k = true ∧ ∀ i, j < i → i < n → hasB (lp (loopsL p) i) k = false := by
  induction n with
  | zero => exact .inl ⟨rfl, fun j hj => by omega⟩
  | succ n ih =>
    rw [lastJ]
    cases hb : hasB (lp (loopsL p) n) k
    · rw [if_neg Bool.false_ne_true]
      rcases ih with ⟨h1, h2⟩ | ⟨j, h1, h2, h3, h4⟩
      · refine .inl ⟨h1, fun j hj => ?_⟩
        rcases Nat.lt_or_ge j n with h | h
        · exact h2 j h
        · have : j = n := by omega
          subst this; exact hb
      · refine .inr ⟨j, h1, by omega, h3, fun i hi1 hi2 => ?_⟩
        rcases Nat.lt_or_ge i n with h | h
        · exact h4 i hi1 h
        · have : i = n := by omega
          subst this; exact hb
    · rw [if_pos rfl]
      exact .inr ⟨n, rfl, by omega, hb, fun i h1 h2 => by omega⟩
variable (h : Nat → α) (o : Nat → Wg α)
/-- a loop as a whole -/
def rp (j : Nat) : Wg α := pw S (o j) ((at_ p (lp (loopsL p) j).2.toNat).c + 1).toNat
def stepG (n : Nat) (g : Nat → Wg α) (k : Nat) : Wg α :=
  match lastJ p n k with
  | some j => if (k : Int) = (lp (loopsL p) j).1 then mulW S (rp S p o j) (g ((lp (loopsL p) j).2 + 1).toNat) else zeroW S
  | none =>
    if (at_ p k).op = 21 then ⟨S.zero, h k⟩
    else if (k : Int) = (spn p n).2 then ⟨h k, S.zero⟩
    else sc S (h k) (sumW S ((nextL p k).map fun t => g t.toNat))
def bk (n : Nat) : Nat → Nat → Wg α
  | 0, _ => zeroW S
  | f + 1, k => stepG S p h o n (bk n f) k
/-- from a place of a part to its end -/
def G (n k : Nat) : Wg α := bk S p h o n p.length k

structure Fs (α : Type) where
  come : Nat → α
  all : Wg α
def leadF (c : Nat → α) (t : Nat) (v : α) : Nat → α := fun u => if u = t then S.add (c u) v else c u
def fStep (n : Nat) (s : Fs α) (k : Nat) : Fs α :=
  match lastJ p n k with
  | some j => if (k : Int) = (lp (loopsL p) j).1 then ⟨leadF S s.come ((lp (loopsL p) j).2 + 1).toNat (S.mul (s.come k) (rp S p o j).thru), ⟨s.all.thru, S.add s.all.fin (S.mul (s.come k) (rp S p o j).fin)⟩⟩ else s
  | none =>
    if (at_ p k).op = 21 then ⟨s.come, ⟨s.all.thru, S.add s.all.fin (S.mul (s.come k) (h k))⟩⟩
    else if (k : Int) = (spn p n).2 then ⟨s.come, ⟨S.mul (s.come k) (h k), s.all.fin⟩⟩
    else ⟨(nextL p k).foldl (fun c t => leadF S c t.toNat (S.mul (s.come k) (h k))) s.come, s.all⟩
def fT (n : Nat) (a : Nat) : Nat → Fs α
  | 0 => ⟨fun u => if u = a then S.one else S.zero, zeroW S⟩
  | i + 1 => fStep S p h o n (fT n a i) (a + i)
end

section
variable {α : Type} {S : Sr α} {p : List Ins} {h : Nat → α} {o : Nat → Wg α} {right : Ins → Bool}
variable (hF : Fine right p) (hn : ∀ j, j < p.length → 0 ≤ (at_ p j).n)
include hF hn
/-- where one goes within a part -/
theorem part_edge {n k : Nat} (hN : n ≤ (loopsL p).length) (hk : k < p.length) (h1 : (spn p n).1 ≤ k) (h2 : (k : Int) < (spn p n).2) (hno : ∀ j, j < n → hasB (lp (loopsL p) j) k = false) {t : Int} (ht : t ∈ nextL p k) :
    (k : Int) < t ∧ t ≤ (spn p n).2 := by
  have ho : ¬ (at_ p k).op = 16 := fun h16 => by
    have := back_last hF hn hN hk (by omega) h16 hno
    omega
  obtain ⟨hb, he⟩ := hF.edge hn hk ht
  have hw := fun {s : Int × Int} (hs : s ∈ loopsL p) => hF.ways hn hk ht hs
  have h3 : (k : Int) < t := by
    rcases he with ⟨_, _, h⟩ | h | ⟨h, _⟩
    · exact h
    · omega
    · exact absurd h ho
  refine ⟨h3, ?_⟩
  by_cases hl : n < (loopsL p).length
  · rw [spn_lt hl] at *
    rcases Int.lt_or_le (lp (loopsL p) n).2 t with h5 | h5
    · have := (hw (Fp.lp_mem hl)).2 (has_iff.2 ⟨h1, by omega⟩) (by unfold hasB; simp; omega)
      omega
    · exact h5
  · unfold spn
    rw [if_neg hl]
    simp only
    omega
theorem after_loop {j n : Nat} (hj : j < n) (hN : n ≤ (loopsL p).length) : (lp (loopsL p) j).2 + 1 ≤ (spn p n).2 := by
  have := lp_spn hF hn hj hN
  omega
theorem stepG_congr {n k : Nat} (hN : n ≤ (loopsL p).length) (h1 : (spn p n).1 ≤ k) (h2 : (k : Int) ≤ (spn p n).2) {g g' : Nat → Wg α} (hg : ∀ t : Nat, k < t → (t : Int) ≤ (spn p n).2 → g t = g' t) : stepG S p h o n g k = stepG S p h o n g' k := by
  have hs := spn_in hF hn n hN
  unfold stepG
  rcases lastJ_cases p n k with ⟨e, hno⟩ | ⟨j, e, hj, hb, _⟩
  · rw [e]
    simp only
    split
    · rfl
    · split
      · rfl
      · rename_i h3
        congr 2
        apply List.map_congr_left
        intro t ht
        have := part_edge hF hn hN (by omega) h1 (by omega) hno ht
        exact hg _ (by omega) (by omega)
  · rw [e]
    simp only
    split
    · rename_i h3
      have h4 := lp_in hF hn (j := j) (by omega)
      have h5 := after_loop hF hn hj hN
      rw [hg _ (by omega) (by omega)]
    · rfl
theorem bk_stable {n : Nat} (hN : n ≤ (loopsL p).length) : ∀ (f k : Nat), (spn p n).1 ≤ k → (k : Int) ≤ (spn p n).2 → (spn p n).2 + 1 ≤ k + f → bk S p h o n f k = bk S p h o n (f + 1) k := by
  intro f
  induction f with
  | zero => intro k _ h2 h3; omega
  | succ f ih =>
    intro k h1 h2 h3
    show stepG S p h o n (bk S p h o n f) k = stepG S p h o n (bk S p h o n (f + 1)) k
    exact stepG_congr hF hn hN h1 h2 fun t h4 h5 => ih t (by omega) h5 (by omega)
theorem G_eq {n k : Nat} (hN : n ≤ (loopsL p).length) (h1 : (spn p n).1 ≤ k) (h2 : (k : Int) ≤ (spn p n).2) : G S p h o n k = stepG S p h o n (G S p h o n) k := by
  have hs := spn_in hF hn n hN
  have : G S p h o n k = bk S p h o n (p.length + 1) k := bk_stable hF hn hN p.length k h1 h2 (by omega)
  rw [this]
  rfl
theorem G_loop {n k j : Nat} (hN : n ≤ (loopsL p).length) (h1 : (spn p n).1 ≤ k) (h2 : (k : Int) ≤ (spn p n).2) (hj : j < n) (hb : hasB (lp (loopsL p) j) k = true) (hl : ∀ i, j < i → i < n → hasB (lp (loopsL p) i) k = false) (hk : (k : Int) = (lp (loopsL p) j).1) :
    G S p h o n k = mulW S (rp S p o j) (G S p h o n ((lp (loopsL p) j).2 + 1).toNat) := by
  rw [G_eq hF hn hN h1 h2]
  unfold stepG
  rcases lastJ_cases p n k with ⟨e, hno⟩ | ⟨i, e, hi, hbi, hli⟩
  · rw [hno j hj] at hb; cases hb
  · have : i = j := by
      rcases Nat.lt_trichotomy i j with h3 | h3 | h3
      · rw [hli j h3 hj] at hb; cases hb
      · exact h3
      · rw [hl i h3 hi] at hbi; cases hbi
    subst this
    rw [e]
    simp only
    rw [if_pos hk]
theorem G_plain {n k : Nat} (hN : n ≤ (loopsL p).length) (h1 : (spn p n).1 ≤ k) (h2 : (k : Int) ≤ (spn p n).2) (hno : ∀ j, j < n → hasB (lp (loopsL p) j) k = false) :
    G S p h o n k = if (at_ p k).op = 21 then ⟨S.zero, h k⟩ else if (k : Int) = (spn p n).2 then ⟨h k, S.zero⟩ else sc S (h k) (sumW S ((nextL p k).map fun t => G S p h o n t.toNat)) := by
  rw [G_eq hF hn hN h1 h2]
  unfold stepG
  rw [lastJ_none p hno]

/-! ### forwards and backwards -/
omit hF hn in
/-- what comes of all that was come to -/
def sumF (S : Sr α) (c : Nat → α) (g : Nat → Wg α) : Nat → Nat → Wg α
  | _, 0 => zeroW S
  | k, m + 1 => addW S (sc S (c k) (g k)) (sumF S c g (k + 1) m)
omit hF hn in
theorem sumF_out (c : Nat → α) (g : Nat → Wg α) (t : Nat) (v : α) : ∀ (m k : Nat), (t < k ∨ k + m ≤ t) → sumF S (leadF S c t v) g k m = sumF S c g k m := by
  intro m
  induction m with
  | zero => intro k _; rfl
  | succ m ih =>
    intro k hk
    rw [sumF, sumF, ih (k + 1) (by omega)]
    have : leadF S c t v k = c k := by unfold leadF; rw [if_neg (by omega)]
    rw [this]
omit hF hn in
theorem sumF_lead (c : Nat → α) (g : Nat → Wg α) (t : Nat) (v : α) : ∀ (m k : Nat), k ≤ t → t < k + m → sumF S (leadF S c t v) g k m = addW S (sumF S c g k m) (sc S v (g t)) := by
  intro m
  induction m with
  | zero => intro k h1 h2; omega
  | succ m ih =>
    intro k h1 h2
    rw [sumF, sumF]
    by_cases hk : k = t
    · subst hk
      have : leadF S c k v k = S.add (c k) v := by unfold leadF; rw [if_pos rfl]
      rw [this, sumF_out c g k v m (k + 1) (by omega), sc_add, addW_assoc, addW_assoc]
      congr 1
      exact addW_comm S _ _
    · have : leadF S c t v k = c k := by unfold leadF; rw [if_neg hk]
      rw [this, ih (k + 1) (by omega) (by omega), addW_assoc]
omit hF hn in
theorem sumF_leads (g : Nat → Wg α) (v : α) (k m : Nat) : ∀ (ts : List Int) (c : Nat → α), (∀ t ∈ ts, k ≤ t.toNat ∧ t.toNat < k + m) →
    sumF S (ts.foldl (fun c t => leadF S c t.toNat v) c) g k m = addW S (sumF S c g k m) (sc S v (sumW S (ts.map fun t => g t.toNat)))
  | [], c, _ => by rw [List.foldl_nil, List.map_nil, sumW, sc_zeroW, addW_zero]
  | t :: ts, c, ht => by
    have h1 := ht t (List.mem_cons_self ..)
    rw [List.foldl_cons, sumF_leads g v k m ts _ (fun t' h' => ht t' (List.mem_cons_of_mem _ h')), sumF_lead _ _ _ _ _ _ h1.1 h1.2, List.map_cons, sumW, sc_addW, addW_assoc]
/-- all that is and all that comes, at the place k -/
theorem forth {n : Nat} (hN : n ≤ (loopsL p).length) : ∀ i : Nat, (spn p n).1 + i ≤ (spn p n).2 + 1 →
    addW S (fT S p h o n (spn p n).1.toNat i).all (sumF S (fT S p h o n (spn p n).1.toNat i).come (G S p h o n) ((spn p n).1.toNat + i) ((spn p n).2 + 1 - (spn p n).1 - i).toNat) = G S p h o n (spn p n).1.toNat ∧
    ((spn p n).1 + i ≤ (spn p n).2 → (fT S p h o n (spn p n).1.toNat i).all.thru = S.zero) := by
  have hs := spn_in hF hn n hN
  intro i
  induction i with
  | zero =>
    intro _
    refine ⟨?_, fun _ => rfl⟩
    rw [fT, zero_addW]
    simp only
    have key : ∀ (m k : Nat), (spn p n).1.toNat < k → sumF S (fun u => if u = (spn p n).1.toNat then S.one else S.zero) (G S p h o n) k m = zeroW S := by
      intro m
      induction m with
      | zero => intro k _; rfl
      | succ m ih =>
        intro k hk
        rw [sumF, ih (k + 1) (by omega), if_neg (by omega), zero_sc, addW_zero]
    have e : ((spn p n).2 + 1 - (spn p n).1 - (0 : Nat)).toNat = ((spn p n).2 - (spn p n).1).toNat + 1 := by omega
    rw [e, sumF, key _ _ (by omega), addW_zero, Nat.add_zero, if_pos rfl, one_sc]
  | succ i ih =>
    intro hi
    obtain ⟨h1, h2⟩ := ih (by omega)
    have h0 := h2 (by omega)
    have e : ((spn p n).2 + 1 - (spn p n).1 - (i : Nat)).toNat = ((spn p n).2 + 1 - (spn p n).1 - ((i + 1 : Nat) : Int)).toNat + 1 := by omega
    rw [e, sumF] at h1
    have hM : (spn p n).1.toNat + (i + 1) + ((spn p n).2 + 1 - (spn p n).1 - ((i + 1 : Nat) : Int)).toNat = ((spn p n).2 + 1).toNat := by omega
    rw [← h1]
    rw [fT]
    generalize hX : fT S p h o n (spn p n).1.toNat i = X at *
    generalize hm : ((spn p n).2 + 1 - (spn p n).1 - ((i + 1 : Nat) : Int)).toNat = m at *
    rw [show (spn p n).1.toNat + i + 1 = (spn p n).1.toNat + (i + 1) from rfl]
    have hk : (((spn p n).1.toNat + i : Nat) : Int) = (spn p n).1 + i := by omega
    generalize (spn p n).1.toNat + i = k at *
    have hk1 : (spn p n).1 ≤ (k : Int) := by omega
    have hk2 : (k : Int) ≤ (spn p n).2 := by omega
    have hkl : k < p.length := by omega
    have eK : (spn p n).1.toNat + (i + 1) = k + 1 := by omega
    rw [eK] at hM ⊢
    rcases lastJ_cases p n k with ⟨el, hno⟩ | ⟨j, el, hj, hb, hl⟩
    · have hG := G_plain (S := S) (h := h) (o := o) hF hn hN hk1 hk2 hno
      have hO : fStep S p h o n X k = if (at_ p k).op = 21 then ⟨X.come, ⟨X.all.thru, S.add X.all.fin (S.mul (X.come k) (h k))⟩⟩
          else if (k : Int) = (spn p n).2 then ⟨X.come, ⟨S.mul (X.come k) (h k), X.all.fin⟩⟩
          else ⟨(nextL p k).foldl (fun c t => leadF S c t.toNat (S.mul (X.come k) (h k))) X.come, X.all⟩ := by
        unfold fStep
        rw [el]
      rw [hO, hG]
      by_cases h21 : (at_ p k).op = 21
      · rw [if_pos h21, if_pos h21]
        refine ⟨?_, fun _ => h0⟩
        rw [← addW_assoc]
        congr 1
        refine Wg.ext' ?_ rfl
        show _ = S.add X.all.thru (S.mul _ S.zero)
        rw [S.mul_zero, S.add_zero]
      · rw [if_neg h21, if_neg h21]
        by_cases hkl2 : (k : Int) = (spn p n).2
        · rw [if_pos hkl2, if_pos hkl2]
          refine ⟨?_, fun h => by omega⟩
          rw [← addW_assoc]
          congr 1
          refine Wg.ext' ?_ ?_
          · show _ = S.add X.all.thru (S.mul (X.come k) (h k))
            rw [h0, zero_add]
          · show _ = S.add X.all.fin (S.mul _ S.zero)
            rw [S.mul_zero, S.add_zero]
        · rw [if_neg hkl2, if_neg hkl2]
          refine ⟨?_, fun _ => h0⟩
          rw [sumF_leads]
          · rw [sc_sc]
            simp only
            rw [addW_comm S (sc S _ _) _]
          · intro t ht
            have := part_edge hF hn hN hkl hk1 (by omega) hno ht
            omega
    · have hxl := lp_in hF hn (j := j) (by omega)
      have hal := after_loop hF hn hj hN
      have hbk := has_iff.1 hb
      have hO : fStep S p h o n X k = if (k : Int) = (lp (loopsL p) j).1 then ⟨leadF S X.come ((lp (loopsL p) j).2 + 1).toNat (S.mul (X.come k) (rp S p o j).thru), ⟨X.all.thru, S.add X.all.fin (S.mul (X.come k) (rp S p o j).fin)⟩⟩ else X := by
        unfold fStep
        rw [el]
      rw [hO]
      by_cases hkx : (k : Int) = (lp (loopsL p) j).1
      · rw [if_pos hkx, G_loop hF hn hN hk1 hk2 hj hb hl hkx]
        refine ⟨?_, fun _ => h0⟩
        simp only
        rw [sumF_lead _ _ _ _ _ _ (by omega) (by omega)]
        generalize rp S p o j = R
        generalize G S p h o n ((lp (loopsL p) j).2 + 1).toNat = Y
        generalize sumF S X.come (G S p h o n) (k + 1) m = Z
        generalize X.come k = v
        refine Wg.ext' ?_ ?_
        · show S.add X.all.thru (S.add Z.thru (S.mul (S.mul v R.thru) Y.thru)) = S.add X.all.thru (S.add (S.mul v (S.mul R.thru Y.thru)) Z.thru)
          rw [S.mul_assoc, S.add_comm Z.thru]
        · show S.add (S.add X.all.fin (S.mul v R.fin)) (S.add Z.fin (S.mul (S.mul v R.thru) Y.fin)) = S.add X.all.fin (S.add (S.mul v (S.add R.fin (S.mul R.thru Y.fin))) Z.fin)
          rw [S.dl, S.mul_assoc, S.add_comm Z.fin, S.add_assoc, S.add_assoc]
      · rw [if_neg hkx]
        refine ⟨?_, fun _ => h0⟩
        have hZ : G S p h o n k = zeroW S := by
          rw [G_eq hF hn hN hk1 hk2]
          unfold stepG
          rw [el]
          simp only
          rw [if_neg hkx]
        rw [hZ, sc_zeroW, zero_addW]
theorem once_G {n : Nat} (hN : n ≤ (loopsL p).length) : (fT S p h o n (spn p n).1.toNat ((spn p n).2 + 1 - (spn p n).1).toNat).all = G S p h o n (spn p n).1.toNat := by
  have hs := spn_in hF hn n hN
  have := (forth (S := S) (h := h) (o := o) hF hn hN ((spn p n).2 + 1 - (spn p n).1).toNat (by omega)).1
  have e : ((spn p n).2 + 1 - (spn p n).1 - ((((spn p n).2 + 1 - (spn p n).1).toNat : Nat) : Int)).toNat = 0 := by omega
  rw [e, sumF, addW_zero] at this
  exact this
end
end Go.Proofs.YtnlndkpjfgpodaaDoor.Wk
