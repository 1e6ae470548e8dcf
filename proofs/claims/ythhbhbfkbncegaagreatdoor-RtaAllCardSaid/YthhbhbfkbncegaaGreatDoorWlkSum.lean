/-
 What a walk of given choices weighs, against what the best walks weigh (chapter 12): plain.
-/
import Derived.Test.YthhbhbfkbncegaaGreatDoorCstPart
section
section
set_option linter.unusedSimpArgs false
set_option linter.unusedVariables false
set_option linter.unusedSectionVars false
namespace Go.Proofs.YthhbhbfkbncegaaGreatDoor.Wk
open Fp (Ins at_ Fine check loopsL hasB nextL lp has_iff)
open Cs (spn spn_lt spn_top spn_in lp_in lp_back lp_spn back_last last_back)

/-- what may be added and multiplied -/
structure Sr (α : Type) where
 add : α → α → α
 mul : α → α → α
 zero : α
 one : α
 add_comm : ∀ a b, add a b = add b a
 add_assoc : ∀ a b c, add (add a b) c = add a (add b c)
 add_zero : ∀ a, add a zero = a
 mul_assoc : ∀ a b c, mul (mul a b) c = mul a (mul b c)
 one_mul : ∀ a, mul one a = a
 mul_one : ∀ a, mul a one = a
 zero_mul : ∀ a, mul zero a = zero
 mul_zero : ∀ a, mul a zero = zero
 dl : ∀ a b c, mul a (add b c) = add (mul a b) (mul a c)
 dr : ∀ a b c, mul (add a b) c = add (mul a c) (mul b c)
/-- a part: gone through, and ended within -/
structure Wg (α : Type) where
 thru : α
 fin : α
theorem Wg.ext' {α : Type} {x y : Wg α} (h1 : x.thru = y.thru) (h2 : x.fin = y.fin) : x = y := by cases x; cases y; cases h1; cases h2; rfl
section
variable {α : Type} (S : Sr α)
theorem zero_add (a : α) : S.add S.zero a = a := by rw [S.add_comm, S.add_zero]
def mulW (x y : Wg α) : Wg α := ⟨S.mul x.thru y.thru, S.add x.fin (S.mul x.thru y.fin)⟩
def addW (x y : Wg α) : Wg α := ⟨S.add x.thru y.thru, S.add x.fin y.fin⟩
def oneW : Wg α := ⟨S.one, S.zero⟩
def zeroW : Wg α := ⟨S.zero, S.zero⟩
def sc (a : α) (x : Wg α) : Wg α := ⟨S.mul a x.thru, S.mul a x.fin⟩
def sumW : List (Wg α) → Wg α
 | [] => zeroW S
 | x :: l => addW S x (sumW l)
theorem mulW_assoc (x y z : Wg α) : mulW S (mulW S x y) z = mulW S x (mulW S y z) := Wg.ext' (S.mul_assoc _ _ _) (by simp only [mulW, S.dl, S.mul_assoc, S.add_assoc])
theorem one_mulW (x : Wg α) : mulW S (oneW S) x = x := Wg.ext' (S.one_mul _) (by simp only [mulW, oneW, S.one_mul, zero_add])
theorem mulW_one (x : Wg α) : mulW S x (oneW S) = x := Wg.ext' (S.mul_one _) (by simp only [mulW, oneW, S.mul_zero, S.add_zero])
theorem sc_mulW (a : α) (x y : Wg α) : mulW S (sc S a x) y = sc S a (mulW S x y) := Wg.ext' (S.mul_assoc _ _ _) (by simp only [mulW, sc, S.mul_assoc, S.dl])
theorem add_mulW (x y z : Wg α) : (mulW S (addW S x y) z).fin = S.add (mulW S x z).fin (mulW S y z).fin := by
 simp only [mulW, addW, S.dr]
 rw [S.add_assoc, S.add_assoc]
 congr 1
 rw [← S.add_assoc, S.add_comm y.fin, S.add_assoc]
theorem addW_comm (x y : Wg α) : addW S x y = addW S y x := Wg.ext' (S.add_comm _ _) (S.add_comm _ _)
theorem addW_assoc (x y z : Wg α) : addW S (addW S x y) z = addW S x (addW S y z) := Wg.ext' (S.add_assoc _ _ _) (S.add_assoc _ _ _)
theorem addW_zero (x : Wg α) : addW S x (zeroW S) = x := Wg.ext' (S.add_zero _) (S.add_zero _)
theorem zero_addW (x : Wg α) : addW S (zeroW S) x = x := by rw [addW_comm, addW_zero]
theorem sc_zeroW (a : α) : sc S a (zeroW S) = zeroW S := Wg.ext' (S.mul_zero _) (S.mul_zero _)
theorem zero_sc (x : Wg α) : sc S S.zero x = zeroW S := Wg.ext' (S.zero_mul _) (S.zero_mul _)
theorem one_sc (x : Wg α) : sc S S.one x = x := Wg.ext' (S.one_mul _) (S.one_mul _)
theorem sc_add (a b : α) (x : Wg α) : sc S (S.add a b) x = addW S (sc S a x) (sc S b x) := Wg.ext' (S.dr _ _ _) (S.dr _ _ _)
theorem sc_addW (a : α) (x y : Wg α) : sc S a (addW S x y) = addW S (sc S a x) (sc S a y) := Wg.ext' (S.dl _ _ _) (S.dl _ _ _)
theorem sc_sc (a b : α) (x : Wg α) : sc S a (sc S b x) = sc S (S.mul a b) x := Wg.ext' (S.mul_assoc _ _ _).symm (S.mul_assoc _ _ _).symm
/-- so many times -/
def pw (x : Wg α) : Nat → Wg α
 | 0 => oneW S
 | n + 1 => mulW S (pw x n) x
theorem pw_succ (x : Wg α) (n : Nat) : pw S x (n + 1) = mulW S x (pw S x n) := by
 induction n with
 | zero => show mulW S (oneW S) x = mulW S x (oneW S); rw [one_mulW, mulW_one]
 | succ n ih =>
  have e : mulW S (pw S x n) x = mulW S x (pw S x n) := ih
  show mulW S (mulW S (pw S x n) x) x = mulW S x (mulW S (pw S x n) x)
  rw [e, mulW_assoc, e]

variable (p : List Ins)
/-- of the loops below n that have a place the last one -/
def lastJ : Nat → Int → Option Nat
 | 0, _ => none
 | n + 1, k => if hasB (lp (loopsL p) n) k = true then some n else lastJ n k
theorem lastJ_none {n : Nat} {k : Int} (h : ∀ j, j < n → hasB (lp (loopsL p) j) k = false) : lastJ p n k = none := by
 induction n with
 | zero => rfl
 | succ n ih =>
  rw [lastJ, h n (by omega), if_neg Bool.false_ne_true]
  exact ih fun j hj => h j (by omega)
theorem lastJ_cases (n : Nat) (k : Int) : (lastJ p n k = none ∧ ∀ j, j < n → hasB (lp (loopsL p) j) k = false) ∨ ∃ j, lastJ p n k = some j ∧ j < n ∧ hasB (lp (loopsL p) j) k = true ∧ ∀ i, j < i → i < n → hasB (lp (loopsL p) i) k = false := by
 induction n with
 | zero => exact .inl ⟨rfl, fun j hj => by omega⟩
 | succ n ih =>
  rw [lastJ]
  cases hb : hasB (lp (loopsL p) n) k
  ·rw [if_neg Bool.false_ne_true]
   rcases ih with ⟨h1, h2⟩ | ⟨j, h1, h2, h3, h4⟩
   ·refine .inl ⟨h1, fun j hj => ?_⟩
    rcases Nat.lt_or_ge j n with h | h
    ·exact h2 j h
    ·have : j = n := by omega
     subst this; exact hb
   ·refine .inr ⟨j, h1, by omega, h3, fun i hi1 hi2 => ?_⟩
    rcases Nat.lt_or_ge i n with h | h
    ·exact h4 i hi1 h
    ·have : i = n := by omega
     subst this; exact hb
  ·rw [if_pos rfl]
   exact .inr ⟨n, rfl, by omega, hb, fun i h1 h2 => by omega⟩
variable (h : Nat → α) (o : Nat → Wg α)
/-- a loop as a whole -/
def rp (j : Nat) : Wg α := pw S (o j) ((at_ p (lp (loopsL p) j).2.toNat).c + 1).toNat
def stepG (n : Nat) (g : Nat → Wg α) (k : Nat) : Wg α :=
 match lastJ p n k with
 | some j => if (k : Int) = (lp (loopsL p) j).1 then mulW S (rp S p o j) (g ((lp (loopsL p) j).2 + 1).toNat) else zeroW S
 | none =>
  if (at_ p k).op = 21 then ⟨S.zero, h k⟩
  else if (k : Int) = (spn p n).2 then ⟨h k, S.zero⟩
  else sc S (h k) (sumW S ((nextL p k).map fun t => g t.toNat))
def bk (n : Nat) : Nat → Nat → Wg α
 | 0, _ => zeroW S
 | f + 1, k => stepG S p h o n (bk n f) k
/-- from a place of a part to its end -/
def G (n k : Nat) : Wg α := bk S p h o n p.length k

structure Fs (α : Type) where
 come : Nat → α
 all : Wg α
def leadF (c : Nat → α) (t : Nat) (v : α) : Nat → α := fun u => if u = t then S.add (c u) v else c u
def fStep (n : Nat) (s : Fs α) (k : Nat) : Fs α :=
 match lastJ p n k with
 | some j => if (k : Int) = (lp (loopsL p) j).1 then ⟨leadF S s.come ((lp (loopsL p) j).2 + 1).toNat (S.mul (s.come k) (rp S p o j).thru), ⟨s.all.thru, S.add s.all.fin (S.mul (s.come k) (rp S p o j).fin)⟩⟩ else s
 | none =>
  if (at_ p k).op = 21 then ⟨s.come, ⟨s.all.thru, S.add s.all.fin (S.mul (s.come k) (h k))⟩⟩
  else if (k : Int) = (spn p n).2 then ⟨s.come, ⟨S.mul (s.come k) (h k), s.all.fin⟩⟩
  else ⟨(nextL p k).foldl (fun c t => leadF S c t.toNat (S.mul (s.come k) (h k))) s.come, s.all⟩
def fT (n : Nat) (a : Nat) : Nat → Fs α
 | 0 => ⟨fun u => if u = a then S.one else S.zero, zeroW S⟩
 | i + 1 => fStep S p h o n (fT n a i) (a + i)
end

section
variable {α : Type} {S : Sr α} {p : List Ins} {h : Nat → α} {o : Nat → Wg α} {right : Ins → Bool}
variable (hF : Fine right p) (hn : ∀ j, j < p.length → 0 ≤ (at_ p j).n)
include hF hn
/-- where one goes within a part -/
theorem part_edge {n k : Nat} (hN : n ≤ (loopsL p).length) (hk : k < p.length) (h1 : (spn p n).1 ≤ k) (h2 : (k : Int) < (spn p n).2) (hno : ∀ j, j < n → hasB (lp (loopsL p) j) k = false) {t : Int} (ht : t ∈ nextL p k) :
 (k : Int) < t ∧ t ≤ (spn p n).2 := by
 have ho : ¬ (at_ p k).op = 16 := fun h16 => by
  have := back_last hF hn hN hk (by omega) h16 hno
  omega
 obtain ⟨hb, he⟩ := hF.edge hn hk ht
 have hw := fun {s : Int × Int} (hs : s ∈ loopsL p) => hF.ways hn hk ht hs
 have h3 : (k : Int) < t := by
  rcases he with ⟨_, _, h⟩ | h | ⟨h, _⟩
  ·exact h
  ·omega
  ·exact absurd h ho
 refine ⟨h3, ?_⟩
 by_cases hl : n < (loopsL p).length
 ·rw [spn_lt hl] at *
  rcases Int.lt_or_le (lp (loopsL p) n).2 t with h5 | h5
  ·have := (hw (Fp.lp_mem hl)).2 (has_iff.2 ⟨h1, by omega⟩) (by unfold hasB; simp; omega)
   omega
  ·exact h5
 ·unfold spn
  rw [if_neg hl]
  simp only
  omega
theorem after_loop {j n : Nat} (hj : j < n) (hN : n ≤ (loopsL p).length) : (lp (loopsL p) j).2 + 1 ≤ (spn p n).2 := by
 have := lp_spn hF hn hj hN
 omega
theorem stepG_congr {n k : Nat} (hN : n ≤ (loopsL p).length) (h1 : (spn p n).1 ≤ k) (h2 : (k : Int) ≤ (spn p n).2) {g g' : Nat → Wg α} (hg : ∀ t : Nat, k < t → (t : Int) ≤ (spn p n).2 → g t = g' t) : stepG S p h o n g k = stepG S p h o n g' k := by
 have hs := spn_in hF hn n hN
 unfold stepG
 rcases lastJ_cases p n k with ⟨e, hno⟩ | ⟨j, e, hj, hb, _⟩
 ·rw [e]
  simp only
  split
  ·rfl
  ·split
   ·rfl
   ·rename_i h3
    congr 2
    apply List.map_congr_left
    intro t ht
    have := part_edge hF hn hN (by omega) h1 (by omega) hno ht
    exact hg _ (by omega) (by omega)
 ·rw [e]
  simp only
  split
  ·rename_i h3
   have h4 := lp_in hF hn (j := j) (by omega)
   have h5 := after_loop hF hn hj hN
   rw [hg _ (by omega) (by omega)]
  ·rfl
theorem bk_stable {n : Nat} (hN : n ≤ (loopsL p).length) : ∀ (f k : Nat), (spn p n).1 ≤ k → (k : Int) ≤ (spn p n).2 → (spn p n).2 + 1 ≤ k + f → bk S p h o n f k = bk S p h o n (f + 1) k := by
 intro f
 induction f with
 | zero => intro k _ h2 h3; omega
 | succ f ih =>
  intro k h1 h2 h3
  show stepG S p h o n (bk S p h o n f) k = stepG S p h o n (bk S p h o n (f + 1)) k
  exact stepG_congr hF hn hN h1 h2 fun t h4 h5 => ih t (by omega) h5 (by omega)
theorem G_eq {n k : Nat} (hN : n ≤ (loopsL p).length) (h1 : (spn p n).1 ≤ k) (h2 : (k : Int) ≤ (spn p n).2) : G S p h o n k = stepG S p h o n (G S p h o n) k := by
 have hs := spn_in hF hn n hN
 have : G S p h o n k = bk S p h o n (p.length + 1) k := bk_stable hF hn hN p.length k h1 h2 (by omega)
 rw [this]
 rfl
theorem G_loop {n k j : Nat} (hN : n ≤ (loopsL p).length) (h1 : (spn p n).1 ≤ k) (h2 : (k : Int) ≤ (spn p n).2) (hj : j < n) (hb : hasB (lp (loopsL p) j) k = true) (hl : ∀ i, j < i → i < n → hasB (lp (loopsL p) i) k = false) (hk : (k : Int) = (lp (loopsL p) j).1) :
 G S p h o n k = mulW S (rp S p o j) (G S p h o n ((lp (loopsL p) j).2 + 1).toNat) := by
 rw [G_eq hF hn hN h1 h2]
 unfold stepG
 rcases lastJ_cases p n k with ⟨e, hno⟩ | ⟨i, e, hi, hbi, hli⟩
 ·rw [hno j hj] at hb; cases hb
 ·have : i = j := by
   rcases Nat.lt_trichotomy i j with h3 | h3 | h3
   ·rw [hli j h3 hj] at hb; cases hb
   ·exact h3
   ·rw [hl i h3 hi] at hbi; cases hbi
  subst this
  rw [e]
  simp only
  rw [if_pos hk]
theorem G_plain {n k : Nat} (hN : n ≤ (loopsL p).length) (h1 : (spn p n).1 ≤ k) (h2 : (k : Int) ≤ (spn p n).2) (hno : ∀ j, j < n → hasB (lp (loopsL p) j) k = false) :
 G S p h o n k = if (at_ p k).op = 21 then ⟨S.zero, h k⟩ else if (k : Int) = (spn p n).2 then ⟨h k, S.zero⟩ else sc S (h k) (sumW S ((nextL p k).map fun t => G S p h o n t.toNat)) := by
 rw [G_eq hF hn hN h1 h2]
 unfold stepG
 rw [lastJ_none p hno]

/-! ### forwards and backwards -/
omit hF hn in
/-- what comes of all that was come to -/
def sumF (S : Sr α) (c : Nat → α) (g : Nat → Wg α) : Nat → Nat → Wg α
 | _, 0 => zeroW S
 | k, m + 1 => addW S (sc S (c k) (g k)) (sumF S c g (k + 1) m)
omit hF hn in
theorem sumF_out (c : Nat → α) (g : Nat → Wg α) (t : Nat) (v : α) : ∀ (m k : Nat), (t < k ∨ k + m ≤ t) → sumF S (leadF S c t v) g k m = sumF S c g k m := by
 intro m
 induction m with
 | zero => intro k _; rfl
 | succ m ih =>
  intro k hk
  rw [sumF, sumF, ih (k + 1) (by omega)]
  have : leadF S c t v k = c k := by unfold leadF; rw [if_neg (by omega)]
  rw [this]
omit hF hn in
theorem sumF_lead (c : Nat → α) (g : Nat → Wg α) (t : Nat) (v : α) : ∀ (m k : Nat), k ≤ t → t < k + m → sumF S (leadF S c t v) g k m = addW S (sumF S c g k m) (sc S v (g t)) := by
 intro m
 induction m with
 | zero => intro k h1 h2; omega
 | succ m ih =>
  intro k h1 h2
  rw [sumF, sumF]
  by_cases hk : k = t
  ·subst hk
   have : leadF S c k v k = S.add (c k) v := by unfold leadF; rw [if_pos rfl]
   rw [this, sumF_out c g k v m (k + 1) (by omega), sc_add, addW_assoc, addW_assoc]
   congr 1
   exact addW_comm S _ _
  ·have : leadF S c t v k = c k := by unfold leadF; rw [if_neg hk]
   rw [this, ih (k + 1) (by omega) (by omega), addW_assoc]
omit hF hn in
theorem sumF_leads (g : Nat → Wg α) (v : α) (k m : Nat) : ∀ (ts : List Int) (c : Nat → α), (∀ t ∈ ts, k ≤ t.toNat ∧ t.toNat < k + m) →
 sumF S (ts.foldl (fun c t => leadF S c t.toNat v) c) g k m = addW S (sumF S c g k m) (sc S v (sumW S (ts.map fun t => g t.toNat)))
 | [], c, _ => by rw [List.foldl_nil, List.map_nil, sumW, sc_zeroW, addW_zero]
 | t :: ts, c, ht => by
  have h1 := ht t (List.mem_cons_self ..)
  rw [List.foldl_cons, sumF_leads g v k m ts _ (fun t' h' => ht t' (List.mem_cons_of_mem _ h')), sumF_lead _ _ _ _ _ _ h1.1 h1.2, List.map_cons, sumW, sc_addW, addW_assoc]
/-- all that is and all that comes, at the place k -/
theorem forth {n : Nat} (hN : n ≤ (loopsL p).length) : ∀ i : Nat, (spn p n).1 + i ≤ (spn p n).2 + 1 →
 addW S (fT S p h o n (spn p n).1.toNat i).all (sumF S (fT S p h o n (spn p n).1.toNat i).come (G S p h o n) ((spn p n).1.toNat + i) ((spn p n).2 + 1 - (spn p n).1 - i).toNat) = G S p h o n (spn p n).1.toNat ∧
 ((spn p n).1 + i ≤ (spn p n).2 → (fT S p h o n (spn p n).1.toNat i).all.thru = S.zero) := by
 have hs := spn_in hF hn n hN
 intro i
 induction i with
 | zero =>
  intro _
  refine ⟨?_, fun _ => rfl⟩
  rw [fT, zero_addW]
  simp only
  have key : ∀ (m k : Nat), (spn p n).1.toNat < k → sumF S (fun u => if u = (spn p n).1.toNat then S.one else S.zero) (G S p h o n) k m = zeroW S := by
   intro m
   induction m with
   | zero => intro k _; rfl
   | succ m ih =>
    intro k hk
    rw [sumF, ih (k + 1) (by omega), if_neg (by omega), zero_sc, addW_zero]
  have e : ((spn p n).2 + 1 - (spn p n).1 - (0 : Nat)).toNat = ((spn p n).2 - (spn p n).1).toNat + 1 := by omega
  rw [e, sumF, key _ _ (by omega), addW_zero, Nat.add_zero, if_pos rfl, one_sc]
 | succ i ih =>
  intro hi
  obtain ⟨h1, h2⟩ := ih (by omega)
  have h0 := h2 (by omega)
  have e : ((spn p n).2 + 1 - (spn p n).1 - (i : Nat)).toNat = ((spn p n).2 + 1 - (spn p n).1 - ((i + 1 : Nat) : Int)).toNat + 1 := by omega
  rw [e, sumF] at h1
  have hM : (spn p n).1.toNat + (i + 1) + ((spn p n).2 + 1 - (spn p n).1 - ((i + 1 : Nat) : Int)).toNat = ((spn p n).2 + 1).toNat := by omega
  rw [← h1]
  rw [fT]
  generalize hX : fT S p h o n (spn p n).1.toNat i = X at *
  generalize hm : ((spn p n).2 + 1 - (spn p n).1 - ((i + 1 : Nat) : Int)).toNat = m at *
  rw [show (spn p n).1.toNat + i + 1 = (spn p n).1.toNat + (i + 1) from rfl]
  have hk : (((spn p n).1.toNat + i : Nat) : Int) = (spn p n).1 + i := by omega
  generalize (spn p n).1.toNat + i = k at *
  have hk1 : (spn p n).1 ≤ (k : Int) := by omega
  have hk2 : (k : Int) ≤ (spn p n).2 := by omega
  have hkl : k < p.length := by omega
  have eK : (spn p n).1.toNat + (i + 1) = k + 1 := by omega
  rw [eK] at hM ⊢
  rcases lastJ_cases p n k with ⟨el, hno⟩ | ⟨j, el, hj, hb, hl⟩
  ·have hG := G_plain (S := S) (h := h) (o := o) hF hn hN hk1 hk2 hno
   have hO : fStep S p h o n X k = if (at_ p k).op = 21 then ⟨X.come, ⟨X.all.thru, S.add X.all.fin (S.mul (X.come k) (h k))⟩⟩
    else if (k : Int) = (spn p n).2 then ⟨X.come, ⟨S.mul (X.come k) (h k), X.all.fin⟩⟩
    else ⟨(nextL p k).foldl (fun c t => leadF S c t.toNat (S.mul (X.come k) (h k))) X.come, X.all⟩ := by
    unfold fStep
    rw [el]
   rw [hO, hG]
   by_cases h21 : (at_ p k).op = 21
   ·rw [if_pos h21, if_pos h21]
    refine ⟨?_, fun _ => h0⟩
    rw [← addW_assoc]
    congr 1
    refine Wg.ext' ?_ rfl
    show _ = S.add X.all.thru (S.mul _ S.zero)
    rw [S.mul_zero, S.add_zero]
   ·rw [if_neg h21, if_neg h21]
    by_cases hkl2 : (k : Int) = (spn p n).2
    ·rw [if_pos hkl2, if_pos hkl2]
     refine ⟨?_, fun h => by omega⟩
     rw [← addW_assoc]
     congr 1
     refine Wg.ext' ?_ ?_
     ·show _ = S.add X.all.thru (S.mul (X.come k) (h k))
      rw [h0, zero_add]
     ·show _ = S.add X.all.fin (S.mul _ S.zero)
      rw [S.mul_zero, S.add_zero]
    ·rw [if_neg hkl2, if_neg hkl2]
     refine ⟨?_, fun _ => h0⟩
     rw [sumF_leads]
     ·rw [sc_sc]
      simp only
      rw [addW_comm S (sc S _ _) _]
     ·intro t ht
      have := part_edge hF hn hN hkl hk1 (by omega) hno ht
      omega
  ·have hxl := lp_in hF hn (j := j) (by omega)
   have hal := after_loop hF hn hj hN
   have hbk := has_iff.1 hb
   have hO : fStep S p h o n X k = if (k : Int) = (lp (loopsL p) j).1 then ⟨leadF S X.come ((lp (loopsL p) j).2 + 1).toNat (S.mul (X.come k) (rp S p o j).thru), ⟨X.all.thru, S.add X.all.fin (S.mul (X.come k) (rp S p o j).fin)⟩⟩ else X := by
    unfold fStep
    rw [el]
   rw [hO]
   by_cases hkx : (k : Int) = (lp (loopsL p) j).1
   ·rw [if_pos hkx, G_loop hF hn hN hk1 hk2 hj hb hl hkx]
    refine ⟨?_, fun _ => h0⟩
    simp only
    rw [sumF_lead _ _ _ _ _ _ (by omega) (by omega)]
    generalize rp S p o j = R
    generalize G S p h o n ((lp (loopsL p) j).2 + 1).toNat = Y
    generalize sumF S X.come (G S p h o n) (k + 1) m = Z
    generalize X.come k = v
    refine Wg.ext' ?_ ?_
    ·show S.add X.all.thru (S.add Z.thru (S.mul (S.mul v R.thru) Y.thru)) = S.add X.all.thru (S.add (S.mul v (S.mul R.thru Y.thru)) Z.thru)
     rw [S.mul_assoc, S.add_comm Z.thru]
    ·show S.add (S.add X.all.fin (S.mul v R.fin)) (S.add Z.fin (S.mul (S.mul v R.thru) Y.fin)) = S.add X.all.fin (S.add (S.mul v (S.add R.fin (S.mul R.thru Y.fin))) Z.fin)
     rw [S.dl, S.mul_assoc, S.add_comm Z.fin, S.add_assoc, S.add_assoc]
   ·rw [if_neg hkx]
    refine ⟨?_, fun _ => h0⟩
    have hZ : G S p h o n k = zeroW S := by
     rw [G_eq hF hn hN hk1 hk2]
     unfold stepG
     rw [el]
     simp only
     rw [if_neg hkx]
    rw [hZ, sc_zeroW, zero_addW]
theorem once_G {n : Nat} (hN : n ≤ (loopsL p).length) : (fT S p h o n (spn p n).1.toNat ((spn p n).2 + 1 - (spn p n).1).toNat).all = G S p h o n (spn p n).1.toNat := by
 have hs := spn_in hF hn n hN
 have := (forth (S := S) (h := h) (o := o) hF hn hN ((spn p n).2 + 1 - (spn p n).1).toNat (by omega)).1
 have e : ((spn p n).2 + 1 - (spn p n).1 - ((((spn p n).2 + 1 - (spn p n).1).toNat : Nat) : Int)).toNat = 0 := by omega
 rw [e, sumF, addW_zero] at this
 exact this
end
end Go.Proofs.YthhbhbfkbncegaaGreatDoor.Wk
end
section
set_option linter.unusedSimpArgs false
set_option linter.unusedVariables false
set_option linter.unusedSectionVars false
namespace Go.Proofs.YthhbhbfkbncegaaGreatDoor.Wk
open Fp (Ins at_ Fine check loopsL hasB nextL lp has_iff)
open Cs (spn spn_lt spn_top spn_in lp_in lp_back lp_spn back_last last_back)

/-- where one is on a walk: the place, and how often each Back went back -/
structure Sp where
 pc : Nat
 tn : Nat → Int
def up (f : Nat → Int) (k : Nat) (v : Int) : Nat → Int := fun u => if u = k then v else f u
theorem up_at (f : Nat → Int) (k : Nat) (v : Int) : up f k v k = v := if_pos rfl
theorem up_off (f : Nat → Int) {k u : Nat} (v : Int) (h : u ≠ k) : up f k v u = f u := if_neg h
def nx (p : List Ins) (s : Sp) (jump : Bool) : Sp :=
 if (at_ p s.pc).op = 16 then (if s.tn s.pc < (at_ p s.pc).c then ⟨(at_ p s.pc).n.toNat, up s.tn s.pc (s.tn s.pc + 1)⟩ else ⟨s.pc + 1, up s.tn s.pc 0⟩)
 else if (at_ p s.pc).op = 14 ∨ ((at_ p s.pc).op = 15 ∧ jump = true) then ⟨(at_ p s.pc).n.toNat, s.tn⟩ else ⟨s.pc + 1, s.tn⟩
def Sp0 : Sp := ⟨0, fun _ => 0⟩
section
variable {α : Type} (S : Sr α) (p : List Ins) (h : Nat → α) (o : Nat → Wg α)
/-- how often the Back of the loop j may go back yet -/
def lft (s : Sp) (j : Nat) : Nat := ((at_ p (lp (loopsL p) j).2.toNat).c - s.tn (lp (loopsL p) j).2.toNat).toNat
def vt (s : Sp) : Nat → Nat → Nat → Wg α
 | m, 0, pos => G S p h o m pos
 | m, i + 1, pos => if hasB (lp (loopsL p) m) s.pc = true then mulW S (G S p h o m pos) (mulW S (pw S (o m) (lft p s m)) (vt s (m + 1) i ((lp (loopsL p) m).2 + 1).toNat)) else vt s (m + 1) i pos
def Vt (s : Sp) (m pos : Nat) : Wg α := vt S p h o s m ((loopsL p).length - m) pos
def V (s : Sp) : α := (Vt S p h o s 0 s.pc).fin
def rst (s : Sp) (m : Nat) : Wg α := if m < (loopsL p).length then mulW S (pw S (o m) (lft p s m)) (Vt S p h o s (m + 1) ((lp (loopsL p) m).2 + 1).toNat) else oneW S
theorem Vt_top (s : Sp) (pos : Nat) : Vt S p h o s (loopsL p).length pos = G S p h o (loopsL p).length pos := by
 unfold Vt
 rw [Nat.sub_self]
 rfl
theorem Vt_in (s : Sp) {m : Nat} (hm : m < (loopsL p).length) (hb : hasB (lp (loopsL p) m) s.pc = true) (pos : Nat) : Vt S p h o s m pos = mulW S (G S p h o m pos) (rst S p h o s m) := by
 unfold Vt rst
 have e : (loopsL p).length - m = ((loopsL p).length - (m + 1)) + 1 := by omega
 rw [e, vt, if_pos hb, if_pos hm]
 rfl
theorem Vt_out (s : Sp) {m : Nat} (hm : m < (loopsL p).length) (hb : hasB (lp (loopsL p) m) s.pc = false) (pos : Nat) : Vt S p h o s m pos = Vt S p h o s (m + 1) pos := by
 unfold Vt
 have e : (loopsL p).length - m = ((loopsL p).length - (m + 1)) + 1 := by omega
 rw [e, vt, hb, if_neg Bool.false_ne_true]
theorem Vt_part (s : Sp) {m : Nat} (hm : m ≤ (loopsL p).length) (hb : hasB (spn p m) s.pc = true) (pos : Nat) : Vt S p h o s m pos = mulW S (G S p h o m pos) (rst S p h o s m) := by
 rcases Nat.lt_or_ge m (loopsL p).length with h1 | h1
 ·rw [spn_lt h1] at hb
  exact Vt_in S p h o s h1 hb pos
 ·have : m = (loopsL p).length := by omega
  subst this
  rw [Vt_top]
  unfold rst
  rw [if_neg (by omega), mulW_one]
theorem Vt_skip (s : Sp) {a b : Nat} (hab : a ≤ b) (hb : b ≤ (loopsL p).length) (hno : ∀ j, a ≤ j → j < b → hasB (lp (loopsL p) j) s.pc = false) (pos : Nat) : Vt S p h o s a pos = Vt S p h o s b pos := by
 induction b with
 | zero => have : a = 0 := by omega
           subst this; rfl
 | succ b ih =>
  rcases Nat.lt_or_ge b a with h1 | h1
  ·have : a = b + 1 := by omega
   subst this; rfl
  ·rw [ih h1 (by omega) fun j h2 h3 => hno j h2 (by omega)]
   exact Vt_out S p h o s (by omega) (hno b h1 (by omega)) pos
end
/-- a state that may be -/
structure Good (p : List Ins) (s : Sp) : Prop where
 pc : s.pc < p.length
 out : ∀ j, j < (loopsL p).length → hasB (lp (loopsL p) j) s.pc = false → s.tn (lp (loopsL p) j).2.toNat = 0
 lo : ∀ j, j < (loopsL p).length → 0 ≤ s.tn (lp (loopsL p) j).2.toNat ∧ s.tn (lp (loopsL p) j).2.toNat ≤ (at_ p (lp (loopsL p) j).2.toNat).c
section
variable {α : Type} {S : Sr α} {p : List Ins} {h : Nat → α} {o : Nat → Wg α} {right : Ins → Bool}
variable (hF : Fine right p) (hn : ∀ j, j < p.length → 0 ≤ (at_ p j).n)
include hF hn
omit hF hn in
/-- one of the parts is the innermost one that has a place -/
theorem innermost (k : Int) : ∃ m, m ≤ (loopsL p).length ∧ (m < (loopsL p).length → hasB (lp (loopsL p) m) k = true) ∧ ∀ j, j < m → hasB (lp (loopsL p) j) k = false := by
 have : ∀ n, (∃ m, m < n ∧ hasB (lp (loopsL p) m) k = true ∧ ∀ j, j < m → hasB (lp (loopsL p) j) k = false) ∨ ∀ j, j < n → hasB (lp (loopsL p) j) k = false := by
  intro n
  induction n with
  | zero => exact .inr fun j hj => by omega
  | succ n ih =>
   rcases ih with ⟨m, h1, h2, h3⟩ | h1
   ·exact .inl ⟨m, by omega, h2, h3⟩
   ·cases hb : hasB (lp (loopsL p) n) k
    ·refine .inr fun j hj => ?_
     rcases Nat.lt_or_ge j n with h | h
     ·exact h1 j h
     ·have : j = n := by omega
      subst this; exact hb
    ·exact .inl ⟨n, by omega, hb, h1⟩
 rcases this (loopsL p).length with ⟨m, h1, h2, h3⟩ | h1
 ·exact ⟨m, by omega, fun _ => h2, h3⟩
 ·exact ⟨_, Nat.le_refl _, fun h => by omega, h1⟩
theorem has_top {k : Nat} (hk : k < p.length) {m : Nat} (hm : m ≤ (loopsL p).length) (hb : m < (loopsL p).length → hasB (lp (loopsL p) m) k = true) : hasB (spn p m) k = true := by
 by_cases h1 : m < (loopsL p).length
 ·rw [spn_lt h1]; exact hb h1
 ·unfold spn
  rw [if_neg h1]
  exact has_iff.2 ⟨by simp only; omega, by simp only; omega⟩
/-- two loops that share a place lie one in the other -/
theorem within {j m : Nat} (hj : j < m) (hm : m < (loopsL p).length) {k : Int} (h1 : hasB (lp (loopsL p) j) k = true) (h2 : hasB (lp (loopsL p) m) k = true) : (lp (loopsL p) m).1 ≤ (lp (loopsL p) j).1 ∧ (lp (loopsL p) j).2 < (lp (loopsL p) m).2 := by
 have h3 := Fp.lp_lt hj hm
 have h4 := hF.nest (Fp.lp_mem (by omega : j < (loopsL p).length)) (Fp.lp_mem hm) h3
 have h5 := has_iff.1 h1
 have h6 := has_iff.1 h2
 unfold Fp.overB at h4
 simp at h4
 omega
theorem vt_enter (ho : ∀ j, j < (loopsL p).length → o j = G S p h o j (lp (loopsL p) j).1.toNat) (s : Sp) (hC : ∀ j, j < (loopsL p).length → 0 ≤ (at_ p (lp (loopsL p) j).2.toNat).c) (m : Nat) : m ≤ (loopsL p).length → hasB (spn p m) s.pc = true →
 (∀ j, j < m → hasB (lp (loopsL p) j) s.pc = true → (lp (loopsL p) j).1 = s.pc ∧ s.tn (lp (loopsL p) j).2.toNat = 0) → Vt S p h o s 0 s.pc = Vt S p h o s m s.pc := by
 induction m using Nat.strongRecOn with
 | ind m ih =>
  intro hm hb hin
  have hbs := has_iff.1 hb
  rcases lastJ_cases p m s.pc with ⟨_, hno⟩ | ⟨j, _, hj, hbj, hl⟩
  ·exact Vt_skip S p h o s (Nat.zero_le _) hm (fun j _ hj => hno j hj) _
  ·have hjl : j < (loopsL p).length := by omega
   obtain ⟨h1, h2⟩ := hin j hj hbj
   have hli := lp_in hF hn hjl
   rw [ih j hj (by omega) (by rw [spn_lt hjl]; exact hbj) (fun i hi => hin i (by omega)), Vt_in S p h o s hjl hbj]
   have e1 : G S p h o j s.pc = o j := by rw [ho j hjl, h1]; rfl
   have e2 : lft p s j = (at_ p (lp (loopsL p) j).2.toNat).c.toNat := by unfold lft; rw [h2, Int.sub_zero]
   have e3 : (at_ p (lp (loopsL p) j).2.toNat).c.toNat + 1 = ((at_ p (lp (loopsL p) j).2.toNat).c + 1).toNat := by have := hC j hjl; omega
   unfold rst
   rw [if_pos hjl, e1, e2, ← mulW_assoc, ← pw_succ, e3, Vt_skip S p h o s (by omega : j + 1 ≤ m) hm (fun i h3 h4 => hl i (by omega) h4), Vt_part S p h o s hm hb, Vt_part S p h o s hm hb, ← mulW_assoc]
   congr 1
   exact (G_loop hF hn hm hbs.1 hbs.2 hj hbj hl h1.symm).symm
theorem vt_congr {s s' : Sp} {m : Nat} (hmem : ∀ j, m ≤ j → j < (loopsL p).length → hasB (lp (loopsL p) j) s.pc = hasB (lp (loopsL p) j) s'.pc)
 (htn : ∀ j, m ≤ j → j < (loopsL p).length → hasB (lp (loopsL p) j) s'.pc = true → s.tn (lp (loopsL p) j).2.toNat = s'.tn (lp (loopsL p) j).2.toNat) (pos : Nat) : Vt S p h o s m pos = Vt S p h o s' m pos := by
 have : ∀ i m pos, m + i = (loopsL p).length → (∀ j, m ≤ j → j < (loopsL p).length → hasB (lp (loopsL p) j) s.pc = hasB (lp (loopsL p) j) s'.pc) →
  (∀ j, m ≤ j → j < (loopsL p).length → hasB (lp (loopsL p) j) s'.pc = true → s.tn (lp (loopsL p) j).2.toNat = s'.tn (lp (loopsL p) j).2.toNat) → vt S p h o s m i pos = vt S p h o s' m i pos := by
  intro i
  induction i with
  | zero => intro m pos _ _ _; rfl
  | succ i ih =>
   intro m pos hm h1 h2
   rw [vt, vt, h1 m (Nat.le_refl _) (by omega)]
   split
   ·rename_i hb
    have e : lft p s m = lft p s' m := by unfold lft; rw [h2 m (Nat.le_refl _) (by omega) hb]
    rw [e, ih (m + 1) _ (by omega) (fun j h3 h4 => h1 j (by omega) h4) (fun j h3 h4 => h2 j (by omega) h4)]
   ·exact ih (m + 1) _ (by omega) (fun j h3 h4 => h1 j (by omega) h4) (fun j h3 h4 => h2 j (by omega) h4)
 unfold Vt
 rcases Nat.lt_or_ge (loopsL p).length m with h3 | h3
 ·have e : (loopsL p).length - m = 0 := by omega
  rw [e]; rfl
 ·exact this _ _ _ (by omega) hmem htn
theorem rst_congr {s s' : Sp} {m : Nat} (hmem : ∀ j, m < j → j < (loopsL p).length → hasB (lp (loopsL p) j) s.pc = hasB (lp (loopsL p) j) s'.pc)
 (htn : ∀ j, m ≤ j → j < (loopsL p).length → (j = m ∨ hasB (lp (loopsL p) j) s'.pc = true) → s.tn (lp (loopsL p) j).2.toNat = s'.tn (lp (loopsL p) j).2.toNat) : rst S p h o s m = rst S p h o s' m := by
 unfold rst
 split
 ·rename_i hm
  have e : lft p s m = lft p s' m := by unfold lft; rw [htn m (Nat.le_refl _) hm (.inl rfl)]
  rw [e, vt_congr hF hn (fun j h1 h2 => hmem j (by omega) h2) (fun j h1 h2 h3 => htn j (by omega) h2 (.inr h3))]
 ·rfl
/-- where one comes to within the innermost part of a place, not by its Back -/
theorem step_in {s : Sp} (hg : Good p s) {m : Nat} (hm : m ≤ (loopsL p).length) (hb : m < (loopsL p).length → hasB (lp (loopsL p) m) s.pc = true) (hno : ∀ j, j < m → hasB (lp (loopsL p) j) s.pc = false) (hlt : (s.pc : Int) < (spn p m).2) {t : Int} (ht : t ∈ nextL p s.pc) :
 Good p ⟨t.toNat, s.tn⟩ ∧ hasB (spn p m) t.toNat = true ∧ (∀ j, j < m → hasB (lp (loopsL p) j) t.toNat = true → (lp (loopsL p) j).1 = t.toNat ∧ s.tn (lp (loopsL p) j).2.toNat = 0) ∧
  ∀ j, m < j → j < (loopsL p).length → hasB (lp (loopsL p) j) s.pc = hasB (lp (loopsL p) j) t.toNat := by
 have hbs := has_top hF hn hg.pc hm hb
 have hbi := has_iff.1 hbs
 have hk := hg.pc
 have hpe := part_edge hF hn hm hk hbi.1 hlt hno ht
 have hed := (hF.edge hn hk ht).1
 have hw := fun {x : Int × Int} (hx : x ∈ loopsL p) => hF.ways hn hk ht hx
 have et : ((t.toNat : Nat) : Int) = t := by omega
 have hup : ∀ j, m < j → j < (loopsL p).length → hasB (lp (loopsL p) j) s.pc = hasB (lp (loopsL p) j) t.toNat := by
  intro j hmj hj
  rw [et]
  have hml : m < (loopsL p).length := by omega
  have hlj := Fp.lp_lt hmj hj
  rw [spn_lt hml] at hbi hpe hlt
  cases h1 : hasB (lp (loopsL p) j) s.pc <;> cases h2 : hasB (lp (loopsL p) j) t
  ·rfl
  ·have h3 := (hw (Fp.lp_mem hj)).1 h2 h1
   have h4 := hF.nest (Fp.lp_mem hml) (Fp.lp_mem hj) hlj
   unfold Fp.overB at h4
   simp at h4
   omega
  ·have h3 := (hw (Fp.lp_mem hj)).2 h1 h2
   omega
  ·rfl
 refine ⟨⟨by show t.toNat < _; omega, fun j hj ho => ?_, hg.lo⟩, ?_, fun j hj h1 => ?_, hup⟩
 ·show s.tn _ = 0
  have ho' : hasB (lp (loopsL p) j) t = false := by rw [← et]; exact ho
  cases h1 : hasB (lp (loopsL p) j) s.pc
  ·exact hg.out j hj h1
  ·have h3 := (hw (Fp.lp_mem hj)).2 h1 ho'
   rcases Nat.lt_trichotomy j m with h4 | h4 | h4
   ·rw [hno j h4] at h1; cases h1
   ·subst h4
    rw [spn_lt hj] at hlt
    omega
   ·rw [hup j h4 hj, et, ho'] at h1; cases h1
 ·rw [et]
  exact has_iff.2 ⟨by omega, hpe.2⟩
 ·rw [et] at h1
  have h2 := hno j hj
  refine ⟨?_, hg.out j (by omega) h2⟩
  rw [et]
  exact ((hw (Fp.lp_mem (by omega : j < (loopsL p).length))).1 h1 h2).symm
theorem V_in (ho : ∀ j, j < (loopsL p).length → o j = G S p h o j (lp (loopsL p) j).1.toNat) (hC : ∀ j, j < (loopsL p).length → 0 ≤ (at_ p (lp (loopsL p) j).2.toNat).c) {s : Sp} {m : Nat} (hm : m ≤ (loopsL p).length) (hbs : hasB (spn p m) s.pc = true)
 (hin : ∀ j, j < m → hasB (lp (loopsL p) j) s.pc = true → (lp (loopsL p) j).1 = s.pc ∧ s.tn (lp (loopsL p) j).2.toNat = 0) : V S p h o s = (mulW S (G S p h o m s.pc) (rst S p h o s m)).fin := by
 unfold V
 rw [vt_enter hF hn ho s hC m hm hbs hin, Vt_part S p h o s hm hbs]
theorem V_start (ho : ∀ j, j < (loopsL p).length → o j = G S p h o j (lp (loopsL p) j).1.toNat) (hC : ∀ j, j < (loopsL p).length → 0 ≤ (at_ p (lp (loopsL p) j).2.toNat).c) : V S p h o Sp0 = (G S p h o (loopsL p).length 0).fin := by
 have hs := hF.size
 rw [V_in hF hn ho hC (Nat.le_refl _) (has_top hF hn (k := 0) (by omega) (Nat.le_refl _) (fun h => by omega)) (fun j hj hb => ⟨?_, rfl⟩)]
 ·unfold rst
  rw [if_neg (by omega), mulW_one]
  rfl
 ·have h1 := lp_in hF hn hj
  have h2 := (has_iff.1 hb).1
  have e : ((Sp0.pc : Nat) : Int) = 0 := rfl
  omega
theorem good_start (hC : ∀ j, j < (loopsL p).length → 0 ≤ (at_ p (lp (loopsL p) j).2.toNat).c) : Good p Sp0 := ⟨by have := hF.size; show 0 < _; omega, fun _ _ _ => rfl, fun j hj => ⟨Int.le_refl _, hC j hj⟩⟩
/-- at a Done -/
theorem V_done (ho : ∀ j, j < (loopsL p).length → o j = G S p h o j (lp (loopsL p) j).1.toNat) (hC : ∀ j, j < (loopsL p).length → 0 ≤ (at_ p (lp (loopsL p) j).2.toNat).c) {s : Sp} (hg : Good p s) (h21 : (at_ p s.pc).op = 21) : V S p h o s = h s.pc := by
 obtain ⟨m, hm, hb, hno⟩ := innermost (p := p) s.pc
 have hbs := has_top hF hn hg.pc hm hb
 rw [V_in hF hn ho hC hm hbs (fun j hj h1 => by rw [hno j hj] at h1; cases h1), G_plain hF hn hm (has_iff.1 hbs).1 (has_iff.1 hbs).2 hno, if_pos h21]
 simp only [mulW, S.zero_mul, S.add_zero]
/-- at a plain place -/
theorem V_plain (ho : ∀ j, j < (loopsL p).length → o j = G S p h o j (lp (loopsL p) j).1.toNat) (hC : ∀ j, j < (loopsL p).length → 0 ≤ (at_ p (lp (loopsL p) j).2.toNat).c) {s : Sp} (hg : Good p s) (h21 : ¬ (at_ p s.pc).op = 21) (h16 : ¬ (at_ p s.pc).op = 16) :
 V S p h o s = S.mul (h s.pc) ((nextL p s.pc).foldr (fun t a => S.add (V S p h o ⟨t.toNat, s.tn⟩) a) S.zero) ∧ ∀ t ∈ nextL p s.pc, Good p ⟨t.toNat, s.tn⟩ := by
 obtain ⟨m, hm, hb, hno⟩ := innermost (p := p) s.pc
 have hbs := has_top hF hn hg.pc hm hb
 have hlt : (s.pc : Int) < (spn p m).2 := by
  rcases Int.lt_or_le s.pc (spn p m).2 with h1 | h1
  ·exact h1
  ·have h2 := (has_iff.1 hbs).2
   have h3 : (spn p m).2.toNat = s.pc := by omega
   have h4 := last_back hF hn hm (by rw [h3]; exact h21)
   rw [h3] at h4
   exact absurd h4 h16
 refine ⟨?_, fun t ht => (step_in hF hn hg hm hb hno hlt ht).1⟩
 rw [V_in hF hn ho hC hm hbs (fun j hj h1 => by rw [hno j hj] at h1; cases h1), G_plain hF hn hm (has_iff.1 hbs).1 (has_iff.1 hbs).2 hno, if_neg h21, if_neg (by omega), sc_mulW]
 show S.mul (h s.pc) _ = _
 congr 1
 have key : ∀ l : List Int, (∀ t ∈ l, t ∈ nextL p s.pc) → (mulW S (sumW S (l.map fun t => G S p h o m t.toNat)) (rst S p h o s m)).fin = l.foldr (fun t a => S.add (V S p h o ⟨t.toNat, s.tn⟩) a) S.zero := by
  intro l
  induction l with
  | nil => intro _; show S.add S.zero (S.mul S.zero _) = S.zero; rw [S.zero_mul, S.add_zero]
  | cons t l ih =>
   intro hl
   obtain ⟨_, h2, h3, h4⟩ := step_in hF hn hg hm hb hno hlt (hl t (List.mem_cons_self ..))
   rw [List.map_cons, sumW, add_mulW, ih fun t' h' => hl t' (List.mem_cons_of_mem _ h'), List.foldr_cons]
   congr 1
   rw [V_in hF hn ho hC hm (s := ⟨t.toNat, s.tn⟩) h2 h3]
   rw [rst_congr hF hn (s := s) (s' := ⟨t.toNat, s.tn⟩) h4 (fun _ _ _ _ => rfl)]
 exact key _ fun _ h => h
theorem back_part {s : Sp} (hg : Good p s) (h16 : (at_ p s.pc).op = 16) : ∃ m, m < (loopsL p).length ∧ lp (loopsL p) m = ((at_ p s.pc).n, (s.pc : Int)) := by
 obtain ⟨j, hj, he⟩ := Cs.mem_lp (Fp.loopsTo_has hg.pc h16)
 exact ⟨j, hj, he.symm⟩
/-- at a Back -/
theorem V_back (ho : ∀ j, j < (loopsL p).length → o j = G S p h o j (lp (loopsL p) j).1.toNat) (hC : ∀ j, j < (loopsL p).length → 0 ≤ (at_ p (lp (loopsL p) j).2.toNat).c) {s : Sp} (hg : Good p s) (h16 : (at_ p s.pc).op = 16) (jump : Bool) :
 V S p h o s = S.mul (h s.pc) (V S p h o (nx p s jump)) ∧ Good p (nx p s jump) := by
 obtain ⟨m, hm, he⟩ := back_part hF hn hg h16
 have hli := lp_in hF hn hm
 have e1 : (lp (loopsL p) m).1 = (at_ p s.pc).n := by rw [he]
 have e2 : (lp (loopsL p) m).2 = (s.pc : Int) := by rw [he]
 have e3 : (lp (loopsL p) m).2.toNat = s.pc := by omega
 have hno : ∀ j, j < m → hasB (lp (loopsL p) j) s.pc = false := fun j hj => by
  have := Fp.lp_lt hj hm
  unfold hasB; simp; omega
 have hbs : hasB (spn p m) s.pc = true := by rw [spn_lt hm]; exact has_iff.2 ⟨by omega, by omega⟩
 have hbi := has_iff.1 hbs
 have hs2 : (spn p m).2 = (s.pc : Int) := by rw [spn_lt hm]; exact e2
 have hlo := hg.lo m hm
 rw [e3] at hlo
 have h21 : ¬ (at_ p s.pc).op = 21 := by rw [h16]; omega
 have hapart : ∀ j, j < (loopsL p).length → j ≠ m → (lp (loopsL p) j).2.toNat ≠ s.pc := fun j hj hjm => by
  have := lp_in hF hn hj
  rcases Nat.lt_or_ge j m with h1 | h1
  ·have := Fp.lp_lt h1 hm; omega
  ·have := Fp.lp_lt (by omega : m < j) hj; omega
 have hV : V S p h o s = S.mul (h s.pc) (rst S p h o s m).fin := by
  rw [V_in hF hn ho hC (by omega) hbs (fun j hj h1 => by rw [hno j hj] at h1; cases h1), G_plain hF hn (by omega) hbi.1 hbi.2 hno, if_neg h21, if_pos hs2.symm]
  simp only [mulW]
  rw [zero_add]
 rw [hV]
 have hr : rst S p h o s m = mulW S (pw S (o m) (lft p s m)) (Vt S p h o s (m + 1) ((lp (loopsL p) m).2 + 1).toNat) := if_pos hm
 have hlf : lft p s m = ((at_ p s.pc).c - s.tn s.pc).toNat := by unfold lft; rw [e3]
 -- a loop behind that has this Back has it all
 have hmem : ∀ j, m < j → j < (loopsL p).length → hasB (lp (loopsL p) j) s.pc = hasB (lp (loopsL p) j) ((at_ p s.pc).n.toNat : Nat) := by
  intro j h1 h2
  have h3 := hF.nest (Fp.lp_mem hm) (Fp.lp_mem h2) (Fp.lp_lt h1 h2)
  have h4 := Fp.lp_lt h1 h2
  unfold Fp.overB at h3
  simp at h3
  have en : (((at_ p s.pc).n.toNat : Nat) : Int) = (at_ p s.pc).n := by omega
  rw [en]
  unfold hasB
  rw [decide_eq_decide]
  omega
 by_cases ht : s.tn s.pc < (at_ p s.pc).c
 ·have hnx : nx p s jump = ⟨(at_ p s.pc).n.toNat, up s.tn s.pc (s.tn s.pc + 1)⟩ := by unfold nx; rw [if_pos h16, if_pos ht]
  rw [hnx]
  have en : (((at_ p s.pc).n.toNat : Nat) : Int) = (at_ p s.pc).n := by omega
  have hb' : hasB (spn p m) ((at_ p s.pc).n.toNat : Nat) = true := by rw [spn_lt hm, en]; exact has_iff.2 ⟨by omega, by omega⟩
  have hin : ∀ j, j < m → hasB (lp (loopsL p) j) ((at_ p s.pc).n.toNat : Nat) = true → (lp (loopsL p) j).1 = ((at_ p s.pc).n.toNat : Nat) ∧ up s.tn s.pc (s.tn s.pc + 1) (lp (loopsL p) j).2.toNat = 0 := by
   intro j hj h1
   have h2 := within hF hn hj hm h1 (by rw [spn_lt hm] at hb'; exact hb')
   have h3 := has_iff.1 h1
   refine ⟨by omega, ?_⟩
   rw [up_off _ _ (hapart j (by omega) (by omega))]
   exact hg.out j (by omega) (hno j hj)
  refine ⟨?_, ⟨by have := hg.pc; show (at_ p s.pc).n.toNat < _; omega, fun j hj h1 => ?_, fun j hj => ?_⟩⟩
  ·congr 1
   rw [V_in hF hn ho hC (s := ⟨(at_ p s.pc).n.toNat, up s.tn s.pc (s.tn s.pc + 1)⟩) (m := m) (by omega) hb' hin, hr]
   have e4 : G S p h o m (at_ p s.pc).n.toNat = o m := by rw [ho m hm, e1]
   have e5 : rst S p h o ⟨(at_ p s.pc).n.toNat, up s.tn s.pc (s.tn s.pc + 1)⟩ m = mulW S (pw S (o m) (lft p ⟨(at_ p s.pc).n.toNat, up s.tn s.pc (s.tn s.pc + 1)⟩ m)) (Vt S p h o ⟨(at_ p s.pc).n.toNat, up s.tn s.pc (s.tn s.pc + 1)⟩ (m + 1) ((lp (loopsL p) m).2 + 1).toNat) := if_pos hm
   have e6 : lft p s m = lft p ⟨(at_ p s.pc).n.toNat, up s.tn s.pc (s.tn s.pc + 1)⟩ m + 1 := by
    rw [hlf]
    unfold lft
    simp only
    rw [e3, up_at]
    omega
   rw [e4, e5, ← mulW_assoc, ← pw_succ, ← e6]
   congr 2
   exact vt_congr hF hn (fun j h1 h2 => hmem j (by omega) h2) (fun j h1 h2 _ => (up_off _ _ (hapart j h2 (by omega))).symm) _
  ·show up s.tn s.pc (s.tn s.pc + 1) (lp (loopsL p) j).2.toNat = 0
   have h1' : hasB (lp (loopsL p) j) ((at_ p s.pc).n.toNat : Nat) = false := h1
   rcases Nat.lt_trichotomy j m with h2 | h2 | h2
   ·rw [up_off _ _ (hapart j hj (by omega))]
    exact hg.out j hj (hno j h2)
   ·subst h2
    rw [spn_lt hj, h1'] at hb'
    cases hb'
   ·rw [up_off _ _ (hapart j hj (by omega))]
    exact hg.out j hj (by rw [hmem j h2 hj]; exact h1')
  ·show 0 ≤ up s.tn s.pc (s.tn s.pc + 1) (lp (loopsL p) j).2.toNat ∧ up s.tn s.pc (s.tn s.pc + 1) (lp (loopsL p) j).2.toNat ≤ _
   by_cases h2 : j = m
   ·subst h2
    rw [e3, up_at]
    omega
   ·rw [up_off _ _ (hapart j hj h2)]
    exact hg.lo j hj
 ·have hnx : nx p s jump = ⟨s.pc + 1, up s.tn s.pc 0⟩ := by unfold nx; rw [if_pos h16, if_neg ht]
  rw [hnx]
  have hgo := hF.goes hg.pc h21
  -- the next part around
  have hex : ∃ m', m < m' ∧ m' ≤ (loopsL p).length ∧ (m' < (loopsL p).length → hasB (lp (loopsL p) m') s.pc = true) ∧ ∀ j, m < j → j < m' → hasB (lp (loopsL p) j) s.pc = false := by
   have : ∀ n, m + 1 + n ≤ (loopsL p).length → (∃ m', m < m' ∧ m' < m + 1 + n ∧ hasB (lp (loopsL p) m') s.pc = true ∧ ∀ j, m < j → j < m' → hasB (lp (loopsL p) j) s.pc = false) ∨ ∀ j, m < j → j < m + 1 + n → hasB (lp (loopsL p) j) s.pc = false := by
    intro n
    induction n with
    | zero => intro _; exact .inr fun j h1 h2 => by omega
    | succ n ih =>
     intro hle
     rcases ih (by omega) with ⟨m', h1, h2, h3⟩ | h1
     ·exact .inl ⟨m', h1, by omega, h3⟩
     ·cases hb : hasB (lp (loopsL p) (m + 1 + n)) s.pc
      ·refine .inr fun j h2 h3 => ?_
       rcases Nat.lt_or_ge j (m + 1 + n) with h4 | h4
       ·exact h1 j h2 h4
       ·have : j = m + 1 + n := by omega
        subst this; exact hb
      ·exact .inl ⟨m + 1 + n, by omega, by omega, hb, h1⟩
   have e : m + 1 + ((loopsL p).length - (m + 1)) = (loopsL p).length := by omega
   have h1 := this ((loopsL p).length - (m + 1)) (by omega)
   rw [e] at h1
   rcases h1 with ⟨m', h2, h3, h4, h5⟩ | h1
   ·exact ⟨m', h2, by omega, fun _ => h4, h5⟩
   ·exact ⟨_, hm, Nat.le_refl _, fun h => by omega, h1⟩
  obtain ⟨m', hmm, hm', hb', hno'⟩ := hex
  have hbm' := has_top hF hn hg.pc hm' hb'
  have hls := lp_spn hF hn hmm hm'
  have hbm := has_iff.1 hbm'
  have hbt : hasB (spn p m') ((s.pc + 1 : Nat) : Int) = true := has_iff.2 ⟨by omega, by omega⟩
  have hin : ∀ j, j < m' → hasB (lp (loopsL p) j) ((s.pc + 1 : Nat) : Int) = true → (lp (loopsL p) j).1 = ((s.pc + 1 : Nat) : Int) ∧ hasB (lp (loopsL p) j) s.pc = false := by
   intro j hj h1
   have h2 := has_iff.1 h1
   have h3 : hasB (lp (loopsL p) j) s.pc = false := by
    rcases Nat.lt_or_ge m j with h4 | h4
    ·exact hno' j h4 hj
    ·have : j < m ∨ j = m := by omega
     rcases this with h5 | h5
     ·exact hno j h5
     ·subst h5; omega
   refine ⟨?_, h3⟩
   unfold hasB at h3
   simp at h3
   omega
  have hup : ∀ j, m' < j → j < (loopsL p).length → hasB (lp (loopsL p) j) s.pc = hasB (lp (loopsL p) j) ((s.pc + 1 : Nat) : Int) := by
   intro j h1 h2
   have h3 := hF.nest (Fp.lp_mem (by omega : m' < (loopsL p).length)) (Fp.lp_mem h2) (Fp.lp_lt h1 h2)
   have h4 := Fp.lp_lt h1 h2
   rw [spn_lt (by omega : m' < (loopsL p).length)] at hbm hls
   unfold Fp.overB at h3
   simp at h3
   unfold hasB
   rw [decide_eq_decide]
   omega
  have htn0 : ∀ j, j < (loopsL p).length → hasB (lp (loopsL p) j) s.pc = false → up s.tn s.pc 0 (lp (loopsL p) j).2.toNat = 0 := fun j hj h1 => by
   by_cases h2 : j = m
   ·subst h2; rw [e3, up_at]
   ·rw [up_off _ _ (hapart j hj h2)]
    exact hg.out j hj h1
  refine ⟨?_, ⟨by show s.pc + 1 < _; exact hgo, fun j hj h1 => ?_, fun j hj => ?_⟩⟩
  ·congr 1
   rw [V_in hF hn ho hC (s := ⟨s.pc + 1, up s.tn s.pc 0⟩) (m := m') hm' hbt (fun j hj h1 => ⟨(hin j hj h1).1, htn0 j (by omega) (hin j hj h1).2⟩), hr]
   have e4 : lft p s m = 0 := by rw [hlf]; omega
   rw [e4]
   show (mulW S (oneW S) _).fin = _
   rw [one_mulW, Vt_skip S p h o s (by omega : m + 1 ≤ m') hm' (fun j h1 h2 => hno' j (by omega) h2), Vt_part S p h o s hm' hbm']
   have e5 : ((lp (loopsL p) m).2 + 1).toNat = s.pc + 1 := by omega
   rw [e5]
   congr 2
   exact rst_congr hF hn hup (fun j h1 h2 _ => (up_off _ _ (hapart j h2 (by omega))).symm)
  ·have h1' : hasB (lp (loopsL p) j) ((s.pc + 1 : Nat) : Int) = false := h1
   show up s.tn s.pc 0 (lp (loopsL p) j).2.toNat = 0
   cases h2 : hasB (lp (loopsL p) j) s.pc
   ·exact htn0 j hj h2
   ·have : j = m := by
     rcases Nat.lt_trichotomy j m with h3 | h3 | h3
     ·rw [hno j h3] at h2; cases h2
     ·exact h3
     ·have h4 := Fp.lp_lt h3 hj
      unfold hasB at h1' h2
      simp at h1' h2
      omega
    subst this
    rw [e3, up_at]
  ·show 0 ≤ up s.tn s.pc 0 (lp (loopsL p) j).2.toNat ∧ up s.tn s.pc 0 (lp (loopsL p) j).2.toNat ≤ _
   by_cases h2 : j = m
   ·subst h2
    rw [e3, up_at]
    omega
   ·rw [up_off _ _ (hapart j hj h2)]
    exact hg.lo j hj
end
end Go.Proofs.YthhbhbfkbncegaaGreatDoor.Wk
end
end
section
section
set_option linter.unusedSimpArgs false
set_option linter.unusedVariables false
set_option linter.unusedSectionVars false
namespace Go.Proofs.YthhbhbfkbncegaaGreatDoor.Wk
open Fp (Ins at_ Fine check loopsL hasB nextL lp has_iff)
open Cs (spn spn_lt spn_top spn_in lp_in lp_back lp_spn back_last last_back)

/-- a Zero that may lead to two places -/
def Jmp (p : List Ins) (k : Nat) : Prop := (at_ p k).op = 15 ∧ ¬ (at_ p k).n = (k : Int) + 1
instance (p : List Ins) (k : Nat) : Decidable (Jmp p k) := by unfold Jmp; infer_instance
section
variable {α : Type} {S : Sr α} {p : List Ins} {h : Nat → α} {o : Nat → Wg α} {right : Ins → Bool}
variable (hF : Fine right p) (hn : ∀ j, j < p.length → 0 ≤ (at_ p j).n)
include hF hn
theorem nx_one {s : Sp} (hk : s.pc < p.length) (hj : ¬ Jmp p s.pc) (j : Bool) : nx p s j = nx p s false := by
 unfold nx
 by_cases h16 : (at_ p s.pc).op = 16
 ·rw [if_pos h16, if_pos h16]
 ·rw [if_neg h16, if_neg h16]
  by_cases h14 : (at_ p s.pc).op = 14
  ·rw [if_pos (.inl h14), if_pos (.inl h14)]
  ·rw [if_neg (c := (at_ p s.pc).op = 14 ∨ (at_ p s.pc).op = 15 ∧ false = true) (by simp [h14])]
   by_cases h15 : (at_ p s.pc).op = 15 ∧ j = true
   ·rw [if_pos (.inr h15)]
    have : (at_ p s.pc).n = (s.pc : Int) + 1 := Classical.byContradiction fun h => hj ⟨h15.1, h⟩
    rw [this]
    rfl
   ·rw [if_neg (by simp only [h14, false_or]; exact h15)]
/-- the equation of one step -/
theorem V_step (ho : ∀ j, j < (loopsL p).length → o j = G S p h o j (lp (loopsL p) j).1.toNat) (hC : ∀ j, j < (loopsL p).length → 0 ≤ (at_ p (lp (loopsL p) j).2.toNat).c) {s : Sp} (hg : Good p s) (h21 : ¬ (at_ p s.pc).op = 21) :
 V S p h o s = S.mul (h s.pc) (if Jmp p s.pc then S.add (V S p h o (nx p s false)) (V S p h o (nx p s true)) else V S p h o (nx p s false)) ∧ ∀ j, Good p (nx p s j) := by
 by_cases h16 : (at_ p s.pc).op = 16
 ·have hj : ¬ Jmp p s.pc := fun h => by rw [h.1] at h16; cases h16
  rw [if_neg hj]
  exact ⟨(V_back hF hn ho hC hg h16 false).1, fun j => (V_back hF hn ho hC hg h16 j).2⟩
 ·obtain ⟨h1, h2⟩ := V_plain hF hn ho hC hg h21 h16
  have hgo := hF.goes hg.pc h21
  have nF : nx p s false = if (at_ p s.pc).op = 14 then ⟨(at_ p s.pc).n.toNat, s.tn⟩ else ⟨s.pc + 1, s.tn⟩ := by
   unfold nx
   rw [if_neg h16]
   by_cases h14 : (at_ p s.pc).op = 14
   ·rw [if_pos (.inl h14), if_pos h14]
   ·rw [if_neg (by simp [h14]), if_neg h14]
  have nT : (at_ p s.pc).op = 15 → nx p s true = ⟨(at_ p s.pc).n.toNat, s.tn⟩ := fun h15 => by
   unfold nx
   rw [if_neg h16, if_pos (.inr ⟨h15, rfl⟩)]
  have e1 : ((s.pc : Int) + 1).toNat = s.pc + 1 := by omega
  unfold nextL at h1 h2
  rw [if_neg h21] at h1 h2
  by_cases h14 : (at_ p s.pc).op = 14
  ·have hj : ¬ Jmp p s.pc := fun h => by rw [h.1] at h14; cases h14
   rw [if_pos h14] at h1 h2
   rw [if_pos h14] at nF
   rw [if_neg hj, h1, nF]
   refine ⟨by simp only [List.foldr_cons, List.foldr_nil, S.add_zero], fun j => ?_⟩
   rw [nx_one hF hn hg.pc hj, nF]
   exact h2 _ (by simp)
  ·rw [if_neg h14] at h1 h2 nF
   by_cases h15 : (at_ p s.pc).op = 15
   ·rw [if_pos h15] at h1 h2
    have hl := hF.lead hg.pc (.inr h15)
    by_cases hj : Jmp p s.pc
    ·have hlt : (s.pc : Int) + 1 < (at_ p s.pc).n := by have := hj.2; omega
     rw [if_pos hlt] at h1 h2
     rw [if_pos hj, h1, nF, nT h15]
     refine ⟨by simp only [List.foldr_cons, List.foldr_nil, S.add_zero, e1], fun j => ?_⟩
     cases j
     ·rw [nF]; have := h2 ((s.pc : Int) + 1) (by simp); rw [e1] at this; exact this
     ·rw [nT h15]; exact h2 _ (by simp)
    ·have hnlt : ¬ (s.pc : Int) + 1 < (at_ p s.pc).n := fun h => hj ⟨h15, by omega⟩
     rw [if_neg hnlt] at h1 h2
     rw [if_neg hj, h1, nF]
     refine ⟨by simp only [List.foldr_cons, List.foldr_nil, S.add_zero, e1], fun j => ?_⟩
     rw [nx_one hF hn hg.pc hj, nF]
     have := h2 ((s.pc : Int) + 1) (by simp); rw [e1] at this; exact this
   ·have hj : ¬ Jmp p s.pc := fun h => h15 h.1
    rw [if_neg h15, if_neg h16] at h1 h2
    rw [if_neg hj, h1, nF]
    refine ⟨by simp only [List.foldr_cons, List.foldr_nil, S.add_zero, e1], fun j => ?_⟩
    rw [nx_one hF hn hg.pc hj, nF]
    have := h2 ((s.pc : Int) + 1) (by simp); rw [e1] at this; exact this

/-! ### something comes -/
omit hF hn in
structure Nz (S : Sr α) (nz : α → Prop) : Prop where
 one : nz S.one
 mul : ∀ a b, nz a → nz b → nz (S.mul a b)
 left : ∀ a b, nz a → nz (S.add a b)
omit hF hn in
def Live (nz : α → Prop) (x : Wg α) : Prop := nz x.thru ∨ nz x.fin
section
variable {nz : α → Prop} (hz : Nz S nz)
include hz
omit hF hn in
theorem nz_right (a b : α) (h : nz b) : nz (S.add a b) := by rw [S.add_comm]; exact hz.left _ _ h
omit hF hn in
theorem live_mul {x y : Wg α} (hx : Live nz x) (hy : Live nz y) : Live nz (mulW S x y) := by
 rcases hx with h | h
 ·rcases hy with h2 | h2
  ·exact .inl (hz.mul _ _ h h2)
  ·exact .inr (nz_right hz _ _ (hz.mul _ _ h h2))
 ·exact .inr (hz.left _ _ h)
omit hF hn in
theorem live_pw {x : Wg α} (hx : Live nz x) (n : Nat) : Live nz (pw S x n) := by
 induction n with
 | zero => exact .inl hz.one
 | succ n ih => exact live_mul hz ih hx
omit hF hn in
theorem live_sc {a : α} (ha : nz a) {x : Wg α} (hx : Live nz x) : Live nz (sc S a x) := by
 rcases hx with h | h
 ·exact .inl (hz.mul _ _ ha h)
 ·exact .inr (hz.mul _ _ ha h)
omit hF hn in
theorem live_sum {l : List (Wg α)} {x : Wg α} (hx : x ∈ l) (h : Live nz x) : Live nz (sumW S l) := by
 induction l with
 | nil => cases hx
 | cons y l ih =>
  rw [sumW]
  rcases List.mem_cons.1 hx with rfl | hx
  ·rcases h with h | h
   ·exact .inl (hz.left _ _ h)
   ·exact .inr (hz.left _ _ h)
  ·rcases ih hx with h | h
   ·exact .inl (nz_right hz _ _ h)
   ·exact .inr (nz_right hz _ _ h)
theorem live_G (hh : ∀ k, k < p.length → nz (h k)) (ho : ∀ j, j < (loopsL p).length → o j = G S p h o j (lp (loopsL p) j).1.toNat) (n : Nat) : n ≤ (loopsL p).length → ∀ k : Nat, (spn p n).1 ≤ k → (k : Int) ≤ (spn p n).2 → (∀ j, j < n → hasB (lp (loopsL p) j) k = true → (lp (loopsL p) j).1 = k) → Live nz (G S p h o n k) := by
 induction n using Nat.strongRecOn with
 | ind n ih =>
  intro hN
  have hs := spn_in hF hn n hN
  have key : ∀ d k : Nat, (spn p n).1 ≤ k → (k : Int) + d = (spn p n).2 → (∀ j, j < n → hasB (lp (loopsL p) j) k = true → (lp (loopsL p) j).1 = k) → Live nz (G S p h o n k) := by
   intro d
   induction d using Nat.strongRecOn with
   | ind d ihd =>
    intro k h1 h2 h3
    rcases lastJ_cases p n k with ⟨_, hno⟩ | ⟨j, _, hj, hb, hl⟩
    ·rw [G_plain hF hn hN h1 (by omega) hno]
     split
     ·exact .inr (hh k (by omega))
     ·rename_i h21
      split
      ·exact .inl (hh k (by omega))
      ·rename_i hne
       refine live_sc hz (hh k (by omega)) ?_
       have hlen := Fp.next_some h21
       obtain ⟨t, ht⟩ := List.exists_mem_of_length_pos hlen
       have hpe := part_edge hF hn hN (by omega) h1 (by omega) hno ht
       have hw := fun {x : Int × Int} (hx : x ∈ loopsL p) => hF.ways hn (by omega : k < p.length) ht hx
       refine live_sum hz (List.mem_map.2 ⟨t, ht, rfl⟩) (ihd ((spn p n).2 - t).toNat (by omega) t.toNat (by omega) (by omega) fun j hj hb => ?_)
       have et : ((t.toNat : Nat) : Int) = t := by omega
       rw [et] at hb ⊢
       exact ((hw (Fp.lp_mem (by omega : j < (loopsL p).length))).1 hb (hno j hj)).symm
    ·have hk := h3 j hj hb
     have hxl := lp_in hF hn (j := j) (by omega)
     have hal := after_loop hF hn hj hN
     rw [G_loop hF hn hN h1 (by omega) hj hb hl hk.symm]
     refine live_mul hz (live_pw hz ?_ _) (ihd ((spn p n).2 - ((lp (loopsL p) j).2 + 1)).toNat (by omega) _ (by omega) (by omega) fun i hi hbi => ?_)
     ·rw [ho j (by omega)]
      refine ih j hj (by omega) _ (by rw [spn_lt (by omega)]; omega) (by rw [spn_lt (by omega)]; omega) fun i hi hbi => ?_
      have e : (((lp (loopsL p) j).1.toNat : Nat) : Int) = (lp (loopsL p) j).1 := by omega
      rw [e] at hbi ⊢
      have := within hF hn hi (by omega : j < (loopsL p).length) hbi (has_iff.2 ⟨by omega, by omega⟩)
      have := has_iff.1 hbi
      omega
     ·have e : ((((lp (loopsL p) j).2 + 1).toNat : Nat) : Int) = (lp (loopsL p) j).2 + 1 := by omega
      rw [e] at hbi ⊢
      have h5 := has_iff.1 hbi
      have h6 : hasB (lp (loopsL p) i) k = false := by
       rcases Nat.lt_trichotomy i j with h7 | h7 | h7
       ·have := Fp.lp_lt h7 (by omega : j < (loopsL p).length); omega
       ·subst h7; omega
       ·exact hl i h7 hi
      have h7 : j < i := by
       rcases Nat.lt_trichotomy i j with h7 | h7 | h7
       ·have := Fp.lp_lt h7 (by omega : j < (loopsL p).length); omega
       ·subst h7; omega
       ·exact h7
      have h8 := hF.nest (Fp.lp_mem (by omega : j < (loopsL p).length)) (Fp.lp_mem (by omega : i < (loopsL p).length)) (Fp.lp_lt h7 (by omega))
      unfold Fp.overB at h8
      unfold hasB at h6
      simp at h8 h6
      omega
  intro k h1 h2
  exact key ((spn p n).2 - k).toNat k h1 (by omega)
omit hz in
theorem G_top_thru : ∀ d k : Nat, (k : Int) + d + 1 = p.length → (G S p h o (loopsL p).length k).thru = S.zero := by
 have hN := Nat.le_refl (loopsL p).length
 have hs := spn_in hF hn _ hN
 have he : (spn p (loopsL p).length) = (0, (p.length : Int) - 1) := spn_top
 intro d
 induction d using Nat.strongRecOn with
 | ind d ihd =>
  intro k h2
  have h1 : (spn p (loopsL p).length).1 ≤ k := by rw [he]; simp
  have h3 : (k : Int) ≤ (spn p (loopsL p).length).2 := by rw [he]; simp only; omega
  rcases lastJ_cases p (loopsL p).length k with ⟨_, hno⟩ | ⟨j, el, hj, hb, hl⟩
  ·rw [G_plain hF hn hN h1 h3 hno]
   split
   ·rfl
   ·rename_i h21
    split
    ·rename_i hk
     have : k = p.length - 1 := by rw [he] at hk; simp only at hk; omega
     rw [this, hF.last] at h21
     exact absurd rfl h21
    ·rename_i hne
     show S.mul _ (sumW S _).thru = _
     have : (sumW S ((nextL p k).map fun t => G S p h o (loopsL p).length t.toNat)).thru = S.zero := by
      have : ∀ l : List Int, (∀ t ∈ l, t ∈ nextL p k) → (sumW S (l.map fun t => G S p h o (loopsL p).length t.toNat)).thru = S.zero := by
       intro l
       induction l with
       | nil => intro _; rfl
       | cons t l ih =>
        intro hl
        have hpe := part_edge hF hn hN (by omega) h1 (by omega) hno (hl t (List.mem_cons_self ..))
        have hed := (hF.edge hn (by omega : k < p.length) (hl t (List.mem_cons_self ..))).1
        rw [List.map_cons, sumW]
        show S.add _ _ = _
        rw [ih fun t' h' => hl t' (List.mem_cons_of_mem _ h'), ihd ((p.length : Int) - 1 - t).toNat (by omega) t.toNat (by omega), S.add_zero]
      exact this _ fun _ h => h
     rw [this, S.mul_zero]
  ·rw [G_eq hF hn hN h1 h3]
   unfold stepG
   rw [el]
   simp only
   split
   ·show S.mul _ _ = _
    have hxl := lp_in hF hn (j := j) (by omega)
    have hal := after_loop hF hn hj hN
    rw [he] at hal
    simp only at hal
    rw [ihd ((p.length : Int) - 1 - ((lp (loopsL p) j).2 + 1)).toNat (by have := (has_iff.1 hb); omega) _ (by omega), S.mul_zero]
   ·rfl
/-- from each state that may be -/
theorem live_V (hh : ∀ k, k < p.length → nz (h k)) (ho : ∀ j, j < (loopsL p).length → o j = G S p h o j (lp (loopsL p) j).1.toNat) (hz0 : ¬ nz S.zero) {s : Sp} (hg : Good p s) : nz (V S p h o s) := by
 obtain ⟨m, hm, hb, hno⟩ := innermost (p := p) s.pc
 have hbs := has_top hF hn hg.pc hm hb
 have hbi := has_iff.1 hbs
 -- all that comes behind
 have key : ∀ i m pos : Nat, m + i = (loopsL p).length → (m < (loopsL p).length → hasB (lp (loopsL p) m) s.pc = false ∨ ((lp (loopsL p) m).1 ≤ pos ∧ (pos : Int) ≤ (lp (loopsL p) m).2)) → s.pc ≤ pos → pos < p.length →
  (∀ j, m ≤ j → j < (loopsL p).length → hasB (lp (loopsL p) j) s.pc = true → (pos : Int) ≤ (lp (loopsL p) j).2) →
  (∀ j, j < (loopsL p).length → hasB (lp (loopsL p) j) pos = true → hasB (lp (loopsL p) j) s.pc = false → (lp (loopsL p) j).1 = pos) → (∀ j, j < m → hasB (lp (loopsL p) j) pos = true → (lp (loopsL p) j).1 = pos) → Live nz (vt S p h o s m i pos) := by
  intro i
  induction i with
  | zero =>
   intro m pos hmi _ h1 h2 _ _ h4
   have : m = (loopsL p).length := by omega
   subst this
   exact live_G hF hn hz hh ho _ (Nat.le_refl _) pos (by rw [spn_top]; simp) (by rw [spn_top]; simp only; omega) h4
  | succ i ih =>
   intro m pos hmi h0 h1 h2 h3 h3' h4
   have hml : m < (loopsL p).length := by omega
   rw [vt]
   split
   ·rename_i hbm
    have hin := h0 hml
    rw [hbm] at hin
    have hp := hin.resolve_left (by simp)
    have hli := lp_in hF hn hml
    have hbk := has_iff.1 hbm
    refine live_mul hz (live_G hF hn hz hh ho m (by omega) pos (by rw [spn_lt hml]; exact hp.1) (by rw [spn_lt hml]; exact hp.2) h4) (live_mul hz (live_pw hz ?_ _) ?_)
    ·rw [ho m hml]
     refine live_G hF hn hz hh ho m (by omega) _ (by rw [spn_lt hml]; omega) (by rw [spn_lt hml]; omega) fun i hi hbi => ?_
     have e : (((lp (loopsL p) m).1.toNat : Nat) : Int) = (lp (loopsL p) m).1 := by omega
     rw [e] at hbi ⊢
     have := within hF hn hi hml hbi (has_iff.2 ⟨by omega, by omega⟩)
     have := has_iff.1 hbi
     omega
    ·have e : ((((lp (loopsL p) m).2 + 1).toNat : Nat) : Int) = (lp (loopsL p) m).2 + 1 := by omega
     have hlen : ((lp (loopsL p) m).2 + 1).toNat < p.length := by
      have := lp_spn hF hn (by omega : m < (loopsL p).length) (Nat.le_refl _)
      rw [spn_top] at this
      simp only at this
      omega
     have hbeh : ∀ j, j < (loopsL p).length → hasB (lp (loopsL p) j) ((lp (loopsL p) m).2 + 1) = true → m < j ∧ ((lp (loopsL p) j).1 = (lp (loopsL p) m).2 + 1 ∨ hasB (lp (loopsL p) j) s.pc = true) := fun j hj hbj => by
      have h5 := has_iff.1 hbj
      have h7 : m < j := by
       rcases Nat.lt_trichotomy j m with h7 | h7 | h7
       ·have := Fp.lp_lt h7 hml; omega
       ·subst h7; omega
       ·exact h7
      refine ⟨h7, ?_⟩
      have h8 := hF.nest (Fp.lp_mem hml) (Fp.lp_mem hj) (Fp.lp_lt h7 hj)
      unfold Fp.overB at h8
      simp at h8
      rcases Int.lt_or_le (lp (loopsL p) m).2 (lp (loopsL p) j).1 with h9 | h9
      ·exact .inl (by omega)
      ·refine .inr (has_iff.2 ⟨?_, by omega⟩)
       rcases Int.lt_or_le (lp (loopsL p) m).1 (lp (loopsL p) j).1 with h10 | h10
       ·have := h8 (by omega) h9; omega
       ·omega
     refine ih (m + 1) _ (by omega) (fun hm1 => ?_) (by omega) hlen (fun j hj1 hj2 hj3 => ?_) (fun j hj hbj hno => ?_) (fun j hj hbj => ?_)
     ·rw [e]
      cases h6 : hasB (lp (loopsL p) (m + 1)) s.pc
      ·exact .inl rfl
      ·have h7 := within hF hn (by omega : m < m + 1) hm1 hbm h6
       exact .inr ⟨by omega, by omega⟩
     ·rw [e]
      have := Fp.lp_lt (by omega : m < j) hj2
      omega
     ·rw [e] at hbj ⊢
      rcases (hbeh j hj hbj).2 with h | h
      ·exact h
      ·rw [hno] at h; cases h
     ·rw [e] at hbj
      have := (hbeh j (by omega) hbj).1
      omega
   ·rename_i hbm
    have hbm' : hasB (lp (loopsL p) m) s.pc = false := by simpa using hbm
    refine ih (m + 1) pos (by omega) (fun hm1 => ?_) h1 h2 (fun j hj1 => h3 j (by omega)) h3' (fun j hj hbj => ?_)
    ·cases h6 : hasB (lp (loopsL p) (m + 1)) s.pc
     ·exact .inl rfl
     ·have h7 := has_iff.1 h6
      have h8 := h3 (m + 1) (by omega) hm1 h6
      exact .inr ⟨by omega, h8⟩
    ·rcases Nat.lt_or_ge j m with h5 | h5
     ·exact h4 j h5 hbj
     ·have : j = m := by omega
      subst this
      exact h3' j hml hbj hbm'
 have hl : Live nz (Vt S p h o s 0 s.pc) := by
  unfold Vt
  refine key _ 0 s.pc (by omega) (fun h0 => ?_) (Nat.le_refl _) hg.pc (fun j _ _ hb => (has_iff.1 hb).2) (fun j hj h1 h2 => by rw [h1] at h2; cases h2) (fun j hj => by omega)
  cases h6 : hasB (lp (loopsL p) 0) s.pc
  ·exact .inl rfl
  ·exact .inr (has_iff.1 h6)
 -- gone through as a whole nobody goes
 have hth : ∀ i m pos : Nat, m + i = (loopsL p).length → pos < p.length → (vt S p h o s m i pos).thru = S.zero := by
  intro i
  induction i with
  | zero =>
   intro m pos hm hp
   have : m = (loopsL p).length := by omega
   subst this
   exact G_top_thru hF hn (p.length - 1 - pos) pos (by omega)
  | succ i ih =>
   intro m pos hm hp
   rw [vt]
   split
   ·show S.mul _ (S.mul _ _) = _
    have hlen : ((lp (loopsL p) m).2 + 1).toNat < p.length := by
     have := lp_spn hF hn (by omega : m < (loopsL p).length) (Nat.le_refl _)
     rw [spn_top] at this
     simp only at this
     have := lp_in hF hn (by omega : m < (loopsL p).length)
     omega
    rw [ih _ _ (by omega) hlen, S.mul_zero, S.mul_zero]
   ·exact ih _ _ (by omega) hp
 unfold V
 rcases hl with h1 | h1
 ·exfalso
  unfold Vt at h1
  rw [hth _ 0 _ (by omega) hg.pc] at h1
  exact hz0 h1
 ·exact h1
end
end
end Go.Proofs.YthhbhbfkbncegaaGreatDoor.Wk
end
section
section
set_option linter.unusedSimpArgs false
set_option linter.unusedVariables false
set_option linter.unusedSectionVars false
namespace Go.Proofs.YthhbhbfkbncegaaGreatDoor.Wk
open Fp (Ins at_ Fine check loopsL hasB nextL lp has_iff)
open Cs (spn spn_lt spn_top spn_in lp_in lp_back lp_spn back_last last_back Ok ok_none ok_zero ok_both ok_cl clI adI bestI bothI leadI Wy Known lastIn hereI St onceS onceT onceW repW knownT weighW come0 last_known getD_set btG)

abbrev Vl : Type := { v : Int // Ok v }
/-- what is asked of 'better' -/
structure Bt (bt : Int → Int → Bool) : Prop where
 ok : ∀ a b, Ok a → Ok b → Ok (bestI bt a b)
 comm : ∀ a b, Ok a → Ok b → bestI bt a b = bestI bt b a
 assoc : ∀ a b c, Ok a → Ok b → Ok c → bestI bt (bestI bt a b) c = bestI bt a (bestI bt b c)
 dist : ∀ a b c, Ok a → Ok b → Ok c → bothI a (bestI bt b c) = bestI bt (bothI a b) (bothI a c)
theorem bt_max (a b : Int) (ha : Ok a) (hb : Ok b) : bestI btG a b = max a b := by
 unfold Ok at *; unfold bestI btG; simp only [decide_eq_true_eq]; split <;> omega
theorem bt_gt : Bt btG := by
 refine ⟨fun a b ha hb => ?_, fun a b ha hb => ?_, fun a b c ha hb hc => ?_, fun a b c ha hb hc => ?_⟩
 ·rw [bt_max a b ha hb]; unfold Ok at *; omega
 ·rw [bt_max a b ha hb, bt_max b a hb ha]; omega
 ·have h1 : Ok (max a b) := by unfold Ok at *; omega
  have h2 : Ok (max b c) := by unfold Ok at *; omega
  rw [bt_max a b ha hb, bt_max b c hb hc, bt_max _ _ h1 hc, bt_max _ _ ha h2]; omega
 ·rw [bt_max b c hb hc, bt_max _ _ (ok_both ha hb) (ok_both ha hc)]
  unfold Ok at *
  unfold bothI adI
  repeat' split
  all_goals omega
theorem both_assoc (a b c : Int) (ha : Ok a) (hb : Ok b) (hc : Ok c) : bothI (bothI a b) c = bothI a (bothI b c) := by
 unfold Ok at *; unfold bothI adI; repeat' split
 all_goals omega
theorem both_comm (a b : Int) : bothI a b = bothI b a := by
 unfold bothI adI; repeat' split
 all_goals omega
theorem both_zero (a : Int) (ha : Ok a) : bothI 0 a = a := by unfold Ok at *; unfold bothI adI; split <;> omega
theorem best_none (bt : Int → Int → Bool) (a : Int) : bestI bt a (-1) = a := by
 unfold bestI
 split
 ·rfl
 ·rename_i h
  rcases Classical.em (a = -1) with h1 | h1
  ·exact h1.symm
  ·exact absurd (.inl rfl) h
def srB (bt : Int → Int → Bool) (hb : Bt bt) : Sr Vl where
 add a b := ⟨bestI bt a.1 b.1, hb.ok _ _ a.2 b.2⟩
 mul a b := ⟨bothI a.1 b.1, ok_both a.2 b.2⟩
 zero := ⟨-1, ok_none⟩
 one := ⟨0, ok_zero⟩
 add_comm a b := Subtype.ext (hb.comm _ _ a.2 b.2)
 add_assoc a b c := Subtype.ext (hb.assoc _ _ _ a.2 b.2 c.2)
 add_zero a := Subtype.ext (best_none bt a.1)
 mul_assoc a b c := Subtype.ext (both_assoc _ _ _ a.2 b.2 c.2)
 one_mul a := Subtype.ext (both_zero _ a.2)
 mul_one a := Subtype.ext ((both_comm a.1 0).trans (both_zero _ a.2))
 zero_mul a := Subtype.ext (Cs.both_none_l a.1)
 mul_zero a := Subtype.ext (Cs.both_none_r a.1)
 dl a b c := Subtype.ext (hb.dist _ _ _ a.2 b.2 c.2)
 dr a b c := Subtype.ext (by
  show bothI (bestI bt a.1 b.1) c.1 = _
  rw [both_comm, hb.dist _ _ _ c.2 a.2 b.2, both_comm c.1, both_comm c.1])
def hW (w : List Int) (k : Nat) : Vl := ⟨clI (w.getD k 0), ok_cl _⟩
instance (v : Int) : Decidable (Ok v) := by unfold Ok; infer_instance
def ofI (v : Int) : Vl := if h : Ok v then ⟨v, h⟩ else ⟨-1, ok_none⟩
theorem ofI_val (v : Vl) : ofI v.1 = v := by unfold ofI; rw [dif_pos v.2]
def toW (x : Wy) : Wg Vl := ⟨ofI x.thru, ofI x.fin⟩
def oW (bt : Int → Int → Bool) (p : List Ins) (w : List Int) (j : Nat) : Wg Vl := toW (onceW bt p w (knownT bt p w j) (lp (loopsL p) j))
/-- the same, told in either way -/
structure Mt (x : Wy) (y : Wg Vl) : Prop where
 t : x.thru = y.thru.1
 f : x.fin = y.fin.1
theorem mt_toW {x : Wy} {y : Wg Vl} (h : Mt x y) : toW x = y := Wg.ext' (by show ofI x.thru = _; rw [h.t, ofI_val]) (by show ofI x.fin = _; rw [h.f, ofI_val])
theorem mt_pw {bt : Int → Int → Bool} (hb : Bt bt) {x : Wy} {y : Wg Vl} (h : Mt x y) (n : Nat) : Mt (repW bt x n) (pw (srB bt hb) y n) := by
 induction n with
 | zero => exact ⟨rfl, rfl⟩
 | succ n ih =>
  refine ⟨?_, ?_⟩
  ·show bothI _ _ = bothI _ _
   rw [ih.t, h.t]
  ·show bestI bt _ (bothI _ _) = bestI bt _ (bothI _ _)
   rw [ih.f, ih.t, h.f]
structure MS (n : Nat) (st : St) (fs : Fs Vl) : Prop where
 len : st.come.length = n + 1
 come : ∀ u, u ≤ n → st.come.getD u 0 = (fs.come u).1
 all : Mt st.all fs.all
section
variable {p : List Ins} {right : Ins → Bool} {bt : Int → Int → Bool} (hb : Bt bt)
theorem ms_lead {c : List Int} {f : Nat → Vl} {n : Nat} (hl : c.length = n + 1) (hc : ∀ u, u ≤ n → c.getD u 0 = (f u).1) {t v : Int} {V : Vl} (ht : t.toNat ≤ n) (hv : v = V.1) :
 (leadI bt c t v).length = n + 1 ∧ ∀ u, u ≤ n → (leadI bt c t v).getD u 0 = (leadF (srB bt hb) f t.toNat V u).1 := by
 unfold leadI leadF
 refine ⟨by rw [List.length_set]; exact hl, fun u hu => ?_⟩
 rw [getD_set]
 by_cases h : u = t.toNat
 ·rw [if_pos ⟨h.symm, by omega⟩, if_pos h, ← h, hc u hu, hv]
  rfl
 ·rw [if_neg (fun h' => h h'.1.symm), if_neg h]
  exact hc u hu
theorem ms_leads {n : Nat} {v : Int} {V : Vl} (hv : v = V.1) : ∀ (ts : List Int) (c : List Int) (f : Nat → Vl), c.length = n + 1 → (∀ u, u ≤ n → c.getD u 0 = (f u).1) → (∀ t ∈ ts, t.toNat ≤ n) →
 (ts.foldl (fun c t => leadI bt c t v) c).length = n + 1 ∧ ∀ u, u ≤ n → (ts.foldl (fun c t => leadI bt c t v) c).getD u 0 = (ts.foldl (fun c t => leadF (srB bt hb) c t.toNat V) f u).1
 | [], c, f, hl, hc, _ => ⟨hl, hc⟩
 | t :: ts, c, f, hl, hc, ht => by
  obtain ⟨h1, h2⟩ := ms_lead hb hl hc (ht t (List.mem_cons_self ..)) hv
  exact ms_leads hv ts _ _ h1 h2 fun t' h' => ht t' (List.mem_cons_of_mem _ h')
theorem last_same (w : List Int) (k : Int) (n : Nat) : (lastJ p n k = none ∧ lastIn (knownT bt p w n) k = none ∧ ∀ j, j < n → hasB (lp (loopsL p) j) k = false) ∨
 ∃ j, lastJ p n k = some j ∧ j < n ∧ hasB (lp (loopsL p) j) k = true ∧ lastIn (knownT bt p w n) k = some (lp (loopsL p) j, repW bt (onceW bt p w (knownT bt p w j) (lp (loopsL p) j)) ((at_ p (lp (loopsL p) j).2.toNat).c + 1).toNat) := by
 rcases last_known (p := p) w bt k n with ⟨hno, hl⟩ | ⟨j, hj, hbj, hlast, hl⟩
 ·exact .inl ⟨lastJ_none p hno, hl, hno⟩
 ·rcases lastJ_cases p n k with ⟨_, hno⟩ | ⟨i, e, hi, hbi, hli⟩
  ·rw [hno j hj] at hbj; cases hbj
  ·have : i = j := by
    rcases Nat.lt_trichotomy i j with h3 | h3 | h3
    ·rw [hli j h3 hj] at hbj; cases hbj
    ·exact h3
    ·rw [hlast i h3 hi] at hbi; cases hbi
   subst this
   exact .inr ⟨i, e, hi, hbi, hl⟩
variable (hF : Fine right p) (hn : ∀ j, j < p.length → 0 ≤ (at_ p j).n)
include hF hn
theorem ms_step (w : List Int) {n : Nat} (hN : n ≤ (loopsL p).length) (hone : ∀ j, j < n → Mt (onceW bt p w (knownT bt p w j) (lp (loopsL p) j)) (oW bt p w j)) {st : St} {fs : Fs Vl} (hm : MS p.length st fs) {k : Nat} (h1 : (spn p n).1 ≤ k) (h2 : (k : Int) ≤ (spn p n).2) :
 MS p.length (onceS bt p w (knownT bt p w n) (spn p n).2 st k) (fStep (srB bt hb) p (hW w) (oW bt p w) n fs k) := by
 have hs := spn_in hF hn n hN
 have hkl : k < p.length := by omega
 have hh : hereI w st.come k = ((srB bt hb).mul (fs.come k) (hW w k)).1 := by
  show bothI _ _ = bothI _ _
  rw [hm.come k (by omega)]
  rfl
 unfold onceS fStep
 rcases last_same (bt := bt) (p := p) w k n with ⟨e1, e2, hno⟩ | ⟨j, e1, hj, hbj, e2⟩
 ·rw [e1, e2]
  simp only
  split
  ·refine ⟨hm.len, hm.come, ⟨hm.all.t, ?_⟩⟩
   show bestI bt _ _ = bestI bt _ _
   rw [hm.all.f, hh]
  ·split
   ·exact ⟨hm.len, hm.come, ⟨hh, hm.all.f⟩⟩
   ·obtain ⟨h3, h4⟩ := ms_leads hb hh (nextL p k) st.come fs.come hm.len hm.come (fun t ht => by have := (hF.edge hn hkl ht).1; omega)
    exact ⟨h3, h4, hm.all⟩
 ·rw [e1, e2]
  simp only
  have hr := mt_pw hb (hone j hj) ((at_ p (lp (loopsL p) j).2.toNat).c + 1).toNat
  have hal := after_loop hF hn hj hN
  split
  ·obtain ⟨h3, h4⟩ := ms_lead hb (t := (lp (loopsL p) j).2 + 1) (v := bothI (st.come.getD k 0) (repW bt (onceW bt p w (knownT bt p w j) (lp (loopsL p) j)) ((at_ p (lp (loopsL p) j).2.toNat).c + 1).toNat).thru) (V := (srB bt hb).mul (fs.come k) (rp (srB bt hb) p (oW bt p w) j).thru) hm.len hm.come (by omega) (by
    show bothI _ _ = bothI _ _
    rw [hm.come k (by omega), hr.t]
    rfl)
   refine ⟨h3, h4, ⟨hm.all.t, ?_⟩⟩
   show bestI bt _ (bothI _ _) = bestI bt _ (bothI _ _)
   rw [hm.all.f, hm.come k (by omega), hr.f]
   rfl
  ·exact hm
theorem ms_once (w : List Int) (n : Nat) : n ≤ (loopsL p).length → Mt (onceW bt p w (knownT bt p w n) (spn p n)) (G (srB bt hb) p (hW w) (oW bt p w) n (spn p n).1.toNat) := by
 induction n using Nat.strongRecOn with
 | ind n ih =>
  intro hN
  have hs := spn_in hF hn n hN
  have hone : ∀ j, j < n → Mt (onceW bt p w (knownT bt p w j) (lp (loopsL p) j)) (oW bt p w j) := fun j hj => by
   have h1 := ih j hj (by omega)
   rw [spn_lt (by omega : j < (loopsL p).length)] at h1
   have h2 := mt_toW h1
   unfold oW
   rw [h2]
   exact h1
  rw [← once_G hF hn hN]
  have key : ∀ i : Nat, (spn p n).1 + i ≤ (spn p n).2 + 1 → MS p.length (onceT bt p w (knownT bt p w n) (spn p n).1.toNat (spn p n).2 i) (fT (srB bt hb) p (hW w) (oW bt p w) n (spn p n).1.toNat i) := by
   intro i
   induction i with
   | zero =>
    intro _
    refine ⟨by simp [onceT, come0], fun u hu => ?_, ⟨rfl, rfl⟩⟩
    show (come0 p.length (spn p n).1.toNat).getD u 0 = _
    unfold come0 fT
    rw [getD_set]
    simp only
    by_cases h : u = (spn p n).1.toNat
    ·rw [if_pos ⟨h.symm, by simp; omega⟩, if_pos h]; rfl
    ·rw [if_neg (fun h' => h h'.1.symm), if_neg h, List.getD_eq_getElem?_getD, List.getElem?_replicate, if_pos (by omega)]; rfl
   | succ i ihi =>
    intro hi
    have := ihi (by omega)
    exact ms_step hb hF hn w hN hone this (by omega) (by omega)
  exact (key ((spn p n).2 + 1 - (spn p n).1).toNat (by omega)).all
theorem oW_G (w : List Int) : ∀ j, j < (loopsL p).length → oW bt p w j = G (srB bt hb) p (hW w) (oW bt p w) j (lp (loopsL p) j).1.toNat := fun j hj => by
 have h1 := ms_once hb hF hn w j (by omega)
 rw [spn_lt hj] at h1
 exact mt_toW h1
theorem weigh_V (hC : ∀ j, j < (loopsL p).length → 0 ≤ (at_ p (lp (loopsL p) j).2.toNat).c) (w : List Int) : weighW bt p w = (V (srB bt hb) p (hW w) (oW bt p w) Sp0).1 := by
 have h1 := (ms_once hb hF hn w (loopsL p).length (Nat.le_refl _)).f
 rw [spn_top] at h1
 rw [V_start hF hn (oW_G hb hF hn w) hC]
 exact h1
omit hF hn in
theorem nzB : Nz (srB bt hb) (fun v => v.1 ≠ -1) where
 one := by show (0 : Int) ≠ -1; omega
 mul a b ha hb' := by
  show bothI a.1 b.1 ≠ -1
  have h1 := a.2
  have h2 := b.2
  unfold Ok at h1 h2
  unfold bothI adI
  split <;> omega
 left a b ha := by
  show bestI bt a.1 b.1 ≠ -1
  unfold bestI
  split
  ·exact ha
  ·omega
/-- from each state something comes, and it weighs no more than there may be -/
theorem V_pos (w : List Int) {s : Sp} (hg : Good p s) : 0 ≤ (V (srB bt hb) p (hW w) (oW bt p w) s).1 ∧ (V (srB bt hb) p (hW w) (oW bt p w) s).1 ≤ 1099511627776 := by
 have h1 := live_V hF hn (nzB hb) (h := hW w) (fun k _ => by
  have := ok_cl (w.getD k 0)
  show clI (w.getD k 0) ≠ -1
  unfold clI; omega) (oW_G hb hF hn w) (fun h => h rfl) hg
 have h2 := (V (srB bt hb) p (hW w) (oW bt p w) s).2
 unfold Ok at h2
 omega
end
end Go.Proofs.YthhbhbfkbncegaaGreatDoor.Wk
end
section
section
set_option linter.unusedSimpArgs false
set_option linter.unusedVariables false
set_option linter.unusedSectionVars false
namespace Go.Proofs.YthhbhbfkbncegaaGreatDoor.Wk
open Fp (Ins at_ Fine check loopsL hasB nextL lp has_iff)

/-- the next state, and how many choices were made -/
def wkN (p : List Ins) (ch : List Bool) (x : Sp × Nat) : Sp × Nat := if (at_ p x.1.pc).op = 15 then (nx p x.1 (ch.getD x.2 false), x.2 + 1) else (nx p x.1 false, x.2)
def wk (p : List Ins) (ch : List Bool) : Nat → Sp × Nat
 | 0 => (Sp0, 0)
 | i + 1 => wkN p ch (wk p ch i)
def pcs (p : List Ins) (ch : List Bool) (n : Nat) : List Int := (List.range n).map fun i => ((wk p ch i).1.pc : Int)
theorem pcs_succ (p : List Ins) (ch : List Bool) (n : Nat) : pcs p ch (n + 1) = pcs p ch n ++ [((wk p ch n).1.pc : Int)] := by
 unfold pcs
 rw [List.range_succ, List.map_append]
 rfl
/-- nobody of the first ones is a Done -/
def NoD (p : List Ins) (ch : List Bool) (n : Nat) : Prop := ∀ i, i < n → ¬ (at_ p (wk p ch i).1.pc).op = 21
theorem NoD.succ {p : List Ins} {ch : List Bool} {n : Nat} (h : NoD p ch n) (h1 : ¬ (at_ p (wk p ch n).1.pc).op = 21) : NoD p ch (n + 1) := fun i hi => by
 rcases Nat.lt_or_ge i n with h2 | h2
 ·exact h i h2
 ·have : i = n := by omega
  subst this; exact h1
section
variable {p : List Ins} {right : Ins → Bool} (hF : Fine right p) (hn : ∀ j, j < p.length → 0 ≤ (at_ p j).n)
include hF hn
theorem good_nx (hC : ∀ j, j < (loopsL p).length → 0 ≤ (at_ p (lp (loopsL p) j).2.toNat).c) {s : Sp} (hg : Good p s) (h21 : ¬ (at_ p s.pc).op = 21) (j : Bool) : Good p (nx p s j) :=
 (V_step hF hn (S := srB _ bt_gt) (h := hW []) (oW_G bt_gt hF hn []) hC hg h21).2 j
theorem good_wk (hC : ∀ j, j < (loopsL p).length → 0 ≤ (at_ p (lp (loopsL p) j).2.toNat).c) (ch : List Bool) {n : Nat} (h : NoD p ch n) : Good p (wk p ch n).1 := by
 induction n with
 | zero => exact good_start hF hn hC
 | succ n ih =>
  have hg := ih fun i hi => h i (by omega)
  rw [wk, wkN]
  split
  ·exact good_nx hF hn hC hg (h n (by omega)) _
  ·exact good_nx hF hn hC hg (h n (by omega)) _
end
end Go.Proofs.YthhbhbfkbncegaaGreatDoor.Wk
end
section
set_option linter.unusedSimpArgs false
set_option linter.unusedVariables false
set_option linter.unusedSectionVars false
namespace Go.Proofs.YthhbhbfkbncegaaGreatDoor.Wk
open Fp (Ins at_ Fine check loopsL hasB nextL lp has_iff)
open Cs (Ok clI adI bestI bothI weighW btG ok_cl)

/-- what places weigh, one behind the other -/
def sumL (w : List Int) (l : List Int) : Int := l.foldl (fun s k => adI s (w.getD k.toNat 0)) 0
theorem sumL_snoc (w l : List Int) (k : Int) : sumL w (l ++ [k]) = adI (sumL w l) (w.getD k.toNat 0) := by unfold sumL; rw [List.foldl_append]; rfl
theorem sumL_in (w l : List Int) : 0 ≤ sumL w l ∧ sumL w l ≤ 1099511627776 := by
 unfold sumL
 have : ∀ (l : List Int) (s : Int), 0 ≤ s ∧ s ≤ 1099511627776 → 0 ≤ l.foldl (fun s k => adI s (w.getD k.toNat 0)) s ∧ l.foldl (fun s k => adI s (w.getD k.toNat 0)) s ≤ 1099511627776 := by
  intro l
  induction l with
  | nil => intro s h; exact h
  | cons k l ih => intro s h; exact ih _ (by show 0 ≤ adI s _ ∧ adI s _ ≤ _; unfold adI; omega)
 exact this l 0 (by omega)
theorem sum_next (p : List Ins) (w : List Int) (ch : List Bool) (n : Nat) : sumL w (pcs p ch (n + 1)) = adI (sumL w (pcs p ch n)) (w.getD (wk p ch n).1.pc 0) := by
 rw [pcs_succ, sumL_snoc]
 rfl
section
variable {p : List Ins} {right : Ins → Bool} (hF : Fine right p) (hn : ∀ j, j < p.length → 0 ≤ (at_ p j).n) (hC : ∀ j, j < (loopsL p).length → 0 ≤ (at_ p (lp (loopsL p) j).2.toNat).c)
include hF hn hC
/-- one step: what is to come is what lies here and the best of what comes behind -/
theorem VB_step {bt : Int → Int → Bool} (hb : Bt bt) (w : List Int) {s : Sp} (hg : Good p s) (h21 : ¬ (at_ p s.pc).op = 21) :
 (V (srB bt hb) p (hW w) (oW bt p w) s).1 = bothI (clI (w.getD s.pc 0)) (if Jmp p s.pc then bestI bt (V (srB bt hb) p (hW w) (oW bt p w) (nx p s false)).1 (V (srB bt hb) p (hW w) (oW bt p w) (nx p s true)).1 else (V (srB bt hb) p (hW w) (oW bt p w) (nx p s false)).1) := by
 rw [(V_step hF hn (oW_G hb hF hn w) hC hg h21).1]
 show bothI _ _ = bothI _ _
 congr 1
 split <;> rfl
theorem VB_done {bt : Int → Int → Bool} (hb : Bt bt) (w : List Int) {s : Sp} (hg : Good p s) (h21 : (at_ p s.pc).op = 21) : (V (srB bt hb) p (hW w) (oW bt p w) s).1 = clI (w.getD s.pc 0) := by
 rw [V_done hF hn (oW_G hb hF hn w) hC hg h21]
 rfl
theorem VG_next (w : List Int) {s : Sp} (hg : Good p s) (h21 : ¬ (at_ p s.pc).op = 21) (j : Bool) :
 min (clI (w.getD s.pc 0) + (V (srB btG bt_gt) p (hW w) (oW btG p w) (nx p s j)).1) 1099511627776 ≤ (V (srB btG bt_gt) p (hW w) (oW btG p w) s).1 := by
 rw [VB_step hF hn hC bt_gt w hg h21]
 have h0 := V_pos bt_gt hF hn w (good_nx hF hn hC hg h21 false)
 have h1 := V_pos bt_gt hF hn w (good_nx hF hn hC hg h21 true)
 by_cases hj : Jmp p s.pc
 ·rw [if_pos hj, bt_max _ _ (.inr h0) (.inr h1)]
  cases j <;> (unfold bothI adI clI; split <;> omega)
 ·rw [if_neg hj]
  rw [nx_one hF hn hg.pc hj j]
  unfold bothI adI clI
  split <;> omega
theorem V_here {bt : Int → Int → Bool} (hb : Bt bt) (w : List Int) {s : Sp} (hg : Good p s) : clI (w.getD s.pc 0) ≤ (V (srB bt hb) p (hW w) (oW bt p w) s).1 := by
 by_cases h21 : (at_ p s.pc).op = 21
 ·rw [VB_done hF hn hC hb w hg h21]; exact Int.le_refl _
 ·have h0 := V_pos hb hF hn w hg
  rw [VB_step hF hn hC hb w hg h21] at h0 ⊢
  generalize (if Jmp p s.pc then _ else _) = x at *
  unfold bothI adI clI at *
  split <;> rename_i h
  ·rw [if_pos h] at h0; omega
  ·rw [if_neg h] at h0; omega
theorem max_pre (w : List Int) (ch : List Bool) {n : Nat} (h : NoD p ch n) : min (sumL w (pcs p ch n) + (V (srB btG bt_gt) p (hW w) (oW btG p w) (wk p ch n).1).1) 1099511627776 ≤ weighW btG p w := by
 rw [weigh_V bt_gt hF hn hC w]
 induction n with
 | zero =>
  have h0 := V_pos bt_gt hF hn w (good_start hF hn hC)
  show min (sumL w [] + _) _ ≤ _
  show min (0 + (V (srB btG bt_gt) p (hW w) (oW btG p w) Sp0).1) _ ≤ _
  omega
 | succ n ih =>
  have hN : NoD p ch n := fun i hi => h i (by omega)
  have h1 := ih hN
  have hg := good_wk hF hn hC ch hN
  have h2 : ∃ j, (wk p ch (n + 1)).1 = nx p (wk p ch n).1 j := by
   rw [wk, wkN]
   split
   ·exact ⟨_, rfl⟩
   ·exact ⟨_, rfl⟩
  obtain ⟨j, h2⟩ := h2
  have h3 := VG_next hF hn hC w hg (h n (by omega)) j
  rw [← h2] at h3
  rw [sum_next]
  have h4 := sumL_in w (pcs p ch n)
  have h5 := V_pos bt_gt hF hn w (good_wk hF hn hC ch h)
  unfold adI
  unfold clI at h3
  omega
/-- no walk, nor any beginning of one, weighs more than the dearest -/
theorem max_walk (w : List Int) (ch : List Bool) {n : Nat} (h : NoD p ch (n - 1)) : sumL w (pcs p ch n) ≤ weighW btG p w := by
 cases n with
 | zero =>
  have h1 := max_pre hF hn hC w ch (n := 0) (fun i hi => by omega)
  have h0 := V_pos bt_gt hF hn w (good_wk hF hn hC ch (n := 0) (fun i hi => by omega))
  have h2 := sumL_in w (pcs p ch 0)
  omega
 | succ n =>
  have hN : NoD p ch n := h
  have h1 := max_pre hF hn hC w ch hN
  have h3 := V_here hF hn hC bt_gt w (good_wk hF hn hC ch hN)
  rw [sum_next]
  have h4 := sumL_in w (pcs p ch n)
  unfold adI
  unfold clI at h3
  omega
end
end Go.Proofs.YthhbhbfkbncegaaGreatDoor.Wk
end
end
end
end
