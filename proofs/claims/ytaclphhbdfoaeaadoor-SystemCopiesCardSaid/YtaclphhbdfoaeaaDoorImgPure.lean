/-
  Layer 33, plain: a system as numbers of one byte and of four, its bytes, how they are laid, and how they are read.
-/
import Derived.ProofKit
set_option linter.unusedVariables false
set_option linter.unusedSimpArgs false
namespace Go.Proofs.YtaclphhbdfoaeaaDoor.Im

structure Ins where
  op : Int
  a : Int
  b : Int
  c : Int
  n : Int
structure PT where
  kind : Int
  prio : Int
  per : Int
  off : Int
  dl : Int
  own : Int
  code : List Ins
structure PO where
  k : Int
  wd : Int
  sl : Int
  cp : Int
  sa : Int
  ow : Int
  rd : List Int
  ini : List Int
structure PS where
  ts : List PT
  os : List PO
def lo (x : Int) (n : Nat) : List Int := (List.range n).map fun j => x / 2 ^ (8 * j) % 256
theorem lo_len (x : Int) (n : Nat) : (lo x n).length = n := by simp [lo]
theorem lo_by (x : Int) (n : Nat) : ∀ y ∈ lo x n, 0 ≤ y ∧ y ≤ 255 := by
  intro y hy
  obtain ⟨j, _, rfl⟩ := List.mem_map.1 hy
  omega
/-- a number, and as how many bytes it is laid -/
abbrev Item := Int × Nat
def itI (i : Ins) : List Item := [(i.op, 1), (i.a, 1), (i.b, 1), (i.c, 1), (i.n, 4)]
def itT0 (t : PT) : List Item := [(t.kind, 1), (t.prio, 1), (t.per, 4), (t.off, 4), (t.dl, 4), (t.own, 1), (t.code.length, 1)]
def itT (t : PT) : List Item := itT0 t ++ t.code.flatMap itI
def itO0 (o : PO) : List Item := [(o.k, 1), (o.wd, 1), (o.sl, 1), (o.cp, 1), (o.sa, 4), (o.ow, 1), (o.rd.length, 1)]
def sm (l : List Int) : List Item := l.map fun x => (x, 1)
def lg (l : List Int) : List Item := l.map fun x => (x, 4)
def itO (o : PO) : List Item := itO0 o ++ (sm o.rd ++ ((((o.ini.length : Nat) : Int), 1) :: lg o.ini))
def itS (s : PS) : List Item := (((s.ts.length : Nat) : Int), 1) :: (((s.os.length : Nat) : Int), 1) :: (s.ts.flatMap itT ++ s.os.flatMap itO)
def enc (l : List Item) : List Int := l.flatMap fun p => lo p.1 p.2
def size (l : List Item) : Nat := (l.map (·.2)).sum
def fit (p : Item) : Bool := decide (0 ≤ p.1 ∧ p.1 < 256 ^ p.2)
theorem enc_app (a b : List Item) : enc (a ++ b) = enc a ++ enc b := by simp [enc]
theorem enc_len (l : List Item) : (enc l).length = size l := by
  induction l with
  | nil => rfl
  | cons p l ih =>
    have e : enc (p :: l) = lo p.1 p.2 ++ enc l := rfl
    rw [e, List.length_append, ih, lo_len]
    simp [size]
theorem size_app (a b : List Item) : size (a ++ b) = size a + size b := by simp [size]
theorem enc_by (l : List Item) : ∀ y ∈ enc l, 0 ≤ y ∧ y ≤ 255 := by
  intro y hy
  obtain ⟨p, _, hp⟩ := List.mem_flatMap.1 hy
  exact lo_by _ _ y hp

/-- the bytes that were laid; bad: from there on none -/
structure St where
  bs : List Int
  bad : Bool
def lay1 (s : St) (p : Item) : St := if s.bad = false ∧ fit p = true ∧ s.bs.length + p.2 + 2 ≤ 65536 then ⟨s.bs ++ lo p.1 p.2, false⟩ else ⟨s.bs, true⟩
def lay (s : St) (l : List Item) : St := l.foldl lay1 s
theorem lay_nil (s : St) : lay s [] = s := rfl
theorem lay_app (s : St) (a b : List Item) : lay s (a ++ b) = lay (lay s a) b := by simp [lay]
theorem lay_cons (s : St) (p : Item) (l : List Item) : lay s (p :: l) = lay (lay1 s p) l := rfl
theorem lay1_bad (bs : List Int) (p : Item) : lay1 ⟨bs, true⟩ p = ⟨bs, true⟩ := by simp [lay1]
theorem lay_bad (bs : List Int) (l : List Item) : lay ⟨bs, true⟩ l = ⟨bs, true⟩ := by
  induction l with
  | nil => rfl
  | cons p l ih => rw [lay_cons, lay1_bad, ih]
theorem lay_take {l : List Item} {k : Nat} {p : Item} (s : St) (h : l[k]? = some p) : lay s (l.take (k + 1)) = lay1 (lay s (l.take k)) p := by
  rw [List.take_add_one, h, lay_app]
  rfl
theorem lay1_len {s : St} (p : Item) (h : s.bs.length ≤ 65534) : (lay1 s p).bs.length ≤ 65534 := by
  unfold lay1
  split
  · next h2 => simp only [List.length_append, lo_len]; omega
  · exact h
theorem lay1_by {s : St} (p : Item) (h : ∀ y ∈ s.bs, 0 ≤ y ∧ y ≤ 255) : ∀ y ∈ (lay1 s p).bs, 0 ≤ y ∧ y ≤ 255 := by
  unfold lay1
  split
  · intro y hy
    rcases List.mem_append.1 hy with h3 | h3
    · exact h y h3
    · exact lo_by _ _ y h3
  · exact h
theorem lay_fit : ∀ (l : List Item) (bs : List Int), l.all fit = true → bs.length + size l ≤ 65534 → lay ⟨bs, false⟩ l = ⟨bs ++ enc l, false⟩
  | [], bs, _, _ => by simp [lay, enc]
  | p :: l, bs, hf, hs => by
    have hs2 : bs.length + (p.2 + size l) ≤ 65534 := by simpa [size] using hs
    rw [List.all_cons, Bool.and_eq_true] at hf
    have e : lay1 ⟨bs, false⟩ p = ⟨bs ++ lo p.1 p.2, false⟩ := by
      unfold lay1
      rw [if_pos ⟨rfl, hf.1, by simp only; omega⟩]
    rw [lay_cons, e, lay_fit l _ hf.2 (by rw [List.length_append, lo_len]; omega)]
    have e2 : enc (p :: l) = lo p.1 p.2 ++ enc l := rfl
    rw [e2, List.append_assoc]
theorem lay_unfit : ∀ (l : List Item) (bs : List Int), (l.all fit = false ∨ 65534 < bs.length + size l) → bs.length ≤ 65534 → (lay ⟨bs, false⟩ l).bad = true
  | [], bs, h, hb => by
    rcases h with h | h
    · simp at h
    · simp [size] at h; omega
  | p :: l, bs, h, hb => by
    rw [lay_cons]
    by_cases hp : fit p = true ∧ bs.length + p.2 + 2 ≤ 65536
    · have e : lay1 ⟨bs, false⟩ p = ⟨bs ++ lo p.1 p.2, false⟩ := by
        unfold lay1
        rw [if_pos ⟨rfl, hp.1, hp.2⟩]
      rw [e]
      refine lay_unfit l _ ?_ (by rw [List.length_append, lo_len]; omega)
      rcases h with h | h
      · refine .inl ?_
        rw [List.all_cons, hp.1] at h
        simpa using h
      · refine .inr ?_
        have h2 : 65534 < bs.length + (p.2 + size l) := by simpa [size] using h
        rw [List.length_append, lo_len]
        omega
    · have e : lay1 ⟨bs, false⟩ p = ⟨bs, true⟩ := by
        unfold lay1
        rw [if_neg (by intro h3; exact hp ⟨h3.2.1, h3.2.2⟩)]
      rw [e, lay_bad]
def hd : List Int := [67, 88, 1]
def body (s : PS) : List Int := hd ++ enc (itS s)
def sumB (l : List Int) : Int := l.sum % 65536
theorem body_len (s : PS) : (body s).length = 3 + size (itS s) := by unfold body; rw [List.length_append, enc_len]; rfl
theorem body_by (s : PS) : ∀ y ∈ body s, 0 ≤ y ∧ y ≤ 255 := by
  intro y hy
  rcases List.mem_append.1 hy with h | h
  · unfold hd at h
    simp at h
    omega
  · exact enc_by _ y h
def room (s : PS) : Bool := (itS s).all fit
/-- a system's image, if it has one -/
def img (s : PS) : Option (List Int) := if room s = true ∧ (body s).length + 2 ≤ 65536 then some (body s ++ lo (sumB (body s)) 2) else none
theorem img_lay (s : PS) : (lay ⟨hd, false⟩ (itS s) = ⟨body s, false⟩ ∧ room s = true ∧ (body s).length + 2 ≤ 65536 ∧ img s = some (body s ++ lo (sumB (body s)) 2)) ∨ ((lay ⟨hd, false⟩ (itS s)).bad = true ∧ img s = none) := by
  have hl := body_len s
  by_cases h : room s = true ∧ (body s).length + 2 ≤ 65536
  · refine .inl ⟨lay_fit _ _ h.1 (by have : hd.length = 3 := rfl; omega), h.1, h.2, ?_⟩
    unfold img
    rw [if_pos h]
  · refine .inr ⟨lay_unfit _ _ ?_ (by have : hd.length = 3 := rfl; omega), ?_⟩
    · by_cases hr : room s = true
      · have : hd.length = 3 := rfl
        refine .inr ?_
        have : ¬ (body s).length + 2 ≤ 65536 := fun h2 => h ⟨hr, h2⟩
        omega
      · exact .inl (by simpa [room] using hr)
    · unfold img
      rw [if_neg h]

/-! ### how they are read -/
def nu : List Int → Int
  | [] => 0
  | x :: l => x + 256 * nu l
/-- where one reads of these bytes; bad: they ended ahead -/
structure Rs where
  k : Nat
  bad : Bool
def aft (l : List Int) (n : Nat) (r : Rs) : Rs := if r.bad = false ∧ r.k + n ≤ l.length then ⟨r.k + n, false⟩ else ⟨r.k, true⟩
def tld (l : List Int) (n : Nat) (r : Rs) : Int := if r.bad = false ∧ r.k + n ≤ l.length then nu ((l.drop r.k).take n) else 0
/-- a reader of parts: what it tells, and where it stands behind it -/
abbrev Rdr (α : Type) := Rs → α × Rs
def rU (l : List Int) (n : Nat) : Rdr Int := fun r => (tld l n r, aft l n r)
def rL {α : Type} (f : Rdr α) : Nat → Rdr (List α)
  | 0, r => ([], r)
  | n + 1, r => let p := rL f n r; (p.1 ++ [(f p.2).1], (f p.2).2)
def rI (l : List Int) : Rdr Ins := fun r =>
  let a := rU l 1 r
  let b := rU l 1 a.2
  let c := rU l 1 b.2
  let d := rU l 1 c.2
  let e := rU l 4 d.2
  (⟨a.1, b.1, c.1, d.1, e.1⟩, e.2)
def rT (l : List Int) : Rdr PT := fun r =>
  let a := rU l 1 r
  let b := rU l 1 a.2
  let c := rU l 4 b.2
  let d := rU l 4 c.2
  let e := rU l 4 d.2
  let f := rU l 1 e.2
  let n := rU l 1 f.2
  let g := rL (rI l) n.1.toNat n.2
  (⟨a.1, b.1, c.1, d.1, e.1, f.1, g.1⟩, g.2)
def rO (l : List Int) : Rdr PO := fun r =>
  let a := rU l 1 r
  let b := rU l 1 a.2
  let c := rU l 1 b.2
  let d := rU l 1 c.2
  let e := rU l 4 d.2
  let f := rU l 1 e.2
  let n := rU l 1 f.2
  let g := rL (rU l 1) n.1.toNat n.2
  let m := rU l 1 g.2
  let h := rL (rU l 4) m.1.toNat m.2
  (⟨a.1, b.1, c.1, d.1, e.1, f.1, g.1, h.1⟩, h.2)
def rS (l : List Int) : Rdr PS := fun r =>
  let n := rU l 1 r
  let m := rU l 1 n.2
  let a := rL (rT l) n.1.toNat m.2
  let b := rL (rO l) m.1.toNat a.2
  (⟨a.1, b.1⟩, b.2)
/-- the system of these bytes, or where there is none, and why -/
def dec (l : List Int) : PS × Int × Int :=
  if 65536 < l.length then (⟨[], []⟩, 0, 6)
  else if 3 ≤ l.length ∧ l.take 3 ≠ hd then (⟨[], []⟩, 0, 4)
  else
    let s := rS l (aft l 3 ⟨0, false⟩)
    let z := rU l 2 s.2
    if z.2.bad = true then (⟨[], []⟩, l.length, 2)
    else if z.1 ≠ sumB (l.take s.2.k) then (⟨[], []⟩, s.2.k, 4)
    else if z.2.k < l.length then (⟨[], []⟩, s.2.k + 2, 3)
    else (s.1, 0, 0)
end Go.Proofs.YtaclphhbdfoaeaaDoor.Im
