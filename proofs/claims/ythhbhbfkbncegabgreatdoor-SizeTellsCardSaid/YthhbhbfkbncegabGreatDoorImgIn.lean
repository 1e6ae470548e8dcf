/-
  Layer 33: a system (api.System) in memory, with all its programs, readers and records, and one that came in.
-/
import Derived.ProofKit
import Derived.Test.YthhbhbfkbncegabGreatDoorFlat
import Derived.Test.YthhbhbfkbncegabGreatDoorRows
import Derived.Test.YthhbhbfkbncegabGreatDoorWords
import Derived.OpenShut
section
set_option linter.unusedVariables false
set_option linter.unusedSimpArgs false
namespace Go.Proofs.YthhbhbfkbncegabGreatDoor.Im

structure Ins where
  op : Int
  a : Int
  b : Int
  c : Int
  n : Int
structure PT where
  kind : Int
  prio : Int
  per : Int
  off : Int
  dl : Int
  own : Int
  code : List Ins
structure PO where
  k : Int
  wd : Int
  sl : Int
  cp : Int
  sa : Int
  ow : Int
  rd : List Int
  ini : List Int
structure PS where
  ts : List PT
  os : List PO
def lo (x : Int) (n : Nat) : List Int := (List.range n).map fun j => x / 2 ^ (8 * j) % 256
theorem lo_len (x : Int) (n : Nat) : (lo x n).length = n := by simp [lo]
theorem lo_by (x : Int) (n : Nat) : ∀ y ∈ lo x n, 0 ≤ y ∧ y ≤ 255 := by
  intro y hy
  obtain ⟨j, _, rfl⟩ := List.mem_map.1 hy
  omega
/-- a number, and as how many bytes it is laid -/
abbrev Item := Int × Nat
def itI (i : Ins) : List Item := [(i.op, 1), (i.a, 1), (i.b, 1), (i.c, 1), (i.n, 4)]
def itT0 (t : PT) : List Item := [(t.kind, 1), (t.prio, 1), (t.per, 4), (t.off, 4), (t.dl, 4), (t.own, 1), (t.code.length, 1)]
def itT (t : PT) : List Item := itT0 t ++ t.code.flatMap itI
def itO0 (o : PO) : List Item := [(o.k, 1), (o.wd, 1), (o.sl, 1), (o.cp, 1), (o.sa, 4), (o.ow, 1), (o.rd.length, 1)]
def sm (l : List Int) : List Item := l.map fun x => (x, 1)
def lg (l : List Int) : List Item := l.map fun x => (x, 4)
def itO (o : PO) : List Item := itO0 o ++ (sm o.rd ++ ((((o.ini.length : Nat) : Int), 1) :: lg o.ini))
def itS (s : PS) : List Item := (((s.ts.length : Nat) : Int), 1) :: (((s.os.length : Nat) : Int), 1) :: (s.ts.flatMap itT ++ s.os.flatMap itO)
def enc (l : List Item) : List Int := l.flatMap fun p => lo p.1 p.2
def size (l : List Item) : Nat := (l.map (·.2)).sum
def fit (p : Item) : Bool := decide (0 ≤ p.1 ∧ p.1 < 256 ^ p.2)
theorem enc_app (a b : List Item) : enc (a ++ b) = enc a ++ enc b := by simp [enc]
theorem enc_len (l : List Item) : (enc l).length = size l := by
  induction l with
  | nil => rfl
  | cons p l ih =>
    have e : enc (p :: l) = lo p.1 p.2 ++ enc l := rfl
    rw [e, List.length_append, ih, lo_len]
    simp [size]
theorem size_app (a b : List Item) : size (a ++ b) = size a + size b := by simp [size]
theorem enc_by (l : List Item) : ∀ y ∈ enc l, 0 ≤ y ∧ y ≤ 255 := by
  intro y hy
  obtain ⟨p, _, hp⟩ := List.mem_flatMap.1 hy
  exact lo_by _ _ y hp

/-- the bytes that were laid; bad: from there on none -/
structure St where
  bs : List Int
  bad : Bool
def lay1 (s : St) (p : Item) : St := if s.bad = false ∧ fit p = true ∧ s.bs.length + p.2 + 2 ≤ 65536 then ⟨s.bs ++ lo p.1 p.2, false⟩ else ⟨s.bs, true⟩
def lay (s : St) (l : List Item) : St := l.foldl lay1 s
theorem lay_nil (s : St) : lay s [] = s := rfl
theorem lay_app (s : St) (a b : List Item) : lay s (a ++ b) = lay (lay s a) b := by simp [lay]
theorem lay_cons (s : St) (p : Item) (l : List Item) : lay s (p :: l) = lay (lay1 s p) l := rfl
theorem lay1_bad (bs : List Int) (p : Item) : lay1 ⟨bs, true⟩ p = ⟨bs, true⟩ := by simp [lay1]
theorem lay_bad (bs : List Int) (l : List Item) : lay ⟨bs, true⟩ l = ⟨bs, true⟩ := by
  induction l with
  | nil => rfl
  | cons p l ih => rw [lay_cons, lay1_bad, ih]
theorem lay_take {l : List Item} {k : Nat} {p : Item} (s : St) (h : l[k]? = some p) : lay s (l.take (k + 1)) = lay1 (lay s (l.take k)) p := by
  rw [List.take_add_one, h, lay_app]
  rfl
theorem lay1_len {s : St} (p : Item) (h : s.bs.length ≤ 65534) : (lay1 s p).bs.length ≤ 65534 := by
  unfold lay1
  split
  · next h2 => simp only [List.length_append, lo_len]; omega
  · exact h
theorem lay1_by {s : St} (p : Item) (h : ∀ y ∈ s.bs, 0 ≤ y ∧ y ≤ 255) : ∀ y ∈ (lay1 s p).bs, 0 ≤ y ∧ y ≤ 255 := by
  unfold lay1
  split
  · intro y hy
    rcases List.mem_append.1 hy with h3 | h3
    · exact h y h3
    · exact lo_by _ _ y h3
  · exact h
theorem lay_fit : ∀ (l : List Item) (bs : List Int), l.all fit = true → bs.length + size l ≤ 65534 → lay ⟨bs, false⟩ l = ⟨bs ++ enc l, false⟩
  | [], bs, _, _ => by simp [lay, enc]
  | p :: l, bs, hf, hs => by
    have hs2 : bs.length + (p.2 + size l) ≤ 65534 := by simpa [size] using hs
    rw [List.all_cons, Bool.and_eq_true] at hf
    have e : lay1 ⟨bs, false⟩ p = ⟨bs ++ lo p.1 p.2, false⟩ := by
      unfold lay1
      rw [if_pos ⟨rfl, hf.1, by simp only; omega⟩]
    rw [lay_cons, e, lay_fit l _ hf.2 (by rw [List.length_append, lo_len]; omega)]
    have e2 : enc (p :: l) = lo p.1 p.2 ++ enc l := rfl
    rw [e2, List.append_assoc]
theorem lay_unfit : ∀ (l : List Item) (bs : List Int), (l.all fit = false ∨ 65534 < bs.length + size l) → bs.length ≤ 65534 → (lay ⟨bs, false⟩ l).bad = true
  | [], bs, h, hb => by
    rcases h with h | h
    · simp at h
    · simp [size] at h; omega
  | p :: l, bs, h, hb => by
    rw [lay_cons]
    by_cases hp : fit p = true ∧ bs.length + p.2 + 2 ≤ 65536
    · have e : lay1 ⟨bs, false⟩ p = ⟨bs ++ lo p.1 p.2, false⟩ := by
        unfold lay1
        rw [if_pos ⟨rfl, hp.1, hp.2⟩]
      rw [e]
      refine lay_unfit l _ ?_ (by rw [List.length_append, lo_len]; omega)
      rcases h with h | h
      · refine .inl ?_
        rw [List.all_cons, hp.1] at h
        simpa using h
      · refine .inr ?_
        have h2 : 65534 < bs.length + (p.2 + size l) := by simpa [size] using h
        rw [List.length_append, lo_len]
        omega
    · have e : lay1 ⟨bs, false⟩ p = ⟨bs, true⟩ := by
        unfold lay1
        rw [if_neg (by intro h3; exact hp ⟨h3.2.1, h3.2.2⟩)]
      rw [e, lay_bad]
def hd : List Int := [67, 88, 1]
def body (s : PS) : List Int := hd ++ enc (itS s)
def sumB (l : List Int) : Int := l.sum % 65536
theorem body_len (s : PS) : (body s).length = 3 + size (itS s) := by unfold body; rw [List.length_append, enc_len]; rfl
theorem body_by (s : PS) : ∀ y ∈ body s, 0 ≤ y ∧ y ≤ 255 := by
  intro y hy
  rcases List.mem_append.1 hy with h | h
  · unfold hd at h
    simp at h
    omega
  · exact enc_by _ y h
def room (s : PS) : Bool := (itS s).all fit
/-- a system's image, if it has one -/
def img (s : PS) : Option (List Int) := if room s = true ∧ (body s).length + 2 ≤ 65536 then some (body s ++ lo (sumB (body s)) 2) else none
theorem img_lay (s : PS) : (lay ⟨hd, false⟩ (itS s) = ⟨body s, false⟩ ∧ room s = true ∧ (body s).length + 2 ≤ 65536 ∧ img s = some (body s ++ lo (sumB (body s)) 2)) ∨ ((lay ⟨hd, false⟩ (itS s)).bad = true ∧ img s = none) := by
  have hl := body_len s
  by_cases h : room s = true ∧ (body s).length + 2 ≤ 65536
  · refine .inl ⟨lay_fit _ _ h.1 (by have : hd.length = 3 := rfl; omega), h.1, h.2, ?_⟩
    unfold img
    rw [if_pos h]
  · refine .inr ⟨lay_unfit _ _ ?_ (by have : hd.length = 3 := rfl; omega), ?_⟩
    · by_cases hr : room s = true
      · have : hd.length = 3 := rfl
        refine .inr ?_
        have : ¬ (body s).length + 2 ≤ 65536 := fun h2 => h ⟨hr, h2⟩
        omega
      · exact .inl (by simpa [room] using hr)
    · unfold img
      rw [if_neg h]

/-! ### how they are read -/
def nu : List Int → Int
  | [] => 0
  | x :: l => x + 256 * nu l
/-- where one reads of these bytes; bad: they ended ahead -/
structure Rs where
  k : Nat
  bad : Bool
def aft (l : List Int) (n : Nat) (r : Rs) : Rs := if r.bad = false ∧ r.k + n ≤ l.length then ⟨r.k + n, false⟩ else ⟨r.k, true⟩
def tld (l : List Int) (n : Nat) (r : Rs) : Int := if r.bad = false ∧ r.k + n ≤ l.length then nu ((l.drop r.k).take n) else 0
/-- a reader of parts: what it tells, and where it stands behind it -/
abbrev Rdr (α : Type) := Rs → α × Rs
def rU (l : List Int) (n : Nat) : Rdr Int := fun r => (tld l n r, aft l n r)
def rL {α : Type} (f : Rdr α) : Nat → Rdr (List α)
  | 0, r => ([], r)
  | n + 1, r => let p := rL f n r; (p.1 ++ [(f p.2).1], (f p.2).2)
def rI (l : List Int) : Rdr Ins := fun r =>
  let a := rU l 1 r
  let b := rU l 1 a.2
  let c := rU l 1 b.2
  let d := rU l 1 c.2
  let e := rU l 4 d.2
  (⟨a.1, b.1, c.1, d.1, e.1⟩, e.2)
def rT (l : List Int) : Rdr PT := fun r =>
  let a := rU l 1 r
  let b := rU l 1 a.2
  let c := rU l 4 b.2
  let d := rU l 4 c.2
  let e := rU l 4 d.2
  let f := rU l 1 e.2
  let n := rU l 1 f.2
  let g := rL (rI l) n.1.toNat n.2
  (⟨a.1, b.1, c.1, d.1, e.1, f.1, g.1⟩, g.2)
def rO (l : List Int) : Rdr PO := fun r =>
  let a := rU l 1 r
  let b := rU l 1 a.2
  let c := rU l 1 b.2
  let d := rU l 1 c.2
  let e := rU l 4 d.2
  let f := rU l 1 e.2
  let n := rU l 1 f.2
  let g := rL (rU l 1) n.1.toNat n.2
  let m := rU l 1 g.2
  let h := rL (rU l 4) m.1.toNat m.2
  (⟨a.1, b.1, c.1, d.1, e.1, f.1, g.1, h.1⟩, h.2)
def rS (l : List Int) : Rdr PS := fun r =>
  let n := rU l 1 r
  let m := rU l 1 n.2
  let a := rL (rT l) n.1.toNat m.2
  let b := rL (rO l) m.1.toNat a.2
  (⟨a.1, b.1⟩, b.2)
/-- the system of these bytes, or where there is none, and why -/
def dec (l : List Int) : PS × Int × Int :=
  if 65536 < l.length then (⟨[], []⟩, 0, 6)
  else if 3 ≤ l.length ∧ l.take 3 ≠ hd then (⟨[], []⟩, 0, 4)
  else
    let s := rS l (aft l 3 ⟨0, false⟩)
    let z := rU l 2 s.2
    if z.2.bad = true then (⟨[], []⟩, l.length, 2)
    else if z.1 ≠ sumB (l.take s.2.k) then (⟨[], []⟩, s.2.k, 4)
    else if z.2.k < l.length then (⟨[], []⟩, s.2.k + 2, 3)
    else (s.1, 0, 0)
end Go.Proofs.YthhbhbfkbncegabGreatDoor.Im
end
section
section
set_option linter.unusedSimpArgs false
set_option linter.unusedVariables false
namespace Go.Proofs.YthhbhbfkbncegabGreatDoor.On
open Go.RowKit Go.ChangeShapes Go.WideShapes Ws Fl

/-- the type of the whole number, or slice, that stands at a place of a type -/
def leafAt (P : Program) : Nat → TypeId → Nat → Option TypeId
  | 0, _, _ => none
  | n + 1, t, i =>
    match P.underlying t with
    | some (.int _) => if i = 0 then some t else none
    | some (.slice _) => if i = 0 then some t else none
    | some (.struct fs) =>
      ((List.range fs.size).filterMap fun j =>
        match fs[j]? with
        | some f => if f.offset ≤ i ∧ i < f.offset + P.cellsOf f.type then leafAt P n f.type (i - f.offset) else none
        | none => none).head?
    | _ => none

section
variable {H : Type} {enc : TypeId × Value → H} {P : Program} {w : World} {base : Nat} {sp : Nat → Bool} {held : Bool}

theorem leaf_at : ∀ (n fuel : Nat) (t : TypeId) (cs : List Value) (x : DataW H × List MemPlace) (i : Nat) (u : TypeId),
      DataW.trod enc P w base sp held fuel t cs = some x → leafAt P n t i = some u → ∃ v m y, cs[i]? = some v ∧ DataW.trod enc P w base sp held m u [v] = some y := by
  intro n
  induction n with
  | zero => intro fuel t cs x i u _ h; simp [leafAt] at h
  | succ n ih =>
    intro fuel t cs x i u ht h
    unfold leafAt at h
    split at h
    · rename_i k' hu
      obtain ⟨z', rfl, _, hw⟩ := DataW.trod_int hu ht
      split at h
      · rename_i hc
        subst hc
        injection h with h
        subst h
        exact ⟨_, fuel, x, rfl, ht⟩
      · cases h
    · rename_i e hu
      split at h
      · rename_i hc
        subst hc
        injection h with h
        subst h
        rcases DataW.trod_slice hu ht with ⟨hcs, _⟩ | ⟨a, l, c, elems, rest, m, _, hcs, _⟩
        · subst hcs
          exact ⟨_, fuel, x, rfl, ht⟩
        · subst hcs
          exact ⟨_, fuel, x, rfl, ht⟩
      · cases h
    · rename_i fs hu
      obtain ⟨xs, m, rfl, hx, hl, hxl, hall⟩ := DataW.trod_struct hu ht
      obtain ⟨j, _, hj⟩ := List.mem_filterMap.1 (List.mem_of_mem_head? (Option.mem_def.2 h))
      split at hj
      · rename_i f hf
        split at hj
        · rename_i hb
          have hi := hall j f hf
          have hjl : j < xs.length := by
            rw [hxl]
            rcases Nat.lt_or_ge j fs.size with hlt | hge
            · exact hlt
            · rw [Array.getElem?_eq_none hge] at hf
              cases hf
          rw [List.getElem?_eq_getElem hjl] at hi
          obtain ⟨z, m', y, hz, hw⟩ := ih m f.type _ _ _ u hi hj
          exact ⟨z, m', y, Fl.part hb.1 hb.2 hz, hw⟩
        · cases hj
      · cases hj
    · cases h

/-- at a place of a struct stands a whole number -/
theorem int_leaf {n fuel : Nat} {t u : TypeId} {cs : List Value} {x : DataW H × List MemPlace} {i : Nat} {k : IntKind} (h : DataW.trod enc P w base sp held fuel t cs = some x) (hl : leafAt P n t i = some u) (hu : P.underlying u = some (.int k)) :
    ∃ z, cs[i]? = some (.int k z) ∧ (Lit.int k z).wf = true := by
  obtain ⟨v, m, y, hv, hy⟩ := leaf_at n fuel t cs x i u h hl
  obtain ⟨z, hz, _, hw⟩ := DataW.trod_int hu hy
  injection hz with hz
  subst hz
  exact ⟨z, hv, hw⟩
/-- at a place of a struct stands a slice -/
theorem slice_leaf {n fuel : Nat} {t u e : TypeId} {cs : List Value} {x : DataW H × List MemPlace} {i : Nat} (h : DataW.trod enc P w base sp held fuel t cs = some x) (hl : leafAt P n t i = some u) (hu : P.underlying u = some (.slice e)) :
    ∃ A len cap d p, cs[i]? = some (.slice A len cap) ∧ DataW.Trod enc P w base sp held u (.slice A len cap) d p := by
  obtain ⟨v, m, y, hv, hy⟩ := leaf_at n fuel t cs x i u h hl
  rcases DataW.trod_slice hu hy with ⟨hcs, _⟩ | ⟨a, l, c, elems, rest, m', _, hcs, _⟩
  · injection hcs with hcs
    subst hcs
    exact ⟨_, _, _, y.1, y.2, hv, m, by simpa [Value.cells] using hy⟩
  · injection hcs with hcs
    subst hcs
    exact ⟨_, _, _, y.1, y.2, hv, m, by simpa [Value.cells] using hy⟩
end

end Go.Proofs.YthhbhbfkbncegabGreatDoor.On
end
section
set_option linter.unusedVariables false
set_option linter.unusedSimpArgs false
namespace Go.Proofs.YthhbhbfkbncegabGreatDoor.Im
open Go.ChangeShapes Go.WideShapes Go.ChangeAt Go.RowKit Ws

def icells (x : Ins) : List Value := [.int .i64 x.op, .int .i64 x.a, .int .i64 x.b, .int .i64 x.c, .int .u32 x.n]
/-- the slice at A holds these instructions, one behind the other -/
def Code (w : World) (A : Option Addr) (l : List Ins) : Prop :=
  ∀ i x, l[i]? = some x → (0 ≤ x.n ∧ x.n < 4294967296) ∧ ∃ b o, A = some ⟨b, o, none⟩ ∧ ∀ j v, (icells x)[j]? = some v → w.cell? ⟨b, o + i * 5 + j, none⟩ = some v
theorem Code.chg {S : Nat → Prop} {w w' : World} {A : Option Addr} {l : List Ins} (h : Code w A l) (hs : Chg S w w') (hn : ∀ b o, A = some ⟨b, o, none⟩ → ¬ S b) : Code w' A l := by
  intro i x hx
  obtain ⟨h1, b, o, h2, h3⟩ := h i x hx
  exact ⟨h1, b, o, h2, fun j v hv => hs.cell (h3 j v hv) (hn b o h2)⟩
theorem Code.same {w w' : World} {A : Option Addr} {l : List Ins} (h : Code w A l) (hs : Same w w') : Code w' A l := h.chg hs fun _ _ _ f => f
theorem Code.at_ {w : World} {A : Option Addr} {l : List Ins} (h : Code w A l) {k : Nat} {x : Ins} (hk : l[k]? = some x) :
    (0 ≤ x.n ∧ x.n < 4294967296) ∧ ∃ b o, A = some ⟨b, o, none⟩ ∧ w.cell? ⟨b, o + k * 5, none⟩ = some (.int .i64 x.op) ∧ w.cell? ⟨b, o + k * 5 + 1, none⟩ = some (.int .i64 x.a) ∧ w.cell? ⟨b, o + k * 5 + 2, none⟩ = some (.int .i64 x.b) ∧ w.cell? ⟨b, o + k * 5 + 3, none⟩ = some (.int .i64 x.c) ∧ w.cell? ⟨b, o + k * 5 + 4, none⟩ = some (.int .u32 x.n) := by
  obtain ⟨h1, b, o, h2, h3⟩ := h k x hk
  exact ⟨h1, b, o, h2, h3 0 _ rfl, h3 1 _ rfl, h3 2 _ rfl, h3 3 _ rfl, h3 4 _ rfl⟩
theorem code_in {w : World} {A : Option Addr} {rows : List (List Int)} (h : Fl.Rows w A [.i64, .i64, .i64, .i64, .u32] rows) : ∃ l : List Ins, l.length = rows.length ∧ Code w A l := by
  refine ⟨rows.map fun r => ⟨r.getD 0 0, r.getD 1 0, r.getD 2 0, r.getD 3 0, r.getD 4 0⟩, by simp, ?_⟩
  intro i x hx
  rw [List.getElem?_map] at hx
  cases hr : rows[i]? with
  | none => rw [hr] at hx; cases hx
  | some r =>
    rw [hr] at hx
    injection hx with hx
    obtain ⟨hf, b, o, hA, hc⟩ := h i r hr
    obtain ⟨hl, hw⟩ := hf
    match r, hl with
    | [op, a, bb, c, n], _ =>
      subst hx
      exact ⟨Fl.u32_bd (hw 4 .u32 rfl), b, o, hA, fun j v hv => hc j v hv⟩

/-- a task's cells, its program standing at A -/
def tcells (t : PT) (A : Option Addr) (c : Nat) : List Value := [.int .i64 t.kind, .int .i64 t.prio, .int .i64 t.per, .int .i64 t.off, .int .i64 t.dl, .int .i64 t.own, .slice A t.code.length c]
/-- an object's cells, its record standing at A, its readers at B -/
def ocells (o : PO) (A : Option Addr) (c : Nat) (B : Option Addr) (d : Nat) : List Value := [.int .i64 o.k, .int .i64 o.wd, .int .i64 o.sl, .int .i64 o.cp, .int .u32 o.sa, .slice A o.ini.length c, .int .i64 o.ow, .slice B o.rd.length d]
def TsAt (w : World) (A : Option Addr) (l : List PT) : Prop :=
  ∀ i p, l[i]? = some p → ∃ b o, A = some ⟨b, o, none⟩ ∧ ∃ X c, (∀ j v, (tcells p X c)[j]? = some v → w.cell? ⟨b, o + i * 7 + j, none⟩ = some v) ∧ Code w X p.code ∧ p.code.length ≤ maxLen
def OsAt (w : World) (A : Option Addr) (l : List PO) : Prop :=
  ∀ i p, l[i]? = some p → ∃ b o, A = some ⟨b, o, none⟩ ∧ ∃ X c Y d, (∀ j v, (ocells p X c Y d)[j]? = some v → w.cell? ⟨b, o + i * 8 + j, none⟩ = some v) ∧ (0 ≤ p.sa ∧ p.sa < 4294967296) ∧ Row w X (p.ini.map (Value.int .u32)) ∧ (∀ y ∈ p.ini, 0 ≤ y ∧ y < 4294967296) ∧ Row w Y (p.rd.map (Value.int .i64)) ∧ p.ini.length ≤ maxLen ∧ p.rd.length ≤ maxLen
theorem TsAt.same {w w' : World} {A : Option Addr} {l : List PT} (h : TsAt w A l) (hs : Same w w') : TsAt w' A l := by
  intro i p hp
  obtain ⟨b, o, h1, X, c, h2, h3, h4⟩ := h i p hp
  exact ⟨b, o, h1, X, c, fun j v hv => hs.cell (h2 j v hv), h3.same hs, h4⟩
theorem OsAt.same {w w' : World} {A : Option Addr} {l : List PO} (h : OsAt w A l) (hs : Same w w') : OsAt w' A l := by
  intro i p hp
  obtain ⟨b, o, h1, X, c, Y, d, h2, h3, h4, h5, h6⟩ := h i p hp
  exact ⟨b, o, h1, X, c, Y, d, fun j v hv => hs.cell (h2 j v hv), h3, h4.same hs, h5, h6.1.same hs, h6.2⟩
theorem TsAt.at_ {w : World} {A : Option Addr} {l : List PT} (h : TsAt w A l) {k : Nat} {p : PT} (hk : l[k]? = some p) :
    ∃ b o, A = some ⟨b, o, none⟩ ∧ ∃ X c, w.cell? ⟨b, o + k * 7, none⟩ = some (.int .i64 p.kind) ∧ w.cell? ⟨b, o + k * 7 + 1, none⟩ = some (.int .i64 p.prio) ∧ w.cell? ⟨b, o + k * 7 + 2, none⟩ = some (.int .i64 p.per) ∧ w.cell? ⟨b, o + k * 7 + 3, none⟩ = some (.int .i64 p.off) ∧ w.cell? ⟨b, o + k * 7 + 4, none⟩ = some (.int .i64 p.dl) ∧ w.cell? ⟨b, o + k * 7 + 5, none⟩ = some (.int .i64 p.own) ∧ w.cell? ⟨b, o + k * 7 + 6, none⟩ = some (.slice X p.code.length c) ∧ Code w X p.code ∧ p.code.length ≤ maxLen := by
  obtain ⟨b, o, h1, X, c, h2, h3⟩ := h k p hk
  exact ⟨b, o, h1, X, c, h2 0 _ rfl, h2 1 _ rfl, h2 2 _ rfl, h2 3 _ rfl, h2 4 _ rfl, h2 5 _ rfl, h2 6 _ rfl, h3⟩
theorem OsAt.at_ {w : World} {A : Option Addr} {l : List PO} (h : OsAt w A l) {k : Nat} {p : PO} (hk : l[k]? = some p) :
    ∃ b o, A = some ⟨b, o, none⟩ ∧ ∃ X c Y d, w.cell? ⟨b, o + k * 8, none⟩ = some (.int .i64 p.k) ∧ w.cell? ⟨b, o + k * 8 + 1, none⟩ = some (.int .i64 p.wd) ∧ w.cell? ⟨b, o + k * 8 + 2, none⟩ = some (.int .i64 p.sl) ∧ w.cell? ⟨b, o + k * 8 + 3, none⟩ = some (.int .i64 p.cp) ∧ w.cell? ⟨b, o + k * 8 + 4, none⟩ = some (.int .u32 p.sa) ∧ w.cell? ⟨b, o + k * 8 + 5, none⟩ = some (.slice X p.ini.length c) ∧ w.cell? ⟨b, o + k * 8 + 6, none⟩ = some (.int .i64 p.ow) ∧ w.cell? ⟨b, o + k * 8 + 7, none⟩ = some (.slice Y p.rd.length d) ∧ (0 ≤ p.sa ∧ p.sa < 4294967296) ∧ Row w X (p.ini.map (Value.int .u32)) ∧ (∀ y ∈ p.ini, 0 ≤ y ∧ y < 4294967296) ∧ Row w Y (p.rd.map (Value.int .i64)) ∧ p.ini.length ≤ maxLen ∧ p.rd.length ≤ maxLen := by
  obtain ⟨b, o, h1, X, c, Y, d, h2, h3, h4, h5, h6⟩ := h k p hk
  exact ⟨b, o, h1, X, c, Y, d, h2 0 _ rfl, h2 1 _ rfl, h2 2 _ rfl, h2 3 _ rfl, h2 4 _ rfl, h2 5 _ rfl, h2 6 _ rfl, h2 7 _ rfl, h3, h4, h5, h6⟩
instance : Inhabited PT := ⟨⟨0, 0, 0, 0, 0, 0, []⟩⟩
instance : Inhabited PO := ⟨⟨0, 0, 0, 0, 0, 0, [], []⟩⟩
/-- a system's value stands for this system -/
structure SysAt (w : World) (A : Option Addr) (n : Nat) (B : Option Addr) (m : Nat) (s : PS) : Prop where
  hn : s.ts.length = n
  hm : s.os.length = m
  ht : TsAt w A s.ts
  ho : OsAt w B s.os
theorem SysAt.same {w w' : World} {A : Option Addr} {n : Nat} {B : Option Addr} {m : Nat} {s : PS} (h : SysAt w A n B m s) (hs : Same w w') : SysAt w' A n B m s := ⟨h.hn, h.hm, h.ht.same hs, h.ho.same hs⟩

section
variable {H : Type} {enc : TypeId × Value → H} {w : World} {base : Nat} {sp : Nat → Bool} {held : Bool}
theorem task_cells {fuel : Nat} {cs : List Value} {x : DataW H × List MemPlace} (hl : cs.length = 7) (h : DataW.trod enc Tryz.prog w base sp held fuel 30 cs = some x) : ∃ (t : PT) (X : Option Addr) (c : Nat), cs = tcells t X c ∧ Code w X t.code ∧ t.code.length ≤ maxLen := by
  obtain ⟨z0, e0, w0⟩ := On.int_leaf (n := 6) (i := 0) (u := 3) h (by kernel_rfl) Tryz.underlying3
  obtain ⟨z1, e1, w1⟩ := On.int_leaf (n := 6) (i := 1) (u := 3) h (by kernel_rfl) Tryz.underlying3
  obtain ⟨z2, e2, w2⟩ := On.int_leaf (n := 6) (i := 2) (u := 3) h (by kernel_rfl) Tryz.underlying3
  obtain ⟨z3, e3, w3⟩ := On.int_leaf (n := 6) (i := 3) (u := 3) h (by kernel_rfl) Tryz.underlying3
  obtain ⟨z4, e4, w4⟩ := On.int_leaf (n := 6) (i := 4) (u := 3) h (by kernel_rfl) Tryz.underlying3
  obtain ⟨z5, e5, w5⟩ := On.int_leaf (n := 6) (i := 5) (u := 3) h (by kernel_rfl) Tryz.underlying3
  obtain ⟨A, len, cap, d, p, e6, w6⟩ := On.slice_leaf (n := 6) (i := 6) (u := 28) h (by kernel_rfl) Tryz.underlying28
  obtain ⟨rows, hr, hrl, hml⟩ := Fl.rows_of Tryz.underlying28 (show Fl.kinds Tryz.prog 6 49 = some [.i64, .i64, .i64, .i64, .u32] by kernel_rfl) (by decide) w6
  obtain ⟨code, hcl, hcode⟩ := code_in hr
  refine ⟨⟨z0, z1, z2, z3, z4, z5, code⟩, A, cap, ?_, hcode, (by show code.length ≤ maxLen; omega)⟩
  have hlen : code.length = len := by omega
  apply List.ext_getElem?
  intro i
  match i with
  | 0 => exact e0
  | 1 => exact e1
  | 2 => exact e2
  | 3 => exact e3
  | 4 => exact e4
  | 5 => exact e5
  | 6 => rw [e6]; simp [tcells, hlen]
  | n + 7 => rw [List.getElem?_eq_none (by omega), List.getElem?_eq_none (by simp [tcells])]
theorem tasks_in {A : Option Addr} {len cap : Nat} {d : DataW H} {p : List MemPlace} (h : DataW.Trod enc Tryz.prog w base sp held 22 (.slice A len cap) d p) :
    ∃ ts : List PT, ts.length = len ∧ TsAt w A ts ∧ len ≤ maxLen := by
  have hkl : Tryz.prog.cellsOf 30 = 7 := by kernel_rfl
  obtain ⟨fuel, hf⟩ := h
  rcases DataW.trod_slice Tryz.underlying22 hf with ⟨hcs, _⟩ | ⟨a, l, c, elems, rest, m, _, hcs, _, _, hl, hm, hel, hall, _, _⟩
  · simp [Value.cells] at hcs
    obtain ⟨rfl, rfl, rfl⟩ := hcs
    exact ⟨[], rfl, fun i r hr => by simp at hr, Nat.zero_le _⟩
  · simp [Value.cells] at hcs
    obtain ⟨rfl, rfl, rfl⟩ := hcs
    rw [hkl] at hall
    have hspot : ∀ {i : Nat}, i < len → a.spot = none := by
      intro i hi
      have hai := hall 0 (by omega)
      rw [List.getElem?_eq_getElem (by omega)] at hai
      obtain ⟨cs, hcs, hx⟩ := Option.bind_eq_some_iff.1 hai
      obtain ⟨hcl, hcc⟩ := Fl.cells_get hcs
      obtain ⟨v0, hv0⟩ : ∃ v, cs[0]? = some v := ⟨_, List.getElem?_eq_getElem (by rw [hcl]; omega)⟩
      have h0 := hcc 0 v0 hv0
      rw [Nat.zero_mul] at h0
      exact Fl.spot_zero (by simpa [Addr.add] using h0)
    have hch : ∀ i : Nat, ∃ p : PT, i < len → ∃ b o, some a = some (⟨b, o, none⟩ : Addr) ∧ ∃ X c, (∀ j v, (tcells p X c)[j]? = some v → w.cell? ⟨b, o + i * 7 + j, none⟩ = some v) ∧ Code w X p.code ∧ p.code.length ≤ maxLen := by
      intro i
      by_cases hi : i < len
      · have hai := hall i hi
        rw [List.getElem?_eq_getElem (by omega)] at hai
        obtain ⟨cs, hcs, hx⟩ := Option.bind_eq_some_iff.1 hai
        obtain ⟨hcl, hcc⟩ := Fl.cells_get hcs
        have hs := hspot hi
        obtain ⟨b, o, s⟩ := a
        cases hs
        obtain ⟨t, X, c, rfl, hcode⟩ := task_cells hcl hx
        refine ⟨t, fun _ => ⟨b, o, rfl, X, c, fun j v hv => ?_, hcode⟩⟩
        have := hcc j v hv
        rw [Fl.add_add _ _ _ rfl] at this
        exact this
      · exact ⟨default, fun h => absurd h hi⟩
    refine ⟨(List.range len).map fun i => Classical.choose (hch i), by simp, fun i r hr => ?_, by omega⟩
    have hlt : i < len := by
      rcases Nat.lt_or_ge i len with hlt | hge
      · exact hlt
      · rw [List.getElem?_eq_none (by simpa using hge)] at hr
        cases hr
    rw [List.getElem?_map, List.getElem?_range hlt] at hr
    injection hr with hr
    rw [← hr]
    exact Classical.choose_spec (hch i) hlt

theorem obj_cells {fuel : Nat} {cs : List Value} {x : DataW H × List MemPlace} (hl : cs.length = 8) (h : DataW.trod enc Tryz.prog w base sp held fuel 43 cs = some x) : ∃ (p : PO) (X : Option Addr) (c : Nat) (Y : Option Addr) (d : Nat), cs = ocells p X c Y d ∧ (0 ≤ p.sa ∧ p.sa < 4294967296) ∧ Row w X (p.ini.map (Value.int .u32)) ∧ (∀ y ∈ p.ini, 0 ≤ y ∧ y < 4294967296) ∧ Row w Y (p.rd.map (Value.int .i64)) ∧ p.ini.length ≤ maxLen ∧ p.rd.length ≤ maxLen := by
  obtain ⟨z0, e0, w0⟩ := On.int_leaf (n := 6) (i := 0) (u := 3) h (by kernel_rfl) Tryz.underlying3
  obtain ⟨z1, e1, w1⟩ := On.int_leaf (n := 6) (i := 1) (u := 3) h (by kernel_rfl) Tryz.underlying3
  obtain ⟨z2, e2, w2⟩ := On.int_leaf (n := 6) (i := 2) (u := 3) h (by kernel_rfl) Tryz.underlying3
  obtain ⟨z3, e3, w3⟩ := On.int_leaf (n := 6) (i := 3) (u := 3) h (by kernel_rfl) Tryz.underlying3
  obtain ⟨z4, e4, w4⟩ := On.int_leaf (n := 6) (i := 4) (u := 40) h (by kernel_rfl) Tryz.underlying40
  obtain ⟨A, il, ic, d5, p5, e5, t5⟩ := On.slice_leaf (n := 6) (i := 5) (u := 41) h (by kernel_rfl) Tryz.underlying41
  obtain ⟨z6, e6, w6⟩ := On.int_leaf (n := 6) (i := 6) (u := 3) h (by kernel_rfl) Tryz.underlying3
  obtain ⟨B, rl, rc, d7, p7, e7, t7⟩ := On.slice_leaf (n := 6) (i := 7) (u := 26) h (by kernel_rfl) Tryz.underlying26
  obtain ⟨ini, hil, hirow, hiwf, hi1, hi2⟩ := Fl.ints_of Tryz.underlying41 Tryz.underlying40 (by kernel_rfl) t5
  obtain ⟨rd, hrl, hrrow, _, hr1, hr2⟩ := Fl.ints_of Tryz.underlying26 Tryz.underlying3 (by kernel_rfl) t7
  refine ⟨⟨z0, z1, z2, z3, z4, z6, rd, ini⟩, A, ic, B, rc, ?_, Fl.u32_bd w4, hirow, fun y hy => Fl.u32_bd (hiwf y hy), hrrow, Nat.le_trans (Nat.le_of_eq hil) (Nat.le_trans hi1 hi2), Nat.le_trans (Nat.le_of_eq hrl) (Nat.le_trans hr1 hr2)⟩
  apply List.ext_getElem?
  intro i
  match i with
  | 0 => exact e0
  | 1 => exact e1
  | 2 => exact e2
  | 3 => exact e3
  | 4 => exact e4
  | 5 => rw [e5]; simp [ocells, hil]
  | 6 => exact e6
  | 7 => rw [e7]; simp [ocells, hrl]
  | n + 8 => rw [List.getElem?_eq_none (by omega), List.getElem?_eq_none (by simp [ocells])]
theorem objs_in {A : Option Addr} {len cap : Nat} {d : DataW H} {p : List MemPlace} (h : DataW.Trod enc Tryz.prog w base sp held 23 (.slice A len cap) d p) :
    ∃ ts : List PO, ts.length = len ∧ OsAt w A ts ∧ len ≤ maxLen := by
  have hkl : Tryz.prog.cellsOf 43 = 8 := by kernel_rfl
  obtain ⟨fuel, hf⟩ := h
  rcases DataW.trod_slice Tryz.underlying23 hf with ⟨hcs, _⟩ | ⟨a, l, c, elems, rest, m, _, hcs, _, _, hl, hm, hel, hall, _, _⟩
  · simp [Value.cells] at hcs
    obtain ⟨rfl, rfl, rfl⟩ := hcs
    exact ⟨[], rfl, fun i r hr => by simp at hr, Nat.zero_le _⟩
  · simp [Value.cells] at hcs
    obtain ⟨rfl, rfl, rfl⟩ := hcs
    rw [hkl] at hall
    have hspot : ∀ {i : Nat}, i < len → a.spot = none := by
      intro i hi
      have hai := hall 0 (by omega)
      rw [List.getElem?_eq_getElem (by omega)] at hai
      obtain ⟨cs, hcs, hx⟩ := Option.bind_eq_some_iff.1 hai
      obtain ⟨hcl, hcc⟩ := Fl.cells_get hcs
      obtain ⟨v0, hv0⟩ : ∃ v, cs[0]? = some v := ⟨_, List.getElem?_eq_getElem (by rw [hcl]; omega)⟩
      have h0 := hcc 0 v0 hv0
      rw [Nat.zero_mul] at h0
      exact Fl.spot_zero (by simpa [Addr.add] using h0)
    have hch : ∀ i : Nat, ∃ p : PO, i < len → ∃ b o, some a = some (⟨b, o, none⟩ : Addr) ∧ ∃ X c Y d, (∀ j v, (ocells p X c Y d)[j]? = some v → w.cell? ⟨b, o + i * 8 + j, none⟩ = some v) ∧ (0 ≤ p.sa ∧ p.sa < 4294967296) ∧ Row w X (p.ini.map (Value.int .u32)) ∧ (∀ y ∈ p.ini, 0 ≤ y ∧ y < 4294967296) ∧ Row w Y (p.rd.map (Value.int .i64)) ∧ p.ini.length ≤ maxLen ∧ p.rd.length ≤ maxLen := by
      intro i
      by_cases hi : i < len
      · have hai := hall i hi
        rw [List.getElem?_eq_getElem (by omega)] at hai
        obtain ⟨cs, hcs, hx⟩ := Option.bind_eq_some_iff.1 hai
        obtain ⟨hcl, hcc⟩ := Fl.cells_get hcs
        have hs := hspot hi
        obtain ⟨b, o, s⟩ := a
        cases hs
        obtain ⟨t, X, c, Y, d, rfl, h1, h2, h3, h4⟩ := obj_cells hcl hx
        refine ⟨t, fun _ => ⟨b, o, rfl, X, c, Y, d, fun j v hv => ?_, h1, h2, h3, h4⟩⟩
        have := hcc j v hv
        rw [Fl.add_add _ _ _ rfl] at this
        exact this
      · exact ⟨default, fun h => absurd h hi⟩
    refine ⟨(List.range len).map fun i => Classical.choose (hch i), by simp, fun i r hr => ?_, by omega⟩
    have hlt : i < len := by
      rcases Nat.lt_or_ge i len with hlt | hge
      · exact hlt
      · rw [List.getElem?_eq_none (by simpa using hge)] at hr
        cases hr
    rw [List.getElem?_map, List.getElem?_range hlt] at hr
    injection hr with hr
    rw [← hr]
    exact Classical.choose_spec (hch i) hlt

end
set_option maxRecDepth 100000 in
theorem system_in {H : Type} {enc : TypeId × Value → H} {w : World} {base : Nat} {sp : Nat → Bool} {held : Bool} {r : Reach} {b0 : Nat} {v : Value} {d : DataW H} {p : List MemPlace}
    (hv : Value.okWide Tryz.prog w r b0 25 v) (h : DataW.Trod enc Tryz.prog w base sp held 25 v d p) :
    ∃ (A B : Option Addr) (n c m d : Nat) (s : PS), v = .agg #[.slice A n c, .slice B m d] ∧ SysAt w A n B m s ∧ n ≤ maxLen ∧ m ≤ maxLen := by
  obtain ⟨cs, rfl, hsz⟩ := okWide_struct Tryz.underlying25 hv
  obtain ⟨fuel, hf⟩ := h
  have hc : (Value.agg cs).cells.toList = cs.toList := by simp [Value.cells]
  rw [hc] at hf
  obtain ⟨l⟩ := cs
  have h3 : l.length = 2 := by
    have := hsz.trans (show Tryz.prog.cellsOf 25 = 2 by kernel_rfl)
    simpa using this
  match l, h3 with
  | [c0, c1], _ =>
    obtain ⟨A, n, c, d0, p0, e0, t0⟩ := On.slice_leaf hf (show On.leafAt Tryz.prog 6 25 0 = some 22 by kernel_rfl) Tryz.underlying22
    obtain ⟨B, m, c', d1, p1, e1, t1⟩ := On.slice_leaf hf (show On.leafAt Tryz.prog 6 25 1 = some 23 by kernel_rfl) Tryz.underlying23
    simp at e0 e1
    subst e0 e1
    obtain ⟨ts, l0, w0, m0⟩ := tasks_in t0
    obtain ⟨os, l1, w1, m1⟩ := objs_in t1
    exact ⟨A, B, n, c, m, c', ⟨ts, os⟩, rfl, ⟨l0, l1, w0, w1⟩, m0, m1⟩
end Go.Proofs.YthhbhbfkbncegabGreatDoor.Im
end
end
