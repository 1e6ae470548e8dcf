/-
 Layer 33: a system (api.System) in memory, with all its programs, readers and records, and one that came in.
-/
import Derived.Test.YthhbhbfkbncegaaGreatDoorFlat
import Derived.ProofKit
import Derived.Test.YthhbhbfkbncegaaGreatDoorRows
import Derived.Test.YthhbhbfkbncegaaGreatDoorWords
import Derived.OpenShut
section
set_option linter.unusedSimpArgs false
set_option linter.unusedVariables false
namespace Go.Proofs.YthhbhbfkbncegaaGreatDoor.On
open Go.RowKit Go.ChangeShapes Go.WideShapes Ws Fl

/-- the type of the whole number, or slice, that stands at a place of a type -/
def leafAt (P : Program) : Nat → TypeId → Nat → Option TypeId
 | 0, _, _ => none
 | n + 1, t, i =>
  match P.underlying t with
  | some (.int _) => if i = 0 then some t else none
  | some (.slice _) => if i = 0 then some t else none
  | some (.struct fs) =>
   ((List.range fs.size).filterMap fun j =>
    match fs[j]? with
    | some f => if f.offset ≤ i ∧ i < f.offset + P.cellsOf f.type then leafAt P n f.type (i - f.offset) else none
    | none => none).head?
  | _ => none

section
variable {H : Type} {enc : TypeId × Value → H} {P : Program} {w : World} {base : Nat} {sp : Nat → Bool} {held : Bool}

theorem leaf_at : ∀ (n fuel : Nat) (t : TypeId) (cs : List Value) (x : DataW H × List MemPlace) (i : Nat) (u : TypeId),
 DataW.trod enc P w base sp held fuel t cs = some x → leafAt P n t i = some u → ∃ v m y, cs[i]? = some v ∧ DataW.trod enc P w base sp held m u [v] = some y := by
 intro n
 induction n with
 | zero => intro fuel t cs x i u _ h; simp [leafAt] at h
 | succ n ih =>
  intro fuel t cs x i u ht h
  unfold leafAt at h
  split at h
  ·rename_i k' hu
   obtain ⟨z', rfl, _, hw⟩ := DataW.trod_int hu ht
   split at h
   ·rename_i hc
    subst hc
    injection h with h
    subst h
    exact ⟨_, fuel, x, rfl, ht⟩
   ·cases h
  ·rename_i e hu
   split at h
   ·rename_i hc
    subst hc
    injection h with h
    subst h
    rcases DataW.trod_slice hu ht with ⟨hcs, _⟩ | ⟨a, l, c, elems, rest, m, _, hcs, _⟩
    ·subst hcs
     exact ⟨_, fuel, x, rfl, ht⟩
    ·subst hcs
     exact ⟨_, fuel, x, rfl, ht⟩
   ·cases h
  ·rename_i fs hu
   obtain ⟨xs, m, rfl, hx, hl, hxl, hall⟩ := DataW.trod_struct hu ht
   obtain ⟨j, _, hj⟩ := List.mem_filterMap.1 (List.mem_of_mem_head? (Option.mem_def.2 h))
   split at hj
   ·rename_i f hf
    split at hj
    ·rename_i hb
     have hi := hall j f hf
     have hjl : j < xs.length := by
      rw [hxl]
      rcases Nat.lt_or_ge j fs.size with hlt | hge
      ·exact hlt
      ·rw [Array.getElem?_eq_none hge] at hf
       cases hf
     rw [List.getElem?_eq_getElem hjl] at hi
     obtain ⟨z, m', y, hz, hw⟩ := ih m f.type _ _ _ u hi hj
     exact ⟨z, m', y, Fl.part hb.1 hb.2 hz, hw⟩
    ·cases hj
   ·cases hj
  ·cases h

/-- at a place of a struct stands a whole number -/
theorem int_leaf {n fuel : Nat} {t u : TypeId} {cs : List Value} {x : DataW H × List MemPlace} {i : Nat} {k : IntKind} (h : DataW.trod enc P w base sp held fuel t cs = some x) (hl : leafAt P n t i = some u) (hu : P.underlying u = some (.int k)) :
 ∃ z, cs[i]? = some (.int k z) ∧ (Lit.int k z).wf = true := by
 obtain ⟨v, m, y, hv, hy⟩ := leaf_at n fuel t cs x i u h hl
 obtain ⟨z, hz, _, hw⟩ := DataW.trod_int hu hy
 injection hz with hz
 subst hz
 exact ⟨z, hv, hw⟩
/-- at a place of a struct stands a slice -/
theorem slice_leaf {n fuel : Nat} {t u e : TypeId} {cs : List Value} {x : DataW H × List MemPlace} {i : Nat} (h : DataW.trod enc P w base sp held fuel t cs = some x) (hl : leafAt P n t i = some u) (hu : P.underlying u = some (.slice e)) :
 ∃ A len cap d p, cs[i]? = some (.slice A len cap) ∧ DataW.Trod enc P w base sp held u (.slice A len cap) d p := by
 obtain ⟨v, m, y, hv, hy⟩ := leaf_at n fuel t cs x i u h hl
 rcases DataW.trod_slice hu hy with ⟨hcs, _⟩ | ⟨a, l, c, elems, rest, m', _, hcs, _⟩
 ·injection hcs with hcs
  subst hcs
  exact ⟨_, _, _, y.1, y.2, hv, m, by simpa [Value.cells] using hy⟩
 ·injection hcs with hcs
  subst hcs
  exact ⟨_, _, _, y.1, y.2, hv, m, by simpa [Value.cells] using hy⟩
end

end Go.Proofs.YthhbhbfkbncegaaGreatDoor.On
end
section
section
set_option linter.unusedVariables false
set_option linter.unusedSimpArgs false
namespace Go.Proofs.YthhbhbfkbncegaaGreatDoor.Im

structure Ins where
 op : Int
 a : Int
 b : Int
 c : Int
 n : Int
structure PT where
 kind : Int
 prio : Int
 per : Int
 off : Int
 dl : Int
 own : Int
 code : List Ins
structure PO where
 k : Int
 wd : Int
 sl : Int
 cp : Int
 sa : Int
 ow : Int
 rd : List Int
 ini : List Int
structure PS where
 ts : List PT
 os : List PO
def lo (x : Int) (n : Nat) : List Int := (List.range n).map fun j => x / 2 ^ (8 * j) % 256
/-- a number, and as how many bytes it is laid -/
abbrev Item := Int × Nat
def sm (l : List Int) : List Item := l.map fun x => (x, 1)
/-- the bytes that were laid; bad: from there on none -/
structure St where
 bs : List Int
 bad : Bool
def hd : List Int := [67, 88, 1]
/-! ### how they are read -/
def nu : List Int → Int
 | [] => 0
 | x :: l => x + 256 * nu l
/-- where one reads of these bytes; bad: they ended ahead -/
structure Rs where
 k : Nat
 bad : Bool
def aft (l : List Int) (n : Nat) (r : Rs) : Rs := if r.bad = false ∧ r.k + n ≤ l.length then ⟨r.k + n, false⟩ else ⟨r.k, true⟩
def tld (l : List Int) (n : Nat) (r : Rs) : Int := if r.bad = false ∧ r.k + n ≤ l.length then nu ((l.drop r.k).take n) else 0
/-- a reader of parts: what it tells, and where it stands behind it -/
abbrev Rdr (α : Type) := Rs → α × Rs
def rU (l : List Int) (n : Nat) : Rdr Int := fun r => (tld l n r, aft l n r)
def rL {α : Type} (f : Rdr α) : Nat → Rdr (List α)
 | 0, r => ([], r)
 | n + 1, r => let p := rL f n r; (p.1 ++ [(f p.2).1], (f p.2).2)
def rI (l : List Int) : Rdr Ins := fun r =>
 let a := rU l 1 r
 let b := rU l 1 a.2
 let c := rU l 1 b.2
 let d := rU l 1 c.2
 let e := rU l 4 d.2
 (⟨a.1, b.1, c.1, d.1, e.1⟩, e.2)
def rT (l : List Int) : Rdr PT := fun r =>
 let a := rU l 1 r
 let b := rU l 1 a.2
 let c := rU l 4 b.2
 let d := rU l 4 c.2
 let e := rU l 4 d.2
 let f := rU l 1 e.2
 let n := rU l 1 f.2
 let g := rL (rI l) n.1.toNat n.2
 (⟨a.1, b.1, c.1, d.1, e.1, f.1, g.1⟩, g.2)
def rO (l : List Int) : Rdr PO := fun r =>
 let a := rU l 1 r
 let b := rU l 1 a.2
 let c := rU l 1 b.2
 let d := rU l 1 c.2
 let e := rU l 4 d.2
 let f := rU l 1 e.2
 let n := rU l 1 f.2
 let g := rL (rU l 1) n.1.toNat n.2
 let m := rU l 1 g.2
 let h := rL (rU l 4) m.1.toNat m.2
 (⟨a.1, b.1, c.1, d.1, e.1, f.1, g.1, h.1⟩, h.2)
def rS (l : List Int) : Rdr PS := fun r =>
 let n := rU l 1 r
 let m := rU l 1 n.2
 let a := rL (rT l) n.1.toNat m.2
 let b := rL (rO l) m.1.toNat a.2
 (⟨a.1, b.1⟩, b.2)
end Go.Proofs.YthhbhbfkbncegaaGreatDoor.Im
end
section
set_option linter.unusedVariables false
set_option linter.unusedSimpArgs false
namespace Go.Proofs.YthhbhbfkbncegaaGreatDoor.Im
open Go.ChangeShapes Go.WideShapes Go.ChangeAt Go.RowKit Ws

def icells (x : Ins) : List Value := [.int .i64 x.op, .int .i64 x.a, .int .i64 x.b, .int .i64 x.c, .int .u32 x.n]
/-- the slice at A holds these instructions, one behind the other -/
def Code (w : World) (A : Option Addr) (l : List Ins) : Prop :=
 ∀ i x, l[i]? = some x → (0 ≤ x.n ∧ x.n < 4294967296) ∧ ∃ b o, A = some ⟨b, o, none⟩ ∧ ∀ j v, (icells x)[j]? = some v → w.cell? ⟨b, o + i * 5 + j, none⟩ = some v
theorem Code.chg {S : Nat → Prop} {w w' : World} {A : Option Addr} {l : List Ins} (h : Code w A l) (hs : Chg S w w') (hn : ∀ b o, A = some ⟨b, o, none⟩ → ¬ S b) : Code w' A l := by
 intro i x hx
 obtain ⟨h1, b, o, h2, h3⟩ := h i x hx
 exact ⟨h1, b, o, h2, fun j v hv => hs.cell (h3 j v hv) (hn b o h2)⟩
theorem Code.same {w w' : World} {A : Option Addr} {l : List Ins} (h : Code w A l) (hs : Same w w') : Code w' A l := h.chg hs fun _ _ _ f => f
theorem Code.at_ {w : World} {A : Option Addr} {l : List Ins} (h : Code w A l) {k : Nat} {x : Ins} (hk : l[k]? = some x) :
 (0 ≤ x.n ∧ x.n < 4294967296) ∧ ∃ b o, A = some ⟨b, o, none⟩ ∧ w.cell? ⟨b, o + k * 5, none⟩ = some (.int .i64 x.op) ∧ w.cell? ⟨b, o + k * 5 + 1, none⟩ = some (.int .i64 x.a) ∧ w.cell? ⟨b, o + k * 5 + 2, none⟩ = some (.int .i64 x.b) ∧ w.cell? ⟨b, o + k * 5 + 3, none⟩ = some (.int .i64 x.c) ∧ w.cell? ⟨b, o + k * 5 + 4, none⟩ = some (.int .u32 x.n) := by
 obtain ⟨h1, b, o, h2, h3⟩ := h k x hk
 exact ⟨h1, b, o, h2, h3 0 _ rfl, h3 1 _ rfl, h3 2 _ rfl, h3 3 _ rfl, h3 4 _ rfl⟩
theorem code_in {w : World} {A : Option Addr} {rows : List (List Int)} (h : Fl.Rows w A [.i64, .i64, .i64, .i64, .u32] rows) : ∃ l : List Ins, l.length = rows.length ∧ Code w A l := by
 refine ⟨rows.map fun r => ⟨r.getD 0 0, r.getD 1 0, r.getD 2 0, r.getD 3 0, r.getD 4 0⟩, by simp, ?_⟩
 intro i x hx
 rw [List.getElem?_map] at hx
 cases hr : rows[i]? with
 | none => rw [hr] at hx; cases hx
 | some r =>
  rw [hr] at hx
  injection hx with hx
  obtain ⟨hf, b, o, hA, hc⟩ := h i r hr
  obtain ⟨hl, hw⟩ := hf
  match r, hl with
  | [op, a, bb, c, n], _ =>
   subst hx
   exact ⟨Fl.u32_bd (hw 4 .u32 rfl), b, o, hA, fun j v hv => hc j v hv⟩

/-- a task's cells, its program standing at A -/
def tcells (t : PT) (A : Option Addr) (c : Nat) : List Value := [.int .i64 t.kind, .int .i64 t.prio, .int .i64 t.per, .int .i64 t.off, .int .i64 t.dl, .int .i64 t.own, .slice A t.code.length c]
/-- an object's cells, its record standing at A, its readers at B -/
def ocells (o : PO) (A : Option Addr) (c : Nat) (B : Option Addr) (d : Nat) : List Value := [.int .i64 o.k, .int .i64 o.wd, .int .i64 o.sl, .int .i64 o.cp, .int .u32 o.sa, .slice A o.ini.length c, .int .i64 o.ow, .slice B o.rd.length d]
def TsAt (w : World) (A : Option Addr) (l : List PT) : Prop :=
 ∀ i p, l[i]? = some p → ∃ b o, A = some ⟨b, o, none⟩ ∧ ∃ X c, (∀ j v, (tcells p X c)[j]? = some v → w.cell? ⟨b, o + i * 7 + j, none⟩ = some v) ∧ Code w X p.code ∧ p.code.length ≤ maxLen
def OsAt (w : World) (A : Option Addr) (l : List PO) : Prop :=
 ∀ i p, l[i]? = some p → ∃ b o, A = some ⟨b, o, none⟩ ∧ ∃ X c Y d, (∀ j v, (ocells p X c Y d)[j]? = some v → w.cell? ⟨b, o + i * 8 + j, none⟩ = some v) ∧ (0 ≤ p.sa ∧ p.sa < 4294967296) ∧ Row w X (p.ini.map (Value.int .u32)) ∧ (∀ y ∈ p.ini, 0 ≤ y ∧ y < 4294967296) ∧ Row w Y (p.rd.map (Value.int .i64)) ∧ p.ini.length ≤ maxLen ∧ p.rd.length ≤ maxLen
theorem TsAt.same {w w' : World} {A : Option Addr} {l : List PT} (h : TsAt w A l) (hs : Same w w') : TsAt w' A l := by
 intro i p hp
 obtain ⟨b, o, h1, X, c, h2, h3, h4⟩ := h i p hp
 exact ⟨b, o, h1, X, c, fun j v hv => hs.cell (h2 j v hv), h3.same hs, h4⟩
theorem OsAt.same {w w' : World} {A : Option Addr} {l : List PO} (h : OsAt w A l) (hs : Same w w') : OsAt w' A l := by
 intro i p hp
 obtain ⟨b, o, h1, X, c, Y, d, h2, h3, h4, h5, h6⟩ := h i p hp
 exact ⟨b, o, h1, X, c, Y, d, fun j v hv => hs.cell (h2 j v hv), h3, h4.same hs, h5, h6.1.same hs, h6.2⟩
theorem TsAt.at_ {w : World} {A : Option Addr} {l : List PT} (h : TsAt w A l) {k : Nat} {p : PT} (hk : l[k]? = some p) :
 ∃ b o, A = some ⟨b, o, none⟩ ∧ ∃ X c, w.cell? ⟨b, o + k * 7, none⟩ = some (.int .i64 p.kind) ∧ w.cell? ⟨b, o + k * 7 + 1, none⟩ = some (.int .i64 p.prio) ∧ w.cell? ⟨b, o + k * 7 + 2, none⟩ = some (.int .i64 p.per) ∧ w.cell? ⟨b, o + k * 7 + 3, none⟩ = some (.int .i64 p.off) ∧ w.cell? ⟨b, o + k * 7 + 4, none⟩ = some (.int .i64 p.dl) ∧ w.cell? ⟨b, o + k * 7 + 5, none⟩ = some (.int .i64 p.own) ∧ w.cell? ⟨b, o + k * 7 + 6, none⟩ = some (.slice X p.code.length c) ∧ Code w X p.code ∧ p.code.length ≤ maxLen := by
 obtain ⟨b, o, h1, X, c, h2, h3⟩ := h k p hk
 exact ⟨b, o, h1, X, c, h2 0 _ rfl, h2 1 _ rfl, h2 2 _ rfl, h2 3 _ rfl, h2 4 _ rfl, h2 5 _ rfl, h2 6 _ rfl, h3⟩
theorem OsAt.at_ {w : World} {A : Option Addr} {l : List PO} (h : OsAt w A l) {k : Nat} {p : PO} (hk : l[k]? = some p) :
 ∃ b o, A = some ⟨b, o, none⟩ ∧ ∃ X c Y d, w.cell? ⟨b, o + k * 8, none⟩ = some (.int .i64 p.k) ∧ w.cell? ⟨b, o + k * 8 + 1, none⟩ = some (.int .i64 p.wd) ∧ w.cell? ⟨b, o + k * 8 + 2, none⟩ = some (.int .i64 p.sl) ∧ w.cell? ⟨b, o + k * 8 + 3, none⟩ = some (.int .i64 p.cp) ∧ w.cell? ⟨b, o + k * 8 + 4, none⟩ = some (.int .u32 p.sa) ∧ w.cell? ⟨b, o + k * 8 + 5, none⟩ = some (.slice X p.ini.length c) ∧ w.cell? ⟨b, o + k * 8 + 6, none⟩ = some (.int .i64 p.ow) ∧ w.cell? ⟨b, o + k * 8 + 7, none⟩ = some (.slice Y p.rd.length d) ∧ (0 ≤ p.sa ∧ p.sa < 4294967296) ∧ Row w X (p.ini.map (Value.int .u32)) ∧ (∀ y ∈ p.ini, 0 ≤ y ∧ y < 4294967296) ∧ Row w Y (p.rd.map (Value.int .i64)) ∧ p.ini.length ≤ maxLen ∧ p.rd.length ≤ maxLen := by
 obtain ⟨b, o, h1, X, c, Y, d, h2, h3, h4, h5, h6⟩ := h k p hk
 exact ⟨b, o, h1, X, c, Y, d, h2 0 _ rfl, h2 1 _ rfl, h2 2 _ rfl, h2 3 _ rfl, h2 4 _ rfl, h2 5 _ rfl, h2 6 _ rfl, h2 7 _ rfl, h3, h4, h5, h6⟩
instance : Inhabited PT := ⟨⟨0, 0, 0, 0, 0, 0, []⟩⟩
instance : Inhabited PO := ⟨⟨0, 0, 0, 0, 0, 0, [], []⟩⟩
/-- a system's value stands for this system -/
structure SysAt (w : World) (A : Option Addr) (n : Nat) (B : Option Addr) (m : Nat) (s : PS) : Prop where
 hn : s.ts.length = n
 hm : s.os.length = m
 ht : TsAt w A s.ts
 ho : OsAt w B s.os
theorem SysAt.same {w w' : World} {A : Option Addr} {n : Nat} {B : Option Addr} {m : Nat} {s : PS} (h : SysAt w A n B m s) (hs : Same w w') : SysAt w' A n B m s := ⟨h.hn, h.hm, h.ht.same hs, h.ho.same hs⟩

section
variable {H : Type} {enc : TypeId × Value → H} {w : World} {base : Nat} {sp : Nat → Bool} {held : Bool}
end
end Go.Proofs.YthhbhbfkbncegaaGreatDoor.Im
end
end
