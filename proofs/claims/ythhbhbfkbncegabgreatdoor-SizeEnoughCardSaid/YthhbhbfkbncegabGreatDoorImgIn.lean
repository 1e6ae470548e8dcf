/-
 Layer 33: a system (api.System) in memory, with all its programs, readers and records, and one that came in.
-/
import Derived.Test.YthhbhbfkbncegabGreatDoorFlat
import Derived.ProofKit
import Derived.Test.YthhbhbfkbncegabGreatDoorRows
import Derived.Test.YthhbhbfkbncegabGreatDoorWords
import Derived.OpenShut
section
set_option linter.unusedSimpArgs false
set_option linter.unusedVariables false
namespace Go.Proofs.YthhbhbfkbncegabGreatDoor.On
open Go.RowKit Go.ChangeShapes Go.WideShapes Ws Fl

/-- the type of the whole number, or slice, that stands at a place of a type -/
def leafAt (P : Program) : Nat → TypeId → Nat → Option TypeId
 | 0, _, _ => none
 | n + 1, t, i =>
  match P.underlying t with
  | some (.int _) => if i = 0 then some t else none
  | some (.slice _) => if i = 0 then some t else none
  | some (.struct fs) =>
   ((List.range fs.size).filterMap fun j =>
    match fs[j]? with
    | some f => if f.offset ≤ i ∧ i < f.offset + P.cellsOf f.type then leafAt P n f.type (i - f.offset) else none
    | none => none).head?
  | _ => none

section
variable {H : Type} {enc : TypeId × Value → H} {P : Program} {w : World} {base : Nat} {sp : Nat → Bool} {held : Bool}

theorem leaf_at : ∀ (n fuel : Nat) (t : TypeId) (cs : List Value) (x : DataW H × List MemPlace) (i : Nat) (u : TypeId),
 DataW.trod enc P w base sp held fuel t cs = some x → leafAt P n t i = some u → ∃ v m y, cs[i]? = some v ∧ DataW.trod enc P w base sp held m u [v] = some y := by
 intro n
 induction n with
 | zero => intro fuel t cs x i u _ h; simp [leafAt] at h
 | succ n ih =>
  intro fuel t cs x i u ht h
  unfold leafAt at h
  split at h
  ·rename_i k' hu
   obtain ⟨z', rfl, _, hw⟩ := DataW.trod_int hu ht
   split at h
   ·rename_i hc
    subst hc
    injection h with h
    subst h
    exact ⟨_, fuel, x, rfl, ht⟩
   ·cases h
  ·rename_i e hu
   split at h
   ·rename_i hc
    subst hc
    injection h with h
    subst h
    rcases DataW.trod_slice hu ht with ⟨hcs, _⟩ | ⟨a, l, c, elems, rest, m, _, hcs, _⟩
    ·subst hcs
     exact ⟨_, fuel, x, rfl, ht⟩
    ·subst hcs
     exact ⟨_, fuel, x, rfl, ht⟩
   ·cases h
  ·rename_i fs hu
   obtain ⟨xs, m, rfl, hx, hl, hxl, hall⟩ := DataW.trod_struct hu ht
   obtain ⟨j, _, hj⟩ := List.mem_filterMap.1 (List.mem_of_mem_head? (Option.mem_def.2 h))
   split at hj
   ·rename_i f hf
    split at hj
    ·rename_i hb
     have hi := hall j f hf
     have hjl : j < xs.length := by
      rw [hxl]
      rcases Nat.lt_or_ge j fs.size with hlt | hge
      ·exact hlt
      ·rw [Array.getElem?_eq_none hge] at hf
       cases hf
     rw [List.getElem?_eq_getElem hjl] at hi
     obtain ⟨z, m', y, hz, hw⟩ := ih m f.type _ _ _ u hi hj
     exact ⟨z, m', y, Fl.part hb.1 hb.2 hz, hw⟩
    ·cases hj
   ·cases hj
  ·cases h

/-- at a place of a struct stands a whole number -/
theorem int_leaf {n fuel : Nat} {t u : TypeId} {cs : List Value} {x : DataW H × List MemPlace} {i : Nat} {k : IntKind} (h : DataW.trod enc P w base sp held fuel t cs = some x) (hl : leafAt P n t i = some u) (hu : P.underlying u = some (.int k)) :
 ∃ z, cs[i]? = some (.int k z) ∧ (Lit.int k z).wf = true := by
 obtain ⟨v, m, y, hv, hy⟩ := leaf_at n fuel t cs x i u h hl
 obtain ⟨z, hz, _, hw⟩ := DataW.trod_int hu hy
 injection hz with hz
 subst hz
 exact ⟨z, hv, hw⟩
/-- at a place of a struct stands a slice -/
theorem slice_leaf {n fuel : Nat} {t u e : TypeId} {cs : List Value} {x : DataW H × List MemPlace} {i : Nat} (h : DataW.trod enc P w base sp held fuel t cs = some x) (hl : leafAt P n t i = some u) (hu : P.underlying u = some (.slice e)) :
 ∃ A len cap d p, cs[i]? = some (.slice A len cap) ∧ DataW.Trod enc P w base sp held u (.slice A len cap) d p := by
 obtain ⟨v, m, y, hv, hy⟩ := leaf_at n fuel t cs x i u h hl
 rcases DataW.trod_slice hu hy with ⟨hcs, _⟩ | ⟨a, l, c, elems, rest, m', _, hcs, _⟩
 ·injection hcs with hcs
  subst hcs
  exact ⟨_, _, _, y.1, y.2, hv, m, by simpa [Value.cells] using hy⟩
 ·injection hcs with hcs
  subst hcs
  exact ⟨_, _, _, y.1, y.2, hv, m, by simpa [Value.cells] using hy⟩
end

end Go.Proofs.YthhbhbfkbncegabGreatDoor.On
end
section
section
set_option linter.unusedVariables false
set_option linter.unusedSimpArgs false
namespace Go.Proofs.YthhbhbfkbncegabGreatDoor.Im

structure Ins where
 op : Int
 a : Int
 b : Int
 c : Int
 n : Int
structure PT where
 kind : Int
 prio : Int
 per : Int
 off : Int
 dl : Int
 own : Int
 code : List Ins
structure PO where
 k : Int
 wd : Int
 sl : Int
 cp : Int
 sa : Int
 ow : Int
 rd : List Int
 ini : List Int
structure PS where
 ts : List PT
 os : List PO
def lo (x : Int) (n : Nat) : List Int := (List.range n).map fun j => x / 2 ^ (8 * j) % 256
/-- a number, and as how many bytes it is laid -/
abbrev Item := Int × Nat
def itI (i : Ins) : List Item := [(i.op, 1), (i.a, 1), (i.b, 1), (i.c, 1), (i.n, 4)]
def itT0 (t : PT) : List Item := [(t.kind, 1), (t.prio, 1), (t.per, 4), (t.off, 4), (t.dl, 4), (t.own, 1), (t.code.length, 1)]
def itT (t : PT) : List Item := itT0 t ++ t.code.flatMap itI
def itO0 (o : PO) : List Item := [(o.k, 1), (o.wd, 1), (o.sl, 1), (o.cp, 1), (o.sa, 4), (o.ow, 1), (o.rd.length, 1)]
def sm (l : List Int) : List Item := l.map fun x => (x, 1)
def lg (l : List Int) : List Item := l.map fun x => (x, 4)
def itO (o : PO) : List Item := itO0 o ++ (sm o.rd ++ ((((o.ini.length : Nat) : Int), 1) :: lg o.ini))
def itS (s : PS) : List Item := (((s.ts.length : Nat) : Int), 1) :: (((s.os.length : Nat) : Int), 1) :: (s.ts.flatMap itT ++ s.os.flatMap itO)
def enc (l : List Item) : List Int := l.flatMap fun p => lo p.1 p.2
def size (l : List Item) : Nat := (l.map (·.2)).sum
def fit (p : Item) : Bool := decide (0 ≤ p.1 ∧ p.1 < 256 ^ p.2)
/-- the bytes that were laid; bad: from there on none -/
structure St where
 bs : List Int
 bad : Bool
def hd : List Int := [67, 88, 1]
def body (s : PS) : List Int := hd ++ enc (itS s)
/-! ### how they are read -/
end Go.Proofs.YthhbhbfkbncegabGreatDoor.Im
end
section
set_option linter.unusedVariables false
set_option linter.unusedSimpArgs false
namespace Go.Proofs.YthhbhbfkbncegabGreatDoor.Im
open Go.ChangeShapes Go.WideShapes Go.ChangeAt Go.RowKit Ws

def icells (x : Ins) : List Value := [.int .i64 x.op, .int .i64 x.a, .int .i64 x.b, .int .i64 x.c, .int .u32 x.n]
/-- the slice at A holds these instructions, one behind the other -/
def Code (w : World) (A : Option Addr) (l : List Ins) : Prop :=
 ∀ i x, l[i]? = some x → (0 ≤ x.n ∧ x.n < 4294967296) ∧ ∃ b o, A = some ⟨b, o, none⟩ ∧ ∀ j v, (icells x)[j]? = some v → w.cell? ⟨b, o + i * 5 + j, none⟩ = some v
theorem Code.chg {S : Nat → Prop} {w w' : World} {A : Option Addr} {l : List Ins} (h : Code w A l) (hs : Chg S w w') (hn : ∀ b o, A = some ⟨b, o, none⟩ → ¬ S b) : Code w' A l := by
 intro i x hx
 obtain ⟨h1, b, o, h2, h3⟩ := h i x hx
 exact ⟨h1, b, o, h2, fun j v hv => hs.cell (h3 j v hv) (hn b o h2)⟩
theorem Code.same {w w' : World} {A : Option Addr} {l : List Ins} (h : Code w A l) (hs : Same w w') : Code w' A l := h.chg hs fun _ _ _ f => f
theorem Code.at_ {w : World} {A : Option Addr} {l : List Ins} (h : Code w A l) {k : Nat} {x : Ins} (hk : l[k]? = some x) :
 (0 ≤ x.n ∧ x.n < 4294967296) ∧ ∃ b o, A = some ⟨b, o, none⟩ ∧ w.cell? ⟨b, o + k * 5, none⟩ = some (.int .i64 x.op) ∧ w.cell? ⟨b, o + k * 5 + 1, none⟩ = some (.int .i64 x.a) ∧ w.cell? ⟨b, o + k * 5 + 2, none⟩ = some (.int .i64 x.b) ∧ w.cell? ⟨b, o + k * 5 + 3, none⟩ = some (.int .i64 x.c) ∧ w.cell? ⟨b, o + k * 5 + 4, none⟩ = some (.int .u32 x.n) := by
 obtain ⟨h1, b, o, h2, h3⟩ := h k x hk
 exact ⟨h1, b, o, h2, h3 0 _ rfl, h3 1 _ rfl, h3 2 _ rfl, h3 3 _ rfl, h3 4 _ rfl⟩
theorem code_in {w : World} {A : Option Addr} {rows : List (List Int)} (h : Fl.Rows w A [.i64, .i64, .i64, .i64, .u32] rows) : ∃ l : List Ins, l.length = rows.length ∧ Code w A l := by
 refine ⟨rows.map fun r => ⟨r.getD 0 0, r.getD 1 0, r.getD 2 0, r.getD 3 0, r.getD 4 0⟩, by simp, ?_⟩
 intro i x hx
 rw [List.getElem?_map] at hx
 cases hr : rows[i]? with
 | none => rw [hr] at hx; cases hx
 | some r =>
  rw [hr] at hx
  injection hx with hx
  obtain ⟨hf, b, o, hA, hc⟩ := h i r hr
  obtain ⟨hl, hw⟩ := hf
  match r, hl with
  | [op, a, bb, c, n], _ =>
   subst hx
   exact ⟨Fl.u32_bd (hw 4 .u32 rfl), b, o, hA, fun j v hv => hc j v hv⟩

/-- a task's cells, its program standing at A -/
def tcells (t : PT) (A : Option Addr) (c : Nat) : List Value := [.int .i64 t.kind, .int .i64 t.prio, .int .i64 t.per, .int .i64 t.off, .int .i64 t.dl, .int .i64 t.own, .slice A t.code.length c]
/-- an object's cells, its record standing at A, its readers at B -/
def ocells (o : PO) (A : Option Addr) (c : Nat) (B : Option Addr) (d : Nat) : List Value := [.int .i64 o.k, .int .i64 o.wd, .int .i64 o.sl, .int .i64 o.cp, .int .u32 o.sa, .slice A o.ini.length c, .int .i64 o.ow, .slice B o.rd.length d]
def TsAt (w : World) (A : Option Addr) (l : List PT) : Prop :=
 ∀ i p, l[i]? = some p → ∃ b o, A = some ⟨b, o, none⟩ ∧ ∃ X c, (∀ j v, (tcells p X c)[j]? = some v → w.cell? ⟨b, o + i * 7 + j, none⟩ = some v) ∧ Code w X p.code ∧ p.code.length ≤ maxLen
def OsAt (w : World) (A : Option Addr) (l : List PO) : Prop :=
 ∀ i p, l[i]? = some p → ∃ b o, A = some ⟨b, o, none⟩ ∧ ∃ X c Y d, (∀ j v, (ocells p X c Y d)[j]? = some v → w.cell? ⟨b, o + i * 8 + j, none⟩ = some v) ∧ (0 ≤ p.sa ∧ p.sa < 4294967296) ∧ Row w X (p.ini.map (Value.int .u32)) ∧ (∀ y ∈ p.ini, 0 ≤ y ∧ y < 4294967296) ∧ Row w Y (p.rd.map (Value.int .i64)) ∧ p.ini.length ≤ maxLen ∧ p.rd.length ≤ maxLen
theorem TsAt.same {w w' : World} {A : Option Addr} {l : List PT} (h : TsAt w A l) (hs : Same w w') : TsAt w' A l := by
 intro i p hp
 obtain ⟨b, o, h1, X, c, h2, h3, h4⟩ := h i p hp
 exact ⟨b, o, h1, X, c, fun j v hv => hs.cell (h2 j v hv), h3.same hs, h4⟩
theorem OsAt.same {w w' : World} {A : Option Addr} {l : List PO} (h : OsAt w A l) (hs : Same w w') : OsAt w' A l := by
 intro i p hp
 obtain ⟨b, o, h1, X, c, Y, d, h2, h3, h4, h5, h6⟩ := h i p hp
 exact ⟨b, o, h1, X, c, Y, d, fun j v hv => hs.cell (h2 j v hv), h3, h4.same hs, h5, h6.1.same hs, h6.2⟩
theorem TsAt.at_ {w : World} {A : Option Addr} {l : List PT} (h : TsAt w A l) {k : Nat} {p : PT} (hk : l[k]? = some p) :
 ∃ b o, A = some ⟨b, o, none⟩ ∧ ∃ X c, w.cell? ⟨b, o + k * 7, none⟩ = some (.int .i64 p.kind) ∧ w.cell? ⟨b, o + k * 7 + 1, none⟩ = some (.int .i64 p.prio) ∧ w.cell? ⟨b, o + k * 7 + 2, none⟩ = some (.int .i64 p.per) ∧ w.cell? ⟨b, o + k * 7 + 3, none⟩ = some (.int .i64 p.off) ∧ w.cell? ⟨b, o + k * 7 + 4, none⟩ = some (.int .i64 p.dl) ∧ w.cell? ⟨b, o + k * 7 + 5, none⟩ = some (.int .i64 p.own) ∧ w.cell? ⟨b, o + k * 7 + 6, none⟩ = some (.slice X p.code.length c) ∧ Code w X p.code ∧ p.code.length ≤ maxLen := by
 obtain ⟨b, o, h1, X, c, h2, h3⟩ := h k p hk
 exact ⟨b, o, h1, X, c, h2 0 _ rfl, h2 1 _ rfl, h2 2 _ rfl, h2 3 _ rfl, h2 4 _ rfl, h2 5 _ rfl, h2 6 _ rfl, h3⟩
theorem OsAt.at_ {w : World} {A : Option Addr} {l : List PO} (h : OsAt w A l) {k : Nat} {p : PO} (hk : l[k]? = some p) :
 ∃ b o, A = some ⟨b, o, none⟩ ∧ ∃ X c Y d, w.cell? ⟨b, o + k * 8, none⟩ = some (.int .i64 p.k) ∧ w.cell? ⟨b, o + k * 8 + 1, none⟩ = some (.int .i64 p.wd) ∧ w.cell? ⟨b, o + k * 8 + 2, none⟩ = some (.int .i64 p.sl) ∧ w.cell? ⟨b, o + k * 8 + 3, none⟩ = some (.int .i64 p.cp) ∧ w.cell? ⟨b, o + k * 8 + 4, none⟩ = some (.int .u32 p.sa) ∧ w.cell? ⟨b, o + k * 8 + 5, none⟩ = some (.slice X p.ini.length c) ∧ w.cell? ⟨b, o + k * 8 + 6, none⟩ = some (.int .i64 p.ow) ∧ w.cell? ⟨b, o + k * 8 + 7, none⟩ = some (.slice Y p.rd.length d) ∧ (0 ≤ p.sa ∧ p.sa < 4294967296) ∧ Row w X (p.ini.map (Value.int .u32)) ∧ (∀ y ∈ p.ini, 0 ≤ y ∧ y < 4294967296) ∧ Row w Y (p.rd.map (Value.int .i64)) ∧ p.ini.length ≤ maxLen ∧ p.rd.length ≤ maxLen := by
 obtain ⟨b, o, h1, X, c, Y, d, h2, h3, h4, h5, h6⟩ := h k p hk
 exact ⟨b, o, h1, X, c, Y, d, h2 0 _ rfl, h2 1 _ rfl, h2 2 _ rfl, h2 3 _ rfl, h2 4 _ rfl, h2 5 _ rfl, h2 6 _ rfl, h2 7 _ rfl, h3, h4, h5, h6⟩
instance : Inhabited PT := ⟨⟨0, 0, 0, 0, 0, 0, []⟩⟩
instance : Inhabited PO := ⟨⟨0, 0, 0, 0, 0, 0, [], []⟩⟩
/-- a system's value stands for this system -/
structure SysAt (w : World) (A : Option Addr) (n : Nat) (B : Option Addr) (m : Nat) (s : PS) : Prop where
 hn : s.ts.length = n
 hm : s.os.length = m
 ht : TsAt w A s.ts
 ho : OsAt w B s.os
theorem SysAt.same {w w' : World} {A : Option Addr} {n : Nat} {B : Option Addr} {m : Nat} {s : PS} (h : SysAt w A n B m s) (hs : Same w w') : SysAt w' A n B m s := ⟨h.hn, h.hm, h.ht.same hs, h.ho.same hs⟩

section
variable {H : Type} {enc : TypeId × Value → H} {w : World} {base : Nat} {sp : Nat → Bool} {held : Bool}
theorem obj_cells {fuel : Nat} {cs : List Value} {x : DataW H × List MemPlace} (hl : cs.length = 8) (h : DataW.trod enc Tryz.prog w base sp held fuel 43 cs = some x) : ∃ (p : PO) (X : Option Addr) (c : Nat) (Y : Option Addr) (d : Nat), cs = ocells p X c Y d ∧ (0 ≤ p.sa ∧ p.sa < 4294967296) ∧ Row w X (p.ini.map (Value.int .u32)) ∧ (∀ y ∈ p.ini, 0 ≤ y ∧ y < 4294967296) ∧ Row w Y (p.rd.map (Value.int .i64)) ∧ p.ini.length ≤ maxLen ∧ p.rd.length ≤ maxLen := by
 obtain ⟨z0, e0, w0⟩ := On.int_leaf (n := 6) (i := 0) (u := 3) h (by kernel_rfl) Tryz.underlying3
 obtain ⟨z1, e1, w1⟩ := On.int_leaf (n := 6) (i := 1) (u := 3) h (by kernel_rfl) Tryz.underlying3
 obtain ⟨z2, e2, w2⟩ := On.int_leaf (n := 6) (i := 2) (u := 3) h (by kernel_rfl) Tryz.underlying3
 obtain ⟨z3, e3, w3⟩ := On.int_leaf (n := 6) (i := 3) (u := 3) h (by kernel_rfl) Tryz.underlying3
 obtain ⟨z4, e4, w4⟩ := On.int_leaf (n := 6) (i := 4) (u := 40) h (by kernel_rfl) Tryz.underlying40
 obtain ⟨A, il, ic, d5, p5, e5, t5⟩ := On.slice_leaf (n := 6) (i := 5) (u := 41) h (by kernel_rfl) Tryz.underlying41
 obtain ⟨z6, e6, w6⟩ := On.int_leaf (n := 6) (i := 6) (u := 3) h (by kernel_rfl) Tryz.underlying3
 obtain ⟨B, rl, rc, d7, p7, e7, t7⟩ := On.slice_leaf (n := 6) (i := 7) (u := 26) h (by kernel_rfl) Tryz.underlying26
 obtain ⟨ini, hil, hirow, hiwf, hi1, hi2⟩ := Fl.ints_of Tryz.underlying41 Tryz.underlying40 (by kernel_rfl) t5
 obtain ⟨rd, hrl, hrrow, _, hr1, hr2⟩ := Fl.ints_of Tryz.underlying26 Tryz.underlying3 (by kernel_rfl) t7
 refine ⟨⟨z0, z1, z2, z3, z4, z6, rd, ini⟩, A, ic, B, rc, ?_, Fl.u32_bd w4, hirow, fun y hy => Fl.u32_bd (hiwf y hy), hrrow, Nat.le_trans (Nat.le_of_eq hil) (Nat.le_trans hi1 hi2), Nat.le_trans (Nat.le_of_eq hrl) (Nat.le_trans hr1 hr2)⟩
 apply List.ext_getElem?
 intro i
 match i with
 | 0 => exact e0
 | 1 => exact e1
 | 2 => exact e2
 | 3 => exact e3
 | 4 => exact e4
 | 5 => rw [e5]; simp [ocells, hil]
 | 6 => exact e6
 | 7 => rw [e7]; simp [ocells, hrl]
 | n + 8 => rw [List.getElem?_eq_none (by omega), List.getElem?_eq_none (by simp [ocells])]
end
end Go.Proofs.YthhbhbfkbncegabGreatDoor.Im
end
end
