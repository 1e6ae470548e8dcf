/-
  Tables of the program's own: from 'this variable reads as this datum' to the cell at a place, whatever the table's shape (numbers, texts, truths, structs, arrays of these).
  Nothing here speaks of one program.
-/
import Derived.LaidLaws
import Derived.ChangeArms
import Derived.OpenShut
import Derived.LaidMore
import Derived.MakeChecks
import Derived.FnData
set_option linter.unusedSimpArgs false
set_option linter.unusedVariables false
namespace Go.Proofs.YtiipdeionmndcaaDoor.Tb
open Go.RowKit

/-- which value stands at a place, of a type that reads as a datum -/
def cellAt (P : Program) : Nat → TypeId → DataW Unit → Nat → Option Value
  | 0, _, _, _ => none
  | n + 1, t, d, i =>
    match P.underlying t, d with
    | some (.int k), .lit (.int k' z) => if i = 0 ∧ k' = k then some (.int k z) else none
    | some .bool, .lit (.bool b) => if i = 0 then some (.bool b) else none
    | some .string, .lit (.string bs) => if i = 0 then some (.string ⟨bs.toArray⟩) else none
    | some (.struct fs), .agg ds =>
      ((List.range fs.size).filterMap fun j =>
        match fs[j]?, ds[j]? with
        | some f, some d' => if f.offset ≤ i ∧ i < f.offset + P.cellsOf f.type then cellAt P n f.type d' (i - f.offset) else none
        | _, _ => none).head?
    | some (.array _ e), .agg ds =>
      if P.cellsOf e = 0 then none else
      match ds[i / P.cellsOf e]? with
      | some d' => cellAt P n e d' (i % P.cellsOf e)
      | none => none
    | _, _ => none

theorem bytes_eq (s : ByteArray) (bs : List UInt8) (h : s.data.toList = bs) : (⟨bs.toArray⟩ : ByteArray) = s := by
  subst h
  simp

theorem part {cs : List Value} {o c i : Nat} {v : Value} (h1 : o ≤ i) (h2 : i < o + c) (h : ((cs.drop o).take c)[i - o]? = some v) : cs[i]? = some v := by
  rw [List.getElem?_take, if_pos (by omega), List.getElem?_drop] at h
  rwa [show o + (i - o) = i by omega] at h

theorem cell_of {enc : TypeId × Value → Unit} {P : Program} {w : World} {base : Nat} {sp : Nat → Bool} {held : Bool} :
    ∀ (n fuel : Nat) (t : TypeId) (cs : List Value) (d : DataW Unit) (p : List MemPlace) (i : Nat) (v : Value),
      DataW.trod enc P w base sp held fuel t cs = some (d, p) → cellAt P n t d i = some v → cs[i]? = some v := by
  intro n
  induction n with
  | zero => intro fuel t cs d p i v _ h; simp [cellAt] at h
  | succ n ih =>
    intro fuel t cs d p i v ht h
    unfold cellAt at h
    split at h
    · rename_i k k' z hu
      obtain ⟨z', rfl, he, _⟩ := DataW.trod_int hu ht
      injection he with he1 he2
      injection he1 with he1
      injection he1 with e1 e2
      subst e1
      subst e2
      split at h
      · rename_i hc
        obtain ⟨rfl, _⟩ := hc
        simpa using h
      · cases h
    · rename_i b hu
      obtain ⟨b', rfl, he⟩ := DataW.trod_bool hu ht
      injection he with he1 he2
      injection he1 with he1
      injection he1 with e1
      subst e1
      split at h
      · rename_i hc
        subst hc
        simpa using h
      · cases h
    · rename_i bs hu
      obtain ⟨s, rfl, he, _⟩ := DataW.trod_string hu ht
      injection he with he1 he2
      injection he1 with he1
      injection he1 with e1
      rw [bytes_eq s bs e1.symm] at h
      split at h
      · rename_i hc
        subst hc
        simpa using h
      · cases h
    · rename_i fs ds hu
      obtain ⟨xs, m, rfl, hx, hl, hxl, hall⟩ := DataW.trod_struct hu ht
      injection hx with hx1 hx2
      injection hx1 with hx1
      obtain ⟨j, _, hj⟩ := List.mem_filterMap.1 (List.mem_of_mem_head? (Option.mem_def.2 h))
      split at hj
      · rename_i f d' hf hd
        split at hj
        · rename_i hb
          have hi := hall j f hf
          have hxj : ∃ p', xs[j]? = some (d', p') := by
            rw [hx1, List.getElem?_map] at hd
            cases hxj : xs[j]? with
            | none => rw [hxj] at hd; cases hd
            | some y =>
              rw [hxj] at hd
              injection hd with hd
              exact ⟨y.2, by rw [← hd]⟩
          obtain ⟨p', hxj⟩ := hxj
          rw [hxj] at hi
          exact part hb.1 hb.2 (ih m f.type _ d' p' _ v hi hj)
        · cases hj
      · cases hj
    · rename_i m0 e ds hu
      obtain ⟨xs, m, rfl, hx, hl, hxl, hall⟩ := DataW.trod_array hu ht
      injection hx with hx1 hx2
      injection hx1 with hx1
      split at h
      · cases h
      · rename_i hc
        split at h
        · rename_i d' hd
          have hxj : ∃ p', xs[i / P.cellsOf e]? = some (d', p') := by
            rw [hx1, List.getElem?_map] at hd
            cases hxj : xs[i / P.cellsOf e]? with
            | none => rw [hxj] at hd; cases hd
            | some y =>
              rw [hxj] at hd
              injection hd with hd
              exact ⟨y.2, by rw [← hd]⟩
          obtain ⟨p', hxj⟩ := hxj
          have hlt : i / P.cellsOf e < m0 := by
            rw [← hxl]
            rcases Nat.lt_or_ge (i / P.cellsOf e) xs.length with hlt | hge
            · exact hlt
            · rw [List.getElem?_eq_none hge] at hxj
              cases hxj
          have hi := hall _ hlt
          rw [hxj] at hi
          have hpos : 0 < P.cellsOf e := by omega
          have hdm : i / P.cellsOf e * P.cellsOf e + i % P.cellsOf e = i := by rw [Nat.mul_comm]; exact Nat.div_add_mod i (P.cellsOf e)
          have hmod := Nat.mod_lt i hpos
          have hq := ih m e _ d' p' _ v hi h
          obtain ⟨q, hq1⟩ : ∃ q, q = i / P.cellsOf e * P.cellsOf e := ⟨_, rfl⟩
          rw [← hq1] at hdm hq
          rw [show i % P.cellsOf e = i - q by omega] at hq
          exact part (o := q) (c := P.cellsOf e) (by omega) (by omega) hq
        · cases h
    · cases h

/-- one listed variable's reading -/
def Reads (P : Program) (w : World) (n : String) (d : DataW Unit) : Prop :=
  ∃ g t cs fuel p, P.globalNamed n = some g ∧ (P.globals[g]?).map (·.type) = some t ∧ w.var? P n = some cs ∧ DataW.trod (fun _ => ()) P w 0 (fun _ => true) false fuel t cs.toList = some (d, p)

theorem laidVars_reads {P : Program} {w : World} : ∀ {l : List (String × DataW Unit)} {ps : List MemPlace}, DataW.LaidVars P w l ps → ∀ n d, (n, d) ∈ l → Reads P w n d
  | [], _, _, _, _, hm => by cases hm
  | (n', d') :: r, ps, h, n, d, hm => by
    obtain ⟨g, t, cs, fuel, p, q, h1, h2, h3, h4, h5, _⟩ := h
    rcases List.mem_cons.1 hm with e | e
    · cases e
      exact ⟨g, t, cs, fuel, p, h1, h2, h3, h4⟩
    · exact laidVars_reads h5 n d e
theorem reads {P : Program} {w : World} {l : List (String × DataW Unit)} (h : laidMet P l w) {n : String} {d : DataW Unit} (hm : (n, d) ∈ l) : Reads P w n d :=
  let ⟨_, hv, _⟩ := h
  laidVars_reads hv n d hm

theorem reads_cell {P : Program} {w : World} {n : String} {d : DataW Unit} (h : Reads P w n d) {g : Nat} {t : TypeId} (hg : P.globalNamed n = some g) (ht : (P.globals[g]?).map (·.type) = some t)
    (m i : Nat) (v : Value) (hc : cellAt P m t d i = some v) : w.cell? ⟨g, i, none⟩ = some v := by
  obtain ⟨g', t', cs, fuel, p, h1, h2, h3, h4⟩ := h
  obtain rfl := Option.some.inj (hg.symm.trans h1)
  obtain rfl := Option.some.inj (ht.symm.trans h2)
  rw [World.var?_cell hg h3]
  have := cell_of m fuel t cs.toList d p i v h4 hc
  simpa using this

/-- a whole table, cell for cell -/
theorem reads_list {P : Program} {w : World} {n : String} {d : DataW Unit} (h : Reads P w n d) {g : Nat} {t : TypeId} (hg : P.globalNamed n = some g) (ht : (P.globals[g]?).map (·.type) = some t)
    (m : Nat) (vs : List Value) (hl : (List.range vs.length).map (cellAt P m t d) = vs.map some) (i : Nat) (v : Value) (hv : vs[i]? = some v) : w.cell? ⟨g, i, none⟩ = some v := by
  refine reads_cell h hg ht m i v ?_
  have hi : i < vs.length := by
    rcases Nat.lt_or_ge i vs.length with hi | hi
    · exact hi
    · rw [List.getElem?_eq_none hi] at hv
      cases hv
  have := congrArg (·[i]?) hl
  simp only [List.getElem?_map, List.getElem?_range hi, hv, Option.map_some] at this
  injection this

end Go.Proofs.YtiipdeionmndcaaDoor.Tb
