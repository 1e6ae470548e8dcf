/-
  Structs of whole numbers alone: read by value, and as the elements of a slice that came in; and slices of whole numbers that came in.
  Nothing here speaks of one program.
-/
import Derived.Test.YtnlndkpjfgpodabWords
import Derived.ChangeArms
import Derived.OpenShut
import Derived.Deep.Slices
import Derived.ProofKit
set_option linter.unusedSimpArgs false
set_option linter.unusedVariables false
namespace Go.Proofs.Ytnlndkpjfgpodab.Fl
open Go.RowKit Go.ChangeShapes Go.WideShapes Ws

/-- the kind of the whole number that stands at a place of a type -/
def kindAt (P : Program) : Nat → TypeId → Nat → Option IntKind
  | 0, _, _ => none
  | n + 1, t, i =>
    match P.underlying t with
    | some (.int k) => if i = 0 then some k else none
    | some (.struct fs) =>
      ((List.range fs.size).filterMap fun j =>
        match fs[j]? with
        | some f => if f.offset ≤ i ∧ i < f.offset + P.cellsOf f.type then kindAt P n f.type (i - f.offset) else none
        | none => none).head?
    | some (.array m e) => if P.cellsOf e = 0 ∨ m ≤ i / P.cellsOf e then none else kindAt P n e (i % P.cellsOf e)
    | _ => none

/-- the kinds of all places of a type -/
def kinds (P : Program) (n : Nat) (t : TypeId) : Option (List IntKind) := (List.range (P.cellsOf t)).mapM (kindAt P n t)

theorem part {cs : List Value} {o c i : Nat} {v : Value} (h1 : o ≤ i) (h2 : i < o + c) (h : ((cs.drop o).take c)[i - o]? = some v) : cs[i]? = some v := by
  rw [List.getElem?_take, if_pos (by omega), List.getElem?_drop] at h
  rwa [show o + (i - o) = i by omega] at h

section
variable {H : Type} {enc : TypeId × Value → H} {P : Program} {w : World} {base : Nat} {sp : Nat → Bool} {held : Bool}

theorem int_at : ∀ (n fuel : Nat) (t : TypeId) (cs : List Value) (x : DataW H × List MemPlace) (i : Nat) (k : IntKind),
      DataW.trod enc P w base sp held fuel t cs = some x → kindAt P n t i = some k → ∃ z, cs[i]? = some (.int k z) ∧ (Lit.int k z).wf = true := by
  intro n
  induction n with
  | zero => intro fuel t cs x i k _ h; simp [kindAt] at h
  | succ n ih =>
    intro fuel t cs x i k ht h
    unfold kindAt at h
    split at h
    · rename_i k' hu
      obtain ⟨z', rfl, _, hw⟩ := DataW.trod_int hu ht
      split at h
      · rename_i hc
        subst hc
        injection h with h
        subst h
        exact ⟨z', by simp, hw⟩
      · cases h
    · rename_i fs hu
      obtain ⟨xs, m, rfl, hx, hl, hxl, hall⟩ := DataW.trod_struct hu ht
      obtain ⟨j, _, hj⟩ := List.mem_filterMap.1 (List.mem_of_mem_head? (Option.mem_def.2 h))
      split at hj
      · rename_i f hf
        split at hj
        · rename_i hb
          have hi := hall j f hf
          have hjl : j < xs.length := by
            rw [hxl]
            rcases Nat.lt_or_ge j fs.size with hlt | hge
            · exact hlt
            · rw [Array.getElem?_eq_none hge] at hf
              cases hf
          rw [List.getElem?_eq_getElem hjl] at hi
          obtain ⟨z, hz, hw⟩ := ih m f.type _ _ _ k hi hj
          exact ⟨z, part hb.1 hb.2 hz, hw⟩
        · cases hj
      · cases hj
    · rename_i m0 e hu
      obtain ⟨xs, m, rfl, hx, hl, hxl, hall⟩ := DataW.trod_array hu ht
      split at h
      · cases h
      · rename_i hc
        have hlt : i / P.cellsOf e < m0 := by omega
        have hi := hall _ hlt
        rw [List.getElem?_eq_getElem (by omega)] at hi
        obtain ⟨z, hz, hw⟩ := ih m e _ _ _ k hi h
        have hpos : 0 < P.cellsOf e := by omega
        have hdm : i / P.cellsOf e * P.cellsOf e + i % P.cellsOf e = i := by rw [Nat.mul_comm]; exact Nat.div_add_mod i (P.cellsOf e)
        have hmod := Nat.mod_lt i hpos
        obtain ⟨q, hq1⟩ : ∃ q, q = i / P.cellsOf e * P.cellsOf e := ⟨_, rfl⟩
        rw [← hq1] at hdm hz
        rw [show i % P.cellsOf e = i - q by omega] at hz
        exact ⟨z, part (o := q) (c := P.cellsOf e) (by omega) (by omega) hz, hw⟩
    · cases h

theorem mapM_len {α β : Type} {f : α → Option β} : ∀ {l : List α} {r : List β}, l.mapM f = some r → r.length = l.length
  | [], r, h => by simp at h; subst h; rfl
  | x :: l, r, h => by
    rw [List.mapM_cons] at h
    simp only [Option.bind_eq_bind, Option.bind_eq_some_iff, Option.pure_def, Option.some.injEq] at h
    obtain ⟨b, _, r', hr', rfl⟩ := h
    simp [mapM_len hr']
theorem mapM_get {α β : Type} {f : α → Option β} : ∀ {l : List α} {r : List β}, l.mapM f = some r → ∀ (i : Nat) (b : β), r[i]? = some b → ∃ a, l[i]? = some a ∧ f a = some b
  | [], r, h, i, b, hb => by simp at h; subst h; simp at hb
  | x :: l, r, h, i, b, hb => by
    rw [List.mapM_cons] at h
    simp only [Option.bind_eq_bind, Option.bind_eq_some_iff, Option.pure_def, Option.some.injEq] at h
    obtain ⟨b', hb', r', hr', rfl⟩ := h
    cases i with
    | zero =>
      simp only [List.getElem?_cons_zero, Option.some.injEq] at hb
      subst hb
      exact ⟨x, rfl, hb'⟩
    | succ i => exact mapM_get hr' i b (by simpa using hb)

theorem kinds_len {n : Nat} {t : TypeId} {ks : List IntKind} (h : kinds P n t = some ks) : ks.length = P.cellsOf t := by
  simpa using mapM_len h
theorem kinds_at {n : Nat} {t : TypeId} {ks : List IntKind} (h : kinds P n t = some ks) {i : Nat} {k : IntKind} (hk : ks[i]? = some k) : kindAt P n t i = some k := by
  obtain ⟨a, ha, hf⟩ := mapM_get h i k hk
  have hlt : i < P.cellsOf t := by
    rcases Nat.lt_or_ge i (P.cellsOf t) with hlt | hge
    · exact hlt
    · rw [List.getElem?_eq_none (by simpa using hge)] at ha
      cases ha
  rw [List.getElem?_range hlt] at ha
  injection ha with ha
  subst ha
  exact hf

/-- the numbers r are of these kinds -/
def Fit (ks : List IntKind) (r : List Int) : Prop := r.length = ks.length ∧ ∀ i k, ks[i]? = some k → (Lit.int k (r.getD i 0)).wf = true
/-- the cells that hold them -/
def cellsOf (ks : List IntKind) (r : List Int) : List Value := List.zipWith Value.int ks r

theorem choose_row {ks : List IntKind} {Q : Nat → IntKind → Int → Prop} (h : ∀ i k, ks[i]? = some k → ∃ z, Q i k z) : ∃ r : List Int, r.length = ks.length ∧ ∀ i k, ks[i]? = some k → Q i k (r.getD i 0) := by
  have H : ∀ i : Nat, ∃ z : Int, ∀ k, ks[i]? = some k → Q i k z := by
    intro i
    cases hk : ks[i]? with
    | none => exact ⟨0, fun k h => by cases h⟩
    | some k =>
      obtain ⟨z, hz⟩ := h i k hk
      exact ⟨z, fun k' h' => by injection h' with h'; subst h'; exact hz⟩
  refine ⟨(List.range ks.length).map fun i => Classical.choose (H i), by simp, fun i k hk => ?_⟩
  have hlt : i < ks.length := by
    rcases Nat.lt_or_ge i ks.length with hlt | hge
    · exact hlt
    · rw [List.getElem?_eq_none hge] at hk
      cases hk
  have e : ((List.range ks.length).map fun i => Classical.choose (H i)).getD i 0 = Classical.choose (H i) := by simp [List.getD, hlt]
  rw [e]
  exact Classical.choose_spec (H i) k hk

theorem row_of {n fuel : Nat} {t : TypeId} {cs : List Value} {x : DataW H × List MemPlace} {ks : List IntKind} (hk : kinds P n t = some ks) (hl : cs.length = P.cellsOf t) (h : DataW.trod enc P w base sp held fuel t cs = some x) :
    ∃ r, Fit ks r ∧ cs = cellsOf ks r := by
  have hkl := kinds_len hk
  obtain ⟨r, h1, h2⟩ := choose_row (ks := ks) (Q := fun i k z => cs[i]? = some (.int k z) ∧ (Lit.int k z).wf = true) fun i k hi => int_at n fuel t cs x i k h (kinds_at hk hi)
  refine ⟨r, ⟨h1, fun i k hi => (h2 i k hi).2⟩, ?_⟩
  apply List.ext_getElem?
  intro i
  unfold cellsOf
  rw [List.getElem?_zipWith]
  cases hki : ks[i]? with
  | none =>
    have := List.getElem?_eq_none_iff.1 hki
    rw [List.getElem?_eq_none (by omega)]
  | some k =>
    have hlt : i < ks.length := by
      rcases Nat.lt_or_ge i ks.length with hlt | hge
      · exact hlt
      · rw [List.getElem?_eq_none hge] at hki
        cases hki
    have e : r[i]? = some (r.getD i 0) := by simp [List.getD, List.getElem?_eq_getElem (show i < r.length by omega)]
    rw [e, (h2 i k hki).1]

theorem agg_of {r : Reach} {b0 : Nat} {n : Nat} {t : TypeId} {fs : Array Field} {v : Value} {d : DataW H} {p : List MemPlace} {ks : List IntKind} (hk : kinds P n t = some ks) (hu : P.underlying t = some (.struct fs)) (hv : Value.okWide P w r b0 t v) (h : DataW.Trod enc P w base sp held t v d p) :
    ∃ z, Fit ks z ∧ v = .agg (cellsOf ks z).toArray := by
  obtain ⟨cs, rfl, hsz⟩ := okWide_struct hu hv
  obtain ⟨fuel, hf⟩ := h
  have hc : (Value.agg cs).cells.toList = cs.toList := by simp [Value.cells]
  rw [hc] at hf
  obtain ⟨z, h1, h2⟩ := row_of hk (by simpa using hsz) hf
  exact ⟨z, h1, by rw [← h2]⟩

/-- the slice at A holds these structs, one behind the other -/
def Rows (w : World) (A : Option Addr) (ks : List IntKind) (rows : List (List Int)) : Prop :=
  ∀ i r, rows[i]? = some r → Fit ks r ∧ ∃ b o, A = some ⟨b, o, none⟩ ∧ ∀ j v, (cellsOf ks r)[j]? = some v → w.cell? ⟨b, o + i * ks.length + j, none⟩ = some v

theorem Rows.same {w w' : World} {A : Option Addr} {ks : List IntKind} {rows : List (List Int)} (h : Rows w A ks rows) (hs : Same w w') : Rows w' A ks rows := by
  intro i r hr
  obtain ⟨h1, b, o, h2, h3⟩ := h i r hr
  exact ⟨h1, b, o, h2, fun j v hv => hs.cell (h3 j v hv)⟩
theorem Rows.chg {S : Nat → Prop} {w w' : World} {A : Option Addr} {ks : List IntKind} {rows : List (List Int)} (h : Rows w A ks rows) (hs : Chg S w w') (hn : ∀ b o, A = some ⟨b, o, none⟩ → ¬ S b) : Rows w' A ks rows := by
  intro i r hr
  obtain ⟨h1, b, o, h2, h3⟩ := h i r hr
  exact ⟨h1, b, o, h2, fun j v hv => hs.cell (h3 j v hv) (hn b o h2)⟩
theorem Rows.drewN {w : World} {A : Option Addr} {ks : List IntKind} {rows : List (List Int)} (h : Rows w A ks rows) (n : Nat) : Rows (w.drewN n) A ks rows := h

theorem plain_add (b o k : Nat) : (⟨b, o, none⟩ : Addr).add k = ⟨b, o + k, none⟩ := by
  cases k with
  | zero => simp [Addr.add]
  | succ k => simp [Addr.add]
theorem spot_zero {a : Addr} {v : Value} (h : w.cell? a = some v) : a.spot = none := World.cell?_spot h

theorem cells_get {a : Addr} {n : Nat} {cs : List Value} (h : w.cells? base a n = some cs) : cs.length = n ∧ ∀ i v, cs[i]? = some v → w.cell? (a.add i) = some v := by
  unfold World.cells? at h
  split at h
  · refine ⟨by simpa using mapM_len h, fun i v hv => ?_⟩
    obtain ⟨j, hj, hf⟩ := mapM_get h i v hv
    have hlt : i < n := by
      rcases Nat.lt_or_ge i n with hlt | hge
      · exact hlt
      · rw [List.getElem?_eq_none (by simpa using hge)] at hj
        cases hj
    rw [List.getElem?_range hlt] at hj
    injection hj with hj
    subst hj
    exact hf
  · cases h

theorem add_add (a : Addr) (i j : Nat) (hs : a.spot = none) : (a.add i).add j = ⟨a.block, a.off + i + j, none⟩ := by
  obtain ⟨b, o, s⟩ := a
  cases hs
  rw [plain_add, plain_add]

theorem rows_of {n : Nat} {t e : TypeId} {A : Option Addr} {len cap : Nat} {d : DataW H} {p : List MemPlace} {ks : List IntKind} (ht : P.underlying t = some (.slice e)) (hk : kinds P n e = some ks) (hpos : 0 < ks.length)
    (h : DataW.Trod enc P w base sp held t (.slice A len cap) d p) : ∃ rows, Rows w A ks rows ∧ rows.length = len ∧ len ≤ maxLen := by
  have hkl := kinds_len hk
  obtain ⟨fuel, hf⟩ := h
  rcases DataW.trod_slice ht hf with ⟨hcs, _⟩ | ⟨a, l, c, elems, rest, m, _, hcs, _, _, hl, hm, hel, hall, _, _⟩
  · simp [Value.cells] at hcs
    obtain ⟨rfl, rfl, rfl⟩ := hcs
    exact ⟨[], fun i r hr => by simp at hr, rfl, Nat.zero_le _⟩
  · simp [Value.cells] at hcs
    obtain ⟨rfl, rfl, rfl⟩ := hcs
    have hspot : ∀ {i : Nat}, i < len → a.spot = none := by
      intro i hi
      have hai := hall 0 (by omega)
      rw [List.getElem?_eq_getElem (by omega)] at hai
      obtain ⟨cs, hcs, hx⟩ := Option.bind_eq_some_iff.1 hai
      obtain ⟨hcl, hcc⟩ := cells_get hcs
      obtain ⟨v0, hv0⟩ : ∃ v, cs[0]? = some v := ⟨_, List.getElem?_eq_getElem (by rw [hcl, ← hkl]; exact hpos)⟩
      have h0 := hcc 0 v0 hv0
      rw [Nat.zero_mul] at h0
      exact spot_zero (by simpa [Addr.add] using h0)
    have each : ∀ i, i < len → ∃ r, Fit ks r ∧ ∃ b o, some a = some (⟨b, o, none⟩ : Addr) ∧ ∀ j v, (cellsOf ks r)[j]? = some v → w.cell? ⟨b, o + i * ks.length + j, none⟩ = some v := by
      intro i hi
      have hai := hall i hi
      rw [List.getElem?_eq_getElem (by omega)] at hai
      obtain ⟨cs, hcs, hx⟩ := Option.bind_eq_some_iff.1 hai
      obtain ⟨hcl, hcc⟩ := cells_get hcs
      obtain ⟨r, hr1, rfl⟩ := row_of hk hcl hx
      have hs := hspot hi
      obtain ⟨b, o, s⟩ := a
      cases hs
      refine ⟨r, hr1, b, o, rfl, fun j v hv => ?_⟩
      have := hcc j v hv
      rw [add_add _ _ _ rfl] at this
      rw [hkl]
      exact this
    have hch : ∀ i : Nat, ∃ r : List Int, i < len → (Fit ks r ∧ ∃ b o, some a = some (⟨b, o, none⟩ : Addr) ∧ ∀ j v, (cellsOf ks r)[j]? = some v → w.cell? ⟨b, o + i * ks.length + j, none⟩ = some v) := by
      intro i
      by_cases hi : i < len
      · obtain ⟨r, hr⟩ := each i hi
        exact ⟨r, fun _ => hr⟩
      · exact ⟨[], fun h => absurd h hi⟩
    refine ⟨(List.range len).map fun i => Classical.choose (hch i), fun i r hr => ?_, by simp, by omega⟩
    have hlt : i < len := by
      rcases Nat.lt_or_ge i len with hlt | hge
      · exact hlt
      · rw [List.getElem?_eq_none (by simpa using hge)] at hr
        cases hr
    rw [List.getElem?_map, List.getElem?_range hlt] at hr
    injection hr with hr
    rw [← hr]
    exact Classical.choose_spec (hch i) hlt
end

theorem u32_bd {z : Int} (h : (Lit.int .u32 z).wf = true) : 0 ≤ z ∧ z < 4294967296 := by
  simp only [Lit.wf, IntKind.min, IntKind.max, IntKind.signed, IntKind.bits, Bool.and_eq_true] at h
  simp at h
  omega
theorem i64_bd {z : Int} (h : (Lit.int .i64 z).wf = true) : -9223372036854775808 ≤ z ∧ z ≤ 9223372036854775807 := by
  simp only [Lit.wf, IntKind.min, IntKind.max, IntKind.signed, IntKind.bits, Bool.and_eq_true] at h
  simp at h
  omega
theorem u64_bd {z : Int} (h : (Lit.int .u64 z).wf = true) : 0 ≤ z ∧ z < 18446744073709551616 := by
  simp only [Lit.wf, IntKind.min, IntKind.max, IntKind.signed, IntKind.bits, Bool.and_eq_true] at h
  simp at h
  omega

/-- what a walk says, as the frame wants it -/
theorem under {P : Program} {f : FuncId} {args : Array Value} {w : World} {x : Ending} (h : Calls P f args w fun e w' => e = x ∧ Same w w') : Calls P f args w fun e w' => e = x ∧ Below w.heap.size w w' :=
  h.mono fun _ _ ⟨he, hs⟩ => ⟨he, hs.below⟩

/-- a slice of integers that came in reads as the list -/
theorem ints_of {H : Type} {enc : TypeId × Value → H} {P : Program} {w : World} {base : Nat} {sp : Nat → Bool} {held : Bool} {t e : TypeId} {k : IntKind} {A : Option Addr} {len cap : Nat} {d : DataW H} {p : List MemPlace}
    (ht : P.underlying t = some (.slice e)) (he : P.underlying e = some (.int k)) (hc : P.cellsOf e = 1) (h : DataW.Trod enc P w base sp held t (.slice A len cap) d p) :
    ∃ l : List Int, l.length = len ∧ Row w A (l.map (Value.int k)) ∧ (∀ x ∈ l, (Lit.int k x).wf = true) ∧ len ≤ cap ∧ cap ≤ maxLen := by
  obtain ⟨fuel, hf⟩ := h
  rcases open_ints ht he hc hf with ⟨hcs, _⟩ | ⟨x, l, c, zs, hcs, _, hl, hm, hz, _, hcell, hwz⟩
  · simp [Value.cells] at hcs
    obtain ⟨rfl, rfl, rfl⟩ := hcs
    exact ⟨[], rfl, Row.nil _ _, fun x h => by simp at h, Nat.le_refl _, Nat.zero_le _⟩
  · simp [Value.cells] at hcs
    obtain ⟨rfl, rfl, rfl⟩ := hcs
    have hzl : len ≤ zs.length := by rw [hz]; split <;> omega
    refine ⟨zs.take len, by rw [List.length_take]; omega, ?_, fun y hy => hwz y (List.mem_of_mem_take hy), hl, hm⟩
    intro j u hj
    rw [List.getElem?_map, List.getElem?_take] at hj
    by_cases hlt : j < len
    · rw [if_pos hlt, List.getElem?_eq_getElem (by omega)] at hj
      simp at hj
      have hc := hcell j (by omega)
      have hs : x.spot = none := spot_zero (by simpa [Addr.add] using hcell 0 (by omega))
      obtain ⟨b, o, s⟩ := x
      cases hs
      refine ⟨b, o, rfl, ?_⟩
      rw [plain_add] at hc
      rw [← hj, hc]
      congr 1
      simp [List.getD, List.getElem?_eq_getElem (show j < zs.length by omega)]
    · rw [if_neg hlt] at hj
      cases hj

end Go.Proofs.Ytnlndkpjfgpodab.Fl
