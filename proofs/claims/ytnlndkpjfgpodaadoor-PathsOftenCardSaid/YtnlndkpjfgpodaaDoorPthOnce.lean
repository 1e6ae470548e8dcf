/-

  Package paths (layer 11): the ways of a part from its first place to its last one (once).
-/
import Derived.Test.YtnlndkpjfgpodaaDoorPthLead
import Derived.Test.YtnlndkpjfgpodaaDoorCstBack
import Derived.Test.YtnlndkpjfgpodaaDoorCstRep
import Derived.Test.YtnlndkpjfgpodaaDoorCstNext
import Derived.Test.YtnlndkpjfgpodaaDoorFlowEnd
import Derived.Test.YtnlndkpjfgpodaaDoorRoundReg
import Derived.Test.YtnlndkpjfgpodaaDoorRangeBox
import Derived.Test.YtnlndkpjfgpodaaDoorRegionOff
import Derived.StillTailTactics
import Derived.WalkMore
import Derived.Laws.EntriesVeiled
set_option linter.unusedVariables false
set_option linter.unusedSimpArgs false
namespace Go.Proofs.YtnlndkpjfgpodaaDoor.Po
open Go.ChangeShapes Go.WideShapes Go.ChangeAt Go.RowKit Ws
open Go.Shelf
attribute [local go_sem] Oper.semAt_some
open Go.Proofs.YtnlndkpjfgpodaaDoor.Fp (Ins at_ Fine at_some lp loopsL nextL hasB)
open Go.Proofs.YtnlndkpjfgpodaaDoor.Fw (Prg Spn spanCells)
open Go.Proofs.YtnlndkpjfgpodaaDoor.Wd (addv mulv wadd wmul)
open Go.Proofs.YtnlndkpjfgpodaaDoor.Cs (Wy Known lastIn St downL downL_len back_any back_stops encSp izr izr_list izr_make)
open Go.Proofs.YtnlndkpjfgpodaaDoor.Wk (leadC onceCS onceCT onceC come1)
open Go.Proofs.YtnlndkpjfgpodaaDoor.Pt (phas_any lead_any)

def wyW (x : Wy) : Array Value := #[.int .i64 x.thru, .int .i64 x.fin]
theorem still_of {P : Program} {f : FuncId} {l : Array Value} {w : World} {r : Value} (h : Calls P f l w fun e w' => e = .returned r ∧ w = w') : Calls P f l w fun e w' => e = .returned r ∧ w' = w := h.mono fun e w' ⟨h1, h2⟩ => ⟨h1, h2.symm⟩
/-- the marks of ranges over functions that are over -/
def marks (Ds : List Nat) : List Deferred := Ds.map fun D => { target := .collected D, args := #[] }
theorem leaves_marks {F : Fence} {n : Nat} {P : Program} {fn : Func} {tmps : Array Value} {R : Ending → World → Prop} {u : FrameMode} (hu : u ≠ .run) (S : Nat → Prop) : ∀ (Ds : List Nat) (w : World), Ds.Nodup → (∀ D ∈ Ds, S D ∧ w.heap[D]? = some (.deferred (some []))) →
    (∀ w', Chg S w w' → LeavesIn F n P fn tmps R [] u w') → LeavesInM F n P fn tmps R (marks Ds) u w
  | [], w, _, _, h => h w (Chg.refl _ _)
  | D :: Ds, w, hn, hK, h => by
    obtain ⟨hD, hn'⟩ := List.nodup_cons.1 hn
    obtain ⟨hS, hk⟩ := hK D (by simp)
    refine ⟨hu, .inl ⟨D, _, rfl, run_takeDeferred hk, ?_⟩⟩
    have hc : Chg S w (w.putObj D (.deferred none)) := ⟨rfl, rfl, rfl, by simp, fun i hi hn2 => World.putObj_heap_other (fun he => hn2 (he ▸ hS))⟩
    refine leaves_marks hu S Ds _ hn' (fun D' h' => ?_) (fun w' hw' => h w' (hc.trans hw'))
    obtain ⟨h1, h2⟩ := hK D' (by simp [h'])
    exact ⟨h1, (World.putObj_heap_other (by rintro rfl; exact hD h')).trans h2⟩

/-- no panic besides -/
def NoPanic (Q : Exit → Act → World → Prop) : Exit → Act → World → Prop
  | .panic _, _, _ => False
  | e, a, w => Q e a w
theorem noPanic_of {Q : Exit → Act → World → Prop} {e : Exit} {a : Act} {w : World} (h : NoPanic Q e a w) : Q e a w := by
  cases e <;> first | exact h | exact h.elim
theorem own_cell {w : World} {B : Nat} {e : TypeId} {C c : Nat} {l : List Value} (h : Ws.Own w B e (some ⟨C, 0, none⟩) c l) {k : Nat} {u : Value} (hk : l[k]? = some u) : w.cell? ⟨C, k, none⟩ = some u := by
  obtain ⟨b, o, e, hb⟩ := h.row k u hk
  injection e with e
  injection e with e1 e2
  subst e1 e2
  simpa using hb
theorem own_thaw {w : World} {B : Nat} {e : TypeId} {C c : Nat} {l : List Value} (h : Ws.Own w B e (some ⟨C, 0, none⟩) c l) (h0 : 0 < l.length) (k : Nat) : w.frozen? ⟨C, k, none⟩ = false := by
  obtain ⟨g, e, _, _, h⟩ := h.thaw h0
  injection e with e
  injection e with e1
  subst e1
  exact h k
/-- what stands in memory between two places -/
structure OI (w : World) (kv : Value) (q2 q3 q4 q5 q6 q7 C M : Nat) (a : Nat) (pb : Int) (come : List Int) (al : Wy) (W : World) : Prop where
  b2 : Blk W q2 107 #[kv]
  b3 : Blk W q3 78 #[.int .i64 (a : Int), .int .i64 pb]
  b4 : Blk W q4 109 #[.int .i64 0, .int .i64 0]
  b5 : Blk W q5 109 (wyW al)
  b6 : Blk W q6 23 #[.slice (some ⟨C, 0, none⟩) M M]
  b7 : Blk W q7 136 #[.func (.func 91) #[] #[.pointer (some ⟨q6, 0, none⟩)]]
  own : Ws.Own W 0 3 (some ⟨C, 0, none⟩) M (come.map (Value.int .i64))
  same : Same w W
  len : come.length = M
/-- what stands in memory at a place: the place in its box, and the blocks of the ranges that are over -/
structure RI (w : World) (kv : Value) (q2 q3 q4 q5 q6 q7 C M : Nat) (a : Nat) (pb : Int) (come : List Int) (al : Wy) (q8 k : Nat) (Ds : List Nat) (W : World) : Prop where
  oi : OI w kv q2 q3 q4 q5 q6 q7 C M a pb come al W
  b8 : Blk W q8 3 #[.int .i64 (k : Int)]
  ds : ∀ D ∈ Ds, q7 < D ∧ W.heap[D]? = some (.deferred (some []))
  lt : q7 < q8
theorem OI.same_ {w : World} {kv : Value} {q2 q3 q4 q5 q6 q7 C M a : Nat} {pb : Int} {come : List Int} {al : Wy} {W W' : World} (h : OI w kv q2 q3 q4 q5 q6 q7 C M a pb come al W) (hs : Same W W') : OI w kv q2 q3 q4 q5 q6 q7 C M a pb come al W' :=
  ⟨h.b2.same hs, h.b3.same hs, h.b4.same hs, h.b5.same hs, h.b6.same hs, h.b7.same hs, h.own.same hs, h.same.trans hs, h.len⟩
theorem RI.same_ {w : World} {kv : Value} {q2 q3 q4 q5 q6 q7 C M a : Nat} {pb : Int} {come : List Int} {al : Wy} {q8 k : Nat} {Ds : List Nat} {W W' : World} (h : RI w kv q2 q3 q4 q5 q6 q7 C M a pb come al q8 k Ds W) (hs : Same W W') : RI w kv q2 q3 q4 q5 q6 q7 C M a pb come al q8 k Ds W' :=
  ⟨h.oi.same_ hs, h.b8.same hs, fun D hD => ⟨(h.ds D hD).1, (hs.block D (Array.getElem?_eq_some_iff.1 (h.ds D hD).2).1 id).trans (h.ds D hD).2⟩, h.lt⟩
/-- the place is within a loop that is known -/
def loopC (s : St) (k : Nat) (l : (Int × Int) × Wy) : St :=
  if (k : Int) = l.1.1 then ⟨leadC s.come (l.1.2 + 1) (mulv (s.come.getD k 0) l.2.thru), ⟨s.all.thru, addv s.all.fin (mulv (s.come.getD k 0) l.2.fin)⟩⟩ else s
/-- where the loops lie -/
abbrev fstL (ls : Known) : List (Int × Int) := ls.map fun l => l.1
def dk : (Int × Int) × Wy := ((0, 0), ⟨0, 0⟩)
theorem onceS_in {p : List Ins} {ls : Known} {last : Int} {s : St} {k : Nat} {l : (Int × Int) × Wy} (h : lastIn ls k = some l) : onceCS p ls last s k = loopC s k l := by
  unfold onceCS loopC
  rw [h]
theorem onceS_no {p : List Ins} {ls : Known} {last : Int} {s : St} {k : Nat} (h : lastIn ls k = none) : onceCS p ls last s k =
    if (at_ p k).op = 21 then ⟨s.come, ⟨s.all.thru, addv s.all.fin (s.come.getD k 0)⟩⟩ else if (k : Int) = last then ⟨s.come, ⟨s.come.getD k 0, s.all.fin⟩⟩ else ⟨(nextL p k).foldl (fun c t => leadC c t (s.come.getD k 0)) s.come, s.all⟩ := by
  unfold onceCS
  rw [h]
theorem downL_get : ∀ (n i : Nat), i < n → (downL n)[i]? = some (n - 1 - i)
  | 0, i, h => by omega
  | n + 1, 0, _ => by simp [downL]
  | n + 1, i + 1, h => by
    rw [downL, List.getElem?_cons_succ, downL_get n i (by omega)]
    congr 1
    omega
theorem rev_down (ls : Known) : ls.reverse = (downL ls.length).map fun i => ls.getD i dk := by
  apply List.ext_getElem?
  intro i
  rw [List.getElem?_map]
  by_cases h : i < ls.length
  · rw [List.getElem?_reverse h, downL_get _ _ h, Option.map_some, List.getD_eq_getElem?_getD, List.getElem?_eq_getElem (by omega)]
    rfl
  · rw [List.getElem?_eq_none (by simp; omega), List.getElem?_eq_none (by rw [downL_len]; omega)]
    rfl
theorem find_pre {f : ((Int × Int) × Wy) → Bool} {g : Nat → (Int × Int) × Wy} : ∀ {pre : List Nat}, (∀ y ∈ pre, f (g y) = false) → ∀ l : List Nat, ((pre ++ l).map g).find? f = (l.map g).find? f
  | [], _, l => rfl
  | y :: pre, h, l => by
    rw [List.cons_append, List.map_cons, List.find?_cons, h y (by simp)]
    exact find_pre (fun z hz => h z (by simp [hz])) l
theorem last_some {ls : Known} {nl : Nat} (hn : ls.length = nl) {k : Int} {pre : List (Fin nl)} {x : Fin nl} (hp : (pre ++ [x]).map Fin.val <+: downL nl) (hno : ∀ y ∈ pre, hasB (ls.getD y dk).1 k = false) (hx : hasB (ls.getD x dk).1 k = true) : lastIn ls k = some (ls.getD x dk) := by
  obtain ⟨r, hr⟩ := hp
  unfold lastIn
  rw [show (pre ++ [x]).map Fin.val ++ r = pre.map Fin.val ++ ((x : Nat) :: r) by simp] at hr
  rw [rev_down, hn, ← hr, find_pre (f := fun l => hasB l.1 k) (g := fun i => ls.getD i dk) (fun y hy => by
    obtain ⟨z, hz, rfl⟩ := List.mem_map.1 hy
    exact hno z hz)]
  rw [List.map_cons, List.find?_cons, hx]
theorem last_none {ls : Known} {nl : Nat} (hn : ls.length = nl) {k : Int} {xs : List (Fin nl)} (hp : xs.map Fin.val = downL nl) (hno : ∀ y ∈ xs, hasB (ls.getD y dk).1 k = false) : lastIn ls k = none := by
  unfold lastIn
  have h := find_pre (f := fun l => hasB l.1 k) (g := fun i => ls.getD i dk) (pre := xs.map Fin.val) (fun y hy => by
    obtain ⟨z, hz, rfl⟩ := List.mem_map.1 hy
    exact hno z hz) []
  rw [rev_down, hn, ← hp]
  rw [List.append_nil] at h
  exact h
theorem lp_fst {ls : Known} {x : Nat} (h : x < ls.length) : lp (ls.map (·.1)) x = (ls.getD x dk).1 := by
  unfold lp
  rw [List.getD_eq_getElem?_getD, List.getElem?_map, List.getD_eq_getElem?_getD, List.getElem?_eq_getElem h]
  rfl
theorem lp_wy {ls : Known} {x : Nat} (h : x < ls.length) : lp (ls.map fun l => (l.2.thru, l.2.fin)) x = ((ls.getD x dk).2.thru, (ls.getD x dk).2.fin) := by
  unfold lp
  rw [List.getD_eq_getElem?_getD, List.getElem?_map, List.getD_eq_getElem?_getD, List.getElem?_eq_getElem h]
  rfl
def elt (ls : Known) (x : Nat) : (Int × Int) × Wy := ls.getD x dk
def hasE (ls : Known) (t x : Nat) : Bool := hasB (elt ls x).1 t
theorem others_of_same {a b : World} (h : Same a b) : KeepsOthers a b :=
  ⟨h.size, fun k o hk _ => by rw [h.block k (Array.getElem?_eq_some_iff.1 hk).1 id]; exact hk⟩
/-- how the blocks lie -/
def Od (z q2 q3 q4 q5 q6 q7 C : Nat) : Prop := q2 < q6 ∧ q3 < q6 ∧ q4 < q6 ∧ q5 < q6 ∧ C < q6 ∧ q6 < q7 ∧ q2 < C ∧ q3 < C ∧ q4 < C ∧ q5 < C ∧ q4 < q5 ∧ z = q3 ∧ q3 < q2 ∧ q2 < q4
section
variable {w : World} {kv : Value} {q2 q3 q4 q5 q6 q7 C M a : Nat} {pb : Int} {come : List Int} {al : Wy} {q8 k : Nat} {Ds : List Nat} {W W' : World}
theorem RI.come_ (h : RI w kv q2 q3 q4 q5 q6 q7 C M a pb come al q8 k Ds W) (hO : Od w.heap.size q2 q3 q4 q5 q6 q7 C) {come' : List Int} (hc : Chg (fun i => i = C) W W') (ho : Ws.Own W' 0 3 (some ⟨C, 0, none⟩) M (come'.map (Value.int .i64))) (hl' : come'.length = come.length) :
    RI w kv q2 q3 q4 q5 q6 q7 C M a pb come' al q8 k Ds W' := by
  unfold Od at hO
  have hl := h.lt
  refine ⟨⟨h.oi.b2.chg hc (by omega), h.oi.b3.chg hc (by omega), h.oi.b4.chg hc (by omega), h.oi.b5.chg hc (by omega), h.oi.b6.chg hc (by omega), h.oi.b7.chg hc (by omega), ho, Same.more h.oi.same hc (by omega), hl'.trans h.oi.len⟩, h.b8.chg hc (by omega), fun D hD => ?_, hl⟩
  obtain ⟨h1, h2⟩ := h.ds D hD
  exact ⟨h1, (hc.block D (Array.getElem?_eq_some_iff.1 h2).1 (by omega)).trans h2⟩
theorem RI.all_ (h : RI w kv q2 q3 q4 q5 q6 q7 C M a pb come al q8 k Ds W) (hO : Od w.heap.size q2 q3 q4 q5 q6 q7 C) {al' : Wy} (hc : Chg (fun i => i = q5) W W') (hb : Blk W' q5 109 (wyW al')) :
    RI w kv q2 q3 q4 q5 q6 q7 C M a pb come al' q8 k Ds W' := by
  unfold Od at hO
  have hl := h.lt
  refine ⟨⟨h.oi.b2.chg hc (by omega), h.oi.b3.chg hc (by omega), h.oi.b4.chg hc (by omega), hb, h.oi.b6.chg hc (by omega), h.oi.b7.chg hc (by omega), h.oi.own.chg hc (fun g e => by injection e with e; injection e with e; omega), Same.more h.oi.same hc (by omega), h.oi.len⟩, h.b8.chg hc (by omega), fun D hD => ?_, hl⟩
  obtain ⟨h1, h2⟩ := h.ds D hD
  exact ⟨h1, (hc.block D (Array.getElem?_eq_some_iff.1 h2).1 (by omega)).trans h2⟩
theorem RI.next_ (h : RI w kv q2 q3 q4 q5 q6 q7 C M a pb come al q8 k Ds W) (hs : Same W W') {q9 k' D : Nat} (hb : Blk W' q9 3 #[.int .i64 (k' : Int)]) (h9 : q7 < q9) (hD : q7 < D) (hK : W.heap[D]? = some (.deferred (some []))) :
    RI w kv q2 q3 q4 q5 q6 q7 C M a pb come al q9 k' (D :: Ds) W' := by
  refine ⟨h.oi.same_ hs, hb, fun D' hD' => ?_, h9⟩
  rcases List.mem_cons.1 hD' with rfl | hD'
  · exact ⟨hD, (hs.block _ (Array.getElem?_eq_some_iff.1 hK).1 id).trans hK⟩
  · obtain ⟨h1, h2⟩ := h.ds D' hD'
    exact ⟨h1, (hs.block D' (Array.getElem?_eq_some_iff.1 h2).1 id).trans h2⟩
theorem RI.own_ {B : Nat} {row : Option Nat} (h : RI w kv q2 q3 q4 q5 q6 q7 C M a pb come al q8 k Ds W) (hD : ∀ D ∈ Ds, D < B) (hg : W.grownBy W' row) (hr : ∀ r, row = some r → B ≤ r ∧ ∃ o : Obj, W.heap[r]? = some o ∧ o.isCells = false) (h8 : q8 < B) (hO : Od w.heap.size q2 q3 q4 q5 q6 q7 C) :
    RI w kv q2 q3 q4 q5 q6 q7 C M a pb come al q8 k Ds W' := by
  unfold Od at hO
  have hl := h.lt
  have hc := Chg.of_grown hg
  have hn : ∀ i, i < B → ¬ some i = row := fun i hi he => by
    have := (hr i he.symm).1
    omega
  refine ⟨⟨h.oi.b2.chg hc (hn _ (by omega)), h.oi.b3.chg hc (hn _ (by omega)), h.oi.b4.chg hc (hn _ (by omega)), h.oi.b5.chg hc (hn _ (by omega)), h.oi.b6.chg hc (hn _ (by omega)), h.oi.b7.chg hc (hn _ (by omega)),
    h.oi.own.chg hc (fun g e => by injection e with e; injection e with e; exact hn _ (by omega)), Same.more h.oi.same hc (fun i hi => by
      rcases Nat.lt_or_ge i w.heap.size with h | h
      · exact absurd hi (hn i (by omega))
      · exact h), h.oi.len⟩, h.b8.chg hc (hn _ h8), fun D hD' => ?_, hl⟩
  obtain ⟨h1, h2⟩ := h.ds D hD'
  exact ⟨h1, (hc.block D (Array.getElem?_eq_some_iff.1 h2).1 (hn _ (hD D hD'))).trans h2⟩
end
theorem cell_off {w : World} {C t k : Nat} {u : Value} (h : t ≠ k) : (w.setCell ⟨C, t, none⟩ u).cell? ⟨C, k, none⟩ = w.cell? ⟨C, k, none⟩ := by
  apply World.cell?_setCell_other
  intro e
  injection e with _ e _
  exact h e
theorem own_izr (w : World) (n : Nat) (hn : n ≤ 100000) : Ws.Own (w.alloc (.cells (izr n) 3)) 0 3 (some ⟨w.heap.size, 0, none⟩) n ((List.replicate n (0 : Int)).map (Value.int .i64)) := by
  have hz : (izr n).size = n := by
    have := congrArg List.length (izr_list n)
    simpa using this
  refine ⟨by simp, .inr ⟨w.heap.size, n, izr n, by simp, Nat.zero_le _, Blk.new w _ _, by simp, by unfold maxLen; omega, by rw [hz, Nat.mul_one], ?_⟩⟩
  rw [← izr_list]
  exact List.take_of_length_le (by simp [hz])
set_option maxRecDepth 100000 in
set_option maxHeartbeats 8000000 in
theorem once_any (A : Option Addr) (m c : Nat) (p : List Ins) (LA : Option Addr) (cL : Nat) (KA : Option Addr) (cK nk nl : Nat) (ls : Known) (part : Int × Int) (w : World)
    (hl : p.length = m) (hm : m ≤ 5000) (hp : Prg w A p) (hok : Fw.okB p = true)
    (hn : ls.length = nl) (hnl : nl ≤ 5000) (hnk : nl ≤ nk) (hS : Spn w LA (ls.map (·.1))) (hK : Spn w KA (ls.map fun l => (l.2.thru, l.2.fin))) (hpa : 0 ≤ part.1 ∧ part.1 ≤ part.2 ∧ part.2 < m) (hLA : ∀ b o, LA = some ⟨b, o, none⟩ → b < w.heap.size) (hin : ∀ l ∈ ls, 0 ≤ l.1.1 ∧ l.1.1 ≤ l.1.2 ∧ l.1.2 < m) (hT : Is.Tabs w) :
    Calls Tryd.prog 62 #[.slice A m c, .agg #[.int .i64 part.1, .int .i64 part.2], .slice LA nl cL, .slice KA nk cK] w fun e w' =>
      e = .returned (.agg #[.int .i64 (onceC p ls part).thru, .int .i64 (onceC p ls part).fin]) ∧ Same w w' := by
  have HP := Lib.hid hp
  have HL := Lib.hid hl
  have HOK := Lib.hid hok
  have HN := Lib.hid hn
  have HNK := Lib.hid hnk
  have HSP := Lib.hid hS
  have HKN := Lib.hid hK
  have HPA := Lib.hid hpa
  have HLA := Lib.hid hLA
  have HIN := Lib.hid hin
  have HTB := Lib.hid hT
  clear hLA hin hT hp hl hok hn hS hK hpa hnk
  obtain ⟨pa, pb⟩ := part
  simp only at HPA ⊢
  obtain ⟨a, rfl⟩ : ∃ a : Nat, pa = (a : Int) := ⟨pa.toNat, by have := HPA.out; omega⟩
  obtain ⟨kv, hkv⟩ : ∃ kv, kv = Value.slice KA nk cK := ⟨_, rfl⟩
  rw [← hkv]
  have HKV := Lib.hid hkv
  clear hkv
  refine (callsIn_wide (n := 6)).1 ?_
  refine callsIn_of_wp_marks Tryd.func62 rfl trivial ?_ rfl
  refine wpIn_wide.2 ?_
  simp only [Tryd.ntmps62, List.size_toArray, List.length_cons, List.length_nil, Nat.reduceAdd, Nat.reduceSub, Array.replicate_succ, Array.replicate_zero, List.push_toArray, List.append_toArray, List.nil_append, List.cons_append]
  refine wp_mono (Q := NoPanic (bodyPostM Fence.wide 6 Tryd.prog Tryd.f62 _)) ?_ (fun e a w h => noPanic_of h)
  generalize hQ : NoPanic _ = Q'
  have HQP := Lib.hid (show ∀ c a w, Q' (.panic c) a w → False from by rw [← hQ]; exact fun _ _ _ h => h)
  have HQ := Lib.hid hQ
  clear hQ
  go_wp2_with fail
  go_step3
  go_upto_region 2 with fail
  obtain ⟨w1, hw1⟩ : ∃ w1, w1 = ((((w.alloc (.cells #[.int .i64 (a : Int), .int .i64 pb] 78)).alloc (.cells #[kv] 107)).alloc (.cells #[.int .i64 0, .int .i64 0] 109)).alloc (.cells #[.int .i64 0, .int .i64 0] 109)) := ⟨_, rfl⟩
  rw [← hw1]
  have B3 := Lib.hid (show Blk w1 w.heap.size 78 #[.int .i64 (a : Int), .int .i64 pb] from by
    rw [hw1]
    exact (Blk.new w _ _).same ((((Same.refl _).alloc _).alloc _).alloc _))
  have B2 := Lib.hid (show Blk w1 (w.heap.size + 1) 107 #[kv] from by
    have h := Blk.new (w.alloc (.cells #[.int .i64 (a : Int), .int .i64 pb] 78)) 107 #[kv]
    rw [World.size_alloc] at h
    rw [hw1]
    exact h.same (((Same.refl _).alloc _).alloc _))
  have B4 := Lib.hid (show Blk w1 (w.heap.size + 1 + 1) 109 #[.int .i64 0, .int .i64 0] from by
    have h := Blk.new ((w.alloc (.cells #[.int .i64 (a : Int), .int .i64 pb] 78)).alloc (.cells #[kv] 107)) 109 #[.int .i64 0, .int .i64 0]
    rw [World.size_alloc, World.size_alloc] at h
    rw [hw1]
    exact h.same ((Same.refl _).alloc _))
  have B5 := Lib.hid (show Blk w1 (w.heap.size + 1 + 1 + 1) 109 #[.int .i64 0, .int .i64 0] from by
    have h := Blk.new (((w.alloc (.cells #[.int .i64 (a : Int), .int .i64 pb] 78)).alloc (.cells #[kv] 107)).alloc (.cells #[.int .i64 0, .int .i64 0] 109)) 109 #[.int .i64 0, .int .i64 0]
    rw [World.size_alloc, World.size_alloc, World.size_alloc] at h
    rw [hw1]
    exact h)
  have HS1 := Lib.hid (show Same w w1 from by rw [hw1]; exact ((((Same.refl w).alloc _).alloc _).alloc _).alloc _)
  have HZ1 := Lib.hid (show w1.heap.size = w.heap.size + 4 from by rw [hw1]; simp)
  clear hw1
  obtain ⟨q5, hq5⟩ : ∃ q5, q5 = w.heap.size + 1 + 1 + 1 := ⟨_, rfl⟩
  obtain ⟨q4, hq4⟩ : ∃ q4, q4 = w.heap.size + 1 + 1 := ⟨_, rfl⟩
  obtain ⟨q2, hq2⟩ : ∃ q2, q2 = w.heap.size + 1 := ⟨_, rfl⟩
  obtain ⟨q3, hq3⟩ : ∃ q3, q3 = w.heap.size := ⟨_, rfl⟩
  rw [← hq5] at B5
  rw [← hq4] at B4
  rw [← hq2] at B2
  rw [← hq3] at B3
  rw [← hq5, ← hq4, ← hq2, ← hq3]
  have HQ2 := Lib.hid hq2
  have HQ3 := Lib.hid hq3
  have HQ4 := Lib.hid hq4
  have HQ5 := Lib.hid hq5
  clear hq2 hq3 hq4 hq5
  have hmk := izr_make (m + 1) (by omega) w1
  rw [show ((m + 1 : Nat) : Int) = (m : Int) + 1 from rfl] at hmk
  have hm1 : ¬ (m : Int) + 1 < 0 := by omega
  go_upto_region 3 with fail
  obtain ⟨C, hC0⟩ : ∃ C, C = w1.heap.size := ⟨_, rfl⟩
  obtain ⟨w3, hw3⟩ : ∃ w3, w3 = (w1.alloc (.cells (izr (m + 1)) 3)).alloc (.cells #[.slice (some ⟨C, 0, none⟩) (m + 1) (m + 1)] 23) := ⟨_, rfl⟩
  obtain ⟨q6, hq6⟩ : ∃ q6, q6 = C + 1 := ⟨_, rfl⟩
  rw [← hC0, ← hq6, ← hw3]
  have hs3 : Same w1 w3 := by rw [hw3]; exact ((Same.refl _).alloc _).alloc _
  have B6 := Lib.hid (show Blk w3 q6 23 #[.slice (some ⟨C, 0, none⟩) (m + 1) (m + 1)] from by
    have h := Blk.new (w1.alloc (.cells (izr (m + 1)) 3)) 23 #[.slice (some ⟨C, 0, none⟩) (m + 1) (m + 1)]
    rw [World.size_alloc, ← hC0, ← hq6, ← hw3] at h
    exact h)
  have HO3 := Lib.hid (show Ws.Own w3 0 3 (some ⟨C, 0, none⟩) (m + 1) ((List.replicate (m + 1) (0 : Int)).map (Value.int .i64)) from by
    have h := own_izr w1 (m + 1) (by omega)
    rw [← hC0] at h
    rw [hw3]
    exact h.same ((Same.refl _).alloc _))
  have HS3 := Lib.hid (HS1.out.trans hs3)
  have B23 := Lib.hid (B2.out.same hs3)
  have B33 := Lib.hid (B3.out.same hs3)
  have B43 := Lib.hid (B4.out.same hs3)
  have B53 := Lib.hid (B5.out.same hs3)
  have HC := Lib.hid (show w1.heap.size ≤ C ∧ C < q6 from by omega)
  have hf : w3.frozen? ⟨C, a, none⟩ = false := own_thaw HO3.out (by simp) a
  have hx : w3.cell? ⟨C, a, none⟩ = some (.int .i64 0) := own_cell HO3.out (by rw [List.getElem?_map, List.getElem?_replicate, if_pos (by have := HPA.out; omega)]; rfl)
  have HQ6 := Lib.hid (show w1.heap.size ≤ q6 ∧ q6 < w3.heap.size from ⟨by omega, B6.out.lt⟩)
  clear hw3 hq6 hs3 hC0 hmk hm1
  have c6 : w3.cell? ⟨q6, 0, none⟩ = some (.slice (some ⟨C, 0, none⟩) (m + 1) (m + 1)) := B6.out.cell 0
  have c3 : w3.cell? ⟨q3, 0, none⟩ = some (.int .i64 (a : Int)) := B33.out.cell 0
  have ha1 : (0 : Int) ≤ (a : Int) := by omega
  have ha2 : (a : Int) < ((m + 1 : Nat) : Int) := by have := HPA.out; omega
  go_upto_region 4 with fail
  obtain ⟨w4, hw4⟩ : ∃ w4, w4 = w3.setCell ⟨C, a, none⟩ (.int .i64 1) := ⟨_, rfl⟩
  rw [← hw4]
  have hC := HC.out
  have hz1 := HZ1.out
  have hz6 := HQ6.out
  have hqq := HQ2.out
  have hqq3 := HQ3.out
  have hqq4 := HQ4.out
  have hqq5 := HQ5.out
  have hch : Chg (fun i => i = C) w3 w4 := by rw [hw4]; exact (Chg.refl (fun i => i = C) w3).set (p := ⟨C, a, none⟩) (.inl rfl) _
  have B24 := Lib.hid (B23.out.chg hch (by omega))
  have B34 := Lib.hid (B33.out.chg hch (by omega))
  have B44 := Lib.hid (B43.out.chg hch (by omega))
  have B54 := Lib.hid (B53.out.chg hch (by omega))
  have B64 := Lib.hid (B6.out.chg hch (by omega))
  have HO4 := Lib.hid (show Ws.Own w4 0 3 (some ⟨C, 0, none⟩) (m + 1) ((come1 m a).map (Value.int .i64)) from by
    have h := (HO3.out.put a (.int .i64 1)).base (Nat.zero_le _)
    rw [hw4]
    unfold come1
    rw [List.map_set]
    exact h)
  have HS4 := Lib.hid (Same.more HS3.out hch (by omega))
  clear hw4 hch c6 c3 hf hx ha1 ha2 hz1 hqq hqq3 hqq4 hqq5 hC hz6
  have HZ4 := Lib.hid (B64.out.lt)
  go_upto_region 5 with fail
  obtain ⟨w5, hw5⟩ : ∃ w5, w5 = w4.alloc (Obj.cells #[Value.func (Fn.func 91) #[] #[Value.pointer (some { block := q6, off := 0 })]] 136) := ⟨_, rfl⟩
  obtain ⟨q7, hq7⟩ : ∃ q7, q7 = w4.heap.size := ⟨_, rfl⟩
  rw [← hw5, ← hq7]
  have hs5 : Same w4 w5 := by rw [hw5]; exact (Same.refl _).alloc _
  have OI5 := Lib.hid (show OI w kv q2 q3 q4 q5 q6 q7 C (m + 1) a pb (come1 m a) ⟨0, 0⟩ w5 from
    ⟨B24.out.same hs5, B34.out.same hs5, B44.out.same hs5, B54.out.same hs5, B64.out.same hs5, by rw [hw5, hq7]; exact Blk.new w4 _ _, HO4.out.same hs5, HS4.out.trans hs5, by simp [come1]⟩)
  have HQ7 := Lib.hid (show q6 < q7 ∧ q7 < w5.heap.size from ⟨by rw [hq7]; exact B64.out.lt, OI5.out.b7.lt⟩)
  clear hw5 hq7 hs5
  have c3 : w5.cell? ⟨q3, 0, none⟩ = some (.int .i64 (a : Int)) := OI5.out.b3.cell 0
  go_wp2_with fail
  refine wp_label ?_
  go_wp2_with fail
  obtain ⟨w6, hw6⟩ : ∃ w6, w6 = w5.alloc (Obj.cells #[Value.int .i64 (a : Int)] 3) := ⟨_, rfl⟩
  obtain ⟨q8, hq8⟩ : ∃ q8, q8 = w5.heap.size := ⟨_, rfl⟩
  rw [← hw6, ← hq8]
  have RI6 := Lib.hid (show RI w kv q2 q3 q4 q5 q6 q7 C (m + 1) a pb (come1 m a) ⟨0, 0⟩ q8 (a + 0 : Nat) [] w6 from
    ⟨OI5.out.same_ (by rw [hw6]; exact (Same.refl _).alloc _), by rw [hw6, hq8]; exact Blk.new w5 _ _, by simp, by rw [hq8]; exact HQ7.out.2⟩)
  clear hw6 hq8 c3
  have HORD := Lib.hid (show Od w.heap.size q2 q3 q4 q5 q6 q7 C from by
    have := HC.out; have := HZ1.out; have := HQ2.out; have := HQ3.out; have := HQ4.out; have := HQ5.out; have := HQ6.out; have := HQ7.out
    unfold Od
    omega)
  clear HS1 HZ1 B2 B3 B4 B5 HQ2 HQ3 HQ4 HQ5 B6 HO3 HS3 B23 B33 B43 B53 HC HQ6 B24 B34 B44 B54 B64 HO4 HS4 HZ4 OI5 HQ7
  obtain ⟨n, hn0⟩ : ∃ n, n = (pb + 1 - (a : Int)).toNat := ⟨_, rfl⟩
  have HNN := Lib.hid (show (a : Int) + n = pb + 1 from by have := HPA.out; omega)
  have HN0 := Lib.hid hn0
  clear hn0
  refine wp_loop_ghost_k (fun gk a' wx => ∃ (u12 u13 u14 u15 u16 u17 u18 u19 u20 u21 u22 u23 u24 u25 u26 u27 u28 u29 u30 u31 u32 u33 u34 u35 u36 u37 u38 u39 u40 u41 u42 u43 u44 u45 u46 u47 u48 u49 u50 u51 u52 u53 u54 u55 u56 u57 u58 u59 u60 u61 u62 u63 u64 u65 u66 u67 u68 u69 u70 u71 u72 u73 u74 u75 u76 u77 u78 u79 u80 u81 u82 u83 u84 u85 u86 u87 u88 u89 u90 u91 u92 u93 u94 u95 u96 u97 u98 u99 u100 u101 u102 u103 u104 u105 u106 u107 u108 u109 u110 u111 u112 u113 u114 u115 u116 u117 : Value) (ds : List Deferred), (∃ (k q8 : Nat) (Ds : List Nat), k + gk = n ∧ u12 = .pointer (some ⟨q8, 0, none⟩) ∧ Hid (ds = marks Ds) ∧ Hid Ds.Nodup ∧
      Hid (RI w kv q2 q3 q4 q5 q6 q7 C (m + 1) a pb (onceCT p ls a pb k).come (onceCT p ls a pb k).all q8 (a + k) Ds wx)) ∧ a' = { tmps := #[Value.slice A m c, Value.agg #[Value.int .i64 (a : Int), Value.int .i64 pb], Value.slice LA nl cL, kv, undef, Value.pointer (some ⟨q3, 0, none⟩), undef, Value.pointer (some ⟨q2, 0, none⟩), Value.pointer (some ⟨q4, 0, none⟩), Value.pointer (some ⟨q5, 0, none⟩), Value.pointer (some ⟨q6, 0, none⟩), Value.pointer (some ⟨q7, 0, none⟩), u12, u13, u14, u15, u16, u17, u18, u19, u20, u21, u22, u23, u24, u25, u26, u27, u28, u29, u30, u31, u32, u33, u34, u35, u36, u37, u38, u39, u40, u41, u42, u43, u44, u45, u46, u47, u48, u49, u50, u51, u52, u53, u54, u55, u56, u57, u58, u59, u60, u61, u62, u63, u64, u65, u66, u67, u68, u69, u70, u71, u72, u73, u74, u75, u76, u77, u78, u79, u80, u81, u82, u83, u84, u85, u86, u87, u88, u89, u90, u91, u92, u93, u94, u95, u96, u97, u98, u99, u100, u101, u102, u103, u104, u105, u106, u107, u108, u109, u110, u111, u112, u113, u114, u115, u116, u117], defers := ds }) n ?atStart ?round
  case atStart =>
    (repeat apply Exists.intro)
    refine ⟨⟨0, q8, [], by omega, rfl, rfl, List.nodup_nil, ?_⟩, rfl⟩
    have h := RI6.out
    have e : onceCT p ls a pb 0 = ⟨come1 m a, ⟨0, 0⟩⟩ := by rw [← HL.out]; rfl
    rw [e]
    exact h
  case round =>
    intro gk _ wr hinv
    obtain ⟨u12, hinv⟩ := hinv
    obtain ⟨u13, hinv⟩ := hinv
    obtain ⟨u14, hinv⟩ := hinv
    obtain ⟨u15, hinv⟩ := hinv
    obtain ⟨u16, hinv⟩ := hinv
    obtain ⟨u17, hinv⟩ := hinv
    obtain ⟨u18, hinv⟩ := hinv
    obtain ⟨u19, hinv⟩ := hinv
    obtain ⟨u20, hinv⟩ := hinv
    obtain ⟨u21, hinv⟩ := hinv
    obtain ⟨u22, hinv⟩ := hinv
    obtain ⟨u23, hinv⟩ := hinv
    obtain ⟨u24, hinv⟩ := hinv
    obtain ⟨u25, hinv⟩ := hinv
    obtain ⟨u26, hinv⟩ := hinv
    obtain ⟨u27, hinv⟩ := hinv
    obtain ⟨u28, hinv⟩ := hinv
    obtain ⟨u29, hinv⟩ := hinv
    obtain ⟨u30, hinv⟩ := hinv
    obtain ⟨u31, hinv⟩ := hinv
    obtain ⟨u32, hinv⟩ := hinv
    obtain ⟨u33, hinv⟩ := hinv
    obtain ⟨u34, hinv⟩ := hinv
    obtain ⟨u35, hinv⟩ := hinv
    obtain ⟨u36, hinv⟩ := hinv
    obtain ⟨u37, hinv⟩ := hinv
    obtain ⟨u38, hinv⟩ := hinv
    obtain ⟨u39, hinv⟩ := hinv
    obtain ⟨u40, hinv⟩ := hinv
    obtain ⟨u41, hinv⟩ := hinv
    obtain ⟨u42, hinv⟩ := hinv
    obtain ⟨u43, hinv⟩ := hinv
    obtain ⟨u44, hinv⟩ := hinv
    obtain ⟨u45, hinv⟩ := hinv
    obtain ⟨u46, hinv⟩ := hinv
    obtain ⟨u47, hinv⟩ := hinv
    obtain ⟨u48, hinv⟩ := hinv
    obtain ⟨u49, hinv⟩ := hinv
    obtain ⟨u50, hinv⟩ := hinv
    obtain ⟨u51, hinv⟩ := hinv
    obtain ⟨u52, hinv⟩ := hinv
    obtain ⟨u53, hinv⟩ := hinv
    obtain ⟨u54, hinv⟩ := hinv
    obtain ⟨u55, hinv⟩ := hinv
    obtain ⟨u56, hinv⟩ := hinv
    obtain ⟨u57, hinv⟩ := hinv
    obtain ⟨u58, hinv⟩ := hinv
    obtain ⟨u59, hinv⟩ := hinv
    obtain ⟨u60, hinv⟩ := hinv
    obtain ⟨u61, hinv⟩ := hinv
    obtain ⟨u62, hinv⟩ := hinv
    obtain ⟨u63, hinv⟩ := hinv
    obtain ⟨u64, hinv⟩ := hinv
    obtain ⟨u65, hinv⟩ := hinv
    obtain ⟨u66, hinv⟩ := hinv
    obtain ⟨u67, hinv⟩ := hinv
    obtain ⟨u68, hinv⟩ := hinv
    obtain ⟨u69, hinv⟩ := hinv
    obtain ⟨u70, hinv⟩ := hinv
    obtain ⟨u71, hinv⟩ := hinv
    obtain ⟨u72, hinv⟩ := hinv
    obtain ⟨u73, hinv⟩ := hinv
    obtain ⟨u74, hinv⟩ := hinv
    obtain ⟨u75, hinv⟩ := hinv
    obtain ⟨u76, hinv⟩ := hinv
    obtain ⟨u77, hinv⟩ := hinv
    obtain ⟨u78, hinv⟩ := hinv
    obtain ⟨u79, hinv⟩ := hinv
    obtain ⟨u80, hinv⟩ := hinv
    obtain ⟨u81, hinv⟩ := hinv
    obtain ⟨u82, hinv⟩ := hinv
    obtain ⟨u83, hinv⟩ := hinv
    obtain ⟨u84, hinv⟩ := hinv
    obtain ⟨u85, hinv⟩ := hinv
    obtain ⟨u86, hinv⟩ := hinv
    obtain ⟨u87, hinv⟩ := hinv
    obtain ⟨u88, hinv⟩ := hinv
    obtain ⟨u89, hinv⟩ := hinv
    obtain ⟨u90, hinv⟩ := hinv
    obtain ⟨u91, hinv⟩ := hinv
    obtain ⟨u92, hinv⟩ := hinv
    obtain ⟨u93, hinv⟩ := hinv
    obtain ⟨u94, hinv⟩ := hinv
    obtain ⟨u95, hinv⟩ := hinv
    obtain ⟨u96, hinv⟩ := hinv
    obtain ⟨u97, hinv⟩ := hinv
    obtain ⟨u98, hinv⟩ := hinv
    obtain ⟨u99, hinv⟩ := hinv
    obtain ⟨u100, hinv⟩ := hinv
    obtain ⟨u101, hinv⟩ := hinv
    obtain ⟨u102, hinv⟩ := hinv
    obtain ⟨u103, hinv⟩ := hinv
    obtain ⟨u104, hinv⟩ := hinv
    obtain ⟨u105, hinv⟩ := hinv
    obtain ⟨u106, hinv⟩ := hinv
    obtain ⟨u107, hinv⟩ := hinv
    obtain ⟨u108, hinv⟩ := hinv
    obtain ⟨u109, hinv⟩ := hinv
    obtain ⟨u110, hinv⟩ := hinv
    obtain ⟨u111, hinv⟩ := hinv
    obtain ⟨u112, hinv⟩ := hinv
    obtain ⟨u113, hinv⟩ := hinv
    obtain ⟨u114, hinv⟩ := hinv
    obtain ⟨u115, hinv⟩ := hinv
    obtain ⟨u116, hinv⟩ := hinv
    obtain ⟨u117, hinv⟩ := hinv
    obtain ⟨ds, ⟨k, q8, Ds, hk, hu8, HDS, HND, HRI⟩, ha⟩ := hinv
    subst hu8
    subst ha
    intro _ _ _ _
    have c8 : wr.cell? ⟨q8, 0, none⟩ = some (.int .i64 ((a + k : Nat) : Int)) := HRI.out.b8.cell 0
    have c31 : wr.cell? ⟨q3, 1, none⟩ = some (.int .i64 pb) := HRI.out.oi.b3.cell 1
    cases gk with
    | zero =>
      have hgt : ¬ (a : Int) + (k : Int) ≤ pb := by have := HNN.out; omega
      obtain rfl : k = n := by omega
      have y0 := HRI.out.oi.b5.cell 0
      have y1 := HRI.out.oi.b5.cell 1
      simp only [wyW, List.getElem?_toArray, List.getElem?_cons_zero, List.getElem?_cons_succ] at y0 y1
      have z0 : wr.cell? ⟨q4, 0, none⟩ = some (.int .i64 0) := HRI.out.oi.b4.cell 0
      have z1 : wr.cell? ⟨q4, 1, none⟩ = some (.int .i64 0) := HRI.out.oi.b4.cell 1
      have f0 : wr.frozen? ⟨q4, 0, none⟩ = false := HRI.out.oi.b4.thaw 0
      have f1 : wr.frozen? ⟨q4, 1, none⟩ = false := HRI.out.oi.b4.thaw 1
      have HRV := Lib.hid (show onceC p ls ((a : Int), pb) = (onceCT p ls a pb k).all from by unfold onceC; simp only [Int.toNat_natCast]; rw [← HN0.out])
      generalize (onceCT p ls a pb k).all = r at *
      generalize (onceCT p ls a pb k).come = cm at *
      go_wp2_with fail
      rw [← HQ.out]
      have hc4 : Chg (fun i => i = q4) wr ((wr.setCell ⟨q4, 0, none⟩ (.int .i64 r.thru)).setCell ⟨q4, 1, none⟩ (.int .i64 r.fin)) := ((Chg.refl (fun i => i = q4) wr).set (p := ⟨q4, 0, none⟩) (.inl rfl) _).set (p := ⟨q4, 1, none⟩) (.inl rfl) _
      have hb4 : Blk ((wr.setCell ⟨q4, 0, none⟩ (.int .i64 r.thru)).setCell ⟨q4, 1, none⟩ (.int .i64 r.fin)) q4 109 #[.int .i64 r.thru, .int .i64 r.fin] := (HRI.out.oi.b4.put 0 _).put 1 _
      have ho := HORD.out
      unfold Od at ho
      generalize ((wr.setCell ⟨q4, 0, none⟩ (.int .i64 r.thru)).setCell ⟨q4, 1, none⟩ (.int .i64 r.fin)) = Wz at *
      show LeavesInM Fence.wide 6 Tryd.prog Tryd.f62 _ _ ds .returning Wz
      rw [HDS.out]
      refine leaves_marks (by simp) (fun D => q7 < D) Ds Wz HND.out (fun D hD => ?_) (fun w' hc => ?_)
      · obtain ⟨h1, h2⟩ := HRI.out.ds D hD
        exact ⟨h1, (hc4.block D (Array.getElem?_eq_some_iff.1 h2).1 (by omega)).trans h2⟩
      · have hb5 := hb4.chg hc (by omega)
        refine ⟨_, results_cell_row Tryd.results62 _ _ q4 109 #[.int .i64 r.thru, .int .i64 r.fin] (0, 0) _ rfl hb5 Tryd.underlying109 rfl (by kernel_rfl), ?_⟩
        refine ⟨?_, Same.more (Same.more HRI.out.oi.same hc4 (fun i hi => by omega)) hc (fun i hi => by omega)⟩
        rw [HRV.out]
    | succ GK =>
      have hle : (((a + k : Nat) : Int)) ≤ pb := by have := HNN.out; omega
      have HK := Lib.hid hk
      clear hk
      have BK := Lib.hid (back_any LA nl cL wr)
      go_wp2_with fail
      refine BK.out.mono ?_
      rintro e w1 ⟨rfl, rfl⟩
      go_wp2_with fail
      obtain ⟨wB, hwB⟩ : ∃ wB, wB = wr.alloc (Obj.cells #[Value.slice LA nl cL] 70) := ⟨_, rfl⟩
      obtain ⟨bm, hbm⟩ : ∃ bm, bm = wr.heap.size := ⟨_, rfl⟩
      rw [← hwB, ← hbm]
      have hsB : Same wr wB := by rw [hwB]; exact (Same.refl _).alloc _
      have RB := Lib.hid (HRI.out.same_ hsB)
      have hzB : wB.heap.size = bm + 1 := by rw [hwB, hbm]; simp
      have HZB := Lib.hid hzB
      have cB : wB.cell? ⟨bm, 0, none⟩ = some (.slice LA nl cL) := by rw [hwB, hbm]; exact (Blk.new wr _ _).cell 0
      have HDL := Lib.hid (show (∀ D ∈ Ds, D < wB.heap.size) ∧ q8 < wB.heap.size from ⟨fun D hD => (Array.getElem?_eq_some_iff.1 (RB.out.ds D hD).2).1, RB.out.b8.lt⟩)
      have hSB : Spn wB LA (fstL ls) := HSP.out.same RB.out.oi.same
      have hLB : ∀ b o, LA = some ⟨b, o, none⟩ → b < wB.heap.size := fun b o e => Nat.lt_of_lt_of_le (HLA.out b o e) RB.out.oi.same.size
      have BS := back_stops 5 (by omega) bm wB.heap.size nl cL LA (fstL ls) wB (by rw [List.length_map]; exact HN.out) hnl (by omega) hLB (Nat.le_refl _) cB hSB
      obtain ⟨st, hst⟩ : ∃ st, st = onceCT p ls a pb k := ⟨_, rfl⟩
      rw [← hst] at RB
      have HST := Lib.hid (show onceCT p ls a pb (k + 1) = onceCS p ls pb st (a + k) from by rw [hst]; rfl)
      clear hwB hbm hsB c8 c31 cB hSB hLB BK HRI hst hzB
      refine (wpIn_wide (n := 6)).1 ?_
      refine Rr.range_box (n := 6) (by omega) (gf := 114) (lb := #[.pointer (some ⟨bm, 0, none⟩)]) rfl (enters_of Tryd.func114 (by kernel_rfl) rfl) BS (Nat.le_refl _) (fun _ => rfl)
        (fun (pre : List (Fin nl)) W => (∀ y ∈ pre, hasE ls (a + k) y = false) ∧ RI w kv q2 q3 q4 q5 q6 q7 C (m + 1) a pb st.come st.all q8 (a + k) Ds W ∧ wB.heap.size ≤ W.heap.size)
        (fun cd (pre : List (Fin nl)) W => cd = .exit 1 ∧ ∃ (p0 : List (Fin nl)) (x : Fin nl), pre = p0 ++ [x] ∧ (∀ y ∈ p0, hasE ls (a + k) y = false) ∧ hasE ls (a + k) x = true ∧
          RI w kv q2 q3 q4 q5 q6 q7 C (m + 1) a pb (loopC st (a + k) (elt ls x)).come (loopC st (a + k) (elt ls x)).all q8 (a + k) Ds W)
        (fun (x : Fin nl) b => { tmps := #[Value.slice A m c, Value.agg #[Value.int .i64 (a : Int), Value.int .i64 pb], Value.slice LA nl cL, kv, undef, Value.pointer (some ⟨q3, 0, none⟩), undef, Value.pointer (some ⟨q2, 0, none⟩), Value.pointer (some ⟨q4, 0, none⟩), Value.pointer (some ⟨q5, 0, none⟩), Value.pointer (some ⟨q6, 0, none⟩), Value.pointer (some ⟨q7, 0, none⟩), Value.pointer (some ⟨q8, 0, none⟩), Value.int .i64 ((x : Nat) : Int), Value.pointer (some ⟨b, 0, none⟩), u15, u16, u17, u18, u19, u20, u21, u22, u23, u24, u25, u26, u27, Value.int .i64 ((a : Int) + (k : Int)), Value.pointer (some ⟨q3, 1, none⟩), Value.int .i64 pb, Value.bool true, u32, u33, Value.slice LA nl cL, Value.func (Fn.func 114) #[] #[Value.pointer (some ⟨bm, 0, none⟩)], Value.int .i64 ((x : Nat) : Int), Value.agg #[Value.int .i64 (lp (fstL ls) x).1, Value.int .i64 (lp (fstL ls) x).2], u38, u39, u40, u41, u42, u43, u44, u45, u46, u47, u48, u49, u50, u51, u52, u53, u54, u55, u56, u57, u58, u59, u60, u61, u62, u63, u64, u65, u66, u67, u68, u69, u70, u71, u72, u73, u74, u75, u76, u77, u78, u79, u80, u81, u82, u83, u84, u85, u86, u87, u88, u89, u90, u91, u92, u93, u94, u95, u96, u97, u98, u99, u100, u101, u102, u103, u104, u105, u106, u107, u108, u109, u110, u111, u112, u113, u114, u115, u116, u117], defers := [] })
        (fun (e : List (Fin nl) × Fin nl × Nat) W => (∀ y ∈ e.1, hasE ls (a + k) y = false) ∧ RI w kv q2 q3 q4 q5 q6 q7 C (m + 1) a pb st.come st.all q8 (a + k) Ds W ∧ wB.heap.size ≤ W.heap.size ∧
          (wB.heap.size ≤ e.2.2 ∧ Blk W e.2.2 78 #[.int .i64 (lp (fstL ls) e.2.1).1, .int .i64 (lp (fstL ls) e.2.1).2]))
        (fun e X Y row hs hg hr => ⟨hs.1, hs.2.1.own_ HDL.out.1 hg hr HDL.out.2 HORD.out, Nat.le_trans hs.2.2 hg.size⟩)
        (fun cd e X Y row hs hg hr => by
          obtain ⟨h1, p0, x, h2, h3, h4, h5⟩ := hs
          exact ⟨h1, p0, x, h2, h3, h4, h5.own_ HDL.out.1 hg hr HDL.out.2 HORD.out⟩)
        (fun e X Y row hs hg hr => ⟨hs.1, hs.2.1.own_ HDL.out.1 hg hr HDL.out.2 HORD.out, Nat.le_trans hs.2.2.1 hg.size, hs.2.2.2.1, hs.2.2.2.2.chg (Chg.of_grown hg) (fun he => by
          obtain ⟨_, o, ho, hc⟩ := hr _ he.symm
          have := hs.2.2.2.2
          unfold Blk at this
          rw [this] at ho
          injection ho with ho
          subst ho
          cases hc)⟩)
        ⟨by simp, RB.out, Nat.le_refl _⟩ ?assign ?body ?done ?stop
      case assign =>
        rintro l pre x W ⟨hno, hI, hz⟩ hlt K hK
        have HK' := Lib.hid hK
        clear hK
        unfold encSp
        gi_wp2
        refine HK'.out _ _ ((KeepsOthers.alloc W _).from _) ((Below.refl _ W).alloc hz _) ⟨hno, hI.same_ ((Same.refl _).alloc _), Nat.le_trans hz (by simp), hz, Blk.new W _ _⟩
      case body =>
        rintro l pre x b W ⟨hno, hI, hz, hbz, hbb⟩ hlt
        have hxl : (x : Nat) < ls.length := by rw [HN.out]; exact x.2
        obtain ⟨fa, fb, ft, ff, hF⟩ : ∃ fa fb ft ff, elt ls x = ((fa, fb), ⟨ft, ff⟩) := ⟨_, _, _, _, rfl⟩
        have hf1 : lp (fstL ls) x = (fa, fb) := by rw [lp_fst hxl]; exact congrArg (·.1) hF
        have hf2 : lp (ls.map fun l => (l.2.thru, l.2.fin)) x = (ft, ff) := by rw [lp_wy hxl]; exact congrArg (fun l => (l.2.thru, l.2.fin)) hF
        have HF := Lib.hid (show 0 ≤ fa ∧ fa ≤ fb ∧ fb < m from HIN.out ((fa, fb), ⟨ft, ff⟩) (by rw [← hF]; unfold elt; rw [List.getD_eq_getElem?_getD, List.getElem?_eq_getElem hxl]; exact List.getElem_mem hxl))
        rw [hf1] at hbb
        rw [hf1]
        have c8 : W.cell? ⟨q8, 0, none⟩ = some (.int .i64 ((a : Int) + (k : Int))) := hI.b8.cell 0
        have d0 : W.cell? ⟨b, 0, none⟩ = some (.int .i64 fa) := hbb.cell 0
        have d1 : W.cell? ⟨b, 1, none⟩ = some (.int .i64 fb) := hbb.cell 1
        have HI := Lib.hid hI
        have HNO := Lib.hid hno
        have HFE := Lib.hid hF
        have HF2 := Lib.hid hf2
        have HBB := Lib.hid hbb
        have HBZ := Lib.hid hbz
        have HZW := Lib.hid hz
        have HXL := Lib.hid hxl
        clear hI hno hf1 hf2 hF hbb hbz hz hxl BS
        have HOFF := Lib.hid (fun h : ¬ (fa ≤ (a : Int) + (k : Int) ∧ (a : Int) + (k : Int) ≤ fb) => (show ∀ y ∈ pre ++ [x], hasE ls (a + k) y = false from by
          intro y hy
          rcases List.mem_append.1 hy with hy | hy
          · exact HNO.out y hy
          · rw [List.mem_singleton] at hy
            rw [hy]
            unfold hasE hasB
            rw [HFE.out]
            simpa using h))
        have HON := Lib.hid (fun h : fa ≤ (a : Int) + (k : Int) ∧ (a : Int) + (k : Int) ≤ fb => (show hasE ls (a + k) x = true from by
            unfold hasE hasB
            rw [HFE.out]
            simpa using h))
        have HLS := Lib.hid (show loopC st (a + k) (elt ls x) = if ((a + k : Nat) : Int) = fa then ⟨leadC st.come (fb + 1) (mulv (st.come.getD (a + k) 0) ft), ⟨st.all.thru, addv st.all.fin (mulv (st.come.getD (a + k) 0) ff)⟩⟩ else st from by
            unfold loopC
            rw [HFE.out])
        have PH := Lib.hid (fun W' => phas_any fa fb ((a : Int) + (k : Int)) W')
        by_cases hb : fa ≤ (a : Int) + (k : Int) ∧ (a : Int) + (k : Int) ≤ fb
        · have hhas : hasB (fa, fb) ((a : Int) + (k : Int)) = true := by unfold hasB; simpa using hb
          rw [hhas] at PH
          by_cases h3 : (a : Int) + (k : Int) = fa
          · subst h3
            have e33 : ((a : Int) + (k : Int) == (a : Int) + (k : Int)) = true := by simp
            obtain ⟨kb, ko, hKA, k0, k1⟩ := (HKN.out.same HI.out.oi.same).at_ (k := x) (by rw [List.length_map]; exact HXL.out)
            subst hKA
            rw [HF2.out] at k0 k1
            have hx2 := x.2
            have hak : a + k < m + 1 := by have := HNN.out; have := HPA.out; have := HK.out; omega
            have HLEN := Lib.hid (show st.come.length = m + 1 from HI.out.oi.len)
            have ec : W.cell? ⟨C, a + k, none⟩ = some (.int .i64 (st.come.getD (a + k) 0)) := own_cell HI.out.oi.own (by rw [List.getElem?_map, List.getD_eq_getElem?_getD, List.getElem?_eq_getElem (by rw [HLEN.out]; exact hak)]; rfl)
            have B1 := Lib.hid (wmul (st.come.getD (a + k) 0) ff)
            have B2 := Lib.hid (wadd st.all.fin (mulv (st.come.getD (a + k) 0) ff))
            obtain ⟨v, hv⟩ : ∃ v, v = st.come.getD (a + k) 0 := ⟨_, rfl⟩
            rw [← hv] at ec B1 B2
            have HV := Lib.hid hv
            clear hv
            have g1 : (0 : Int) ≤ (a : Int) + (k : Int) := by omega
            have g2 : (a : Int) + (k : Int) < (m : Int) + 1 := by omega
            have g5 : ((a : Int) + (k : Int)).toNat = a + k := by omega
            have g3 : (((x : Nat) : Int)) < (nk : Int) := by have := HNK.out; omega
            have g4 : (0 : Int) ≤ ((x : Nat) : Int) := by omega
            gi_wp2_with (refine ⟨trivial, ?_⟩; gi_at_call 63; refine (CallsIn.inRound l (callsIn_wide.2 (PH.out _))).mono ?_; rintro e W1 ⟨rfl, s1⟩; have c8 := s1.cell c8; have d0 := s1.cell d0; have d1 := s1.cell d1)
            have HI1 := Lib.hid (HI.out.same_ s1)
            have HBB1 := Lib.hid (HBB.out.same s1)
            have HO1 := Lib.hid (others_of_same s1)
            have HLT1 := Lib.hid (show W.heap.size ≤ W1.heap.size from s1.size)
            have e2 : W1.cell? ⟨q2, 0, none⟩ = some (.slice (some ⟨kb, ko, none⟩) nk cK) := by rw [← HKV.out]; exact HI1.out.oi.b2.cell 0
            have e5 : W1.cell? ⟨q5, 1, none⟩ = some (.int .i64 st.all.fin) := HI1.out.oi.b5.cell 1
            have f5 : W1.frozen? ⟨q5, 1, none⟩ = false := HI1.out.oi.b5.thaw 1
            have e6 : W1.cell? ⟨q6, 0, none⟩ = some (.slice (some ⟨C, 0, none⟩) (m + 1) (m + 1)) := HI1.out.oi.b6.cell 0
            have k0 := s1.cell k0
            have k1 := s1.cell k1
            have ec := s1.cell ec
            clear s1 HI HBB
            refine Rr.round_tail 14 (by kernel_rfl) (by kernel_rfl) (by rintro ⟨_, _, h⟩; exact h) (by kernel_rfl) ?_
            simp only [List.take_succ_cons, List.take_zero, List.drop_succ_cons, List.drop_zero]
            repeat still_step
            still_call (still_of (B1.out _))
            still_call (still_of (B2.out _))
            repeat still_step
            refine wpStill_nil ?_
            clear e2 e5 e6 ec c8 d0 d1 k0 k1
            have f5' : W1.drew.frozen? ⟨q5, 1, none⟩ = false := f5
            have e5' : W1.drew.cell? ⟨q5, 1, none⟩ = some (.int .i64 st.all.fin) := HI1.out.oi.b5.cell 1
            clear f5
            go_wp2_with fail
            obtain ⟨W2, hW2⟩ : ∃ W2, W2 = (W1.setCell ⟨q5, 1, none⟩ (.int .i64 (addv st.all.fin (mulv v ff)))).drew := ⟨_, rfl⟩
            rw [← hW2]
            have hc2 : Chg (fun i => i = q5) W1 W2 := by rw [hW2]; exact ((Chg.refl (fun i => i = q5) W1).set (p := ⟨q5, 1, none⟩) (.inl rfl) _).drew
            have HI2 := Lib.hid (show RI w kv q2 q3 q4 q5 q6 q7 C (m + 1) a pb st.come ⟨st.all.thru, addv st.all.fin (mulv v ff)⟩ q8 (a + k) Ds W2 from
              HI1.out.all_ HORD.out hc2 (by rw [hW2]; exact (HI1.out.oi.b5.put 1 _).same (Same.refl _).drew))
            have HO2 := Lib.hid (show KeepsOthers W W2 from HO1.out.trans (by rw [hW2]; exact (KeepsOthers.setCell _ _ _).trans (others_of_same (Same.refl _).drew)))
            have HBB2 := Lib.hid (HBB1.out.chg hc2 (by have := HORD.out; unfold Od at this; have := HDL.out; have := HI1.out.lt; have := HBZ.out; omega))
            clear hW2 hc2 e5' f5' B1 B2 HI1 HBB1 HO1
            have c8 : W2.cell? ⟨q8, 0, none⟩ = some (.int .i64 ((a : Int) + (k : Int))) := HI2.out.b8.cell 0
            have d1 : W2.cell? ⟨b, 1, none⟩ = some (.int .i64 fb) := HBB2.out.cell 1
            have e2 : W2.cell? ⟨q2, 0, none⟩ = some (.slice (some ⟨kb, ko, none⟩) nk cK) := by rw [← HKV.out]; exact HI2.out.oi.b2.cell 0
            have e6 : W2.cell? ⟨q6, 0, none⟩ = some (.slice (some ⟨C, 0, none⟩) (m + 1) (m + 1)) := HI2.out.oi.b6.cell 0
            have e7 : W2.cell? ⟨q7, 0, none⟩ = some (.func (.func 91) #[] #[.pointer (some ⟨q6, 0, none⟩)]) := HI2.out.oi.b7.cell 0
            have ec : W2.cell? ⟨C, a + k, none⟩ = some (.int .i64 v) := own_cell HI2.out.oi.own (by rw [List.getElem?_map, HV.out, List.getD_eq_getElem?_getD, List.getElem?_eq_getElem (by rw [HLEN.out]; exact hak)]; rfl)
            obtain ⟨kb', ko', hKA, k0, k1⟩ := (HKN.out.same HI2.out.oi.same).at_ (k := x) (by rw [List.length_map]; exact HXL.out)
            injection hKA with hKA
            injection hKA with hk1 hk2
            subst hk1 hk2
            rw [HF2.out] at k0 k1
            have hfb := HF.out
            have hfb1 : fb ≤ 5000 := by omega
            have hfb2 : 0 ≤ fb := by omega
            have B1 := Lib.hid (wmul v ft)
            clear hfb
            refine Rr.round_tail 14 (by kernel_rfl) (by kernel_rfl) (by rintro ⟨_, _, h⟩; exact h) (by kernel_rfl) ?_
            simp only [List.take_succ_cons, List.take_zero, List.drop_succ_cons, List.drop_zero]
            repeat still_step
            still_call (still_of (B1.out _))
            repeat still_step
            refine wpStill_nil ?_
            clear c8 d1 e2 e6 e7 ec k0 k1
            have LD := lead_any q6 C (m + 1) (m + 1) st.come (fb + 1).toNat (mulv v ft) W2.drew HLEN.out (by have := HF.out; omega) (by omega) (HI2.out.oi.b6.cell 0) HI2.out.oi.own
            rw [show (((fb + 1).toNat : Nat) : Int) = fb + 1 by omega] at LD
            have HLD := Lib.hid LD
            clear LD
            go_wp2_with fail
            refine HLD.out.mono ?_
            rintro e W3 ⟨rfl, ho3, hw3⟩
            have hc3 : Chg (fun i => i = C) W2 W3 := by rw [hw3]; exact (((Chg.refl (fun i => i = C) W2).drew).drew).set (p := ⟨C, _, none⟩) (.inl rfl) _
            have hk3 : KeepsOthers W2 W3 := by rw [hw3]; exact (others_of_same ((Same.refl W2).drew.drew)).trans (KeepsOthers.setCell _ _ _)
            have HI3 := Lib.hid (HI2.out.come_ HORD.out hc3 ho3 (by unfold leadC; rw [List.length_set]))
            have HK3 := Lib.hid (HO2.out.trans hk3)
            clear hc3 hk3 ho3 hw3 HLD HI2 HO2 HBB2
            go_wp2_with fail
            gi_step
            gi_wp2
            exact ⟨HK3.out.from _, rfl, pre, x, rfl, HNO.out, HON.out (by omega), by rw [HLS.out, if_pos (by omega), ← HV.out]; exact HI3.out⟩
          · have e33 : ((a : Int) + (k : Int) == fa) = false := by simpa using h3
            gi_wp2_with (refine ⟨trivial, ?_⟩; gi_at_call 63; refine (CallsIn.inRound l (callsIn_wide.2 (PH.out _))).mono ?_; rintro e W1 ⟨rfl, s1⟩; have c8 := s1.cell c8; have d0 := s1.cell d0; have d1 := s1.cell d1)
            exact ⟨(others_of_same s1).from _, rfl, pre, x, rfl, HNO.out, HON.out hb, by rw [HLS.out, if_neg (by omega)]; exact HI.out.same_ s1⟩
        · have hhas : hasB (fa, fb) ((a : Int) + (k : Int)) = false := by unfold hasB; simpa using hb
          rw [hhas] at PH
          gi_wp2_with (refine ⟨trivial, ?_⟩; gi_at_call 63; refine (CallsIn.inRound l (callsIn_wide.2 (PH.out _))).mono ?_; rintro e W1 ⟨rfl, s1⟩; have c8 := s1.cell c8; have d0 := s1.cell d0; have d1 := s1.cell d1)
          exact ⟨(others_of_same s1).from _, s1.below.mono HZW.out, HOFF.out hb, HI.out.same_ s1, Nat.le_trans HZW.out s1.size⟩
      case stop =>
        rintro D cd pre W hD hp ⟨rfl, p0, x, rfl, hno, hx, hI⟩ hKD
        have hls : lastIn ls ((a + k : Nat) : Int) = some (elt ls x) := last_some HN.out hp hno hx
        have HT : onceCT p ls a pb (k + 1) = loopC st (a + k) (elt ls x) := by rw [HST.out, onceS_in hls]
        rw [← HT] at hI
        have HI := Lib.hid hI
        have HKD := Lib.hid hKD
        have HDD := Lib.hid hD
        clear hls HT hI hKD hD hx hno hp HST BS RB
        refine wpIn_wide.2 ?_
        have c8 : W.cell? ⟨q8, 0, none⟩ = some (.int .i64 ((a : Int) + (k : Int))) := HI.out.b8.cell 0
        have g9 : (a : Int) + (k : Int) ≤ 100000 := by have := HNN.out; have := HPA.out; have := HK.out; omega
        go_wp2_with fail
        refine Handed.intro GK ?measure ?_
        case measure => exact Nat.lt_succ_self GK
        go_step
        (repeat apply Exists.intro)
        refine ⟨⟨k + 1, W.heap.size, D :: Ds, by have := HK.out; omega, rfl, Lib.hid (by rw [HDS.out]; rfl), Lib.hid (List.nodup_cons.2 ⟨fun h => by have := HDL.out.1 D h; have := HDD.out; omega, HND.out⟩), Lib.hid ?_⟩, rfl⟩
        have hlt := HI.out.lt
        have hl8 := HI.out.b8.lt
        exact HI.out.next_ ((Same.refl W).alloc _) (by rw [show ((a + (k + 1) : Nat) : Int) = (a : Int) + (k : Int) + 1 by omega]; exact Blk.new W _ _) (by omega) (by have := HDL.out.2; have := HDD.out; omega) HKD.out
      case done =>
        rintro D xs W hD hxs ⟨hno, hI, hz⟩ hKD
        have hln : lastIn ls ((a + k : Nat) : Int) = none := last_none HN.out hxs hno
        obtain ⟨v, hv⟩ : ∃ v, v = st.come.getD (a + k) 0 := ⟨_, rfl⟩
        have hak : a + k < m := by have := HNN.out; have := HPA.out; have := HK.out; omega
        have hT := HST.out
        rw [onceS_no hln, ← hv] at hT
        have HID := Lib.hid hI
        have HKE := Lib.hid hKD
        have HDD := Lib.hid hD
        have HLEN := Lib.hid (show st.come.length = m + 1 from HID.out.oi.len)
        have HAK := Lib.hid hak
        have HV := Lib.hid hv
        have hOC : ∀ W', Ws.Own W' 0 3 (some ⟨C, 0, none⟩) (m + 1) (st.come.map (Value.int .i64)) → W'.cell? ⟨C, a + k, none⟩ = some (.int .i64 v) := fun W' ho => own_cell ho (by rw [List.getElem?_map, hv, List.getD_eq_getElem?_getD, List.getElem?_eq_getElem (by rw [HLEN.out]; omega)]; rfl)
        have HOC := Lib.hid hOC
        have HPG := Lib.hid (HP.out.same HID.out.oi.same)
        obtain ⟨hokk, zb, zo, hA, z0, _⟩ := HPG.out.at_ (k := a + k) (by rw [HL.out]; exact HAK.out)
        have HNX := Lib.hid (fun (t : Int) ht => (show (0 ≤ t ∧ t < p.length) ∧ t ≠ ((a + k : Nat) : Int) from by have h := (Fw.okB_fine HOK.out).edge HP.out.nn (k := a + k) (by rw [HL.out]; exact HAK.out) (t := t) ht; refine ⟨h.1, ?_⟩; rcases h.2 with h2 | h2 | h2 <;> omega))
        have NF := Lib.hid (fun W' (s : Same w W') => Fw.nextsf_any A m c p ((a + k : Nat) : Int) W' HL.out hm (HP.out.same s) (HTB.out.same s))
        have HNL := Lib.hid (show Fw.nextsL p ((a + k : Nat) : Int) = nextL p (a + k) from by unfold Fw.nextsL; rw [if_pos ⟨HOK.out, by omega, by rw [HL.out]; omega⟩, Int.toNat_natCast])
        rw [HNL.out, show ((a + k : Nat) : Int) = (a : Int) + (k : Int) from rfl] at NF
        have HLL := Lib.hid (Fp.next_len p (a + k))
        subst hA
        have HT2 := Lib.hid hT
        clear hokk HPG HNL hln hT hI hKD hD hz hno hxs HST BS RB hv hOC
        generalize (at_ p (a + k)).op = op at *
        have g1 : (0 : Int) ≤ (a : Int) + (k : Int) := by omega
        have g2 : (a : Int) + (k : Int) < (m : Int) + 1 := by omega
        have g3 : (a : Int) + (k : Int) < (m : Int) := by omega
        have g5 : ((a : Int) + (k : Int)).toNat = a + k := by omega
        have g9 : (a : Int) + (k : Int) ≤ 100000 := by have := HNN.out; have := HPA.out; have := HK.out; omega
        have c8 : W.cell? ⟨q8, 0, none⟩ = some (.int .i64 ((a : Int) + (k : Int))) := HID.out.b8.cell 0
        have e6 : W.cell? ⟨q6, 0, none⟩ = some (.slice (some ⟨C, 0, none⟩) (m + 1) (m + 1)) := HID.out.oi.b6.cell 0
        have ec : W.cell? ⟨C, a + k, none⟩ = some (.int .i64 v) := HOC.out W HID.out.oi.own
        by_cases h21 : op = 21
        · have b21 : (op == 21) = true := by simpa using h21
          have HTT := Lib.hid (HT2.out.trans (if_pos h21))
          clear h21 HT2 NF HNX
          have e5 : W.cell? ⟨q5, 1, none⟩ = some (.int .i64 st.all.fin) := HID.out.oi.b5.cell 1
          have BE := Lib.hid (wadd st.all.fin v)
          go_wp2_with fail
          go_still_tail 8, (by kernel_rfl)
          still_call (still_of (BE.out _))
          repeat still_step
          refine wpStill_nil ?_
          change wpList _ _ _ _ _ W.drew
          have HID2 := Lib.hid (HID.out.same_ (Same.refl _).drew)
          have HKE2 := Lib.hid (show W.drew.heap[D]? = some (.deferred (some [])) from HKE.out)
          clear c8 e6 ec e5 z0 HID HKE
          generalize W.drew = We at *
          have f5 : We.frozen? ⟨q5, 1, none⟩ = false := HID2.out.oi.b5.thaw 1
          have e5 : We.cell? ⟨q5, 1, none⟩ = some (.int .i64 st.all.fin) := HID2.out.oi.b5.cell 1
          go_upto_region 24 with fail
          obtain ⟨W4, hW4⟩ : ∃ W4, W4 = We.setCell ⟨q5, 1, none⟩ (.int .i64 (addv st.all.fin v)) := ⟨_, rfl⟩
          rw [← hW4]
          have hc4 : Chg (fun i => i = q5) We W4 := by rw [hW4]; exact (Chg.refl (fun i => i = q5) We).set (p := ⟨q5, 1, none⟩) (.inl rfl) _
          have HI := Lib.hid (show RI w kv q2 q3 q4 q5 q6 q7 C (m + 1) a pb (onceCT p ls a pb (k + 1)).come (onceCT p ls a pb (k + 1)).all q8 (a + k) Ds W4 from by
            rw [HTT.out]
            exact HID2.out.all_ HORD.out hc4 (by rw [hW4]; exact HID2.out.oi.b5.put 1 _))
          have HKD := Lib.hid (show W4.heap[D]? = some (.deferred (some [])) from (hc4.block D (Array.getElem?_eq_some_iff.1 HKE2.out).1 (by have := HORD.out; unfold Od at this; have := HDD.out; have := HDL.out.2; have := HID2.out.lt; omega)).trans HKE2.out)
          clear hW4 hc4 HID2 HKE2 e5 f5 BE
          have c8 : W4.cell? ⟨q8, 0, none⟩ = some (.int .i64 ((a : Int) + (k : Int))) := HI.out.b8.cell 0
          go_wp2_with fail
          refine Handed.intro GK ?measure ?_
          case measure => exact Nat.lt_succ_self GK
          go_step
          (repeat apply Exists.intro)
          refine ⟨⟨k + 1, W4.heap.size, D :: Ds, by have := HK.out; omega, rfl, Lib.hid (by rw [HDS.out]; rfl), Lib.hid (List.nodup_cons.2 ⟨fun h => by have := HDL.out.1 D h; have := HDD.out; omega, HND.out⟩), Lib.hid ?_⟩, rfl⟩
          have hlt := HI.out.lt
          have hl8 := HI.out.b8.lt
          exact HI.out.next_ ((Same.refl W4).alloc _) (by rw [show ((a + (k + 1) : Nat) : Int) = (a : Int) + (k : Int) + 1 by omega]; exact Blk.new W4 _ _) (by omega) (by have := HDL.out.2; have := HDD.out; omega) HKD.out
        · have b21 : (op == 21) = false := by simpa using h21
          have HT3 := Lib.hid (HT2.out.trans (if_neg h21))
          clear h21 HT2
          have e31 : W.cell? ⟨q3, 1, none⟩ = some (.int .i64 pb) := HID.out.oi.b3.cell 1
          by_cases hpb : (a : Int) + (k : Int) = pb
          · have bpb : ((a : Int) + (k : Int) == pb) = true := by simpa using hpb
            have HTT := Lib.hid (HT3.out.trans (if_pos (by omega)))
            clear hpb HT3 NF HNX
            have e5 : W.cell? ⟨q5, 0, none⟩ = some (.int .i64 st.all.thru) := HID.out.oi.b5.cell 0
            have f5 : W.frozen? ⟨q5, 0, none⟩ = false := HID.out.oi.b5.thaw 0
            go_upto_region 24 with fail
            obtain ⟨W4, hW4⟩ : ∃ W4, W4 = W.setCell ⟨q5, 0, none⟩ (.int .i64 v) := ⟨_, rfl⟩
            rw [← hW4]
            have hc4 : Chg (fun i => i = q5) W W4 := by rw [hW4]; exact (Chg.refl (fun i => i = q5) W).set (p := ⟨q5, 0, none⟩) (.inl rfl) _
            have HI := Lib.hid (show RI w kv q2 q3 q4 q5 q6 q7 C (m + 1) a pb (onceCT p ls a pb (k + 1)).come (onceCT p ls a pb (k + 1)).all q8 (a + k) Ds W4 from by
              rw [HTT.out]
              exact HID.out.all_ HORD.out hc4 (by rw [hW4]; exact HID.out.oi.b5.put 0 _))
            have HKD := Lib.hid (show W4.heap[D]? = some (.deferred (some [])) from (hc4.block D (Array.getElem?_eq_some_iff.1 HKE.out).1 (by have := HORD.out; unfold Od at this; have := HDD.out; have := HDL.out.2; have := HID.out.lt; omega)).trans HKE.out)
            clear hW4 hc4 HID HKE c8 e31 e5 f5 e6 ec z0
            have c8 : W4.cell? ⟨q8, 0, none⟩ = some (.int .i64 ((a : Int) + (k : Int))) := HI.out.b8.cell 0
            go_wp2_with fail
            refine Handed.intro GK ?measure ?_
            case measure => exact Nat.lt_succ_self GK
            go_step
            (repeat apply Exists.intro)
            refine ⟨⟨k + 1, W4.heap.size, D :: Ds, by have := HK.out; omega, rfl, Lib.hid (by rw [HDS.out]; rfl), Lib.hid (List.nodup_cons.2 ⟨fun h => by have := HDL.out.1 D h; have := HDD.out; omega, HND.out⟩), Lib.hid ?_⟩, rfl⟩
            have hlt := HI.out.lt
            have hl8 := HI.out.b8.lt
            exact HI.out.next_ ((Same.refl W4).alloc _) (by rw [show ((a + (k + 1) : Nat) : Int) = (a : Int) + (k : Int) + 1 by omega]; exact Blk.new W4 _ _) (by omega) (by have := HDL.out.2; have := HDD.out; omega) HKD.out
          · have bpb : ((a : Int) + (k : Int) == pb) = false := by simpa using hpb
            have HTT := Lib.hid (HT3.out.trans (if_neg (by omega)))
            clear hpb HT3
            go_wp2_with fail
            refine (NF.out _ HID.out.oi.same).mono ?_
            rintro e Wg ⟨NA, nc, rfl, hr, hs, hf⟩
            have HIG := Lib.hid (HID.out.same_ hs)
            have HKG := Lib.hid ((hs.block D (Array.getElem?_eq_some_iff.1 HKE.out).1 id).trans HKE.out)
            have HFR := Lib.hid (fun b o (e : NA = some ⟨b, o, none⟩) => Nat.lt_of_lt_of_le (Nat.lt_trans (by have := HORD.out; unfold Od at this; omega : C < q6) HID.out.oi.b6.lt) (hf b o e))
            have HRG := Lib.hid hr
            clear hr hs hf HID HKE NF c8 e31 e6 ec z0
            obtain ⟨nx, hnx⟩ : ∃ nx, nx = nextL p (a + k) := ⟨_, rfl⟩
            rw [← hnx] at HTT HRG HNX HLL
            rw [← hnx]
            obtain ⟨nn, hnn⟩ : ∃ nn, nn = nx.length := ⟨_, rfl⟩
            rw [← hnn]
            have HNLEN := Lib.hid hnn
            have hn2 : nn ≤ 2 := by rw [hnn]; exact HLL.out
            clear hnx hnn HLL
            go_wp2_with fail
            go_loopg [79] nn (fun gk iv wx => ∃ j : Nat, j + gk = nn ∧ iv = .int .i64 (j : Int) ∧ Hid (RI w kv q2 q3 q4 q5 q6 q7 C (m + 1) a pb ((nx.take j).foldl (fun c t => leadC c t v) st.come) st.all q8 (a + k) Ds wx) ∧ Hid (wx.heap[D]? = some (.deferred (some []))) ∧ Hid (Row wx NA (nx.map (Value.int .i64))) ∧ Hid (wx.cell? ⟨C, a + k, none⟩ = some (.int .i64 v)))
            case atStart => exact ⟨0, by omega, rfl, HIG, HKG, HRG, Lib.hid (HOC.out Wg HIG.out.oi.own)⟩
            case round =>
              obtain ⟨j, hj, rfl, HIJ, HKJ, HRJ, HCJ⟩ := hrel
              clear HIG HKG HRG
              cases gk with
              | zero =>
                have hjn : ¬ (j : Int) < nn := by omega
                have HI := Lib.hid (show RI w kv q2 q3 q4 q5 q6 q7 C (m + 1) a pb (onceCT p ls a pb (k + 1)).come (onceCT p ls a pb (k + 1)).all q8 (a + k) Ds wr from by
                  rw [HTT.out]
                  have h := HIJ.out
                  rw [List.take_of_length_le (by have := HNLEN.out; omega)] at h
                  exact h)
                have HKD := HKJ
                clear HIJ HKJ HRJ HCJ hj
                have c8 : wr.cell? ⟨q8, 0, none⟩ = some (.int .i64 ((a : Int) + (k : Int))) := HI.out.b8.cell 0
                go_wp2_with fail
                refine Handed.intro GK ?measure ?_
                case measure => exact Nat.lt_succ_self GK
                go_step
                (repeat apply Exists.intro)
                refine ⟨⟨k + 1, wr.heap.size, D :: Ds, by have := HK.out; omega, rfl, Lib.hid (by rw [HDS.out]; rfl), Lib.hid (List.nodup_cons.2 ⟨fun h => by have := HDL.out.1 D h; have := HDD.out; omega, HND.out⟩), Lib.hid ?_⟩, rfl⟩
                have hlt := HI.out.lt
                have hl8 := HI.out.b8.lt
                exact HI.out.next_ ((Same.refl wr).alloc _) (by rw [show ((a + (k + 1) : Nat) : Int) = (a : Int) + (k : Int) + 1 by omega]; exact Blk.new wr _ _) (by omega) (by have := HDL.out.2; have := HDD.out; omega) HKD.out
              | succ GJ =>
                have hjn : (j : Int) < nn := by omega
                have hj0 : (0 : Int) ≤ (j : Int) := by omega
                have hjl : j < nx.length := by rw [← HNLEN.out]; omega
                have HJ := Lib.hid hj
                obtain ⟨nb, no, hNA, hc⟩ := HRJ.out j (.int .i64 (nx.getD j 0)) (by rw [List.getElem?_map, List.getD_eq_getElem?_getD, List.getElem?_eq_getElem hjl]; rfl)
                have HTK := Lib.hid (show nx.take (j + 1) = nx.take j ++ [nx.getD j 0] from by rw [List.take_succ_eq_append_getElem hjl, List.getD_eq_getElem?_getD, List.getElem?_eq_getElem hjl]; rfl)
                have hb := HNX.out (nx.getD j 0) (by rw [List.getD_eq_getElem?_getD, List.getElem?_eq_getElem hjl]; exact List.getElem_mem hjl)
                rw [HL.out] at hb
                clear hj hjl
                subst hNA
                obtain ⟨t, ht⟩ : ∃ t : Nat, (t : Int) = nx.getD j 0 := ⟨(nx.getD j 0).toNat, by omega⟩
                rw [← ht] at hc HTK hb
                have HTM := Lib.hid hb
                have htk : t ≠ a + k := by omega
                have hcv : wr.cell? ⟨C, a + k, none⟩ = some (.int .i64 v) := HCJ.out
                have c8 : wr.cell? ⟨q8, 0, none⟩ = some (.int .i64 ((a : Int) + (k : Int))) := HIJ.out.b8.cell 0
                have e6 : wr.cell? ⟨q6, 0, none⟩ = some (.slice (some ⟨C, 0, none⟩) (m + 1) (m + 1)) := HIJ.out.oi.b6.cell 0
                have LD := Lib.hid (lead_any q6 C (m + 1) (m + 1) _ t v wr.drew (HIJ.out.oi.len) (by omega) (by omega) (HIJ.out.oi.b6.cell 0) HIJ.out.oi.own)
                have e7 : wr.cell? ⟨q7, 0, none⟩ = some (.func (.func 91) #[] #[.pointer (some ⟨q6, 0, none⟩)]) := HIJ.out.oi.b7.cell 0
                clear ht hb
                go_wp2_with fail
                go_still_tail 6, (by kernel_rfl)
                change wpList _ _ _ _ _ wr.drew
                go_wp2_with fail
                refine LD.out.mono ?_
                rintro e W5 ⟨rfl, ho5, hw5⟩
                have hc5 : Chg (fun i => i = C) wr W5 := by rw [hw5]; exact (((Chg.refl (fun i => i = C) wr).drew).drew).set (p := ⟨C, _, none⟩) (.inl rfl) _
                have HI5 := Lib.hid (HIJ.out.come_ HORD.out hc5 ho5 (by unfold leadC; rw [List.length_set]))
                have HK5 := Lib.hid ((hc5.block D (Array.getElem?_eq_some_iff.1 HKJ.out).1 (by have := HORD.out; unfold Od at this; have := HDD.out; have := HDL.out.2; have := HIJ.out.lt; omega)).trans HKJ.out)
                have HR5 := Lib.hid (HRJ.out.chg hc5 (fun b o e _ => by have := HFR.out b o e; omega))
                have HC5 := Lib.hid (show W5.cell? ⟨C, a + k, none⟩ = some (.int .i64 v) from by
                  rw [hw5]
                  exact (cell_off htk).trans HCJ.out)
                clear hc5 ho5 hw5 LD HIJ HKJ HRJ e7 hc HCJ
                go_wp2_with fail
                go_roundg GJ
                case measure => omega
                case rel =>
                  refine ⟨j + 1, by have := HJ.out; omega, by go_num, ?_, HK5, HR5, HC5⟩
                  rw [HTK.out, List.foldl_append]
                  exact HI5
end Go.Proofs.YtnlndkpjfgpodaaDoor.Po
