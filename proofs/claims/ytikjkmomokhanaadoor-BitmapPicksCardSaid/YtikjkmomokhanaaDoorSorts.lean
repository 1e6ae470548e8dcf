/-
  Rows of the call's own, behind a sort of the library's. Plain lemmas: nothing here speaks of a program.
-/
import Derived.Test.YtikjkmomokhanaaDoorWordsK
import Derived.Shelf.SlSortCmp.NoneTotal
set_option linter.unusedSimpArgs false
set_option linter.unusedVariables false
namespace Go.Proofs.YtikjkmomokhanaaDoor.Ws
open Go.RowKit Go.Sort

theorem same_grow (w : World) (os : Array Obj) : Same w (Go.Sort.grow w os) :=
  ⟨rfl, rfl, rfl, by rw [size_grow]; omega, fun i hi _ => heap_grow_old w os hi⟩
section
variable {α : Type} [Inhabited α]
theorem heap_put_other (enc : α → Value) (w : World) (g : Nat) (d : Array α) {i : Nat} (h : i ≠ g) : (putRow enc w g 0 d).heap[i]? = w.heap[i]? := by
  unfold putRow mapBlock
  simp only [Array.getElem?_modify]
  rw [if_neg (fun e => h e.symm)]
theorem heap_put_same (enc : α → Value) (w : World) (g : Nat) (d : Array α) {cs : Array Value} {t : TypeId} {fr : Nat × Nat} (h : w.heap[g]? = some (.cells cs t fr)) :
    (putRow enc w g 0 d).heap[g]? = some (.cells (putCells enc 0 d cs) t fr) := by
  unfold putRow mapBlock
  simp only [Array.getElem?_modify]
  rw [if_pos trivial, h]
  rfl
theorem chg_sort (enc : α → Value) (w : World) (g m : Nat) (d : Array α) (os : Array Obj) : Chg (fun i => i = g) w (sortWorld enc w g 0 m d os) := by
  unfold sortWorld
  refine ⟨rfl, rfl, rfl, ?_, ?_⟩
  · rw [size_grow, size_putRow]
    show w.heap.size ≤ w.heap.size + _
    omega
  · intro i hi hn
    rw [heap_grow_old _ _ (by rw [size_putRow]; exact hi), heap_put_other _ _ _ _ hn]
    rfl
theorem holds_of {w : World} {B : Nat} {e : TypeId} {g n c : Nat} {l : List Value} (h : OwnK w B e 1 (some ⟨g, 0, none⟩) n c l) (enc : α → Value) (d : Array α) (hd : l = d.toList.map enc) : Holds enc w g 0 d := by
  intro j hj
  have hl : l[j]? = some (enc d[j]!) := by
    rw [hd, List.getElem?_map, Array.getElem?_toList, Array.getElem?_eq_getElem hj, getElem!_pos d j hj]
    rfl
  refine ⟨h.row.get hl, ?_⟩
  rcases h.2 with ⟨h2, _⟩ | ⟨g2, cap, cur, hv, hb, hg, rest⟩
  · cases h2
  · injection hv with hv
    injection hv with hv
    injection hv with hv
    subst hv
    rw [Nat.zero_add]
    exact Blk.thaw (t := e) hg j
theorem take_put (enc : α → Value) (d : Array α) (cs : Array Value) (n : Nat) (hn : d.size = n) (hc : n ≤ cs.size) : (putCells enc 0 d cs).toList.take n = d.toList.map enc := by
  apply List.ext_getElem?
  intro i
  rw [List.getElem?_take]
  by_cases hi : i < n
  · rw [if_pos hi, Array.getElem?_toList, List.getElem?_map, Array.getElem?_toList]
    unfold putCells
    rw [Array.getElem?_mapIdx, Array.getElem?_eq_getElem (show i < cs.size by omega), Array.getElem?_eq_getElem (show i < d.size by omega)]
    simp only [Option.map_some]
    rw [if_pos ⟨Nat.zero_le _, by omega⟩, Nat.sub_zero, getElem!_pos d i (by omega)]
  · rw [if_neg hi, List.getElem?_eq_none (by simp; omega)]
theorem own_sort {w : World} {B : Nat} {e : TypeId} {g n c : Nat} {l : List Value} (h : OwnK w B e 1 (some ⟨g, 0, none⟩) n c l) (enc : α → Value) (m : Nat) (d : Array α) (os : Array Obj) (hd : d.size = n) :
    OwnK (sortWorld enc w g 0 m d os) B e 1 (some ⟨g, 0, none⟩) n c (d.toList.map enc) := by
  refine ⟨by rw [List.length_map, Array.length_toList, hd, Nat.mul_one], ?_⟩
  rcases h.2 with ⟨h2, _⟩ | ⟨g2, cap, cur, hv, hb, hg, h1, h2, h3, h4⟩
  · cases h2
  · have hv' := hv
    injection hv' with hv'
    injection hv' with hv'
    injection hv' with hv'
    subst hv'
    refine .inr ⟨g, cap, putCells enc 0 d cur, hv, hb, ?_, h1, h2, by unfold putCells; rw [Array.size_mapIdx]; exact h3, ?_⟩
    · unfold sortWorld
      have hlt : g < w.heap.size := Blk.lt (t := e) hg
      rw [heap_grow_old _ _ (by rw [size_putRow]; exact hlt)]
      exact heap_put_same enc (Go.Sort.ahead w m) g d hg
    · rw [Nat.mul_one]
      exact take_put enc d cur n hd (by omega)
end

theorem own1_get {w : World} {B : Nat} {e : TypeId} {g c n k : Nat} {l : List Value} {u : Value} (h : OwnK w B e 1 (some ⟨g, 0, none⟩) n c l) (hk : l[k]? = some u) : w.cell? ⟨g, k, none⟩ = some u := by
  have := h.row.get hk
  rw [Nat.zero_add] at this
  exact this
theorem own1_thaw {w : World} {B : Nat} {e : TypeId} {s g c n : Nat} {l : List Value} (h : OwnK w B e s (some ⟨g, 0, none⟩) n c l) (j : Nat) : w.frozen? ⟨g, j, none⟩ = false := by
  rcases h.2 with ⟨h2, _⟩ | ⟨g2, cap, cur, hv, hb, hg, rest⟩
  · cases h2
  · injection hv with hv
    injection hv with hv
    injection hv with hv
    subst hv
    exact Blk.thaw (t := e) hg j
theorem own1_set {w : World} {B : Nat} {e : TypeId} {s g c n : Nat} {l : List Value} (h : OwnK w B e s (some ⟨g, 0, none⟩) n c l) (j : Nat) (u : Value) :
    OwnK (w.setCell ⟨g, j, none⟩ u) B e s (some ⟨g, 0, none⟩) n c (l.set j u) := (World.ownsRow.stored h j u).1
/-- a row of n numbers, by their places -/
def IL (n : Nat) (f : Nat → Int) : List Value := (List.range n).map fun x => Value.int .i64 (f x)
theorem IL_len (n : Nat) (f : Nat → Int) : (IL n f).length = n := by simp [IL]
theorem IL_get {n k : Nat} (f : Nat → Int) (h : k < n) : (IL n f)[k]? = some (.int .i64 (f k)) := by
  unfold IL
  rw [List.getElem?_map, List.getElem?_range h]
  rfl
theorem IL_congr {n : Nat} {f g : Nat → Int} (h : ∀ x, x < n → f x = g x) : IL n f = IL n g := by
  unfold IL
  apply List.map_congr_left
  intro x hx
  rw [h x (List.mem_range.1 hx)]
theorem IL_set {n k : Nat} (f : Nat → Int) (v : Int) (h : k < n) : (IL n f).set k (.int .i64 v) = IL n (fun x => if x = k then v else f x) := by
  apply List.ext_getElem?
  intro i
  rw [List.getElem?_set]
  by_cases hi : i < n
  · by_cases hk : k = i
    · subst hk
      rw [if_pos rfl, if_pos (by rw [IL_len]; exact h), IL_get _ h, if_pos rfl]
    · rw [if_neg hk, IL_get _ hi, IL_get _ hi, if_neg (fun h => hk h.symm)]
  · rw [List.getElem?_eq_none (l := IL n (fun x => if x = k then v else f x)) (by rw [IL_len]; omega)]
    by_cases hk : k = i
    · omega
    · rw [if_neg hk, List.getElem?_eq_none (by rw [IL_len]; omega)]
theorem made_IL (n : Nat) : (madeCells (Value.int .i64 0).cells (n * 1)).toList = IL n (fun _ => 0) := by
  apply List.ext_getElem?
  intro i
  rw [Nat.mul_one]
  by_cases hi : i < n
  · rw [IL_get _ hi]
    have e : (#[Value.int .i64 0] : Array Value)[i % 1]! = .int .i64 0 := by rw [Nat.mod_one]; rfl
    simp only [madeCells, Value.cells, List.size_toArray, List.length_cons, List.length_nil, Array.toList_map, Array.toList_range, List.getElem?_map, List.getElem?_range hi, Option.map_some]
    exact congrArg some e
  · rw [List.getElem?_eq_none (l := IL n (fun _ => 0)) (by rw [IL_len]; omega), List.getElem?_eq_none (by rw [Array.length_toList, size_madeCells]; omega)]

end Go.Proofs.YtikjkmomokhanaaDoor.Ws
