/-
  Bytes laid: package codec's Put8, Put16, Put32, and the document's own answer; the chapter's example.
-/
import Derived.Test.YtaclphhbdfoaeaaDoorRows
import Derived.Test.YtaclphhbdfoaeaaDoorWords
import Derived.WalkLawsBesides
import Derived.WalkSpells
import Derived.ProofKit
import Derived.OpenShut
import Derived.Lib.Hide
import Derived.Deep.QuietTactic
import Derived.BigQuiet
import Derived.Deep.RegionHeld3
import Derived.Laws.BytesArg
section
set_option linter.unusedSimpArgs false
set_option linter.unusedVariables false
namespace Go.Proofs.YtaclphhbdfoaeaaDoor.Cd
open Go.ChangeShapes Go.WideShapes Go.ChangeAt Go.RowKit Ws

theorem ret_int {k : IntKind} {a b : Int} (h : a = b) : Ending.returned (.int k a) = .returned (.int k b) := by rw [h]
theorem ret_bool {a b : Bool} (h : a = b) : Ending.returned (.bool a) = .returned (.bool b) := by rw [h]

/-- bytes as cells -/
def by8 (l : List Int) : List Value := l.map (Value.int .u8)
def By (l : List Int) : Prop := ∀ x ∈ l, 0 ≤ x ∧ x ≤ 255
theorem by8_len (l : List Int) : (by8 l).length = l.length := by simp [by8]
theorem by8_one (l : List Int) : ∀ u ∈ by8 l, u.oneCell' = true := by
  intro u hu
  obtain ⟨x, _, rfl⟩ := List.mem_map.1 hu
  rfl
theorem by8_app (a b : List Int) : by8 (a ++ b) = by8 a ++ by8 b := by simp [by8]
theorem by8_take (a : List Int) (n : Nat) : by8 (a.take n) = (by8 a).take n := by simp [by8, List.map_take]
theorem by8_drop (a : List Int) (n : Nat) : by8 (a.drop n) = (by8 a).drop n := by simp [by8, List.map_drop]

theorem str_inj {a b : List Int} (ha : By a) (hb : By b) (h : (strOfNums a).toList = (strOfNums b).toList) : a = b := by
  have e : ∀ x : List Int, (strOfNums x).toList = x.map fun n => UInt8.ofNat n.toNat := fun x => by
    rw [← strOfNums_data]
    exact ByteArray.toList_eq _
  rw [e, e] at h
  induction a generalizing b with
  | nil => cases b with
    | nil => rfl
    | cons y r => cases h
  | cons x s ih => cases b with
    | nil => cases h
    | cons y r =>
      simp only [List.map_cons, List.cons.injEq] at h
      obtain ⟨h1, h2⟩ := h
      have hx := ha x (by simp)
      have hy := hb y (by simp)
      have h3 : (UInt8.ofNat x.toNat).toNat = (UInt8.ofNat y.toNat).toNat := by rw [h1]
      simp at h3
      rw [ih (fun z hz => ha z (by simp [hz])) (fun z hz => hb z (by simp [hz])) h2]
      congr 1
      omega

theorem u8_info : (Tryd.prog.info? 5).map (fun i => (i.zero, i.size, i.bytes)) = some (some (.int .u8 0), 1, 1) := by kernel_rfl
theorem u8_one : (Tryd.prog.info? 5).map (·.size) = some 1 := by kernel_rfl

def zeros (n : Nat) : Array Value := madeCells (Value.int .u8 0).cells (n * 1)
theorem zeros_list (n : Nat) : (zeros n).toList = by8 (List.replicate n 0) := by
  unfold zeros madeCells by8
  apply List.ext_getElem
  · simp
  · intro i h1 h2
    simp [Value.cells]
    show [Value.int IntKind.u8 0][i % 1]?.getD default = _
    rw [Nat.mod_one]
    rfl
theorem zeros_size (n : Nat) : (zeros n).size = n := by unfold zeros; rw [size_madeCells, Nat.mul_one]
theorem made_own (n m : Nat) (hn : n ≤ m) (hm : m ≤ 1048576) (w : World) : Own (w.alloc (.cells (zeros m) 5)) w.heap.size 5 (some ⟨w.heap.size, 0, none⟩) m (by8 (List.replicate n 0)) := by
  refine ⟨by rw [Nat.mul_one], .inr ⟨w.heap.size, m, zeros m, rfl, Nat.le_refl _, heap_alloc_new w _, by rw [by8_len, List.length_replicate]; exact hn, by unfold maxLen; omega, by rw [zeros_size, Nat.mul_one], ?_⟩⟩
  rw [zeros_list, by8_len, List.length_replicate, Nat.mul_one]
  unfold by8
  rw [← List.map_take, List.take_replicate]
  congr 2
  omega

theorem own_lt {w : World} {B : Nat} {e : TypeId} {g c : Nat} {l : List Value} (h : Own w B e (some ⟨g, 0, none⟩) c l) : B ≤ g ∧ g < w.heap.size ∧ l.length ≤ c ∧ c ≤ 9223372036854775807 := by
  rcases h.2 with ⟨h2, _⟩ | ⟨g', cap, cur, hv, hB, hg, h1, h2, _⟩
  · cases h2
  · injection hv with hv _ hc
    injection hv with hv
    injection hv with hv
    subst hc
    subst hv
    unfold maxLen at h2
    exact ⟨hB, Blk.lt (t := e) hg, h1, h2⟩
/-! ### the next bytes -/
end Go.Proofs.YtaclphhbdfoaeaaDoor.Cd
end
section
section
set_option linter.unusedSimpArgs false
set_option linter.unusedVariables false
namespace Go.Proofs.YtaclphhbdfoaeaaDoor.Cd
open Go.ChangeShapes Go.WideShapes Go.ChangeAt Go.RowKit Ws

/-- the number of some bytes, the lowest one first -/
def num : List Int → Int
  | [] => 0
  | x :: r => x + 256 * num r
theorem num_snoc (l : List Int) (x : Int) : num (l ++ [x]) = num l + x * 256 ^ l.length := by
  induction l with
  | nil => simp [num]
  | cons y r ih => simp only [List.cons_append, num, ih, List.length_cons, Int.pow_succ]; rw [Int.mul_add, Int.mul_left_comm, Int.add_assoc, Int.mul_comm (256 ^ r.length) 256]
theorem num_bd (l : List Int) (h : By l) : 0 ≤ num l ∧ num l < 256 ^ l.length := by
  induction l with
  | nil => simp [num]
  | cons y r ih =>
    have h1 := ih (fun z hz => h z (by simp [hz]))
    have h2 := h y (by simp)
    simp only [num, List.length_cons, Int.pow_succ]
    omega
theorem or_nat (a b k : Nat) (ha : a < 2 ^ k) : a ||| (b * 2 ^ k) = a + b * 2 ^ k := by
  have h := Nat.shiftLeft_add_eq_or_of_lt ha b
  rw [Nat.shiftLeft_eq] at h
  rw [Nat.or_comm, ← h, Nat.add_comm]
theorem hp_int (k : Nat) : (256 : Int) ^ k = 2 ^ (8 * k) := by
  rw [Int.pow_mul]; rfl
theorem or_add (a x : Int) (k : Nat) (ha : 0 ≤ a ∧ a < 256 ^ k) (hx : 0 ≤ x ∧ x ≤ 255) (hk : k < 4) :
    bits .or .u32 a (x * 2 ^ (8 * k) % 4294967296) = a + x * 256 ^ k := by
  obtain ⟨m, rfl⟩ := Int.eq_ofNat_of_zero_le ha.1
  obtain ⟨n, rfl⟩ := Int.eq_ofNat_of_zero_le hx.1
  have hp : (256 : Nat) ^ k = 2 ^ (8 * k) := by rw [Nat.pow_mul]
  have hk2 : (2 : Nat) ^ (8 * k) ≤ 2 ^ 24 := Nat.pow_le_pow_right (by omega) (by omega)
  have hm : m < 2 ^ (8 * k) := by
    have h1 := ha.2
    have e : ((256 : Int) ^ k) = (((256 : Nat) ^ k : Nat) : Int) := by rw [Int.natCast_pow]; rfl
    rw [e, hp] at h1
    omega
  have hn : n ≤ 255 := by omega
  have hnp : n * 2 ^ (8 * k) ≤ 255 * 2 ^ (8 * k) := Nat.mul_le_mul_right _ hn
  have e1 : ((n : Int) * 2 ^ (8 * k)) = ((n * 2 ^ (8 * k) : Nat) : Int) := by rw [Int.natCast_mul, Int.natCast_pow]; rfl
  have e2 : ((n : Int) * 256 ^ k) = ((n * 2 ^ (8 * k) : Nat) : Int) := by rw [← e1, ← hp_int k]
  rw [e2, e1]
  have hlt : n * 2 ^ (8 * k) < 4294967296 := by omega
  have e3 : (((n * 2 ^ (8 * k) : Nat) : Int) % 4294967296) = ((n * 2 ^ (8 * k) : Nat) : Int) := by omega
  rw [e3]
  rw [u32_or_nat m _ (by omega) (by omega), or_nat m n (8 * k) hm]
  omega

theorem num_lt {l : List Int} (h : By l) {n : Nat} (hl : l.length ≤ n) (hn : n ≤ 4) : 0 ≤ num l ∧ num l < 4294967296 := by
  have b := num_bd l h
  have e : ((256 : Int) ^ l.length) = ((256 ^ l.length : Nat) : Int) := by rw [Int.natCast_pow]; rfl
  have p : 256 ^ l.length ≤ 256 ^ 4 := Nat.pow_le_pow_right (by omega) (by omega)
  rw [e] at b
  omega

/-! ### what a reader tells -/
/-- what is told of a reader, and what it is behind that: n bytes if it has so many, and else none, and it is bad -/
def after (l : List Int) (k n : Nat) (bad : Bool) : Nat × Bool := if bad = false ∧ k + n ≤ l.length then (k + n, false) else (k, true)
def told (l : List Int) (k n : Nat) (bad : Bool) : List Int := if bad = false ∧ k + n ≤ l.length then (l.drop k).take n else []
theorem told_by {l : List Int} (h : By l) (k n : Nat) (bad : Bool) : By (told l k n bad) := by
  unfold told
  split
  · exact fun x hx => h x (List.mem_of_mem_drop (List.mem_of_mem_take hx))
  · exact fun x hx => by simp at hx
theorem told_len (l : List Int) (k n : Nat) (bad : Bool) : (told l k n bad).length ≤ n := by
  unfold told
  split
  · rw [List.length_take]; omega
  · simp

def doneOf (l : List Int) (k : Nat) (bad : Bool) : Int := if bad then 2 else if k < l.length then 3 else 0
theorem own_none (w : World) (e : TypeId) : Own (w.alloc (.cells #[] e)) w.heap.size e (some ⟨w.heap.size, 0, none⟩) 0 [] := World.ownsRow_made w #[] 0 (Nat.le_refl _) (Nat.zero_le _) rfl

end Go.Proofs.YtaclphhbdfoaeaaDoor.Cd
end
section
set_option linter.unusedSimpArgs false
set_option linter.unusedVariables false
namespace Go.Proofs.YtaclphhbdfoaeaaDoor.Cd
open Go.ChangeShapes Go.WideShapes Go.ChangeAt Go.RowKit Ws

/-- the n lowest bytes of a number -/
def low (x : Int) (n : Nat) : List Int := (List.range n).map fun j => x / 2 ^ (8 * j) % 256
theorem low_zero (x : Int) : low x 0 = [] := rfl
theorem low_succ (x : Int) (n : Nat) : low x (n + 1) = low x n ++ [x / 2 ^ (8 * n) % 256] := by unfold low; rw [List.range_succ, List.map_append]; rfl
theorem low_len (x : Int) (n : Nat) : (low x n).length = n := by simp [low]
theorem low_by (x : Int) (n : Nat) : By (low x n) := by
  intro y hy
  obtain ⟨j, _, rfl⟩ := List.mem_map.1 hy
  omega

def LayPost (w : World) (l : List Int) (x : Int) (n : Nat) (e : Ending) (w' : World) : Prop :=
  ∃ A c, e = .returned (.slice A (l.length + n) c) ∧ Own w' w.heap.size 5 A c (by8 (l ++ low x n)) ∧ Same w w'

def LayRel (w : World) (l : List Int) (x : Int) (n : Nat) (v i : Value) (wr : World) : Prop :=
  ∃ (k : Nat) (A : Option Addr) (c : Nat), k ≤ n ∧ i = .int .i64 k ∧ v = .slice A (l.length + k) c ∧ Own wr w.heap.size 5 A c (by8 (l ++ low x k)) ∧ Same w wr

theorem row_one (w : World) (u : Value) (t : TypeId) : Row (w.alloc (.cells #[u] t)) (some ⟨w.heap.size, 0, none⟩) [u] := by
  intro j v hj
  cases j with
  | zero =>
    refine ⟨_, _, rfl, ?_⟩
    simp at hj
    subst hj
    exact (Same.refl _).new rfl
  | succ j => simp at hj

/-! ### the document's answer -/
def PutRel (w : World) (l : List Int) (x : Int) (n : Nat) (v y i : Value) (wr : World) : Prop :=
  ∃ (k : Nat) (A : Option Addr) (c : Nat), k ≤ n ∧ i = .int .i64 k ∧ y = .int .u32 (x / 2 ^ (8 * k)) ∧ v = .slice A (l.length + k) c ∧ Own wr w.heap.size 5 A c (by8 (l ++ low x k)) ∧ Same w wr

theorem own_none' (w : World) : Own (w.alloc (.cells #[] 5)) w.heap.size 5 (some ⟨w.heap.size, 0, none⟩) 0 [] := own_none w _

theorem down (x : Int) (k : Nat) : x / 2 ^ (8 * k) / 256 = x / 2 ^ (8 * (k + 1)) := by
  have h : (2 : Int) ^ (8 * (k + 1)) = 2 ^ (8 * k) * 256 := by rw [show 8 * (k + 1) = 8 * k + 8 from by omega, Int.pow_add]; rfl
  have p : (0 : Int) < 2 ^ (8 * k) := Int.pow_pos (by omega)
  rw [h, Int.ediv_ediv, if_neg (by omega)]
  omega
theorem down_bd (x : Int) (hx : 0 ≤ x ∧ x < 4294967296) (k : Nat) : 0 ≤ x / 2 ^ (8 * k) ∧ x / 2 ^ (8 * k) < 4294967296 := by
  have p : (0 : Int) < 2 ^ (8 * k) := Int.pow_pos (by omega)
  exact ⟨Int.ediv_nonneg hx.1 (by omega), Int.lt_of_le_of_lt (Int.ediv_le_self _ hx.1) hx.2⟩

/-! ### the chapter's example -/
theorem by_row_lit (w : World) (cs : List Int) : Row (w.alloc (.cells (by8 cs).toArray 5)) (some ⟨w.heap.size, 0, none⟩) (by8 cs) := by
  intro j u hj
  refine ⟨_, _, rfl, ?_⟩
  rw [Nat.zero_add]
  exact (Same.refl _).new (by simpa using hj)

end Go.Proofs.YtaclphhbdfoaeaaDoor.Cd
end
end
