/-

  What the functions of package mem give back, as contracts of their calls, over this seat's translation.
-/
import Derived.Test.YtaclphhbdfoaeaaRows
import Derived.Test.YtaclphhbdfoaeaaWords
import Derived.WalkLawsBesides
import Derived.WalkSpells
import Derived.ProofKit
import Derived.OpenShut
import Derived.Lib.Hide
import Derived.Deep.QuietTactic
import Derived.BigQuiet
import Derived.StillTailTactics
import Derived.Deep.RegionHeld3
set_option linter.unusedSimpArgs false
set_option linter.unusedVariables false
namespace Go.Proofs.Ytaclphhbdfoaeaa.Mm
open Go.ChangeShapes Go.WideShapes Go.ChangeAt Go.RowKit Ws

theorem ret_int {k : IntKind} {a b : Int} (h : a = b) : Ending.returned (.int k a) = .returned (.int k b) := by rw [h]
theorem ret_bool {a b : Bool} (h : a = b) : Ending.returned (.bool a) = .returned (.bool b) := by rw [h]

def isB (at_ len : Int) : Bool := decide (0 ≤ at_) && decide (0 ≤ len)
def inB (size at_ len : Int) : Bool := decide (0 ≤ at_ ∧ 0 ≤ len ∧ at_ ≤ size ∧ len ≤ size - at_)

theorem isRegion_any (a l : Int) (w : World) :
    Calls Try.prog 59 #[.agg #[.int .i64 a, .int .i64 l]] w fun e w' => e = .returned (.bool (isB a l)) ∧ Same w w' := by
  go_enter Try.func59, Try.ntmps59
  go_wp2
  all_goals
    go_ret
    refine ⟨ret_bool ?_, (Same.refl _).alloc _⟩
    unfold isB
    simp
    try omega

theorem inside_any (n a l : Int) (bn : 0 ≤ n ∧ n ≤ 9223372036854775807) (w : World) :
    Calls Try.prog 34 #[.int .i64 n, .agg #[.int .i64 a, .int .i64 l]] w fun e w' => e = .returned (.bool (inB n a l)) ∧ Same w w' := by
  go_enter Try.func34, Try.ntmps34
  go_wp2
  all_goals
    go_ret
    refine ⟨ret_bool ?_, ((Same.refl _).alloc _).alloc _⟩
    unfold inB
    first
      | (rw [Bool.eq_iff_iff, decide_eq_true_eq, decide_eq_true_eq]; omega)
      | (rw [decide_eq_false (by omega)])

def wiB (size a l : Int) : Int := if inB size a l then 0 else 5

theorem within_any (g : Nat) (A : Option Addr) (n c : Nat) (a l : Int) (bn : n ≤ 4096) (w : World)
    (h0 : w.cell? ⟨g, 0, none⟩ = some (.slice A n c)) :
    Calls Try.prog 29 #[.pointer (some ⟨g, 0, none⟩), .agg #[.int .i64 a, .int .i64 l]] w fun e w' => e = .returned (.int .i64 (wiB n a l)) ∧ Same w w' := by
  go_enter Try.func29, Try.ntmps29
  go_wp2
  have hb0 : (w.alloc (.cells #[.int .i64 a, .int .i64 l] 53)).cell? ⟨w.heap.size, 0, none⟩ = some (.int .i64 a) := (Same.refl _).new rfl
  have hb1 : (w.alloc (.cells #[.int .i64 a, .int .i64 l] 53)).cell? ⟨w.heap.size, 1, none⟩ = some (.int .i64 l) := (Same.refl _).new rfl
  have hg0 := ((Same.refl w).alloc (.cells #[.int .i64 a, .int .i64 l] 53)).cell h0
  have hs0 := (Same.refl w).alloc (.cells #[.int .i64 a, .int .i64 l] 53)
  generalize w.alloc (.cells #[.int .i64 a, .int .i64 l] 53) = w1 at *
  generalize w.heap.size = hz at *
  go_region_held3 (fun w' => w'.cell? ⟨g, 0, none⟩ = some (.slice A n c) ∧ w'.cell? ⟨hz, 0, none⟩ = some (.int .i64 a) ∧ w'.cell? ⟨hz, 1, none⟩ = some (.int .i64 l) ∧ Same w w')
    (first | assumption | exact ⟨hg0, hb0, hb1, hs0.drew⟩ | (rcases ‹_ ∧ _ ∧ _ ∧ Same _ _› with ⟨x1, x2, x3, x4⟩; exact ⟨hs.cell x1, hs.cell x2, hs.cell x3, x4.trans hs⟩))
    (first | (go_at_call 34; refine (inside_any _ _ _ (by omega) _).mono ?_; rintro e w' ⟨rfl, hs⟩))
  rcases ‹_ ∧ _ ∧ _ ∧ Same _ _› with ⟨x1, x2, x3, x4⟩
  clear x1 x2 x3
  cases hib : inB n a l
  all_goals
    have hw : wiB n a l = if inB n a l then 0 else 5 := rfl
    rw [hib] at hw
    have HW := Lib.hid hw
    clear hw
    go_wp2
    go_ret
    exact ⟨ret_int (by rw [HW.out]; rfl), x4⟩

theorem within_nil (a l : Int) (w : World) :
    Calls Try.prog 29 #[.pointer none, .agg #[.int .i64 a, .int .i64 l]] w fun e w' => e = .returned (.int .i64 1) ∧ Same w w' := by
  go_enter Try.func29, Try.ntmps29
  go_wp2
  go_ret
  exact ⟨rfl, (Same.refl _).alloc _⟩

/-- block g is a memory of the words l, in which s steps were made; all its blocks are in R -/
structure Mem (w : World) (R : Nat → Prop) (g : Nat) (l : List Int) (s : Int) : Prop where
  low : R g
  short : l.length ≤ 4096
  is : ∃ g2 c, Blk w g 69 #[.slice (some ⟨g2, 0, none⟩) l.length c, .int .i64 s] ∧ Own w 0 44 (some ⟨g2, 0, none⟩) c (l.map (Value.int .u32)) ∧ R g2

theorem Mem.chg {S R : Nat → Prop} {w w' : World} {g : Nat} {l : List Int} {s : Int} (h : Mem w R g l s) (hc : Chg S w w') (hn : ∀ i, R i → ¬ S i) : Mem w' R g l s := by
  obtain ⟨h1, h2, g2, c, hb, ho, hr⟩ := h
  exact ⟨h1, h2, g2, c, hb.chg hc (hn _ h1), ho.chg hc fun i hi => by
    injection hi with hi
    injection hi with hi
    exact hi ▸ hn g2 hr, hr⟩
theorem Mem.same {R : Nat → Prop} {w w' : World} {g : Nat} {l : List Int} {s : Int} (h : Mem w R g l s) (hc : Same w w') : Mem w' R g l s := h.chg hc fun _ _ f => f
theorem own_lt {w : World} {B : Nat} {e : TypeId} {g c : Nat} {l : List Value} (h : Own w B e (some ⟨g, 0, none⟩) c l) : B ≤ g ∧ g < w.heap.size ∧ l.length ≤ c ∧ c ≤ 9223372036854775807 := by
  rcases h.2 with ⟨h2, _⟩ | ⟨g', cap, cur, hv, hB, hg, h1, h2, _⟩
  · cases h2
  · injection hv with hv _ hc
    injection hv with hv
    injection hv with hv
    subst hc
    subst hv
    unfold maxLen at h2
    exact ⟨hB, Blk.lt (t := e) hg, h1, h2⟩
theorem Mem.within {R : Nat → Prop} {w : World} {g : Nat} {l : List Int} {s : Int} (h : Mem w R g l s) : Mem w (fun i => R i ∧ i < w.heap.size) g l s := by
  obtain ⟨h1, h2, g2, c, hb, ho, hr⟩ := h
  exact ⟨⟨h1, hb.lt⟩, h2, g2, c, hb, ho, hr, (own_lt ho).2.1⟩

theorem u32_info : (Try.prog.info? 44).map (fun i => (i.zero, i.size, i.bytes)) = some (some (.int .u32 0), 1, 4) := by kernel_rfl

def zeros (n : Nat) : Array Value := madeCells (Value.int .u32 0).cells (n * 1)
theorem zeros_list (n : Nat) : (zeros n).toList = (List.replicate n (0 : Int)).map (Value.int .u32) := by
  unfold zeros madeCells
  apply List.ext_getElem
  · simp
  · intro i h1 h2
    simp [Value.cells]
    show [Value.int IntKind.u32 0][i % 1]?.getD default = _
    rw [Nat.mod_one]
    rfl
theorem zeros_size (n : Nat) : (zeros n).size = n := by unfold zeros; rw [size_madeCells, Nat.mul_one]

theorem make_any (n : Nat) (hn : n ≤ 4096) (W : World) : (Instr.makeSlice 39 (.int .i64 (n : Int)) (.int .i64 (n : Int))).run Try.prog W = .ok (.slice (some ⟨W.heap.size, 0, none⟩) n n) (W.alloc (.cells (zeros n) 44)) := by
  obtain ⟨i0, hi, hz0, hz1, hz2⟩ := info_parts u32_info
  have h := run_make (P := Try.prog) W 39 44 i0 _ Try.underlying39 hi hz0 .i64 .i64 n n (by omega) (by omega) (by rw [hz2]; omega) (by omega)
  rw [hz1, Int.toNat_natCast] at h
  exact h

theorem new_any (n : Nat) (hn : n ≤ 4096) (w : World) :
    Calls Try.prog 19 #[.int .i64 n] w fun e w' => e = .returned (.tuple #[.pointer (some ⟨w.heap.size + 1, 0, none⟩), .int .i64 0]) ∧ Same w w' ∧ Mem w' (fun i => w.heap.size ≤ i) (w.heap.size + 1) (List.replicate n 0) 0 := by
  have hmk := make_any n hn
  have hb : Blk (w.alloc (.cells (zeros n) 44)) w.heap.size 44 (zeros n) := Blk.new _ _ _
  go_enter Try.func19, Try.ntmps19
  go_wp2
  go_ret2
  refine ⟨rfl, ((Same.refl _).alloc _).alloc _, by omega, by simp; omega, w.heap.size, n, ?_, ?_, Nat.le_refl _⟩
  · have h := Blk.new (w.alloc (.cells (zeros n) 44)) 69 #[.slice (some ⟨w.heap.size, 0, none⟩) n n, .int .i64 0]
    simpa using h
  · have h := World.ownsRow_lit (base := w.heap.size) (e := 44) (size := 1) w (zeros n) n (Nat.le_refl _) (by unfold maxLen; omega) (by rw [zeros_size, Nat.mul_one])
    rw [zeros_list] at h
    have h2 : Own (w.alloc (.cells (zeros n) 44)) w.heap.size 44 (some ⟨w.heap.size, 0, none⟩) n ((List.replicate n (0 : Int)).map (Value.int .u32)) := by
      unfold Own
      simpa using h
    exact (h2.same ((Same.refl _).alloc _)).base (Nat.zero_le _)

theorem len_any {R : Nat → Prop} {g : Nat} {l : List Int} {s : Int} (w : World) (h : Mem w R g l s) :
    Calls Try.prog 25 #[.pointer (some ⟨g, 0, none⟩)] w fun e w' => e = .returned (.int .i64 l.length) ∧ w = w' := by
  obtain ⟨_, hs, A, c, hb, ho⟩ := h
  have h0 := hb.cell 0
  simp at h0
  clear hb ho
  go_enter Try.func25, Try.ntmps25
  go_wp2
  go_ret
  exact ⟨rfl, rfl⟩
/-! ### a word read, and a word written -/
theorem mem_open {R : Nat → Prop} {w : World} {g : Nat} {l : List Int} {s : Int} (h : Mem w R g l s) (j : Nat) (hj : j < l.length) :
    ∃ g2 c, w.cell? ⟨g, 0, none⟩ = some (.slice (some ⟨g2, 0, none⟩) l.length c) ∧ w.cell? ⟨g, 1, none⟩ = some (.int .i64 s) ∧ w.frozen? ⟨g, 1, none⟩ = false ∧
      w.cell? ⟨g2, j, none⟩ = some (.int .u32 l[j]) ∧ w.frozen? ⟨g2, j, none⟩ = false ∧ g2 ≠ g ∧ R g ∧ R g2 ∧
      (∀ s' : Int, Mem (w.setCell ⟨g, 1, none⟩ (.int .i64 s')) R g l s') ∧
      (∀ u s' : Int, Mem ((w.setCell ⟨g, 1, none⟩ (.int .i64 s')).setCell ⟨g2, j, none⟩ (.int .u32 u)) R g (l.set j u) s') := by
  obtain ⟨h1, h2, g2, c, hb, ho, hr⟩ := h
  have hf : ∀ j, w.frozen? ⟨g2, j, none⟩ = false := by
    obtain ⟨g', hg', _, _, hf⟩ := ho.thaw (by simp; omega)
    injection hg' with hg'
    injection hg' with hg'
    exact hg' ▸ hf
  have hne := ho.ne hb (by decide) g2 rfl
  have hrow := ho.row j (.int .u32 l[j]) (by simp [hj])
  obtain ⟨b, o, hbo, hcell⟩ := hrow
  injection hbo with hbo
  injection hbo with hb1 hb2
  subst hb1
  subst hb2
  have hst : ∀ s' : Int, Blk (w.setCell ⟨g, 1, none⟩ (.int .i64 s')) g 69 #[.slice (some ⟨g2, 0, none⟩) l.length c, .int .i64 s'] ∧
      Own (w.setCell ⟨g, 1, none⟩ (.int .i64 s')) 0 44 (some ⟨g2, 0, none⟩) c (l.map (Value.int .u32)) := fun s' =>
    ⟨by simpa using hb.put 1 (.int .i64 s'), ho.chg ((Chg.refl (fun i => i = g) w).set (p := ⟨g, 1, none⟩) (.inl rfl) _) (fun i hi he => by
      injection hi with hi
      injection hi with hi
      omega)⟩
  refine ⟨g2, c, by simpa using hb.cell 0, by simpa using hb.cell 1, hb.thaw 1, by simpa using hcell, hf j, hne, h1, hr, fun s' => ⟨h1, h2, _, c, (hst s').1, (hst s').2, hr⟩, ?_⟩
  intro u s'
  obtain ⟨kb, ko⟩ := hst s'
  refine ⟨h1, by simpa using h2, _, c, ?_, ?_, hr⟩
  · rw [List.length_set]
    exact kb.chg ((Chg.refl (fun i => i = g2) _).set (p := ⟨g2, j, none⟩) (.inl rfl) _) (fun h => hne h.symm)
  · rw [List.map_set]
    exact ko.put j _

theorem wi_in {n : Nat} {a : Int} (h0 : 0 ≤ a) (h1 : a < n) : wiB n a 1 = 0 := by unfold wiB inB; rw [if_pos]; simp; omega
theorem wi_out {n : Nat} {a : Int} (h : a < 0 ∨ (n : Int) ≤ a) : wiB n a 1 = 5 := by unfold wiB inB; rw [if_neg]; simp; omega

theorem mem_head {R : Nat → Prop} {w : World} {g : Nat} {l : List Int} {s : Int} (h : Mem w R g l s) : ∃ A c, w.cell? ⟨g, 0, none⟩ = some (.slice A l.length c) := by
  obtain ⟨_, _, g2, c, hb, _⟩ := h
  exact ⟨_, c, by simpa using hb.cell 0⟩

end Go.Proofs.Ytaclphhbdfoaeaa.Mm
