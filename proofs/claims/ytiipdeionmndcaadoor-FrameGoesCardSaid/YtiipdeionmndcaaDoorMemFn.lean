/-

  The law's helpers on memories (layer 13): a memory of words, and a memory's words.
-/
import Derived.Test.YtiipdeionmndcaaDoorRows
import Derived.Test.YtiipdeionmndcaaDoorWords
import Derived.WalkLawsBesides
import Derived.WalkSpells
import Derived.ProofKit
import Derived.OpenShut
import Derived.Lib.Hide
import Derived.Deep.QuietTactic
import Derived.BigQuiet
import Derived.StillTailTactics
import Derived.Deep.RegionHeld3
section
section
set_option linter.unusedSimpArgs false
set_option linter.unusedVariables false
namespace Go.Proofs.YtiipdeionmndcaaDoor.Mm
open Go.ChangeShapes Go.WideShapes Go.ChangeAt Go.RowKit Ws

theorem ret_int {k : IntKind} {a b : Int} (h : a = b) : Ending.returned (.int k a) = .returned (.int k b) := by rw [h]
theorem ret_bool {a b : Bool} (h : a = b) : Ending.returned (.bool a) = .returned (.bool b) := by rw [h]

def isB (at_ len : Int) : Bool := decide (0 ≤ at_) && decide (0 ≤ len)
def inB (size at_ len : Int) : Bool := decide (0 ≤ at_ ∧ 0 ≤ len ∧ at_ ≤ size ∧ len ≤ size - at_)

theorem isRegion_any (a l : Int) (w : World) :
    Calls Tryd.prog 96 #[.agg #[.int .i64 a, .int .i64 l]] w fun e w' => e = .returned (.bool (isB a l)) ∧ Same w w' := by
  go_enter Tryd.func96, Tryd.ntmps96
  go_wp2
  all_goals
    go_ret
    refine ⟨ret_bool ?_, (Same.refl _).alloc _⟩
    unfold isB
    simp
    try omega

theorem place_any (a : Int) (w : World) :
    Calls Tryd.prog 72 #[.int .i64 a] w fun e w' => e = .returned (.agg #[.int .i64 a, .int .i64 1]) ∧ Same w w' := by
  go_enter Tryd.func72, Tryd.ntmps72
  go_wp2
  exact bodyPost_ret (v := .agg #[.int .i64 a, .int .i64 1]) (by simp [results, Tryd.results72, go_sem]) rfl ⟨rfl, (Same.refl _).alloc _⟩

theorem inside_any (n a l : Int) (bn : 0 ≤ n ∧ n ≤ 9223372036854775807) (w : World) :
    Calls Tryd.prog 74 #[.int .i64 n, .agg #[.int .i64 a, .int .i64 l]] w fun e w' => e = .returned (.bool (inB n a l)) ∧ Same w w' := by
  go_enter Tryd.func74, Tryd.ntmps74
  go_wp2
  all_goals
    go_ret
    refine ⟨ret_bool ?_, ((Same.refl _).alloc _).alloc _⟩
    unfold inB
    first
      | (rw [Bool.eq_iff_iff, decide_eq_true_eq, decide_eq_true_eq]; omega)
      | (rw [decide_eq_false (by omega)])

def wiB (size a l : Int) : Int := if inB size a l then 0 else 5

theorem within_any (g : Nat) (A : Option Addr) (n c : Nat) (a l : Int) (bn : n ≤ 4096) (w : World)
    (h0 : w.cell? ⟨g, 0, none⟩ = some (.slice A n c)) :
    Calls Tryd.prog 71 #[.pointer (some ⟨g, 0, none⟩), .agg #[.int .i64 a, .int .i64 l]] w fun e w' => e = .returned (.int .i64 (wiB n a l)) ∧ Same w w' := by
  go_enter Tryd.func71, Tryd.ntmps71
  go_wp2
  have hb0 : (w.alloc (.cells #[.int .i64 a, .int .i64 l] 47)).cell? ⟨w.heap.size, 0, none⟩ = some (.int .i64 a) := (Same.refl _).new rfl
  have hb1 : (w.alloc (.cells #[.int .i64 a, .int .i64 l] 47)).cell? ⟨w.heap.size, 1, none⟩ = some (.int .i64 l) := (Same.refl _).new rfl
  have hg0 := ((Same.refl w).alloc (.cells #[.int .i64 a, .int .i64 l] 47)).cell h0
  have hs0 := (Same.refl w).alloc (.cells #[.int .i64 a, .int .i64 l] 47)
  generalize w.alloc (.cells #[.int .i64 a, .int .i64 l] 47) = w1 at *
  generalize w.heap.size = hz at *
  go_region_held3 (fun w' => w'.cell? ⟨g, 0, none⟩ = some (.slice A n c) ∧ w'.cell? ⟨hz, 0, none⟩ = some (.int .i64 a) ∧ w'.cell? ⟨hz, 1, none⟩ = some (.int .i64 l) ∧ Same w w')
    (first | assumption | exact ⟨hg0, hb0, hb1, hs0.drew⟩ | (rcases ‹_ ∧ _ ∧ _ ∧ Same _ _› with ⟨x1, x2, x3, x4⟩; exact ⟨hs.cell x1, hs.cell x2, hs.cell x3, x4.trans hs⟩))
    (first | (go_at_call 74; refine (inside_any _ _ _ (by omega) _).mono ?_; rintro e w' ⟨rfl, hs⟩))
  rcases ‹_ ∧ _ ∧ _ ∧ Same _ _› with ⟨x1, x2, x3, x4⟩
  clear x1 x2 x3
  cases hib : inB n a l
  all_goals
    have hw : wiB n a l = if inB n a l then 0 else 5 := rfl
    rw [hib] at hw
    have HW := Lib.hid hw
    clear hw
    go_wp2
    go_ret
    exact ⟨ret_int (by rw [HW.out]; rfl), x4⟩

theorem within_nil (a l : Int) (w : World) :
    Calls Tryd.prog 71 #[.pointer none, .agg #[.int .i64 a, .int .i64 l]] w fun e w' => e = .returned (.int .i64 1) ∧ Same w w' := by
  go_enter Tryd.func71, Tryd.ntmps71
  go_wp2
  go_ret
  exact ⟨rfl, (Same.refl _).alloc _⟩

/-- block g is a memory of the words l, in which s steps were made; all its blocks are in R -/
structure Mem (w : World) (R : Nat → Prop) (g : Nat) (l : List Int) (s : Int) : Prop where
  low : R g
  short : l.length ≤ 4096
  is : ∃ g2 c, Blk w g 100 #[.slice (some ⟨g2, 0, none⟩) l.length c, .int .i64 s] ∧ Own w 0 41 (some ⟨g2, 0, none⟩) c (l.map (Value.int .u32)) ∧ R g2

theorem Mem.chg {S R : Nat → Prop} {w w' : World} {g : Nat} {l : List Int} {s : Int} (h : Mem w R g l s) (hc : Chg S w w') (hn : ∀ i, R i → ¬ S i) : Mem w' R g l s := by
  obtain ⟨h1, h2, g2, c, hb, ho, hr⟩ := h
  exact ⟨h1, h2, g2, c, hb.chg hc (hn _ h1), ho.chg hc fun i hi => by
    injection hi with hi
    injection hi with hi
    exact hi ▸ hn g2 hr, hr⟩
theorem Mem.same {R : Nat → Prop} {w w' : World} {g : Nat} {l : List Int} {s : Int} (h : Mem w R g l s) (hc : Same w w') : Mem w' R g l s := h.chg hc fun _ _ f => f
theorem own_lt {w : World} {B : Nat} {e : TypeId} {g c : Nat} {l : List Value} (h : Own w B e (some ⟨g, 0, none⟩) c l) : B ≤ g ∧ g < w.heap.size ∧ l.length ≤ c ∧ c ≤ 9223372036854775807 := by
  rcases h.2 with ⟨h2, _⟩ | ⟨g', cap, cur, hv, hB, hg, h1, h2, _⟩
  · cases h2
  · injection hv with hv _ hc
    injection hv with hv
    injection hv with hv
    subst hc
    subst hv
    unfold maxLen at h2
    exact ⟨hB, Blk.lt (t := e) hg, h1, h2⟩
theorem Mem.within {R : Nat → Prop} {w : World} {g : Nat} {l : List Int} {s : Int} (h : Mem w R g l s) : Mem w (fun i => R i ∧ i < w.heap.size) g l s := by
  obtain ⟨h1, h2, g2, c, hb, ho, hr⟩ := h
  exact ⟨⟨h1, hb.lt⟩, h2, g2, c, hb, ho, hr, (own_lt ho).2.1⟩

theorem u32_info : (Tryd.prog.info? 41).map (fun i => (i.zero, i.size, i.bytes)) = some (some (.int .u32 0), 1, 4) := by kernel_rfl

def zeros (n : Nat) : Array Value := madeCells (Value.int .u32 0).cells (n * 1)
theorem zeros_list (n : Nat) : (zeros n).toList = (List.replicate n (0 : Int)).map (Value.int .u32) := by
  unfold zeros madeCells
  apply List.ext_getElem
  · simp
  · intro i h1 h2
    simp [Value.cells]
    show [Value.int IntKind.u32 0][i % 1]?.getD default = _
    rw [Nat.mod_one]
    rfl
theorem zeros_size (n : Nat) : (zeros n).size = n := by unfold zeros; rw [size_madeCells, Nat.mul_one]

theorem make_any (n : Nat) (hn : n ≤ 4096) (W : World) : (Instr.makeSlice 45 (.int .i64 (n : Int)) (.int .i64 (n : Int))).run Tryd.prog W = .ok (.slice (some ⟨W.heap.size, 0, none⟩) n n) (W.alloc (.cells (zeros n) 41)) := by
  obtain ⟨i0, hi, hz0, hz1, hz2⟩ := info_parts u32_info
  have h := run_make (P := Tryd.prog) W 45 41 i0 _ Tryd.underlying45 hi hz0 .i64 .i64 n n (by omega) (by omega) (by rw [hz2]; omega) (by omega)
  rw [hz1, Int.toNat_natCast] at h
  exact h

theorem new_any (n : Nat) (hn : n ≤ 4096) (w : World) :
    Calls Tryd.prog 44 #[.int .i64 n] w fun e w' => e = .returned (.tuple #[.pointer (some ⟨w.heap.size + 1, 0, none⟩), .int .i64 0]) ∧ Same w w' ∧ Mem w' (fun i => w.heap.size ≤ i) (w.heap.size + 1) (List.replicate n 0) 0 := by
  have hmk := make_any n hn
  have hb : Blk (w.alloc (.cells (zeros n) 41)) w.heap.size 41 (zeros n) := Blk.new _ _ _
  go_enter Tryd.func44, Tryd.ntmps44
  go_wp2
  go_ret2
  refine ⟨rfl, ((Same.refl _).alloc _).alloc _, by omega, by simp; omega, w.heap.size, n, ?_, ?_, Nat.le_refl _⟩
  · have h := Blk.new (w.alloc (.cells (zeros n) 41)) 100 #[.slice (some ⟨w.heap.size, 0, none⟩) n n, .int .i64 0]
    simpa using h
  · have h := World.ownsRow_lit (base := w.heap.size) (e := 41) (size := 1) w (zeros n) n (Nat.le_refl _) (by unfold maxLen; omega) (by rw [zeros_size, Nat.mul_one])
    rw [zeros_list] at h
    have h2 : Own (w.alloc (.cells (zeros n) 41)) w.heap.size 41 (some ⟨w.heap.size, 0, none⟩) n ((List.replicate n (0 : Int)).map (Value.int .u32)) := by
      unfold Own
      simpa using h
    exact (h2.same ((Same.refl _).alloc _)).base (Nat.zero_le _)

theorem len_any {R : Nat → Prop} {g : Nat} {l : List Int} {s : Int} (w : World) (h : Mem w R g l s) :
    Calls Tryd.prog 53 #[.pointer (some ⟨g, 0, none⟩)] w fun e w' => e = .returned (.int .i64 l.length) ∧ w = w' := by
  obtain ⟨_, hs, A, c, hb, ho⟩ := h
  have h0 := hb.cell 0
  simp at h0
  clear hb ho
  go_enter Tryd.func53, Tryd.ntmps53
  go_wp2
  go_ret
  exact ⟨rfl, rfl⟩
theorem steps_any {R : Nat → Prop} {g : Nat} {l : List Int} {s : Int} (w : World) (h : Mem w R g l s) :
    Calls Tryd.prog 22 #[.pointer (some ⟨g, 0, none⟩)] w fun e w' => e = .returned (.int .i64 s) ∧ w = w' := by
  obtain ⟨_, hs, A, c, hb, ho⟩ := h
  have h0 := hb.cell 1
  simp at h0
  clear hb ho
  go_enter Tryd.func22, Tryd.ntmps22
  go_wp2
  go_ret
  exact ⟨rfl, rfl⟩

/-! ### a word read, and a word written -/
theorem mem_open {R : Nat → Prop} {w : World} {g : Nat} {l : List Int} {s : Int} (h : Mem w R g l s) (j : Nat) (hj : j < l.length) :
    ∃ g2 c, w.cell? ⟨g, 0, none⟩ = some (.slice (some ⟨g2, 0, none⟩) l.length c) ∧ w.cell? ⟨g, 1, none⟩ = some (.int .i64 s) ∧ w.frozen? ⟨g, 1, none⟩ = false ∧
      w.cell? ⟨g2, j, none⟩ = some (.int .u32 l[j]) ∧ w.frozen? ⟨g2, j, none⟩ = false ∧ g2 ≠ g ∧ R g ∧ R g2 ∧
      (∀ s' : Int, Mem (w.setCell ⟨g, 1, none⟩ (.int .i64 s')) R g l s') ∧
      (∀ u s' : Int, Mem ((w.setCell ⟨g, 1, none⟩ (.int .i64 s')).setCell ⟨g2, j, none⟩ (.int .u32 u)) R g (l.set j u) s') := by
  obtain ⟨h1, h2, g2, c, hb, ho, hr⟩ := h
  have hf : ∀ j, w.frozen? ⟨g2, j, none⟩ = false := by
    obtain ⟨g', hg', _, _, hf⟩ := ho.thaw (by simp; omega)
    injection hg' with hg'
    injection hg' with hg'
    exact hg' ▸ hf
  have hne := ho.ne hb (by decide) g2 rfl
  have hrow := ho.row j (.int .u32 l[j]) (by simp [hj])
  obtain ⟨b, o, hbo, hcell⟩ := hrow
  injection hbo with hbo
  injection hbo with hb1 hb2
  subst hb1
  subst hb2
  have hst : ∀ s' : Int, Blk (w.setCell ⟨g, 1, none⟩ (.int .i64 s')) g 100 #[.slice (some ⟨g2, 0, none⟩) l.length c, .int .i64 s'] ∧
      Own (w.setCell ⟨g, 1, none⟩ (.int .i64 s')) 0 41 (some ⟨g2, 0, none⟩) c (l.map (Value.int .u32)) := fun s' =>
    ⟨by simpa using hb.put 1 (.int .i64 s'), ho.chg ((Chg.refl (fun i => i = g) w).set (p := ⟨g, 1, none⟩) (.inl rfl) _) (fun i hi he => by
      injection hi with hi
      injection hi with hi
      omega)⟩
  refine ⟨g2, c, by simpa using hb.cell 0, by simpa using hb.cell 1, hb.thaw 1, by simpa using hcell, hf j, hne, h1, hr, fun s' => ⟨h1, h2, _, c, (hst s').1, (hst s').2, hr⟩, ?_⟩
  intro u s'
  obtain ⟨kb, ko⟩ := hst s'
  refine ⟨h1, by simpa using h2, _, c, ?_, ?_, hr⟩
  · rw [List.length_set]
    exact kb.chg ((Chg.refl (fun i => i = g2) _).set (p := ⟨g2, j, none⟩) (.inl rfl) _) (fun h => hne h.symm)
  · rw [List.map_set]
    exact ko.put j _

theorem wi_in {n : Nat} {a : Int} (h0 : 0 ≤ a) (h1 : a < n) : wiB n a 1 = 0 := by unfold wiB inB; rw [if_pos]; simp; omega
theorem wi_out {n : Nat} {a : Int} (h : a < 0 ∨ (n : Int) ≤ a) : wiB n a 1 = 5 := by unfold wiB inB; rw [if_neg]; simp; omega

theorem mem_head {R : Nat → Prop} {w : World} {g : Nat} {l : List Int} {s : Int} (h : Mem w R g l s) : ∃ A c, w.cell? ⟨g, 0, none⟩ = some (.slice A l.length c) := by
  obtain ⟨_, _, g2, c, hb, _⟩ := h
  exact ⟨_, c, by simpa using hb.cell 0⟩

theorem read_in {R : Nat → Prop} {g : Nat} {l : List Int} {s : Int} (w : World) (h : Mem w R g l s) (j : Nat) (hj : j < l.length) :
    Calls Tryd.prog 45 #[.pointer (some ⟨g, 0, none⟩), .int .i64 j] w fun e w' => e = .returned (.tuple #[.int .u32 l[j], .int .i64 0]) ∧ Mem w' R g l (wrap64 (s + 1)) ∧ Chg R w w' := by
  obtain ⟨A0, c0, hh⟩ := mem_head h
  have hs := h.short
  go_enter Tryd.func45, Tryd.ntmps45
  go_wp2_with fail
  refine (place_any _ _).mono ?_
  rintro e w1 ⟨rfl, s1⟩
  go_wp2_with fail
  refine (within_any g A0 l.length c0 _ _ hs _ (s1.cell hh)).mono ?_
  rintro e w2 ⟨rfl, s2⟩
  rw [wi_in (by omega) (by omega)]
  have s3 := s1.trans s2
  obtain ⟨g2, c, e1, e2, e3, e4, e5, hne, r1, r2, e6, e7⟩ := mem_open (h.same s3) j hj
  have hjs : (j : Int) < l.length := by omega
  obtain ⟨x, hx⟩ : ∃ x, x = l[j] := ⟨_, rfl⟩
  rw [← hx] at e4
  have HX := Lib.hid hx
  clear hx
  go_wp2_with fail
  go_ret2
  exact ⟨by rw [HX.out]; rfl, e6 _, (s3.chg R).set (.inl r1) _⟩

theorem write_in {R : Nat → Prop} {g : Nat} {l : List Int} {s : Int} (w : World) (h : Mem w R g l s) (j : Nat) (hj : j < l.length) (u : Int) :
    Calls Tryd.prog 99 #[.pointer (some ⟨g, 0, none⟩), .int .i64 j, .int .u32 u] w fun e w' => e = .returned (.int .i64 0) ∧ Mem w' R g (l.set j u) (wrap64 (s + 1)) ∧ Chg R w w' := by
  obtain ⟨A0, c0, hh⟩ := mem_head h
  have hs := h.short
  go_enter Tryd.func99, Tryd.ntmps99
  go_wp2_with fail
  refine (place_any _ _).mono ?_
  rintro e w1 ⟨rfl, s1⟩
  go_wp2_with fail
  refine (within_any g A0 l.length c0 _ _ hs _ (s1.cell hh)).mono ?_
  rintro e w2 ⟨rfl, s2⟩
  rw [wi_in (by omega) (by omega)]
  have s3 := s1.trans s2
  obtain ⟨g2, c, e1, e2, e3, e4, e5, hne, r1, r2, e6, e7⟩ := mem_open (h.same s3) j hj
  have hjs : (j : Int) < l.length := by omega
  go_wp2_with fail
  go_ret
  exact ⟨rfl, e7 _ _, ((s3.chg R).set (.inl r1) _).set (.inl r2) _⟩

theorem write_out {R : Nat → Prop} {g : Nat} {l : List Int} {s : Int} (w : World) (h : Mem w R g l s) (a : Int) (ha : a < 0 ∨ (l.length : Int) ≤ a) (u : Int) :
    Calls Tryd.prog 99 #[.pointer (some ⟨g, 0, none⟩), .int .i64 a, .int .u32 u] w fun e w' => e = .returned (.int .i64 5) ∧ Same w w' := by
  obtain ⟨A0, c0, hh⟩ := mem_head h
  have hs := h.short
  go_enter Tryd.func99, Tryd.ntmps99
  go_wp2_with fail
  refine (place_any _ _).mono ?_
  rintro e w1 ⟨rfl, s1⟩
  go_wp2_with fail
  refine (within_any g A0 l.length c0 _ _ hs _ (s1.cell hh)).mono ?_
  rintro e w2 ⟨rfl, s2⟩
  rw [wi_out ha]
  go_wp2_with fail
  go_ret
  exact ⟨rfl, s1.trans s2⟩

theorem cas_yes {R : Nat → Prop} {g : Nat} {l : List Int} {s : Int} (w : World) (h : Mem w R g l s) (j : Nat) (hj : j < l.length) (v u : Int) (hv : (l[j] != v) = false) :
    Calls Tryd.prog 114 #[.pointer (some ⟨g, 0, none⟩), .int .i64 j, .int .u32 v, .int .u32 u] w fun e w' =>
      e = .returned (.tuple #[.bool true, .int .i64 0]) ∧ Mem w' R g (l.set j u) (wrap64 (s + 1)) ∧ Chg R w w' := by
  obtain ⟨A0, c0, hh⟩ := mem_head h
  have hs := h.short
  obtain ⟨x, hx⟩ : ∃ x, x = l[j] := ⟨_, rfl⟩
  rw [← hx] at hv
  go_enter Tryd.func114, Tryd.ntmps114
  go_wp2_with fail
  refine (place_any _ _).mono ?_
  rintro e w1 ⟨rfl, s1⟩
  go_wp2_with fail
  refine (within_any g A0 l.length c0 _ _ hs _ (s1.cell hh)).mono ?_
  rintro e w2 ⟨rfl, s2⟩
  rw [wi_in (by omega) (by omega)]
  have s3 := s1.trans s2
  obtain ⟨g2, c, e1, e2, e3, e4, e5, hne, r1, r2, e6, e7⟩ := mem_open (h.same s3) j hj
  have hjs : (j : Int) < l.length := by omega
  rw [← hx] at e4
  clear hx
  go_wp2_with fail
  go_ret2
  exact ⟨rfl, e7 _ _, ((s3.chg R).set (.inl r1) _).set (.inl r2) _⟩

theorem cas_no {R : Nat → Prop} {g : Nat} {l : List Int} {s : Int} (w : World) (h : Mem w R g l s) (j : Nat) (hj : j < l.length) (v u : Int) (hv : (l[j] != v) = true) :
    Calls Tryd.prog 114 #[.pointer (some ⟨g, 0, none⟩), .int .i64 j, .int .u32 v, .int .u32 u] w fun e w' =>
      e = .returned (.tuple #[.bool false, .int .i64 0]) ∧ Mem w' R g l (wrap64 (s + 1)) ∧ Chg R w w' := by
  obtain ⟨A0, c0, hh⟩ := mem_head h
  have hs := h.short
  obtain ⟨x, hx⟩ : ∃ x, x = l[j] := ⟨_, rfl⟩
  rw [← hx] at hv
  go_enter Tryd.func114, Tryd.ntmps114
  go_wp2_with fail
  refine (place_any _ _).mono ?_
  rintro e w1 ⟨rfl, s1⟩
  go_wp2_with fail
  refine (within_any g A0 l.length c0 _ _ hs _ (s1.cell hh)).mono ?_
  rintro e w2 ⟨rfl, s2⟩
  rw [wi_in (by omega) (by omega)]
  have s3 := s1.trans s2
  obtain ⟨g2, c, e1, e2, e3, e4, e5, hne, r1, r2, e6, e7⟩ := mem_open (h.same s3) j hj
  have hjs : (j : Int) < l.length := by omega
  rw [← hx] at e4
  clear hx
  go_wp2_with fail
  go_ret2
  exact ⟨rfl, e6 _, (s3.chg R).set (.inl r1) _⟩


end Go.Proofs.YtiipdeionmndcaaDoor.Mm
end
section
set_option linter.unusedSimpArgs false
set_option linter.unusedVariables false
namespace Go.Proofs.YtiipdeionmndcaaDoor.Mm
open Go.ChangeShapes Go.WideShapes Go.ChangeAt Go.RowKit Ws

theorem words_one (l : List Int) : ∀ u ∈ l.map (Value.int .u32), u.oneCell' = true := by
  intro u hu
  obtain ⟨x, _, rfl⟩ := List.mem_map.1 hu
  rfl

theorem own_none (w : World) (e : TypeId) : Own (w.alloc (.cells #[] e)) w.heap.size e (some ⟨w.heap.size, 0, none⟩) 0 [] := World.ownsRow_made w #[] 0 (Nat.le_refl _) (Nat.zero_le _) rfl

set_option maxRecDepth 100000 in
theorem clone_words (ad : Addr) (n c : Nat) (l : List Int) (w : World) (h : Row w (some ad) (l.map (Value.int .u32))) (hn : l.length = n) (hl : n ≤ 4096) :
    Calls Tryd.prog 83 #[.slice (some ad) n c] w fun e w' => ∃ g' c', e = .returned (.slice (some ⟨g', 0, none⟩) n c') ∧ Same w w' ∧ Own w' w.heap.size 41 (some ⟨g', 0, none⟩) c' (l.map (Value.int .u32)) := by
  obtain ⟨i0, hi, hz0, hz1, hz2⟩ := info_parts u32_info
  have HN := Lib.hid hn
  clear hn
  have hq : ∀ (w : World) (a : Option Addr) (n c n' c' : Nat), (binOp .eql 45 (.slice a n c) (.slice none n' c')).run Tryd.prog w = .ok (.bool a.isNone) w := fun w a n c n' c' => Lib.run_eql_slice_nil w _ _ a n c n' c' Tryd.underlying45
  go_enter Tryd.func83, Tryd.ntmps83
  go_wp2_with (at_builtin; refine wpList_app rfl _ _ 45 rfl w.heap.size 41 i0 _ 4 Tryd.underlying45 hi hz0 hz1 hz2 rfl _ _ _ [] rfl rfl (own_none w 41) _ _ _ (l.map (Value.int .u32)) rfl ?c1 ?c2 (words_one l) ?c3 (by omega) ?c4 ?c5)
  case c1 => rw [List.length_map]; exact HN.out
  case c2 => exact h.same ((Same.refl _).alloc _)
  case c3 => have := HN.out; simp; omega
  case c4 => simp
  intro A' c' w1 ho hc hA
  have hs : Same w w1 := Same.more ((Same.refl w).alloc (.cells #[] 41)) hc (fun i hi => by have hi : w.heap.size = i := by simpa using hi
                                                                                            omega)
  go_wp2
  go_ret
  rcases hA with hA | hA
  · exact ⟨_, c', by rw [hA]; rfl, hs, hA ▸ ho⟩
  · exact ⟨_, c', by rw [hA]; rfl, hs, hA ▸ ho⟩

/-! ### all words of a memory -/
theorem whole_in (n : Nat) : wiB n 0 n = 0 := by unfold wiB inB; rw [if_pos]; simp

theorem look_all {R : Nat → Prop} {g n : Nat} {l : List Int} {s : Int} (w : World) (h : Mem w R g l s) (hn : l.length = n) :
    Calls Tryd.prog 52 #[.pointer (some ⟨g, 0, none⟩), .agg #[.int .i64 0, .int .i64 n]] w fun e w' => ∃ g' c', e = .returned (.tuple #[.slice (some ⟨g', 0, none⟩) n c', .int .i64 0]) ∧ Same w w' ∧ Own w' w.heap.size 41 (some ⟨g', 0, none⟩) c' (l.map (Value.int .u32)) := by
  obtain ⟨_, hs, g2, c, hb, ho, _⟩ := h
  rw [hn] at hb hs
  have h0 : w.cell? ⟨g, 0, none⟩ = some (.slice (some ⟨g2, 0, none⟩) n c) := by simpa using hb.cell 0
  obtain ⟨_, _, hlc, hcm⟩ := own_lt ho
  rw [List.length_map, hn] at hlc
  have hrow := ho.row
  have HN := Lib.hid hn
  clear hn hb ho
  go_enter Tryd.func52, Tryd.ntmps52
  go_wp2_with fail
  refine (within_any g _ n c _ _ hs _ (((Same.refl w).alloc _).cell h0)).mono ?_
  rintro e w1 ⟨rfl, s1⟩
  rw [whole_in]
  have b0 : w1.cell? ⟨w.heap.size, 0, none⟩ = some (.int .i64 0) := s1.new rfl
  have b1 : w1.cell? ⟨w.heap.size, 1, none⟩ = some (.int .i64 n) := s1.new rfl
  have s2 := Same.trans ((Same.refl w).alloc _) s1
  have h1 := s2.cell h0
  have r1 := hrow.same s2
  clear s1 h0 hrow
  generalize w.heap.size = hz at *
  go_wp2_with fail
  have f1 : IntKind.i64.wrap (n : Int) = n := Go.IntWalk.i64_in _ (by omega)
  have f2 : IntKind.i64.wrap (0 + (n : Int)) = n := by rw [Int.zero_add]; exact f1
  have f3 : (0 : Int) ≤ n := by omega
  have f4 : (n : Int) ≤ c := by omega
  have f5 : ((n : Int)).toNat = n := Int.toNat_natCast n
  go_region_held3 (fun w' => w'.cell? ⟨g, 0, none⟩ = some (.slice (some ⟨g2, 0, none⟩) n c) ∧ w'.cell? ⟨hz, 0, none⟩ = some (.int .i64 0) ∧ w'.cell? ⟨hz, 1, none⟩ = some (.int .i64 n) ∧ Row w' (some ⟨g2, 0, none⟩) (l.map (Value.int .u32)) ∧ Same w w')
    (first | assumption | exact ⟨h1, b0, b1, r1.drew, s2.drew⟩ | (rcases ‹_ ∧ _ ∧ _ ∧ _ ∧ Same _ _› with ⟨x1, x2, x3, x4, x5⟩; exact ⟨hx.cell x1, hx.cell x2, hx.cell x3, x4.same hx, x5.trans hx⟩))
    (first | (go_at_call 83; refine (clone_words _ n c l _ (by rcases ‹_ ∧ _ ∧ _ ∧ _ ∧ Same _ _› with ⟨x1, x2, x3, x4, x5⟩; exact x4) HN.out hs).mono ?_; rintro e w' ⟨g', c', rfl, hx, ho⟩))
  rcases ‹_ ∧ _ ∧ _ ∧ _ ∧ Same _ _› with ⟨_, _, _, _, x5⟩
  clear f1 f2 f3 f4 f5 b0 b1 h1 r1
  go_wp2
  go_ret2
  exact ⟨g', c', rfl, x5, ho.base s2.size⟩

theorem u32_one : (Tryd.prog.info? 41).map (·.size) = some 1 := by kernel_rfl

theorem fill_all {R : Nat → Prop} {g n : Nat} {l : List Int} {s : Int} (w : World) (h : Mem w R g l s) (hn : l.length = n) (C : Option Addr) (d : Nat) (ys : List Int) (hy : ys.length = n) (hr : Row w C (ys.map (Value.int .u32))) :
    Calls Tryd.prog 46 #[.pointer (some ⟨g, 0, none⟩), .int .i64 0, .slice C n d] w fun e w' => e = .returned (.int .i64 0) ∧ Mem w' R g ys s ∧ Chg R w w' := by
  obtain ⟨r1, hs, g2, c, hb, ho, r2⟩ := h
  rw [hn] at hb hs
  have h0 : w.cell? ⟨g, 0, none⟩ = some (.slice (some ⟨g2, 0, none⟩) n c) := by simpa using hb.cell 0
  obtain ⟨_, _, hlc, hcm⟩ := own_lt ho
  rw [List.length_map, hn] at hlc
  have hxn : (l.map (Value.int .u32)).length = n := by rw [List.length_map]; exact hn
  have hym : (ys.map (Value.int .u32)).length = n := by rw [List.length_map]; exact hy
  have HX := Lib.hid hxn
  have HY := Lib.hid hym
  have HN := Lib.hid hn
  have HZ := Lib.hid hy
  clear hxn hym hn hy
  go_enter Tryd.func46, Tryd.ntmps46
  go_wp2_with fail
  refine (within_any g _ n c _ _ hs _ h0).mono ?_
  rintro e w1 ⟨rfl, s1⟩
  rw [whole_in]
  have h1 := s1.cell h0
  have f3 : (0 : Int) ≤ n := by omega
  have f4 : (n : Int) ≤ c := by omega
  clear h0
  go_wp2_with (with_reducible refine wpList_cp rfl (.tmp 22) (.tmp 23) 45 45 rfl 41 Tryd.underlying45 u32_one 0 (some ⟨g2, 0, none⟩) n c c (l.map (Value.int .u32)) rfl HX.out (ho.same s1) C n d (ys.map (Value.int .u32)) rfl HY.out (hr.same s1) (words_one _) ?_)
  intro w2 ho2 hc2
  have hyn : (ys.map (Value.int .u32)).take n ++ (l.map (Value.int .u32)).drop n = ys.map (Value.int .u32) := by
    rw [List.take_of_length_le (by have := HY.out; omega), List.drop_of_length_le (by have := HX.out; omega), List.append_nil]
  rw [hyn] at ho2
  have hb2 := (hb.same s1).chg hc2 (ho.ne hb (by decide) g2 rfl)
  have HB := Lib.hid hb2
  clear hb2 hyn h1 f3 f4
  go_wp2
  go_ret
  have e := HZ.out
  exact ⟨rfl, ⟨r1, by omega, g2, c, by rw [e]; exact HB.out, ho2, r2⟩, (s1.chg R).trans (hc2.weak fun i _ (hi : g2 = i) => hi ▸ r2)⟩

/-! ### nobody's memory -/
theorem nil_read (a : Int) (w : World) : Calls Tryd.prog 45 #[.pointer none, .int .i64 a] w fun e w' => e = .returned (.tuple #[.int .u32 0, .int .i64 1]) ∧ Same w w' := by
  go_enter Tryd.func45, Tryd.ntmps45
  go_wp2_with fail
  refine (place_any _ _).mono ?_
  rintro e w1 ⟨rfl, s1⟩
  go_wp2_with fail
  refine (within_nil _ _ _).mono ?_
  rintro e w2 ⟨rfl, s2⟩
  go_wp2_with fail
  go_ret2
  exact ⟨rfl, s1.trans s2⟩
theorem nil_cas (a x y : Int) (w : World) : Calls Tryd.prog 114 #[.pointer none, .int .i64 a, .int .u32 x, .int .u32 y] w fun e w' => e = .returned (.tuple #[.bool false, .int .i64 1]) ∧ Same w w' := by
  go_enter Tryd.func114, Tryd.ntmps114
  go_wp2_with fail
  refine (place_any _ _).mono ?_
  rintro e w1 ⟨rfl, s1⟩
  go_wp2_with fail
  refine (within_nil _ _ _).mono ?_
  rintro e w2 ⟨rfl, s2⟩
  go_wp2_with fail
  go_ret2
  exact ⟨rfl, s1.trans s2⟩
theorem nil_write (a x : Int) (w : World) : Calls Tryd.prog 99 #[.pointer none, .int .i64 a, .int .u32 x] w fun e w' => e = .returned (.int .i64 1) ∧ Same w w' := by
  go_enter Tryd.func99, Tryd.ntmps99
  go_wp2_with fail
  refine (place_any _ _).mono ?_
  rintro e w1 ⟨rfl, s1⟩
  go_wp2_with fail
  refine (within_nil _ _ _).mono ?_
  rintro e w2 ⟨rfl, s2⟩
  go_wp2_with fail
  go_ret
  exact ⟨rfl, s1.trans s2⟩
theorem nil_look (a l : Int) (w : World) : Calls Tryd.prog 52 #[.pointer none, .agg #[.int .i64 a, .int .i64 l]] w fun e w' => e = .returned (.tuple #[.slice none 0 0, .int .i64 1]) ∧ Same w w' := by
  go_enter Tryd.func52, Tryd.ntmps52
  go_wp2_with fail
  refine (within_nil _ _ _).mono ?_
  rintro e w1 ⟨rfl, s1⟩
  go_wp2_with fail
  go_ret2
  exact ⟨rfl, Same.trans ((Same.refl _).alloc _) s1⟩
theorem nil_fill (a : Int) (A : Option Addr) (n c : Nat) (w : World) : Calls Tryd.prog 46 #[.pointer none, .int .i64 a, .slice A n c] w fun e w' => e = .returned (.int .i64 1) ∧ Same w w' := by
  go_enter Tryd.func46, Tryd.ntmps46
  go_wp2_with fail
  refine (within_nil _ _ _).mono ?_
  rintro e w1 ⟨rfl, s1⟩
  go_wp2_with fail
  go_ret
  exact ⟨rfl, s1⟩

/-! ### the chapter's example -/
end Go.Proofs.YtiipdeionmndcaaDoor.Mm
end
end
section
set_option linter.unusedSimpArgs false
set_option linter.unusedVariables false
namespace Go.Proofs.YtiipdeionmndcaaDoor.Mm
open Go.ChangeShapes Go.WideShapes Go.ChangeAt Go.RowKit Ws

theorem memory_any (C : Option Addr) (n d : Nat) (ys : List Int) (w : World) (hy : ys.length = n) (hn : n ≤ 4096) (hr : Row w C (ys.map (Value.int .u32))) :
    Calls Tryd.prog 19 #[.slice C n d] w fun e w' => ∃ g, e = .returned (.pointer (some ⟨g, 0, none⟩)) ∧ Same w w' ∧ Mem w' (fun i => w.heap.size ≤ i) g ys 0 := by
  have HY := Lib.hid hy
  have HR := Lib.hid hr
  clear hy hr
  go_enter Tryd.func19, Tryd.ntmps19
  go_wp2_with fail
  refine (new_any n hn _).mono ?_
  rintro e w1 ⟨rfl, s1, m1⟩
  have HM := Lib.hid m1
  have HS := Lib.hid s1
  clear m1 s1
  go_wp2_with fail
  refine (fill_all _ HM.out (by simp) C d ys HY.out (HR.out.same HS.out)).mono ?_
  rintro e w2 ⟨rfl, m2, c2⟩
  have HM2 := Lib.hid m2
  have HC2 := Lib.hid c2
  clear m2 c2
  go_wp2
  go_ret
  exact ⟨_, rfl, HS.out.more HC2.out (fun i hi => hi), HM2.out⟩

theorem words_any {R : Nat → Prop} {g : Nat} {l : List Int} {s : Int} (w : World) (h : Mem w R g l s) :
    Calls Tryd.prog 23 #[.pointer (some ⟨g, 0, none⟩)] w fun e w' => ∃ g' c', e = .returned (.slice (some ⟨g', 0, none⟩) l.length c') ∧ Same w w' ∧ Own w' w.heap.size 41 (some ⟨g', 0, none⟩) c' (l.map (Value.int .u32)) := by
  obtain ⟨n, hn⟩ : ∃ n, n = l.length := ⟨_, rfl⟩
  have HN := Lib.hid hn.symm
  have HM := Lib.hid h
  rw [← hn]
  clear h
  have HL := Lib.hid (len_any w HM.out)
  rw [HN.out] at HL
  clear hn
  go_enter Tryd.func23, Tryd.ntmps23
  go_wp2_with fail
  refine HL.out.mono ?_
  rintro e w' ⟨rfl, rfl⟩
  go_wp2_with fail
  refine (look_all _ HM.out HN.out).mono ?_
  rintro e w1 ⟨g', c', rfl, s1, o1⟩
  have HO := Lib.hid o1
  have HS := Lib.hid s1
  clear o1 s1
  go_wp2
  go_ret
  exact ⟨g', c', rfl, HS.out, HO.out⟩

end Go.Proofs.YtiipdeionmndcaaDoor.Mm
end
