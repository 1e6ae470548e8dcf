/-
  What the functions of package codec give back, as contracts of their calls, over this seat's translation: a reader made, its next bytes, what is left.
-/
import Derived.Test.YtfpefkpbiioofabRows
import Derived.Test.YtfpefkpbiioofabWords
import Derived.WalkLawsBesides
import Derived.WalkSpells
import Derived.ProofKit
import Derived.OpenShut
import Derived.Lib.Hide
import Derived.Deep.QuietTactic
import Derived.BigQuiet
import Derived.Deep.RegionHeld3
import Derived.Laws.BytesArg
set_option linter.unusedSimpArgs false
set_option linter.unusedVariables false
namespace Go.Proofs.Ytfpefkpbiioofab.Cd
open Go.ChangeShapes Go.WideShapes Go.ChangeAt Go.RowKit Ws

theorem ret_int {k : IntKind} {a b : Int} (h : a = b) : Ending.returned (.int k a) = .returned (.int k b) := by rw [h]
theorem ret_bool {a b : Bool} (h : a = b) : Ending.returned (.bool a) = .returned (.bool b) := by rw [h]

/-- bytes as cells -/
def by8 (l : List Int) : List Value := l.map (Value.int .u8)
def By (l : List Int) : Prop := ∀ x ∈ l, 0 ≤ x ∧ x ≤ 255
theorem by8_len (l : List Int) : (by8 l).length = l.length := by simp [by8]
theorem by8_one (l : List Int) : ∀ u ∈ by8 l, u.oneCell' = true := by
  intro u hu
  obtain ⟨x, _, rfl⟩ := List.mem_map.1 hu
  rfl
theorem by8_app (a b : List Int) : by8 (a ++ b) = by8 a ++ by8 b := by simp [by8]
theorem by8_take (a : List Int) (n : Nat) : by8 (a.take n) = (by8 a).take n := by simp [by8, List.map_take]
theorem by8_drop (a : List Int) (n : Nat) : by8 (a.drop n) = (by8 a).drop n := by simp [by8, List.map_drop]

theorem run_str (l : List Int) (A : Option Addr) (n c : Nat) (w : World) (hn : l.length = n) (hr : Row w A (by8 l)) :
    (convert 22 9 (.slice A n c)).run Try.prog w = .ok (.string (strOfNums l)) w := by
  subst hn
  cases A with
  | none =>
    have hl : l = [] := by
      cases l with
      | nil => rfl
      | cons x r =>
        obtain ⟨b, o, hA, _⟩ := hr 0 (.int .u8 x) rfl
        cases hA
    subst hl
    exact run_convert_bytes_nil w 22 5 Try.underlying22 Try.underlying5 _ c 9 Try.underlying9
  | some ad =>
    have hl : (loadCells ad l.length).run Try.prog w = .ok (l.map (Value.int .u8)).toArray w := by
      have h := run_loadCells_list (P := Try.prog) w ad (by8 l) (fun j u hj => by
        obtain ⟨b, o, hA, hc⟩ := hr j u hj
        injection hA with hA
        subst hA
        cases j with
        | zero => simpa [Addr.add] using hc
        | succ j => simpa [Addr.add] using hc)
      rw [by8_len] at h
      exact h
    rw [run_convert_bytes_string w 22 9 5 _ _ c Try.underlying22 Try.underlying5 Try.underlying9, run_bytesToString w ad l.length c l hl, foldl_push_bytes]
    simp [strOfNums, ByteArray.empty, ByteArray.emptyWithCapacity]
    rfl

theorem str_inj {a b : List Int} (ha : By a) (hb : By b) (h : (strOfNums a).toList = (strOfNums b).toList) : a = b := by
  have e : ∀ x : List Int, (strOfNums x).toList = x.map fun n => UInt8.ofNat n.toNat := fun x => by
    rw [← strOfNums_data]
    exact ByteArray.toList_eq _
  rw [e, e] at h
  induction a generalizing b with
  | nil => cases b with
    | nil => rfl
    | cons y r => cases h
  | cons x s ih => cases b with
    | nil => cases h
    | cons y r =>
      simp only [List.map_cons, List.cons.injEq] at h
      obtain ⟨h1, h2⟩ := h
      have hx := ha x (by simp)
      have hy := hb y (by simp)
      have h3 : (UInt8.ofNat x.toNat).toNat = (UInt8.ofNat y.toNat).toNat := by rw [h1]
      simp at h3
      rw [ih (fun z hz => ha z (by simp [hz])) (fun z hz => hb z (by simp [hz])) h2]
      congr 1
      omega

theorem bytes_eq (A C : Option Addr) (n m c d : Nat) (xs ys : List Int) (w : World) (hn : xs.length = n) (hm : ys.length = m) (hx : Row w A (by8 xs)) (hy : Row w C (by8 ys)) (bx : By xs) (bY : By ys) :
    Calls Try.prog 9 #[.slice A n c, .slice C m d] w fun e w' => e = .returned (.bool (decide (xs = ys))) ∧ w = w' := by
  have h1 := run_str xs A n c w hn hx
  have h2 := run_str ys C m d w hm hy
  have h3 : ((strOfNums xs).toList == (strOfNums ys).toList) = decide (xs = ys) := by
    rw [Bool.eq_iff_iff, beq_iff_eq, decide_eq_true_eq]
    exact ⟨str_inj bx bY, fun h => by rw [h]⟩
  have H3 := Lib.hid h3
  clear h3 hn hm
  generalize strOfNums xs = s at *
  generalize strOfNums ys = t at *
  go_enter Try.func9, Try.ntmps9
  go_wp2
  go_ret
  exact ⟨ret_bool H3.out, rfl⟩

theorem u8_info : (Try.prog.info? 5).map (fun i => (i.zero, i.size, i.bytes)) = some (some (.int .u8 0), 1, 1) := by kernel_rfl
theorem u8_one : (Try.prog.info? 5).map (·.size) = some 1 := by kernel_rfl

def zeros (n : Nat) : Array Value := madeCells (Value.int .u8 0).cells (n * 1)
theorem zeros_list (n : Nat) : (zeros n).toList = by8 (List.replicate n 0) := by
  unfold zeros madeCells by8
  apply List.ext_getElem
  · simp
  · intro i h1 h2
    simp [Value.cells]
    show [Value.int IntKind.u8 0][i % 1]?.getD default = _
    rw [Nat.mod_one]
    rfl
theorem zeros_size (n : Nat) : (zeros n).size = n := by unfold zeros; rw [size_madeCells, Nat.mul_one]
theorem make_any (n m : Nat) (hn : n ≤ m) (hm : m ≤ 1048576) (W : World) : (Instr.makeSlice 22 (.int .i64 (n : Int)) (.int .i64 (m : Int))).run Try.prog W = .ok (.slice (some ⟨W.heap.size, 0, none⟩) n m) (W.alloc (.cells (zeros m) 5)) := by
  obtain ⟨i0, hi, hz0, hz1, hz2⟩ := info_parts u8_info
  have h := run_make (P := Try.prog) W 22 5 i0 _ Try.underlying22 hi hz0 .i64 .i64 n m (by omega) (by omega) (by rw [hz2]; omega) (by omega)
  rw [hz1, Int.toNat_natCast, Int.toNat_natCast] at h
  exact h
theorem made_own (n m : Nat) (hn : n ≤ m) (hm : m ≤ 1048576) (w : World) : Own (w.alloc (.cells (zeros m) 5)) w.heap.size 5 (some ⟨w.heap.size, 0, none⟩) m (by8 (List.replicate n 0)) := by
  refine ⟨by rw [Nat.mul_one], .inr ⟨w.heap.size, m, zeros m, rfl, Nat.le_refl _, heap_alloc_new w _, by rw [by8_len, List.length_replicate]; exact hn, by unfold maxLen; omega, by rw [zeros_size, Nat.mul_one], ?_⟩⟩
  rw [zeros_list, by8_len, List.length_replicate, Nat.mul_one]
  unfold by8
  rw [← List.map_take, List.take_replicate]
  congr 2
  omega

/-- block g is a reader of the bytes l, of which k were read; it is bad or not; all its blocks are in R -/
structure Rd (w : World) (R : Nat → Prop) (g : Nat) (l : List Int) (k : Nat) (bad : Bool) : Prop where
  low : R g
  fits : k ≤ l.length
  short : l.length ≤ 65536
  is : ∃ g2 c, Blk w g 69 #[.slice (some ⟨g2, 0, none⟩) l.length c, .int .i64 k, .bool bad] ∧ Own w 0 5 (some ⟨g2, 0, none⟩) c (by8 l) ∧ R g2
theorem Rd.chg {S R : Nat → Prop} {w w' : World} {g : Nat} {l : List Int} {k : Nat} {bad : Bool} (h : Rd w R g l k bad) (hc : Chg S w w') (hn : ∀ i, R i → ¬ S i) : Rd w' R g l k bad := by
  obtain ⟨h1, h2, h3, g2, c, hb, ho, hr⟩ := h
  exact ⟨h1, h2, h3, g2, c, hb.chg hc (hn _ h1), ho.chg hc fun i hi => by
    injection hi with hi
    injection hi with hi
    exact hi ▸ hn g2 hr, hr⟩
theorem Rd.same {R : Nat → Prop} {w w' : World} {g : Nat} {l : List Int} {k : Nat} {bad : Bool} (h : Rd w R g l k bad) (hc : Same w w') : Rd w' R g l k bad := h.chg hc fun _ _ f => f
theorem own_lt {w : World} {B : Nat} {e : TypeId} {g c : Nat} {l : List Value} (h : Own w B e (some ⟨g, 0, none⟩) c l) : B ≤ g ∧ g < w.heap.size ∧ l.length ≤ c ∧ c ≤ 9223372036854775807 := by
  rcases h.2 with ⟨h2, _⟩ | ⟨g', cap, cur, hv, hB, hg, h1, h2, _⟩
  · cases h2
  · injection hv with hv _ hc
    injection hv with hv
    injection hv with hv
    subst hc
    subst hv
    unfold maxLen at h2
    exact ⟨hB, Blk.lt (t := e) hg, h1, h2⟩
theorem Rd.within {R : Nat → Prop} {w : World} {g : Nat} {l : List Int} {k : Nat} {bad : Bool} (h : Rd w R g l k bad) : Rd w (fun i => R i ∧ i < w.heap.size) g l k bad := by
  obtain ⟨h1, h2, h3, g2, c, hb, ho, hr⟩ := h
  exact ⟨⟨h1, hb.lt⟩, h2, h3, g2, c, hb, ho, hr, (own_lt ho).2.1⟩

theorem new_any (A : Option Addr) (n c : Nat) (l : List Int) (w : World) (hl : l.length = n) (hn : n ≤ 65536) (hr : Row w A (by8 l)) :
    Calls Try.prog 12 #[.slice A n c] w fun e w' => ∃ g, e = .returned (.pointer (some ⟨g, 0, none⟩)) ∧ Same w w' ∧ Rd w' (fun i => w.heap.size ≤ i) g l 0 false := by
  have hmk := make_any n n (Nat.le_refl _) (by omega)
  have ho := made_own n n (Nat.le_refl _) (by omega) w
  have hz : (by8 (List.replicate n 0)).length = n := by rw [by8_len, List.length_replicate]
  have hy : (by8 l).length = n := by rw [by8_len]; exact hl
  have HZ := Lib.hid hz
  have HY := Lib.hid hy
  have HL := Lib.hid hl
  clear hz hy hl
  go_enter Try.func12, Try.ntmps12
  go_wp2_with (with_reducible refine wpList_cp rfl (.tmp 7) (.tmp 8) 22 22 rfl 5 Try.underlying22 u8_one w.heap.size (some ⟨w.heap.size, 0, none⟩) n n n (by8 (List.replicate n 0)) rfl HZ.out ho A n c (by8 l) rfl HY.out (hr.same ((Same.refl _).alloc _)) (by8_one _) ?_)
  intro w2 ho2 hc2
  have hyn : (by8 l).take n ++ (by8 (List.replicate n 0)).drop n = by8 l := by
    rw [List.take_of_length_le (by have := HY.out; omega), List.drop_of_length_le (by have := HZ.out; omega), List.append_nil]
  rw [hyn] at ho2
  have HS := Lib.hid hc2.size
  have hs2 : Same w w2 := Same.more ((Same.refl w).alloc (.cells (zeros n) 5)) hc2 fun i hi => by
    have hi : w.heap.size = i := by simpa using hi
    omega
  clear hyn hmk
  go_wp2
  go_ret
  have hz := HS.out
  have hl := HL.out
  refine ⟨w2.heap.size, rfl, hs2.alloc _, by simp at hz; omega, by omega, by omega, w.heap.size, n, ?_, (ho2.same ((Same.refl _).alloc _)).base (Nat.zero_le _), Nat.le_refl _⟩
  have hb := Blk.new w2 69 #[.slice (some ⟨w.heap.size, 0, none⟩) n n, .int .i64 0, .bool false]
  rw [hl]
  simpa using hb

theorem rd_open {R : Nat → Prop} {w : World} {g : Nat} {l : List Int} {k : Nat} {bad : Bool} (h : Rd w R g l k bad) :
    ∃ g2 c, w.cell? ⟨g, 0, none⟩ = some (.slice (some ⟨g2, 0, none⟩) l.length c) ∧ w.cell? ⟨g, 1, none⟩ = some (.int .i64 k) ∧ w.cell? ⟨g, 2, none⟩ = some (.bool bad) ∧
      w.frozen? ⟨g, 1, none⟩ = false ∧ w.frozen? ⟨g, 2, none⟩ = false ∧ Row w (some ⟨g2, 0, none⟩) (by8 l) ∧ l.length ≤ c ∧ c ≤ 9223372036854775807 ∧
      (∀ k' : Nat, k' ≤ l.length → Rd (w.setCell ⟨g, 1, none⟩ (.int .i64 k')) R g l k' bad ∧ Chg R w (w.setCell ⟨g, 1, none⟩ (.int .i64 k')) ∧ Row (w.setCell ⟨g, 1, none⟩ (.int .i64 k')) (some ⟨g2, 0, none⟩) (by8 l)) ∧
      (∀ b : Bool, Rd (w.setCell ⟨g, 2, none⟩ (.bool b)) R g l k b ∧ Chg R w (w.setCell ⟨g, 2, none⟩ (.bool b))) := by
  obtain ⟨h1, h2, h3, g2, c, hb, ho, hr⟩ := h
  have hl := own_lt ho
  rw [by8_len] at hl
  have hne := ho.ne hb (by decide) g2 rfl
  have hch : ∀ (i : Nat) (u : Value), Chg (fun i => i = g) w (w.setCell ⟨g, i, none⟩ u) := fun i u => (Chg.refl (fun i => i = g) w).set (p := ⟨g, i, none⟩) (.inl rfl) u
  have hkeep : ∀ (i : Nat) (u : Value), Own (w.setCell ⟨g, i, none⟩ u) 0 5 (some ⟨g2, 0, none⟩) c (by8 l) := fun i u => ho.chg (hch i u) fun j hj => by
    injection hj with hj
    injection hj with hj
    omega
  refine ⟨g2, c, by simpa using hb.cell 0, by simpa using hb.cell 1, by simpa using hb.cell 2, hb.thaw 1, hb.thaw 2, ho.row, hl.2.2.1, hl.2.2.2, fun k' hk' => ⟨⟨h1, hk', h3, g2, c, by simpa using hb.put 1 (.int .i64 k'), hkeep _ _, hr⟩, (hch _ _).weak fun i _ hi => hi ▸ h1, (hkeep _ _).row⟩,
    fun b => ⟨⟨h1, h2, h3, g2, c, by simpa using hb.put 2 (.bool b), hkeep _ _, hr⟩, (hch _ _).weak fun i _ hi => hi ▸ h1⟩⟩

theorem left_any {R : Nat → Prop} {g : Nat} {l : List Int} {k : Nat} {bad : Bool} (w : World) (h : Rd w R g l k bad) :
    Calls Try.prog 36 #[.pointer (some ⟨g, 0, none⟩)] w fun e w' => e = .returned (.int .i64 (l.length - k)) ∧ ∃ q, w' = w.drewN q := by
  have hf := h.fits
  have hs := h.short
  obtain ⟨g2, c, e0, e1, e2, f1, f2, hr, hc1, hc2, _, _⟩ := rd_open h
  clear e2 f1 f2 hr
  have hx : IntKind.i64.wrap ((l.length : Int) - k) = l.length - k := Go.IntWalk.i64_in _ (by omega)
  go_enter Try.func36, Try.ntmps36
  go_wp2
  go_quiet (fail)
  go_wp2
  go_ret
  exact ⟨rfl, _, rfl⟩

theorem err_any {R : Nat → Prop} {g : Nat} {l : List Int} {k : Nat} {bad : Bool} (w : World) (h : Rd w R g l k bad) :
    Calls Try.prog 17 #[.pointer (some ⟨g, 0, none⟩)] w fun e w' => e = .returned (.int .i64 (if bad then 2 else 0)) ∧ w = w' := by
  obtain ⟨g2, c, e0, e1, e2, f1, f2, hr, hc1, hc2, _, _⟩ := rd_open h
  clear e0 e1 f1 f2 hr
  cases bad
  all_goals
    go_enter Try.func17, Try.ntmps17
    go_wp2
    go_ret
    exact ⟨rfl, rfl⟩
theorem err_nil (w : World) : Calls Try.prog 17 #[.pointer none] w fun e w' => e = .returned (.int .i64 2) ∧ w = w' := by
  go_enter Try.func17, Try.ntmps17
  go_wp2
  go_ret
  exact ⟨rfl, rfl⟩

/-! ### the next bytes -/
theorem next_nil (n : Int) (w : World) : Calls Try.prog 28 #[.pointer none, .int .i64 n] w fun e w' => e = .returned (.slice none 0 0) ∧ w = w' := by
  go_enter Try.func28, Try.ntmps28
  go_wp2_with (go_at_call 17; refine (err_nil _).mono ?_; rintro e w' ⟨rfl, rfl⟩)
  go_ret
  exact ⟨rfl, rfl⟩
theorem next_bad {R : Nat → Prop} {g : Nat} {l : List Int} {k : Nat} (n : Int) (w : World) (h : Rd w R g l k true) :
    Calls Try.prog 28 #[.pointer (some ⟨g, 0, none⟩), .int .i64 n] w fun e w' => e = .returned (.slice none 0 0) ∧ w = w' := by
  go_enter Try.func28, Try.ntmps28
  go_wp2_with (go_at_call 17; refine (err_any _ h).mono ?_; rintro e w' ⟨rfl, rfl⟩)
  go_ret
  exact ⟨rfl, rfl⟩
theorem next_out {R : Nat → Prop} {g : Nat} {l : List Int} {k : Nat} (n : Int) (hn : n < 0 ∨ (l.length : Int) - k < n) (w : World) (h : Rd w R g l k false) :
    Calls Try.prog 28 #[.pointer (some ⟨g, 0, none⟩), .int .i64 n] w fun e w' => e = .returned (.slice none 0 0) ∧ Rd w' R g l k true ∧ Chg R w w' := by
  go_enter Try.func28, Try.ntmps28
  by_cases h0 : n < 0
  · obtain ⟨g2, c, e0, e1, e2, f1, f2, hr, hc1, hc2, _, hb⟩ := rd_open h
    clear e0 e1 hr hc1 hc2 f1
    go_wp2_with (go_at_call 17; refine (err_any _ h).mono ?_; rintro e w' ⟨rfl, rfl⟩)
    go_ret
    exact ⟨rfl, (hb true).1, (hb true).2⟩
  · have h1 : (l.length : Int) - k < n := by omega
    clear hn
    go_wp2_with fail
    refine (err_any _ h).mono ?_
    rintro e w' ⟨rfl, rfl⟩
    go_wp2_with fail
    refine (left_any _ h).mono ?_
    rintro e w' ⟨rfl, q, rfl⟩
    have h' : Rd (w.drewN q) R g l k false := h.same ((Same.refl w).drewN q)
    obtain ⟨g2, c, e0, e1, e2, f1, f2, hr, hc1, hc2, _, hb⟩ := rd_open h'
    clear e0 e1 hr hc1 hc2 f1
    have hq := ((Chg.refl R w).drewN q)
    generalize w.drewN q = w1 at *
    go_wp2_with fail
    go_ret
    exact ⟨rfl, (hb true).1, hq.trans (hb true).2⟩

/-- what next tells of a reader that has so many bytes left -/
def NextIn (w : World) (R : Nat → Prop) (g : Nat) (l : List Int) (k n : Nat) (e : Ending) (w' : World) : Prop :=
  ∃ b o c, e = .returned (.slice (some ⟨b, o, none⟩) n c) ∧ Row w' (some ⟨b, o, none⟩) (by8 ((l.drop k).take n)) ∧ Rd w' R g l (k + n) false ∧ Chg R w w'

theorem next_in {R : Nat → Prop} {g : Nat} {l : List Int} {k : Nat} (n : Nat) (hn : k + n ≤ l.length) (w : World) (h : Rd w R g l k false) :
    Calls Try.prog 28 #[.pointer (some ⟨g, 0, none⟩), .int .i64 n] w fun e w' => NextIn w R g l k n e w' := by
  have hs := h.short
  have h1 : (n : Int) ≤ (l.length : Int) - k := by omega
  have h0 : ¬ (n : Int) < 0 := by omega
  go_enter Try.func28, Try.ntmps28
  go_wp2_with fail
  refine (err_any _ h).mono ?_
  rintro e w' ⟨rfl, rfl⟩
  go_wp2_with fail
  refine (left_any _ h).mono ?_
  rintro e w' ⟨rfl, q, rfl⟩
  have h' : Rd (w.drewN q) R g l k false := h.same ((Same.refl w).drewN q)
  obtain ⟨g2, c, e0, e1, e2, f1, f2, hr, hc1, hc2, hk, hb⟩ := rd_open h'
  clear e2 hb f2
  have hq := ((Chg.refl R w).drewN q)
  generalize w.drewN q = w1 at *
  have hw : ((k : Int) + n) = ((k + n : Nat) : Int) := by omega
  have HW := Lib.hid hw
  clear hw
  go_wp2_with fail
  rw [HW.out]
  obtain ⟨q1, q2, q3⟩ := hk (k + n) hn
  have hq2 := hq.trans q2
  generalize w1.setCell ⟨g, 1, none⟩ (.int .i64 ((k + n : Nat) : Int)) = w2 at *
  clear h' e0 e1 f1 hr hk hq q2 h HW
  obtain ⟨g3, c3, e0, e1, e2, f1, f2, hr, hc3, hc4, _, _⟩ := rd_open q1
  clear e2 f1 f2 q3
  have f3 : (0 : Int) ≤ k := by omega
  have f4 : (k : Int) ≤ ((k + n : Nat) : Int) := by omega
  have f5 : ((k + n : Nat) : Int) ≤ c3 := by omega
  have f6 : (0 : Int) ≤ ((k + n : Nat) : Int) := by omega
  go_quiet (fail)
  go_wp2
  · go_ret
    rename_i hck
    have hn0 : n = 0 := by omega
    refine ⟨_, _, _, rfl, ?_, q1.same ((Same.refl _).drewN _), hq2.drewN _⟩
    rw [hn0, List.take_zero]
    exact Row.nil _ _
  · go_ret
    refine ⟨_, _, _, rfl, ?_, q1.same ((Same.refl _).drewN _), hq2.drewN _⟩
    have h4 := ((hr.drewN nq).sub k).cut n
    rw [Nat.zero_add] at h4
    rw [by8_take, by8_drop]
    exact h4

end Go.Proofs.Ytfpefkpbiioofab.Cd
