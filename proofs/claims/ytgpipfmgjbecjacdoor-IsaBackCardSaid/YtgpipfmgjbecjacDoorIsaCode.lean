/-
  Contracts of package isa, and of the document's own answers on layer 8: instructions as bytes.
-/
import Derived.Test.YtgpipfmgjbecjacDoorIsaRef
import Derived.Test.YtgpipfmgjbecjacDoorCodecLay
import Derived.Test.YtgpipfmgjbecjacDoorFlat
set_option linter.unusedVariables false
namespace Go.Proofs.YtgpipfmgjbecjacDoor.Is
open Go.ChangeShapes Go.WideShapes Go.ChangeAt Go.RowKit Ws Cd

/-- an instruction, as five numbers -/
structure Ins where
  op : Int
  a : Int
  b : Int
  c : Int
  n : Int
def Ins.ok (i : Ins) : Prop := 0 ≤ i.n ∧ i.n < 4294967296
def Ins.cells (i : Ins) : List Value := [.int .i64 i.op, .int .i64 i.a, .int .i64 i.b, .int .i64 i.c, .int .u32 i.n]
def Ins.right (i : Ins) : Bool := rightB i.op i.a i.b i.c i.n
def Ins.val (i : Ins) : Value := ins i.op i.a i.b i.c i.n

def nth4 (i : Ins) (k : Nat) : Int := if k = 0 then i.op else if k = 1 then i.a else if k = 2 then i.b else i.c
def part4 (i : Ins) (k : Nat) : List Int := (List.range k).map fun j => nth4 i j % 256
/-- an instruction's bytes -/
def enc1 (i : Ins) : List Int := part4 i 4 ++ low i.n 4
theorem part4_succ (i : Ins) (k : Nat) : part4 i (k + 1) = part4 i k ++ [nth4 i k % 256] := by unfold part4; rw [List.range_succ, List.map_append]; rfl
theorem part4_len (i : Ins) (k : Nat) : (part4 i k).length = k := by simp [part4]
theorem enc1_len (i : Ins) : (enc1 i).length = 8 := by unfold enc1; rw [List.length_append, part4_len, low_len]
theorem part4_by (i : Ins) (k : Nat) : By (part4 i k) := by
  intro x hx
  obtain ⟨j, _, rfl⟩ := List.mem_map.1 hx
  omega
theorem enc1_by (i : Ins) : By (enc1 i) := by
  intro x hx
  rcases List.mem_append.1 hx with h | h
  · exact part4_by i 4 x h
  · exact low_by i.n 4 x h
theorem low1 (x : Int) : low (x % 4294967296) 1 = [x % 256] := by simp [low]

def LayRow (w : World) (i : Ins) (k : Nat) (v j : Value) (wx : World) : Prop :=
  ∃ A c, j = .int .i64 k ∧ v = .slice A k c ∧ Row wx A (by8 (part4 i k)) ∧ Same w wx

def LayI (w : World) (i : Ins) (e : Ending) (w' : World) : Prop :=
  ∃ A c, e = .returned (.slice A 8 c) ∧ Row w' A (by8 (enc1 i)) ∧ Same w w'

set_option maxRecDepth 100000 in
set_option maxHeartbeats 1000000 in
theorem lay_ins (i : Ins) (w : World) : Calls Tryd.prog 43 #[i.val] w (LayI w i) := by
  obtain ⟨op, a, b, c, n⟩ := i
  unfold Ins.val ins
  have i0 : ∀ w, (Instr.index 62 (.agg #[.int .i64 op, .int .i64 a, .int .i64 b, .int .i64 c]) (.int .i64 0)).run Tryd.prog w = .ok (.int .i64 op) w := fun _ => by kernel_rfl
  have i1 : ∀ w, (Instr.index 62 (.agg #[.int .i64 op, .int .i64 a, .int .i64 b, .int .i64 c]) (.int .i64 1)).run Tryd.prog w = .ok (.int .i64 a) w := fun _ => by kernel_rfl
  have i2 : ∀ w, (Instr.index 62 (.agg #[.int .i64 op, .int .i64 a, .int .i64 b, .int .i64 c]) (.int .i64 2)).run Tryd.prog w = .ok (.int .i64 b) w := fun _ => by kernel_rfl
  have i3 : ∀ w, (Instr.index 62 (.agg #[.int .i64 op, .int .i64 a, .int .i64 b, .int .i64 c]) (.int .i64 3)).run Tryd.prog w = .ok (.int .i64 c) w := fun _ => by kernel_rfl
  go_enter Tryd.func43, Tryd.ntmps43
  go_wp2_with fail
  obtain ⟨w1, hw1⟩ : ∃ w1, w1 = w.alloc (.cells #[.int .i64 op, .int .i64 a, .int .i64 b, .int .i64 c, .int .u32 n] 24) := ⟨_, rfl⟩
  rw [← hw1]
  have s1 : Same w w1 := by rw [hw1]; exact (Same.refl _).alloc _
  have b4 : w1.cell? ⟨w.heap.size, 4, none⟩ = some (.int .u32 n) := by rw [hw1]; exact (Same.refl _).new rfl
  have B4 := Lib.hid b4
  have S1 := Lib.hid s1
  clear hw1 b4 s1
  generalize w.heap.size = g at *
  go_loopg [3, 15] 4 (fun gk v j wx => ∃ k, k + gk = 4 ∧ LayRow w1 ⟨op, a, b, c, n⟩ k v j wx)
  case atStart => exact ⟨0, by omega, none, 0, rfl, rfl, Row.nil _ _, Same.refl _⟩
  case round =>
    obtain ⟨k, hkg, A, cc, rfl, rfl, hr, sx⟩ := hrel
    cases gk with
    | zero =>
      obtain rfl : k = 4 := by omega
      have bx := sx.cell B4.out
      go_wp2_with fail
      refine (put32_any A 4 cc _ n _ (part4_len _ 4) (by decide) hr).mono ?_
      rintro e w2 ⟨A2, c2, rfl, ho, s2⟩
      rw [part4_len]
      go_wp2_with fail
      go_ret
      exact ⟨A2, c2, rfl, ho.row, S1.out.trans (sx.trans s2)⟩
    | succ gk =>
      rcases (by omega : k = 0 ∨ k = 1 ∨ k = 2 ∨ k = 3) with rfl | rfl | rfl | rfl
      · go_wp2_with fail
        refine (put8_any A 0 cc _ op _ (part4_len _ 0) (by decide) hr).mono ?_
        rintro e w2 ⟨A2, c2, rfl, ho, s2⟩
        rw [part4_len]
        have ho' := ho.row
        rw [low1] at ho'
        clear ho
        go_wp2_with fail
        go_roundg gk
        case measure => omega
        case rel => exact ⟨0 + 1, by omega, A2, c2, by go_num, rfl, ho', sx.trans s2⟩
      · go_wp2_with fail
        refine (put8_any A 1 cc _ a _ (part4_len _ 1) (by decide) hr).mono ?_
        rintro e w2 ⟨A2, c2, rfl, ho, s2⟩
        rw [part4_len]
        have ho' := ho.row
        rw [low1] at ho'
        clear ho
        go_wp2_with fail
        go_roundg gk
        case measure => omega
        case rel => exact ⟨1 + 1, by omega, A2, c2, by go_num, rfl, ho', sx.trans s2⟩
      · go_wp2_with fail
        refine (put8_any A 2 cc _ b _ (part4_len _ 2) (by decide) hr).mono ?_
        rintro e w2 ⟨A2, c2, rfl, ho, s2⟩
        rw [part4_len]
        have ho' := ho.row
        rw [low1] at ho'
        clear ho
        go_wp2_with fail
        go_roundg gk
        case measure => omega
        case rel => exact ⟨2 + 1, by omega, A2, c2, by go_num, rfl, ho', sx.trans s2⟩
      · go_wp2_with fail
        refine (put8_any A 3 cc _ c _ (part4_len _ 3) (by decide) hr).mono ?_
        rintro e w2 ⟨A2, c2, rfl, ho, s2⟩
        rw [part4_len]
        have ho' := ho.row
        rw [low1] at ho'
        clear ho
        go_wp2_with fail
        go_roundg gk
        case measure => omega
        case rel => exact ⟨3 + 1, by omega, A2, c2, by go_num, rfl, ho', sx.trans s2⟩

theorem low4 (n : Int) : low n 4 = [n % 256, n / 256 % 256, n / 65536 % 256, n / 16777216 % 256] := by simp [low, List.range_succ]
theorem enc1_eq (i : Ins) : enc1 i = [i.op % 256, i.a % 256, i.b % 256, i.c % 256, i.n % 256, i.n / 256 % 256, i.n / 65536 % 256, i.n / 16777216 % 256] := by
  unfold enc1
  rw [low4]
  rfl

set_option maxRecDepth 100000 in
theorem rbytes_any (i : Ins) (hi : i.ok) (w : World) : Calls Tryd.prog 44 #[i.val] w (LayI w i) := by
  obtain ⟨op, a, b, c, n⟩ := i
  have hn : 0 ≤ n ∧ n < 4294967296 := hi
  unfold Ins.val ins
  go_enter Tryd.func44, Tryd.ntmps44
  go_wp2_with fail
  go_ret
  refine ⟨some ⟨w.heap.size + 1, 0, none⟩, 8, rfl, ?_, ((Same.refl _).alloc _).alloc _⟩
  rw [enc1_eq]
  have e : n / 16777216 % 256 = n / 16777216 := by omega
  have := by_row_lit (w.alloc (.cells #[.int .i64 op, .int .i64 a, .int .i64 b, .int .i64 c, .int .u32 n] 24)) [op % 256, a % 256, b % 256, c % 256, n % 256, n / 256 % 256, n / 65536 % 256, n / 16777216 % 256]
  simp only [e, by8, List.map_cons, List.map_nil] at this ⊢
  simpa using this

/-- the slice at A holds these instructions, one behind the other -/
def Code (w : World) (A : Option Addr) (l : List Ins) : Prop :=
  ∀ i x, l[i]? = some x → x.ok ∧ ∃ b o, A = some ⟨b, o, none⟩ ∧ ∀ j v, x.cells[j]? = some v → w.cell? ⟨b, o + i * 5 + j, none⟩ = some v
theorem Code.same {w w' : World} {A : Option Addr} {l : List Ins} (h : Code w A l) (hs : Same w w') : Code w' A l := by
  intro i x hx
  obtain ⟨h1, b, o, h2, h3⟩ := h i x hx
  exact ⟨h1, b, o, h2, fun j v hv => hs.cell (h3 j v hv)⟩
theorem Code.nil (w : World) (A : Option Addr) : Code w A [] := fun i x h => by simp at h
theorem Code.at_ {w : World} {A : Option Addr} {l : List Ins} (h : Code w A l) {k : Nat} {x : Ins} (hk : l[k]? = some x) :
    x.ok ∧ ∃ b o, A = some ⟨b, o, none⟩ ∧ w.cell? ⟨b, o + k * 5, none⟩ = some (.int .i64 x.op) ∧ w.cell? ⟨b, o + k * 5 + 1, none⟩ = some (.int .i64 x.a) ∧ w.cell? ⟨b, o + k * 5 + 2, none⟩ = some (.int .i64 x.b) ∧ w.cell? ⟨b, o + k * 5 + 3, none⟩ = some (.int .i64 x.c) ∧ w.cell? ⟨b, o + k * 5 + 4, none⟩ = some (.int .u32 x.n) := by
  obtain ⟨h1, b, o, h2, h3⟩ := h k x hk
  exact ⟨h1, b, o, h2, h3 0 _ rfl, h3 1 _ rfl, h3 2 _ rfl, h3 3 _ rfl, h3 4 _ rfl⟩

def encL (l : List Ins) : List Int := l.flatMap enc1
theorem encL_len (l : List Ins) : (encL l).length = l.length * 8 := by
  unfold encL
  induction l with
  | nil => rfl
  | cons x l ih => rw [List.flatMap_cons, List.length_append, enc1_len, ih, List.length_cons]; omega
theorem encL_by (l : List Ins) : By (encL l) := by
  intro y hy
  obtain ⟨x, _, hx⟩ := List.mem_flatMap.1 hy
  exact enc1_by x y hx
theorem encL_take {l : List Ins} {k : Nat} {x : Ins} (hk : l[k]? = some x) : encL (l.take (k + 1)) = encL (l.take k) ++ enc1 x := by
  unfold encL
  rw [List.take_add_one, hk, List.flatMap_append]
  simp

def allRight (l : List Ins) : Bool := l.all Ins.right

theorem right_out {l : List Ins} {k : Nat} {x : Ins} (hk : l[k]? = some x) (h : rightB x.op x.a x.b x.c x.n = false) : allRight l = false := by
  unfold allRight
  rw [List.all_eq_false]
  exact ⟨x, List.mem_of_getElem? hk, by unfold Ins.right; rw [h]; decide⟩
theorem right_step {l : List Ins} {k : Nat} {x : Ins} (hk : l[k]? = some x) (h : rightB x.op x.a x.b x.c x.n = true) (ha : allRight (l.take k) = true) : allRight (l.take (k + 1)) = true := by
  unfold allRight at ha ⊢
  rw [List.take_add_one, hk, List.all_append, ha]
  simp [Ins.right, h]

def EncPost (w : World) (l : List Ins) (e : Ending) (w' : World) : Prop :=
  (allRight l = true ∧ ∃ A c, e = .returned (.tuple #[.slice A (l.length * 8) c, .bool true]) ∧ Row w' A (by8 (encL l)) ∧ Same w w') ∨
  (allRight l = false ∧ e = .returned (.tuple #[.slice none 0 0, .bool false]) ∧ Same w w')

def EncRel (w : World) (l : List Ins) (k : Nat) (v j : Value) (wx : World) : Prop :=
  ∃ A c, j = .int .i64 k ∧ v = .slice A (k * 8) c ∧ Own wx w.heap.size 5 A c (by8 (encL (l.take k))) ∧ Same w wx ∧ allRight (l.take k) = true

set_option maxRecDepth 100000 in
set_option maxHeartbeats 1000000 in
theorem encode_any (A : Option Addr) (m c : Nat) (l : List Ins) (w : World) (hl : l.length = m) (hm : m ≤ 65536) (hr : Code w A l) (ht : Tabs w) :
    Calls Tryd.prog 21 #[.slice A m c] w (EncPost w l) := by
  obtain ⟨i0, hi, hz0, hz1, hz2⟩ := info_parts u8_info
  have HL := Lib.hid hl
  have HT := Lib.hid ht
  have HR := Lib.hid hr
  clear hl ht hr
  go_enter Tryd.func21, Tryd.ntmps21
  go_wp2_with fail
  go_loopg [4, 9] m (fun gk v j wx => ∃ k, k + gk = m ∧ EncRel w l k v j wx)
  case atStart => exact ⟨0, by omega, none, 0, rfl, rfl, ⟨by simp [by8, encL], .inl ⟨by simp [by8, encL], by simp [by8, encL]⟩⟩, Same.refl _, rfl⟩
  case round =>
    obtain ⟨k, hkg, A', c', rfl, rfl, ho, sx, ha⟩ := hrel
    have HA := Lib.hid ha
    clear ha
    cases gk with
    | zero =>
      obtain rfl : k = m := by omega
      have hlt : ¬ (k : Int) < k := by omega
      go_wp2_with fail
      go_ret2
      rw [List.take_of_length_le (by have := HL.out; omega)] at ho
      have ha := HA.out
      rw [List.take_of_length_le (by have := HL.out; omega)] at ha
      have e : l.length * 8 = k * 8 := by rw [HL.out]
      refine .inl ⟨ha, A', c', ?_, ho.row, sx⟩
      rw [e]
      rfl
    | succ gk =>
      have hlt : (k : Int) < m := by omega
      obtain ⟨x, hx⟩ : ∃ x, l[k]? = some x := ⟨_, List.getElem?_eq_getElem (by have := HL.out; omega)⟩
      obtain ⟨hok, b, o, rfl, c0, c1, c2, c3, c4⟩ := (HR.out.same sx).at_ hx
      have HX := Lib.hid hx
      clear hx
      go_wp2_with fail
      refine (right_any x.op x.a x.b x.c x.n hok _ ((HT.out.same sx).same ((Same.refl _).alloc _))).mono ?_
      rintro e w1 ⟨rfl, s1⟩
      cases hxr : rightB x.op x.a x.b x.c x.n
      · have HXR := Lib.hid hxr
        clear hxr
        go_wp2_with fail
        go_ret2
        exact .inr ⟨right_out HX.out HXR.out, rfl, sx.trans (Same.trans ((Same.refl _).alloc _) s1)⟩
      · have HXR := Lib.hid hxr
        clear hxr
        have d0 := s1.new (i := 0) rfl
        have d1 := s1.new (i := 1) rfl
        have d2 := s1.new (i := 2) rfl
        have d3 := s1.new (i := 3) rfl
        have d4 := s1.new (i := 4) rfl
        have sx1 : Same w w1 := sx.trans (Same.trans ((Same.refl _).alloc _) s1)
        have ho1 := ho.same (Same.trans ((Same.refl _).alloc _) s1)
        have HK := Lib.hid (show (by8 (encL (l.take k))).length = k * 8 by rw [by8_len, encL_len, List.length_take]; have := HL.out; omega)
        clear ho s1
        generalize wr.heap.size = g at *
        go_wp2_with fail
        refine (lay_ins x w1).mono ?_
        rintro e w2 ⟨A2, c2, rfl, r2, s2⟩
        have ho2 := ho1.same s2
        have sx2 := sx1.trans s2
        have H8 := Lib.hid (show (by8 (enc1 x)).length = 8 by rw [by8_len, enc1_len])
        clear ho1 sx1 d0 d1 d2 d3 d4
        go_wp2_with (at_builtin; refine wpList_app rfl (.tmp 16) (.tmp 18) 39 rfl w.heap.size 5 i0 _ 1 Tryd.underlying39 hi hz0 hz1 hz2 rfl A' (k * 8) c' (by8 (encL (l.take k))) rfl HK.out ho2 A2 8 c2 (by8 (enc1 x)) rfl H8.out r2 (by8_one _) (by rw [HK.out, H8.out]; omega) (by omega) sx2.size ?_)
        intro A3 c3 w3 ho3 hc3 _
        have sx3 : Same w w3 := Same.more sx2 hc3 fun g hg => by
          have hg : A' = some ⟨g, 0, none⟩ := hg
          subst hg
          exact (own_lt ho2).1
        rw [← by8_app, ← encL_take HX.out] at ho3
        clear hc3 ho2
        go_wp2_with fail
        go_roundg gk
        case measure => omega
        case rel => exact ⟨k + 1, by omega, A3, c3, by go_num, by rw [Nat.succ_mul], ho3, sx3, right_step HX.out HXR.out HA.out⟩

set_option maxRecDepth 100000 in
set_option maxHeartbeats 1000000 in
theorem rencode_any (A : Option Addr) (m c : Nat) (l : List Ins) (w : World) (hl : l.length = m) (hm : m ≤ 65536) (hr : Code w A l) :
    Calls Tryd.prog 22 #[.slice A m c] w (EncPost w l) := by
  obtain ⟨i0, hi, hz0, hz1, hz2⟩ := info_parts u8_info
  have HL := Lib.hid hl
  have HR := Lib.hid hr
  clear hl hr
  go_enter Tryd.func22, Tryd.ntmps22
  go_wp2_with fail
  go_loopg [4, 9] m (fun gk v j wx => ∃ k, k + gk = m ∧ EncRel w l k v j wx)
  case atStart => exact ⟨0, by omega, none, 0, rfl, rfl, ⟨by simp [by8, encL], .inl ⟨by simp [by8, encL], by simp [by8, encL]⟩⟩, Same.refl _, rfl⟩
  case round =>
    obtain ⟨k, hkg, A', c', rfl, rfl, ho, sx, ha⟩ := hrel
    have HA := Lib.hid ha
    clear ha
    cases gk with
    | zero =>
      obtain rfl : k = m := by omega
      have hlt : ¬ (k : Int) < k := by omega
      go_wp2_with fail
      go_ret2
      rw [List.take_of_length_le (by have := HL.out; omega)] at ho
      have ha := HA.out
      rw [List.take_of_length_le (by have := HL.out; omega)] at ha
      have e : l.length * 8 = k * 8 := by rw [HL.out]
      refine .inl ⟨ha, A', c', ?_, ho.row, sx⟩
      rw [e]
      rfl
    | succ gk =>
      have hlt : (k : Int) < m := by omega
      obtain ⟨x, hx⟩ : ∃ x, l[k]? = some x := ⟨_, List.getElem?_eq_getElem (by have := HL.out; omega)⟩
      obtain ⟨hok, b, o, rfl, c0, c1, c2, c3, c4⟩ := (HR.out.same sx).at_ hx
      have HX := Lib.hid hx
      clear hx
      go_wp2_with fail
      refine (rright_any x.op x.a x.b x.c x.n hok _).mono ?_
      rintro e w1 ⟨rfl, s1⟩
      cases hxr : rightB x.op x.a x.b x.c x.n
      · have HXR := Lib.hid hxr
        clear hxr
        go_wp2_with fail
        go_ret2
        exact .inr ⟨right_out HX.out HXR.out, rfl, sx.trans (Same.trans ((Same.refl _).alloc _) s1)⟩
      · have HXR := Lib.hid hxr
        clear hxr
        have d0 := s1.new (i := 0) rfl
        have d1 := s1.new (i := 1) rfl
        have d2 := s1.new (i := 2) rfl
        have d3 := s1.new (i := 3) rfl
        have d4 := s1.new (i := 4) rfl
        have sx1 : Same w w1 := sx.trans (Same.trans ((Same.refl _).alloc _) s1)
        have ho1 := ho.same (Same.trans ((Same.refl _).alloc _) s1)
        have HK := Lib.hid (show (by8 (encL (l.take k))).length = k * 8 by rw [by8_len, encL_len, List.length_take]; have := HL.out; omega)
        clear ho s1
        generalize wr.heap.size = g at *
        go_wp2_with fail
        refine (rbytes_any x hok w1).mono ?_
        rintro e w2 ⟨A2, c2, rfl, r2, s2⟩
        have ho2 := ho1.same s2
        have sx2 := sx1.trans s2
        have H8 := Lib.hid (show (by8 (enc1 x)).length = 8 by rw [by8_len, enc1_len])
        clear ho1 sx1 d0 d1 d2 d3 d4
        go_wp2_with (at_builtin; refine wpList_app rfl (.tmp 16) (.tmp 18) 39 rfl w.heap.size 5 i0 _ 1 Tryd.underlying39 hi hz0 hz1 hz2 rfl A' (k * 8) c' (by8 (encL (l.take k))) rfl HK.out ho2 A2 8 c2 (by8 (enc1 x)) rfl H8.out r2 (by8_one _) (by rw [HK.out, H8.out]; omega) (by omega) sx2.size ?_)
        intro A3 c3 w3 ho3 hc3 _
        have sx3 : Same w w3 := Same.more sx2 hc3 fun g hg => by
          have hg : A' = some ⟨g, 0, none⟩ := hg
          subst hg
          exact (own_lt ho2).1
        rw [← by8_app, ← encL_take HX.out] at ho3
        clear hc3 ho2
        go_wp2_with fail
        go_roundg gk
        case measure => omega
        case rel => exact ⟨k + 1, by omega, A3, c3, by go_num, by rw [Nat.succ_mul], ho3, sx3, right_step HX.out HXR.out HA.out⟩

end Go.Proofs.YtgpipfmgjbecjacDoor.Is
