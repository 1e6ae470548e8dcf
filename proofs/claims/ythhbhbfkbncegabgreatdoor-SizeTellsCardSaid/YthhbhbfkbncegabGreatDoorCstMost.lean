/-

  Package cost (layer 12): Most, Least and Ones of any program; the chapter's example.
-/
import Derived.Test.YthhbhbfkbncegabGreatDoorFlowUse
import Derived.Test.YthhbhbfkbncegabGreatDoorCstWeigh
section
set_option linter.unusedVariables false
set_option linter.unusedSimpArgs false
namespace Go.Proofs.YthhbhbfkbncegabGreatDoor.Fw
open Go.ChangeShapes Go.WideShapes Go.ChangeAt Go.RowKit Ws Fp
open Go.Proofs.YthhbhbfkbncegabGreatDoor.Is (Tabs ins rightB leadB)

theorem take_lp {l : List (Int × Int)} {k : Nat} (h : k < l.length) : l.take (k + 1) = l.take k ++ [lp l k] := by
  rw [List.take_add_one, lp_get h]
  rfl
def prgCells (p : List Ins) : List Value := p.flatMap cells
theorem prgCells_get : ∀ (p : List Ins) (i : Nat) (x : Ins), p[i]? = some x → ∀ j v, (cells x)[j]? = some v → (prgCells p)[i * 5 + j]? = some v
  | [], i, x, h, _, _, _ => by simp at h
  | y :: p, 0, x, h, j, v, hv => by
    simp at h
    subst h
    have hj : j < (cells y).length := by
      rcases Nat.lt_or_ge j (cells y).length with h | h
      · exact h
      · rw [List.getElem?_eq_none h] at hv; cases hv
    have e : prgCells (y :: p) = cells y ++ prgCells p := rfl
    rw [e, Nat.zero_mul, Nat.zero_add, List.getElem?_append_left hj]
    exact hv
  | y :: p, i + 1, x, h, j, v, hv => by
    have := prgCells_get p i x (by simpa using h) j v hv
    have e : prgCells (y :: p) = cells y ++ prgCells p := rfl
    have hl : (cells y).length = 5 := rfl
    rw [e, List.getElem?_append_right (by omega), hl, show (i + 1) * 5 + j - 5 = i * 5 + j by omega]
    exact this
theorem prg_of {w : World} {A : Option Addr} {p : List Ins} (h : Row w A (prgCells p)) (hok : ∀ x ∈ p, x.ok) : Prg w A p := by
  intro i x hx
  refine ⟨hok x (List.mem_of_getElem? hx), ?_⟩
  obtain ⟨b, o, hA, _⟩ := h _ _ (prgCells_get p i x hx 0 _ rfl)
  refine ⟨b, o, hA, fun j v hv => ?_⟩
  obtain ⟨b', o', hA', hc⟩ := h _ _ (prgCells_get p i x hx j v hv)
  rw [hA] at hA'
  injection hA' with hA'
  injection hA' with e1 e2
  subst e1
  subst e2
  rw [Nat.add_assoc]
  exact hc

def p0 : List Ins := [⟨0, 0, 0, 0, 0⟩, ⟨16, 0, 0, 3, 0⟩, ⟨21, 0, 0, 0, 0⟩]
theorem p0_ok : ckE p0 = 0 := by decide +kernel
theorem p0_told : toldL p0 = [(0, 1)] := by decide +kernel
theorem p0_next : nextsL p0 1 = [0, 2] := by decide +kernel
theorem p0_depth : depthI (toldL p0) 0 = 1 := by decide +kernel

end Go.Proofs.YthhbhbfkbncegabGreatDoor.Fw
end
section
set_option linter.unusedVariables false
set_option linter.unusedSimpArgs false
namespace Go.Proofs.YthhbhbfkbncegabGreatDoor.Cs
open Go.ChangeShapes Go.WideShapes Go.ChangeAt Go.RowKit Ws
open Go.Proofs.YthhbhbfkbncegabGreatDoor.Fp (Ins at_ Fine at_some lp loopsL nextL hasB)
open Go.Proofs.YthhbhbfkbncegabGreatDoor.Fw (Prg Spn spanCells spn_of)

theorem wei_bad {mx : Bool} {p : List Ins} {ws : List Int} (h : ¬ weE p ws.length = 0) : weI mx p ws = 0 := if_neg h
theorem weigh_any (mx : Bool) (A : Option Addr) (m c : Nat) (p : List Ins) (Wt : Option Addr) (wn cW : Nat) (ws : List Int) (w : World) (hl : p.length = m) (hm : m ≤ 5000) (hp : Prg w A p) (hW : Row w Wt (ws.map (Value.int .i64))) (hwl : ws.length = wn) (hT : Is.Tabs w) :
    Calls Tryz.prog 89 #[.agg #[.slice A m c, .slice Wt wn cW, fvB mx, .slice none 0 0, .slice none 0 0]] w fun e w' => e = .returned (.tuple #[.int .i64 (weI mx p ws), .int .i64 (weE p ws.length)]) ∧ Same w w' := by
  have hfc : (fvB mx).cells = #[fvB mx] := by cases mx <;> rfl
  have CK := fun W (s : Same w W) => Fw.check_any A m c p W hl hm (hp.same s) (hT.same s)
  cases hok : Fw.okB p with
  | true =>
    have hck : Fw.ckE p = 0 := of_decide_eq_true hok
    by_cases hwm : wn = m
    · subst hwm
      have h := weigh_ok' mx A wn c p Wt cW ws w hl hm hp hW hwl hT hok
      have he : weE p ws.length = 0 := by unfold weE; rw [if_pos hck, hwl, hl, if_pos rfl]
      have hi : weI mx p ws = weighW (btB mx) p ws := by unfold weI; rw [if_pos he]
      rw [hi, he]
      exact h
    · have he : weE p ws.length = 1 := by unfold weE; rw [if_pos hck, hwl, hl, if_neg hwm]
      rw [wei_bad (by rw [he]; omega), he]
      rw [hck] at CK
      have HCK := Lib.hid CK
      have hne : ((wn : Int) != (m : Int)) = true := by simp; omega
      have hne2 : ¬ wn = m := hwm
      have S0 := Lib.hid ((Same.refl w).alloc (.cells #[.slice A m c, .slice Wt wn cW, fvB mx, .slice none 0 0, .slice none 0 0] 109))
      have B0 := Lib.hid (Blk.new w 109 #[.slice A m c, .slice Wt wn cW, fvB mx, .slice none 0 0, .slice none 0 0])
      clear CK hok hck he hp hW hT hl hwl hwm
      go_enter Tryz.func89, Tryz.ntmps89
      go_wp2_with fail
      generalize w.alloc (.cells #[.slice A m c, .slice Wt wn cW, fvB mx, .slice none 0 0, .slice none 0 0] 109) = w0 at *
      generalize w.heap.size = q at *
      refine (HCK.out _ S0.out).mono ?_
      rintro e w1 ⟨rfl, s1⟩
      have c0 : w1.cell? ⟨q, 0, none⟩ = some (.slice A m c) := (B0.out.same s1).cell 0
      have c1 : w1.cell? ⟨q, 1, none⟩ = some (.slice Wt wn cW) := (B0.out.same s1).cell 1
      have S1 := Lib.hid (S0.out.trans s1)
      clear s1
      go_wp2_with fail
      go_ret2
      exact ⟨rfl, S1.out⟩
  | false =>
    have hck : ¬ Fw.ckE p = 0 := fun h => by unfold Fw.okB at hok; rw [h] at hok; cases hok
    have he : weE p ws.length = Fw.ckE p := by unfold weE; rw [if_neg hck]
    rw [wei_bad (by rw [he]; exact hck), he]
    have HCK := Lib.hid CK
    have hne : (Fw.ckE p != 0) = true := by simpa using hck
    have S0 := Lib.hid ((Same.refl w).alloc (.cells #[.slice A m c, .slice Wt wn cW, fvB mx, .slice none 0 0, .slice none 0 0] 109))
    have B0 := Lib.hid (Blk.new w 109 #[.slice A m c, .slice Wt wn cW, fvB mx, .slice none 0 0, .slice none 0 0])
    clear CK hok hck he hp hW hT hl hwl
    generalize Fw.ckE p = ce at *
    generalize Fw.ckI p = ci at *
    go_enter Tryz.func89, Tryz.ntmps89
    go_wp2_with fail
    generalize w.alloc (.cells #[.slice A m c, .slice Wt wn cW, fvB mx, .slice none 0 0, .slice none 0 0] 109) = w0 at *
    generalize w.heap.size = q at *
    refine (HCK.out _ S0.out).mono ?_
    rintro e w1 ⟨rfl, s1⟩
    have S1 := Lib.hid (S0.out.trans s1)
    clear s1
    go_wp2_with fail
    go_ret2
    exact ⟨rfl, S1.out⟩
theorem most_any (A : Option Addr) (m c : Nat) (p : List Ins) (Wt : Option Addr) (wn cW : Nat) (ws : List Int) (w : World) (hl : p.length = m) (hm : m ≤ 5000) (hp : Prg w A p) (hW : Row w Wt (ws.map (Value.int .i64))) (hwl : ws.length = wn) (hT : Is.Tabs w) :
    Calls Tryz.prog 75 #[.slice A m c, .slice Wt wn cW] w fun e w' => e = .returned (.tuple #[.int .i64 (weI true p ws), .int .i64 (weE p ws.length)]) ∧ Same w w' := by
  have WG := Lib.hid (show Calls Tryz.prog 89 #[.agg #[.slice A m c, .slice Wt wn cW, .func (.func 90) #[] #[], .slice none 0 0, .slice none 0 0]] w fun e w' => e = .returned (.tuple #[.int .i64 (weI true p ws), .int .i64 (weE p ws.length)]) ∧ Same w w' from weigh_any true A m c p Wt wn cW ws w hl hm hp hW hwl hT)
  clear hl hm hp hW hwl hT
  generalize weI true p ws = iv at *
  generalize weE p ws.length = ev at *
  go_enter Tryz.func75, Tryz.ntmps75
  go_wp2_with fail
  refine WG.out.mono ?_
  rintro e w1 ⟨rfl, s1⟩
  have HS := Lib.hid s1
  clear s1
  go_wp2_with fail
  go_ret2
  exact ⟨rfl, HS.out⟩
set_option maxRecDepth 100000 in
theorem repeat_zero (v : Int) (g : Nat) (w : World) :
    Calls Tryz.prog 147 #[.slice (some ⟨g, 0, none⟩) 1 1, .int .i64 0] w fun e w' => ∃ q, e = .returned (.slice (some ⟨q, 0, none⟩) 0 0) ∧ Same w w' := by
  have MO := Lib.hid (show ∀ w, Calls Tryz.prog 176 #[.int .u64 1, .int .u64 0] w fun e w' => e = .returned (.tuple #[.int .u64 0, .int .u64 0]) ∧ w = w' from fun w => mul_one' 0 (by omega) w)
  have hmk : ∀ W : World, (Instr.makeSlice 26 (.int .i64 0) (.int .i64 0)).run Tryz.prog W = .ok (.slice (some ⟨W.heap.size, 0, none⟩) 0 0) (W.alloc (.cells (izr 0) 3)) := fun W => izr_make 0 (by omega) W
  have f1 : IntKind.u64.wrap 0 = 0 := by decide
  have f2 : IntKind.i64.wrap 0 = 0 := by decide
  go_enter Tryz.func147, Tryz.ntmps147
  go_wp2_with fail
  refine (MO.out _).mono ?_
  rintro e w' ⟨rfl, rfl⟩
  go_upto_region 7 with fail
  obtain ⟨w1, hw1⟩ : ∃ w1, w1 = w.alloc (.cells (izr 0) 3) := ⟨_, rfl⟩
  rw [← hw1]
  have hs1 := Lib.hid (show Same w w1 from hw1 ▸ (Same.refl w).alloc _)
  clear hw1 hmk
  go_wp2_with (first | (refine wpList_copy_nothing rfl (.tmp 31) (.tmp 32) 26 26 rfl 3 Tryz.underlying26 int_one (some ⟨w.heap.size, 0, none⟩) (some ⟨g, 0, none⟩) 0 0 1 1 rfl rfl rfl ?_))
  go_wp2_with fail
  go_loopg [8] 0 (fun gk iv wx => gk = 0 ∧ iv = .int .i64 0 ∧ Hid (Same w wx))
  case atStart => exact ⟨rfl, rfl, hs1⟩
  case round =>
    obtain ⟨rfl, rfl, HS⟩ := hrel
    go_wp2_with fail
    go_ret
    exact ⟨_, rfl, HS.out⟩
def px : List Ins := [⟨15, 0, 0, 0, 2⟩, ⟨0, 0, 0, 0, 0⟩, ⟨21, 0, 0, 0, 0⟩]
def wx3 : List Int := [1, 5, 1]
theorem px_e : weE px 3 = 0 := by decide +kernel
theorem px_most : weI true px wx3 = 7 := by decide +kernel
theorem px_least : weI false px wx3 = 7 := by decide +kernel
end Go.Proofs.YthhbhbfkbncegabGreatDoor.Cs
end
