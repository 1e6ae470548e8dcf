/-

 Package cost (layer 12): Most, Least and Ones of any program; the chapter's example.
-/
import Derived.Test.YthhbhbfkbncegaaGreatDoorCstWeigh
import Derived.Test.YthhbhbfkbncegaaGreatDoorFlowAwake
set_option linter.unusedVariables false
set_option linter.unusedSimpArgs false
namespace Go.Proofs.YthhbhbfkbncegaaGreatDoor.Cs
open Go.ChangeShapes Go.WideShapes Go.ChangeAt Go.RowKit Ws
open Go.Proofs.YthhbhbfkbncegaaGreatDoor.Fp (Ins at_ Fine at_some lp loopsL nextL hasB)
open Go.Proofs.YthhbhbfkbncegaaGreatDoor.Fw (Prg Spn spanCells spn_of)

theorem wei_bad {mx : Bool} {p : List Ins} {ws : List Int} (h : ¬ weE p ws.length = 0) : weI mx p ws = 0 := if_neg h
theorem weigh_any (mx : Bool) (A : Option Addr) (m c : Nat) (p : List Ins) (Wt : Option Addr) (wn cW : Nat) (ws : List Int) (w : World) (hl : p.length = m) (hm : m ≤ 5000) (hp : Prg w A p) (hW : Row w Wt (ws.map (Value.int .i64))) (hwl : ws.length = wn) (hT : Is.Tabs w) :
 Calls Tryz.prog 93 #[.agg #[.slice A m c, .slice Wt wn cW, fvB mx, .slice none 0 0, .slice none 0 0]] w fun e w' => e = .returned (.tuple #[.int .i64 (weI mx p ws), .int .i64 (weE p ws.length)]) ∧ Same w w' := by
 have hfc : (fvB mx).cells = #[fvB mx] := by cases mx <;> rfl
 have CK := fun W (s : Same w W) => Fw.check_any A m c p W hl hm (hp.same s) (hT.same s)
 cases hok : Fw.okB p with
 | true =>
  have hck : Fw.ckE p = 0 := of_decide_eq_true hok
  by_cases hwm : wn = m
  ·subst hwm
   have h := weigh_ok' mx A wn c p Wt cW ws w hl hm hp hW hwl hT hok
   have he : weE p ws.length = 0 := by unfold weE; rw [if_pos hck, hwl, hl, if_pos rfl]
   have hi : weI mx p ws = weighW (btB mx) p ws := by unfold weI; rw [if_pos he]
   rw [hi, he]
   exact h
  ·have he : weE p ws.length = 1 := by unfold weE; rw [if_pos hck, hwl, hl, if_neg hwm]
   rw [wei_bad (by rw [he]; omega), he]
   rw [hck] at CK
   have HCK := Lib.hid CK
   have hne : ((wn : Int) != (m : Int)) = true := by simp; omega
   have hne2 : ¬ wn = m := hwm
   have S0 := Lib.hid ((Same.refl w).alloc (.cells #[.slice A m c, .slice Wt wn cW, fvB mx, .slice none 0 0, .slice none 0 0] 109))
   have B0 := Lib.hid (Blk.new w 109 #[.slice A m c, .slice Wt wn cW, fvB mx, .slice none 0 0, .slice none 0 0])
   clear CK hok hck he hp hW hT hl hwl hwm
   go_enter Tryz.func93, Tryz.ntmps93
   go_wp2_with fail
   generalize w.alloc (.cells #[.slice A m c, .slice Wt wn cW, fvB mx, .slice none 0 0, .slice none 0 0] 109) = w0 at *
   generalize w.heap.size = q at *
   refine (HCK.out _ S0.out).mono ?_
   rintro e w1 ⟨rfl, s1⟩
   have c0 : w1.cell? ⟨q, 0, none⟩ = some (.slice A m c) := (B0.out.same s1).cell 0
   have c1 : w1.cell? ⟨q, 1, none⟩ = some (.slice Wt wn cW) := (B0.out.same s1).cell 1
   have S1 := Lib.hid (S0.out.trans s1)
   clear s1
   go_wp2_with fail
   go_ret2
   exact ⟨rfl, S1.out⟩
 | false =>
  have hck : ¬ Fw.ckE p = 0 := fun h => by unfold Fw.okB at hok; rw [h] at hok; cases hok
  have he : weE p ws.length = Fw.ckE p := by unfold weE; rw [if_neg hck]
  rw [wei_bad (by rw [he]; exact hck), he]
  have HCK := Lib.hid CK
  have hne : (Fw.ckE p != 0) = true := by simpa using hck
  have S0 := Lib.hid ((Same.refl w).alloc (.cells #[.slice A m c, .slice Wt wn cW, fvB mx, .slice none 0 0, .slice none 0 0] 109))
  have B0 := Lib.hid (Blk.new w 109 #[.slice A m c, .slice Wt wn cW, fvB mx, .slice none 0 0, .slice none 0 0])
  clear CK hok hck he hp hW hT hl hwl
  generalize Fw.ckE p = ce at *
  generalize Fw.ckI p = ci at *
  go_enter Tryz.func93, Tryz.ntmps93
  go_wp2_with fail
  generalize w.alloc (.cells #[.slice A m c, .slice Wt wn cW, fvB mx, .slice none 0 0, .slice none 0 0] 109) = w0 at *
  generalize w.heap.size = q at *
  refine (HCK.out _ S0.out).mono ?_
  rintro e w1 ⟨rfl, s1⟩
  have S1 := Lib.hid (S0.out.trans s1)
  clear s1
  go_wp2_with fail
  go_ret2
  exact ⟨rfl, S1.out⟩
theorem most_any (A : Option Addr) (m c : Nat) (p : List Ins) (Wt : Option Addr) (wn cW : Nat) (ws : List Int) (w : World) (hl : p.length = m) (hm : m ≤ 5000) (hp : Prg w A p) (hW : Row w Wt (ws.map (Value.int .i64))) (hwl : ws.length = wn) (hT : Is.Tabs w) :
 Calls Tryz.prog 70 #[.slice A m c, .slice Wt wn cW] w fun e w' => e = .returned (.tuple #[.int .i64 (weI true p ws), .int .i64 (weE p ws.length)]) ∧ Same w w' := by
 have WG := Lib.hid (show Calls Tryz.prog 93 #[.agg #[.slice A m c, .slice Wt wn cW, .func (.func 94) #[] #[], .slice none 0 0, .slice none 0 0]] w fun e w' => e = .returned (.tuple #[.int .i64 (weI true p ws), .int .i64 (weE p ws.length)]) ∧ Same w w' from weigh_any true A m c p Wt wn cW ws w hl hm hp hW hwl hT)
 clear hl hm hp hW hwl hT
 generalize weI true p ws = iv at *
 generalize weE p ws.length = ev at *
 go_enter Tryz.func70, Tryz.ntmps70
 go_wp2_with fail
 refine WG.out.mono ?_
 rintro e w1 ⟨rfl, s1⟩
 have HS := Lib.hid s1
 clear s1
 go_wp2_with fail
 go_ret2
 exact ⟨rfl, HS.out⟩
end Go.Proofs.YthhbhbfkbncegaaGreatDoor.Cs
