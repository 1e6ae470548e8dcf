/-

 The document's Ahead of layer 37: does an object's writer go ahead of a task?
-/
import Derived.Test.YthhbhbfkbncegaaGreatDoorAhead
import Derived.Test.YthhbhbfkbncegaaGreatDoorRegionOff
import Derived.Deep.RegionHeld3
import Derived.Deep.Cut
import Derived.Lib.Hide
import Derived.ProofKit
set_option linter.unusedVariables false
set_option linter.unusedSimpArgs false
namespace Go.Proofs.YthhbhbfkbncegaaGreatDoor.Ah
open Go.ChangeShapes Go.WideShapes Go.ChangeAt Go.RowKit Ws
open Im (PT PO PS TsAt OsAt SysAt tcells ocells)
open Go.Proofs.YthhbhbfkbncegaaGreatDoor.Wd (ret_bool ret_int)
set_option maxRecDepth 100000 in
theorem rahead37 (A B : Option Addr) (n c m d : Nat) (s : PS) (i : Int) (k : Nat) (o : PO) (w : World) (hs : SysAt w A n B m s) (hk : s.os[k]? = some o) :
 Calls Tryz.prog 12 #[.agg #[.slice A n c, .slice B m d], .int .i64 i, .int .i64 k] w fun e w' => e = .returned (.bool (aheadI s.ts o.ow i)) ∧ Same w w' := by
 obtain ⟨w0, hw0⟩ : ∃ w0, w0 = w.alloc (.cells #[.slice A n c, .slice B m d] 25) := ⟨_, rfl⟩
 obtain ⟨g, hg⟩ : ∃ g, g = w.heap.size := ⟨_, rfl⟩
 have s0 : Same w w0 := hw0 ▸ (Same.refl w).alloc _
 have b0 : Blk w0 g 25 #[.slice A n c, .slice B m d] := by rw [hw0, hg]; exact Blk.new w _ _
 have HE0 := Lib.hid hw0
 have HG := Lib.hid hg
 have S0 := Lib.hid s0
 obtain ⟨c0, c1⟩ := (⟨b0.cell 0, b0.cell 1⟩ : _ ∧ _)
 simp only [Ws.q_] at c0 c1
 have AG := Lib.hid (fun W (h : Same w0 W) => rahead_gen A n c s.ts o.ow i W hs.hn ((hs.same (s0.trans h)).ht))
 obtain ⟨bB, oB, rfl, Xo, co, Yo, do_, o0, o1, o2, o3, o4, o5, o6, o7, _⟩ := (hs.same s0).ho.at_ hk
 have k0 : (0 : Int) ≤ k := by omega
 have k1 : (k : Int) < m := by have := (List.getElem?_eq_some_iff.1 hk).1; have := hs.hm; omega
 clear hw0 hg s0 b0 hs hk o0 o1 o2 o3 o4 o5 o7
 go_enter Tryz.func12, Tryz.ntmps12
 go_upto_region 1 with fail
 rw [← HE0.out, ← HG.out]
 clear HE0 HG
 refine wp_region_held_drew (S := fun w' => Same w0 w') (by kernel_rfl) ?_ (fun hHeld => ?_)
 ·exact (Same.refl w0).drew
 refine Ro.tn 0 ?_ ?_ ?_
 rotate_left
 ·intro wS hSw; (try dsimp only at hSw); go_simp; try with_reducible rfl
 try simp only [Ro.p]
 refine Ro.tn 1 ?_ ?_ ?_
 rotate_left
 ·intro wS hSw; (try dsimp only at hSw); have z0 := hSw.cell c0; go_simp; try with_reducible rfl
 try simp only [Ro.p]
 refine Ro.tn 2 ?_ ?_ ?_
 rotate_left
 ·intro wS hSw; (try dsimp only at hSw); go_simp; try with_reducible rfl
 try simp only [Ro.p]
 refine Ro.tn 3 ?_ ?_ ?_
 rotate_left
 ·intro wS hSw; (try dsimp only at hSw); have z1 := hSw.cell c1; go_simp; try with_reducible rfl
 try simp only [Ro.p]
 refine Ro.tn 4 ?_ ?_ ?_
 rotate_left
 ·intro wS hSw; (try dsimp only at hSw); go_simp; try with_reducible rfl
 try simp only [Ro.p]
 refine Ro.tn 5 ?_ ?_ ?_
 rotate_left
 ·intro wS hSw; (try dsimp only at hSw); go_simp; try with_reducible rfl
 try simp only [Ro.p]
 refine Ro.tn 6 ?_ ?_ ?_
 rotate_left
 ·intro wS hSw; (try dsimp only at hSw); go_simp; try with_reducible rfl
 try simp only [Ro.p]
 refine Ro.tn 7 ?_ ?_ ?_
 rotate_left
 ·intro wS hSw; (try dsimp only at hSw); have z6 := hSw.cell o6; go_simp; try with_reducible rfl
 try simp only [Ro.p]
 refine Ro.tn 8 ?_ ?_ ?_
 rotate_left
 ·intro wS hSw; (try dsimp only at hSw); go_simp; try with_reducible rfl
 try simp only [Ro.p]
 refine Ro.one_on (i := 9) rfl (by kernel_rfl) (by rfl) (fun K hK => ?_)
 go_simp
 go_at_call 20
 refine (AG.out _ hHeld).mono ?_
 rintro e w1 ⟨rfl, s1⟩
 refine hK.out _ _ ?_ (fun hNew => ?_)
 ·exact hHeld.trans s1
 clear hK K hHeld; have hHeld := hNew; clear hNew
 try simp only [Ro.p]
 refine Ro.tn 10 ?_ ?_ ?_
 rotate_left
 ·intro wS hSw; (try dsimp only at hSw); go_simp; try with_reducible rfl
 try simp only [Ro.p]
 refine wpAnyH_done (by kernel_rfl) ?_ _
 go_wp2_with fail
 go_ret
 exact ⟨rfl, S0.out.trans hHeld⟩
end Go.Proofs.YthhbhbfkbncegaaGreatDoor.Ah
