/-

 Contracts of package bitmap (layer 3): who goes ahead, the order, the ranks.
-/
import Derived.Ground.SlsfProg
import Derived.Shelf.SlSortCmp.Whole1
import Derived.Shelf.SlSortCmp.NoneTotal
import Derived.Test.YthhbhbfkbncegaaGreatDoorProg
import Derived.Test.YthhbhbfkbncegaaGreatDoorWordsK
import Derived.Test.YthhbhbfkbncegaaGreatDoorOrders
import Derived.WalkKit
import Derived.WalkLawsBesides
import Derived.ProofKit
import Derived.OpenShut
import Derived.Lib.Hide
import Derived.Deep.QuietTactic
import Derived.BigQuiet
import Derived.Deep.LoopGhost
import Derived.Deep.RegionHeld3
import Derived.StillTailTactics
section
namespace Go.Proofs
open Go.Shelf
def Tryz.laysSlF6_f132_ren : Go.Shelf.Ren := ⟨fun | 6 => 132 | 15 => 170 | 14 => 169 | 28 => 192 | 29 => 193 | 20 => 184 | 21 => 185 | 22 => 186 | 23 => 187 | 24 => 188 | 25 => 189 | 26 => 190 | 27 => 191 | 46 => 195 | 47 => 196 | 48 => 197 | 49 => 198 | 50 => 199 | 57 => 200 | n => n, fun | 22 => 32 | 24 => 3 | 25 => 62 | 3 => 3 | 39 => 153 | 0 => 0 | 53 => 30 | 55 => 166 | 4 => 4 | 46 => 171 | 45 => 170 | 50 => 82 | 5 => 5 | 9 => 9 | 66 => 178 | 70 => 182 | 76 => 184 | 77 => 102 | n => n, fun | n => n⟩
theorem Tryz.laysSlF6_f132 : Go.Proofs.SlLaysF.n6 Tryz.prog Tryz.laysSlF6_f132_ren := {
  mixed := by kernel_rfl
  f6 := ⟨Tryz.f132.name, by decide, Tryz.func132.trans (congrArg some (by kernel_rfl))⟩
  f14 := ⟨Tryz.f169.name, by decide, Tryz.func169.trans (congrArg some (by kernel_rfl))⟩
  f15 := Tryz.func170.trans (congrArg some (by kernel_rfl))
  f20 := ⟨Tryz.f184.name, by decide, Tryz.func184.trans (congrArg some (by kernel_rfl))⟩
  f21 := ⟨Tryz.f185.name, by decide, Tryz.func185.trans (congrArg some (by kernel_rfl))⟩
  f22 := ⟨Tryz.f186.name, by decide, Tryz.func186.trans (congrArg some (by kernel_rfl))⟩
  f23 := ⟨Tryz.f187.name, by decide, Tryz.func187.trans (congrArg some (by kernel_rfl))⟩
  f24 := ⟨Tryz.f188.name, by decide, Tryz.func188.trans (congrArg some (by kernel_rfl))⟩
  f25 := ⟨Tryz.f189.name, by decide, Tryz.func189.trans (congrArg some (by kernel_rfl))⟩
  f26 := ⟨Tryz.f190.name, by decide, Tryz.func190.trans (congrArg some (by kernel_rfl))⟩
  f27 := ⟨Tryz.f191.name, by decide, Tryz.func191.trans (congrArg some (by kernel_rfl))⟩
  f28 := Tryz.func192.trans (congrArg some (by kernel_rfl))
  f29 := Tryz.func193.trans (congrArg some (by kernel_rfl))
  f46 := ⟨Tryz.f195.name, by decide, Tryz.func195.trans (congrArg some (by kernel_rfl))⟩
  f47 := Tryz.func196.trans (congrArg some (by kernel_rfl))
  f48 := Tryz.func197.trans (congrArg some (by kernel_rfl))
  f49 := ⟨Tryz.f198.name, by decide, Tryz.func198.trans (congrArg some (by kernel_rfl))⟩
  f50 := ⟨Tryz.f199.name, by decide, Tryz.func199.trans (congrArg some (by kernel_rfl))⟩
  f57 := ⟨Tryz.f200.name, by decide, Tryz.func200.trans (congrArg some (by kernel_rfl))⟩
  t0 := Tryz.underlying0
  a0 := Tryz.isAgg0
  z0 := Tryz.sizeOf0
  v0 := Tryz.zeroValue0
  t3 := Tryz.underlying3
  a3 := Tryz.isAgg3
  z3 := Tryz.sizeOf3
  v3 := Tryz.zeroValue3
  t4 := Tryz.underlying4
  a4 := Tryz.isAgg4
  z4 := Tryz.sizeOf4
  v4 := Tryz.zeroValue4
  t5 := Tryz.underlying5
  a5 := Tryz.isAgg5
  z5 := Tryz.sizeOf5
  v5 := Tryz.zeroValue5
  t9 := Tryz.underlying9
  a9 := Tryz.isAgg9
  z9 := Tryz.sizeOf9
  v9 := Tryz.zeroValue9
  t22 := Tryz.underlying32
  a22 := Tryz.isAgg32
  z22 := Tryz.sizeOf32
  v22 := Tryz.zeroValue32
  a24 := Tryz.isAgg3
  z24 := Tryz.sizeOf3
  t25 := Tryz.underlying62
  a25 := Tryz.isAgg62
  z25 := Tryz.sizeOf62
  v25 := Tryz.zeroValue62
  t39 := Tryz.underlying153
  a39 := Tryz.isAgg153
  z39 := Tryz.sizeOf153
  v39 := Tryz.zeroValue153
  t45 := Tryz.underlying170
  a45 := Tryz.isAgg170
  z45 := Tryz.sizeOf170
  v45 := Tryz.zeroValue170
  t46 := Tryz.underlying171
  a46 := Tryz.isAgg171
  z46 := Tryz.sizeOf171
  v46 := Tryz.zeroValue171
  t50 := Tryz.underlying82
  a50 := Tryz.isAgg82
  z50 := Tryz.sizeOf82
  v50 := Tryz.zeroValue82
  t53 := Tryz.underlying30
  a53 := Tryz.isAgg30
  z53 := Tryz.sizeOf30
  v53 := Tryz.zeroValue30
  t55 := Tryz.underlying166
  a55 := Tryz.isAgg166
  z55 := Tryz.sizeOf166
  v55 := Tryz.zeroValue166
  t66 := Tryz.underlying178
  a66 := Tryz.isAgg178
  z66 := Tryz.sizeOf178
  v66 := Tryz.zeroValue178
  t70 := Tryz.underlying182
  a70 := Tryz.isAgg182
  z70 := Tryz.sizeOf182
  v70 := Tryz.zeroValue182
  t76 := Tryz.underlying184
  a76 := Tryz.isAgg184
  z76 := Tryz.sizeOf184
  v76 := Tryz.zeroValue184
  t77 := Tryz.underlying102
  a77 := Tryz.isAgg102
  z77 := Tryz.sizeOf102
  v77 := Tryz.zeroValue102 }
open Go.RowKit Go.Lib Go.Sort in
/-- **slices.SortFunc: WHAT THE ROW HOLDS, TO THE ELEMENT.** (LAID AT THE INSTANCE 'slices.SortFunc[[]int,int]': no walk: one application.) -/
theorem Tryz.slices_SortFunc_eq {α : Type} [Inhabited α] (enc : α → Value) (h1 : OneCell enc) (cf : α → α → Int) (hO : SWO (ltOf cf)) (g : Nat) (cb : Array Value) (blk off cap : Nat) (d : Array α) (w : World) (eg : ∀ args w, (callFunc g args).run Tryz.prog w = .ok (.enter g args) w) (hcmp : CmpLays1 Tryz.prog g cb enc cf blk off d.size w) (hH : Holds enc w blk off d) (hblk : blk < w.heap.size) (hsz : d.size < 4611686018427387904) :
    Calls Tryz.prog 132 #[.slice (some ⟨blk, off, none⟩) d.size cap, .func (.func g) #[] cb] w fun e w' =>
      e = .returned (.tuple #[]) ∧ ∃ n os, w' = sortWorld enc w blk off n (pdq (ltOf cf) d 0 d.size (Lib.bitLen d.size) true true) os := Any.slices_SortFunc_eq Tryz.laysSlF6_f132 enc h1 cf hO g cb blk off cap d w eg hcmp hH hblk hsz
open Go.RowKit Go.Lib Go.Sort in
/-- **slices.SortFunc, IN THE DOCUMENTATION's OWN TERMS: A PERMUTATION OF WHAT THE ROW HELD, SORTED BY 'cmp(a, b) < 0'.** Which of two equals comes first is left open ("The sort is not guaranteed to be stable"). (LAID AT THE INSTANCE 'slices.SortFunc[[]int,int]': no walk: one application.) -/
theorem Tryz.slices_SortFunc {α : Type} [Inhabited α] (enc : α → Value) (h1 : OneCell enc) (cf : α → α → Int) (hO : SWO (ltOf cf)) (g : Nat) (cb : Array Value) (blk off cap : Nat) (d : Array α) (w : World) (eg : ∀ args w, (callFunc g args).run Tryz.prog w = .ok (.enter g args) w) (hcmp : CmpLays1 Tryz.prog g cb enc cf blk off d.size w) (hH : Holds enc w blk off d) (hblk : blk < w.heap.size) (hsz : d.size < 4611686018427387904) :
    Calls Tryz.prog 132 #[.slice (some ⟨blk, off, none⟩) d.size cap, .func (.func g) #[] cb] w fun e w' =>
      e = .returned (.tuple #[]) ∧ ∃ d' n os, PermIn 0 d.size d d' ∧ SortedIn (ltOf cf) 0 d.size d' ∧ w' = sortWorld enc w blk off n d' os := Any.slices_SortFunc Tryz.laysSlF6_f132 enc h1 cf hO g cb blk off cap d w eg hcmp hH hblk hsz
def Tryz.laysSlF020_f184_ren : Go.Shelf.Ren := ⟨fun | 20 => 184 | n => n, fun | 24 => 3 | 22 => 32 | 3 => 3 | 25 => 62 | 4 => 4 | 0 => 0 | n => n, fun | n => n⟩
theorem Tryz.laysSlF020_f184 : Go.Proofs.SlLaysF0.n20 Tryz.prog Tryz.laysSlF020_f184_ren := {
  mixed := by kernel_rfl
  f20 := ⟨Tryz.f184.name, by decide, Tryz.func184.trans (congrArg some (by kernel_rfl))⟩
  t0 := Tryz.underlying0
  a0 := Tryz.isAgg0
  z0 := Tryz.sizeOf0
  v0 := Tryz.zeroValue0
  t3 := Tryz.underlying3
  a3 := Tryz.isAgg3
  z3 := Tryz.sizeOf3
  v3 := Tryz.zeroValue3
  t4 := Tryz.underlying4
  a4 := Tryz.isAgg4
  z4 := Tryz.sizeOf4
  v4 := Tryz.zeroValue4
  t22 := Tryz.underlying32
  a22 := Tryz.isAgg32
  z22 := Tryz.sizeOf32
  v22 := Tryz.zeroValue32
  t25 := Tryz.underlying62
  a25 := Tryz.isAgg62
  z25 := Tryz.sizeOf62
  v25 := Tryz.zeroValue62 }
open Go.RowKit Go.Lib Go.Sort in
theorem Tryz.insertionSortCmpFunc_none {α : Type} [Inhabited α] (p : Option Addr) (cap : Nat) (fv : Value) (w : World) :
    Calls Tryz.prog 184 #[.slice p 0 cap, .int .i64 0, .int .i64 0, fv] w fun e w' => e = .returned (.tuple #[]) ∧ w' = w := AnyF.insertionSortCmpFunc_none Tryz.laysSlF020_f184 p cap fv w
def Tryz.laysSlF014_f169_ren : Go.Shelf.Ren := ⟨fun | 14 => 169 | 20 => 184 | 21 => 185 | 22 => 186 | 23 => 187 | 24 => 188 | 25 => 189 | 26 => 190 | 27 => 191 | 46 => 195 | 47 => 196 | 48 => 197 | 49 => 198 | 50 => 199 | 15 => 170 | 57 => 200 | 28 => 192 | 29 => 193 | n => n, fun | 24 => 3 | 22 => 32 | 3 => 3 | 25 => 62 | 4 => 4 | 0 => 0 | 46 => 171 | 45 => 170 | 50 => 82 | 66 => 178 | 39 => 153 | 55 => 166 | 70 => 182 | 76 => 184 | 77 => 102 | 53 => 30 | 5 => 5 | 9 => 9 | n => n, fun | n => n⟩
theorem Tryz.laysSlF014_f169 : Go.Proofs.SlLaysF0.n14 Tryz.prog Tryz.laysSlF014_f169_ren := {
  mixed := by kernel_rfl
  f14 := ⟨Tryz.f169.name, by decide, Tryz.func169.trans (congrArg some (by kernel_rfl))⟩
  f15 := Tryz.func170.trans (congrArg some (by kernel_rfl))
  f20 := ⟨Tryz.f184.name, by decide, Tryz.func184.trans (congrArg some (by kernel_rfl))⟩
  f21 := ⟨Tryz.f185.name, by decide, Tryz.func185.trans (congrArg some (by kernel_rfl))⟩
  f22 := ⟨Tryz.f186.name, by decide, Tryz.func186.trans (congrArg some (by kernel_rfl))⟩
  f23 := ⟨Tryz.f187.name, by decide, Tryz.func187.trans (congrArg some (by kernel_rfl))⟩
  f24 := ⟨Tryz.f188.name, by decide, Tryz.func188.trans (congrArg some (by kernel_rfl))⟩
  f25 := ⟨Tryz.f189.name, by decide, Tryz.func189.trans (congrArg some (by kernel_rfl))⟩
  f26 := ⟨Tryz.f190.name, by decide, Tryz.func190.trans (congrArg some (by kernel_rfl))⟩
  f27 := ⟨Tryz.f191.name, by decide, Tryz.func191.trans (congrArg some (by kernel_rfl))⟩
  f28 := Tryz.func192.trans (congrArg some (by kernel_rfl))
  f29 := Tryz.func193.trans (congrArg some (by kernel_rfl))
  f46 := ⟨Tryz.f195.name, by decide, Tryz.func195.trans (congrArg some (by kernel_rfl))⟩
  f47 := Tryz.func196.trans (congrArg some (by kernel_rfl))
  f48 := Tryz.func197.trans (congrArg some (by kernel_rfl))
  f49 := ⟨Tryz.f198.name, by decide, Tryz.func198.trans (congrArg some (by kernel_rfl))⟩
  f50 := ⟨Tryz.f199.name, by decide, Tryz.func199.trans (congrArg some (by kernel_rfl))⟩
  f57 := ⟨Tryz.f200.name, by decide, Tryz.func200.trans (congrArg some (by kernel_rfl))⟩
  t0 := Tryz.underlying0
  a0 := Tryz.isAgg0
  z0 := Tryz.sizeOf0
  v0 := Tryz.zeroValue0
  t3 := Tryz.underlying3
  a3 := Tryz.isAgg3
  z3 := Tryz.sizeOf3
  v3 := Tryz.zeroValue3
  t4 := Tryz.underlying4
  a4 := Tryz.isAgg4
  z4 := Tryz.sizeOf4
  v4 := Tryz.zeroValue4
  t5 := Tryz.underlying5
  a5 := Tryz.isAgg5
  z5 := Tryz.sizeOf5
  v5 := Tryz.zeroValue5
  t9 := Tryz.underlying9
  a9 := Tryz.isAgg9
  z9 := Tryz.sizeOf9
  v9 := Tryz.zeroValue9
  t22 := Tryz.underlying32
  a22 := Tryz.isAgg32
  z22 := Tryz.sizeOf32
  v22 := Tryz.zeroValue32
  t25 := Tryz.underlying62
  a25 := Tryz.isAgg62
  z25 := Tryz.sizeOf62
  v25 := Tryz.zeroValue62
  t39 := Tryz.underlying153
  a39 := Tryz.isAgg153
  z39 := Tryz.sizeOf153
  v39 := Tryz.zeroValue153
  t45 := Tryz.underlying170
  a45 := Tryz.isAgg170
  z45 := Tryz.sizeOf170
  v45 := Tryz.zeroValue170
  t46 := Tryz.underlying171
  a46 := Tryz.isAgg171
  z46 := Tryz.sizeOf171
  v46 := Tryz.zeroValue171
  t50 := Tryz.underlying82
  a50 := Tryz.isAgg82
  z50 := Tryz.sizeOf82
  v50 := Tryz.zeroValue82
  t53 := Tryz.underlying30
  a53 := Tryz.isAgg30
  z53 := Tryz.sizeOf30
  v53 := Tryz.zeroValue30
  t55 := Tryz.underlying166
  a55 := Tryz.isAgg166
  z55 := Tryz.sizeOf166
  v55 := Tryz.zeroValue166
  t66 := Tryz.underlying178
  a66 := Tryz.isAgg178
  z66 := Tryz.sizeOf178
  v66 := Tryz.zeroValue178
  t70 := Tryz.underlying182
  a70 := Tryz.isAgg182
  z70 := Tryz.sizeOf182
  v70 := Tryz.zeroValue182
  t76 := Tryz.underlying184
  a76 := Tryz.isAgg184
  z76 := Tryz.sizeOf184
  v76 := Tryz.zeroValue184
  t77 := Tryz.underlying102
  a77 := Tryz.isAgg102
  z77 := Tryz.sizeOf102
  v77 := Tryz.zeroValue102 }
open Go.RowKit Go.Lib Go.Sort in
theorem Tryz.pdqsortCmpFunc_none {α : Type} [Inhabited α] (p : Option Addr) (cap : Nat) (lim : Int) (fv : Value) (w : World) :
    Calls Tryz.prog 169 #[.slice p 0 cap, .int .i64 0, .int .i64 0, .int .i64 lim, fv] w fun e w' => e = .returned (.tuple #[]) ∧ w' = w := AnyF.pdqsortCmpFunc_none Tryz.laysSlF014_f169 p cap lim fv w
def Tryz.laysSlF06_f132_ren : Go.Shelf.Ren := ⟨fun | 6 => 132 | 15 => 170 | 14 => 169 | 28 => 192 | 29 => 193 | 20 => 184 | 21 => 185 | 22 => 186 | 23 => 187 | 24 => 188 | 25 => 189 | 26 => 190 | 27 => 191 | 46 => 195 | 47 => 196 | 48 => 197 | 49 => 198 | 50 => 199 | 57 => 200 | n => n, fun | 22 => 32 | 24 => 3 | 25 => 62 | 3 => 3 | 39 => 153 | 0 => 0 | 53 => 30 | 55 => 166 | 4 => 4 | 46 => 171 | 45 => 170 | 50 => 82 | 5 => 5 | 9 => 9 | 66 => 178 | 70 => 182 | 76 => 184 | 77 => 102 | n => n, fun | n => n⟩
theorem Tryz.laysSlF06_f132 : Go.Proofs.SlLaysF0.n6 Tryz.prog Tryz.laysSlF06_f132_ren := {
  mixed := by kernel_rfl
  f6 := ⟨Tryz.f132.name, by decide, Tryz.func132.trans (congrArg some (by kernel_rfl))⟩
  f14 := ⟨Tryz.f169.name, by decide, Tryz.func169.trans (congrArg some (by kernel_rfl))⟩
  f15 := Tryz.func170.trans (congrArg some (by kernel_rfl))
  f20 := ⟨Tryz.f184.name, by decide, Tryz.func184.trans (congrArg some (by kernel_rfl))⟩
  f21 := ⟨Tryz.f185.name, by decide, Tryz.func185.trans (congrArg some (by kernel_rfl))⟩
  f22 := ⟨Tryz.f186.name, by decide, Tryz.func186.trans (congrArg some (by kernel_rfl))⟩
  f23 := ⟨Tryz.f187.name, by decide, Tryz.func187.trans (congrArg some (by kernel_rfl))⟩
  f24 := ⟨Tryz.f188.name, by decide, Tryz.func188.trans (congrArg some (by kernel_rfl))⟩
  f25 := ⟨Tryz.f189.name, by decide, Tryz.func189.trans (congrArg some (by kernel_rfl))⟩
  f26 := ⟨Tryz.f190.name, by decide, Tryz.func190.trans (congrArg some (by kernel_rfl))⟩
  f27 := ⟨Tryz.f191.name, by decide, Tryz.func191.trans (congrArg some (by kernel_rfl))⟩
  f28 := Tryz.func192.trans (congrArg some (by kernel_rfl))
  f29 := Tryz.func193.trans (congrArg some (by kernel_rfl))
  f46 := ⟨Tryz.f195.name, by decide, Tryz.func195.trans (congrArg some (by kernel_rfl))⟩
  f47 := Tryz.func196.trans (congrArg some (by kernel_rfl))
  f48 := Tryz.func197.trans (congrArg some (by kernel_rfl))
  f49 := ⟨Tryz.f198.name, by decide, Tryz.func198.trans (congrArg some (by kernel_rfl))⟩
  f50 := ⟨Tryz.f199.name, by decide, Tryz.func199.trans (congrArg some (by kernel_rfl))⟩
  f57 := ⟨Tryz.f200.name, by decide, Tryz.func200.trans (congrArg some (by kernel_rfl))⟩
  t0 := Tryz.underlying0
  a0 := Tryz.isAgg0
  z0 := Tryz.sizeOf0
  v0 := Tryz.zeroValue0
  t3 := Tryz.underlying3
  a3 := Tryz.isAgg3
  z3 := Tryz.sizeOf3
  v3 := Tryz.zeroValue3
  t4 := Tryz.underlying4
  a4 := Tryz.isAgg4
  z4 := Tryz.sizeOf4
  v4 := Tryz.zeroValue4
  t5 := Tryz.underlying5
  a5 := Tryz.isAgg5
  z5 := Tryz.sizeOf5
  v5 := Tryz.zeroValue5
  t9 := Tryz.underlying9
  a9 := Tryz.isAgg9
  z9 := Tryz.sizeOf9
  v9 := Tryz.zeroValue9
  t22 := Tryz.underlying32
  a22 := Tryz.isAgg32
  z22 := Tryz.sizeOf32
  v22 := Tryz.zeroValue32
  t25 := Tryz.underlying62
  a25 := Tryz.isAgg62
  z25 := Tryz.sizeOf62
  v25 := Tryz.zeroValue62
  t39 := Tryz.underlying153
  a39 := Tryz.isAgg153
  z39 := Tryz.sizeOf153
  v39 := Tryz.zeroValue153
  t45 := Tryz.underlying170
  a45 := Tryz.isAgg170
  z45 := Tryz.sizeOf170
  v45 := Tryz.zeroValue170
  t46 := Tryz.underlying171
  a46 := Tryz.isAgg171
  z46 := Tryz.sizeOf171
  v46 := Tryz.zeroValue171
  t50 := Tryz.underlying82
  a50 := Tryz.isAgg82
  z50 := Tryz.sizeOf82
  v50 := Tryz.zeroValue82
  t53 := Tryz.underlying30
  a53 := Tryz.isAgg30
  z53 := Tryz.sizeOf30
  v53 := Tryz.zeroValue30
  t55 := Tryz.underlying166
  a55 := Tryz.isAgg166
  z55 := Tryz.sizeOf166
  v55 := Tryz.zeroValue166
  t66 := Tryz.underlying178
  a66 := Tryz.isAgg178
  z66 := Tryz.sizeOf178
  v66 := Tryz.zeroValue178
  t70 := Tryz.underlying182
  a70 := Tryz.isAgg182
  z70 := Tryz.sizeOf182
  v70 := Tryz.zeroValue182
  t76 := Tryz.underlying184
  a76 := Tryz.isAgg184
  z76 := Tryz.sizeOf184
  v76 := Tryz.zeroValue184
  t77 := Tryz.underlying102
  a77 := Tryz.isAgg102
  z77 := Tryz.sizeOf102
  v77 := Tryz.zeroValue102 }
open Go.RowKit Go.Lib Go.Sort in
/-- **slices.SortFunc AT NO ELEMENT, A nil SLICE TOO: nothing turns.** (LAID AT THE INSTANCE 'slices.SortFunc[[]int,int]': no walk: one application.) -/
theorem Tryz.slices_SortFunc_none {α : Type} [Inhabited α] (p : Option Addr) (cap : Nat) (fv : Value) (w : World) :
    Calls Tryz.prog 132 #[.slice p 0 cap, fv] w fun e w' => e = .returned (.tuple #[]) ∧ w' = w := AnyF.slices_SortFunc_none Tryz.laysSlF06_f132 p cap fv w
open Go.RowKit Go.Lib Go.Sort in
/-- **slices.SortFunc AT ONE CELL, UNDER A 'cmp' THAT PARTS WHATEVER TWO THAT ARE NOT ONE: THE ROW HOLDS core's 'mergeSort'.** (LAID AT THE INSTANCE 'slices.SortFunc[[]int,int]': no walk: one application.) -/
theorem Tryz.slices_SortFunc_total {α : Type} [Inhabited α] (enc : α → Value) (h1 : OneCell enc) (cf : α → α → Int) (hO : SWO (ltOf cf)) (g : Nat) (cb : Array Value) (blk off cap : Nat) (d : Array α) (w : World) (eg : ∀ args w, (callFunc g args).run Tryz.prog w = .ok (.enter g args) w) (hcmp : CmpLays1 Tryz.prog g cb enc cf blk off d.size w) (hH : Holds enc w blk off d) (hblk : blk < w.heap.size) (hsz : d.size < 4611686018427387904) (hT : ∀ x y, (ltOf cf) x y = false → (ltOf cf) y x = false → x = y) :
    Calls Tryz.prog 132 #[.slice (some ⟨blk, off, none⟩) d.size cap, .func (.func g) #[] cb] w fun e w' =>
      e = .returned (.tuple #[]) ∧ ∃ n os, w' = sortWorld enc w blk off n (d.toList.mergeSort fun x y => !(ltOf cf) y x).toArray os := Any.slices_SortFunc_total Tryz.laysSlF6_f132 enc h1 cf hO g cb blk off cap d w eg hcmp hH hblk hsz hT
end Go.Proofs
end
section
section
set_option linter.unusedSimpArgs false
set_option linter.unusedVariables false
namespace Go.Proofs.YthhbhbfkbncegaaGreatDoor.Ws
open Go.RowKit Go.Sort

theorem same_grow (w : World) (os : Array Obj) : Same w (Go.Sort.grow w os) :=
 ⟨rfl, rfl, rfl, by rw [size_grow]; omega, fun i hi _ => heap_grow_old w os hi⟩
section
variable {α : Type} [Inhabited α]
theorem heap_put_other (enc : α → Value) (w : World) (g : Nat) (d : Array α) {i : Nat} (h : i ≠ g) : (putRow enc w g 0 d).heap[i]? = w.heap[i]? := by
 unfold putRow mapBlock
 simp only [Array.getElem?_modify]
 rw [if_neg (fun e => h e.symm)]
theorem heap_put_same (enc : α → Value) (w : World) (g : Nat) (d : Array α) {cs : Array Value} {t : TypeId} {fr : Nat × Nat} (h : w.heap[g]? = some (.cells cs t fr)) :
 (putRow enc w g 0 d).heap[g]? = some (.cells (putCells enc 0 d cs) t fr) := by
 unfold putRow mapBlock
 simp only [Array.getElem?_modify]
 rw [if_pos trivial, h]
 rfl
theorem chg_sort (enc : α → Value) (w : World) (g m : Nat) (d : Array α) (os : Array Obj) : Chg (fun i => i = g) w (sortWorld enc w g 0 m d os) := by
 unfold sortWorld
 refine ⟨rfl, rfl, rfl, ?_, ?_⟩
 ·rw [size_grow, size_putRow]
  show w.heap.size ≤ w.heap.size + _
  omega
 ·intro i hi hn
  rw [heap_grow_old _ _ (by rw [size_putRow]; exact hi), heap_put_other _ _ _ _ hn]
  rfl
theorem holds_of {w : World} {B : Nat} {e : TypeId} {g n c : Nat} {l : List Value} (h : OwnK w B e 1 (some ⟨g, 0, none⟩) n c l) (enc : α → Value) (d : Array α) (hd : l = d.toList.map enc) : Holds enc w g 0 d := by
 intro j hj
 have hl : l[j]? = some (enc d[j]!) := by
  rw [hd, List.getElem?_map, Array.getElem?_toList, Array.getElem?_eq_getElem hj, getElem!_pos d j hj]
  rfl
 refine ⟨h.row.get hl, ?_⟩
 rcases h.2 with ⟨h2, _⟩ | ⟨g2, cap, cur, hv, hb, hg, rest⟩
 ·cases h2
 ·injection hv with hv
  injection hv with hv
  injection hv with hv
  subst hv
  rw [Nat.zero_add]
  exact Blk.thaw (t := e) hg j
theorem take_put (enc : α → Value) (d : Array α) (cs : Array Value) (n : Nat) (hn : d.size = n) (hc : n ≤ cs.size) : (putCells enc 0 d cs).toList.take n = d.toList.map enc := by
 apply List.ext_getElem?
 intro i
 rw [List.getElem?_take]
 by_cases hi : i < n
 ·rw [if_pos hi, Array.getElem?_toList, List.getElem?_map, Array.getElem?_toList]
  unfold putCells
  rw [Array.getElem?_mapIdx, Array.getElem?_eq_getElem (show i < cs.size by omega), Array.getElem?_eq_getElem (show i < d.size by omega)]
  simp only [Option.map_some]
  rw [if_pos ⟨Nat.zero_le _, by omega⟩, Nat.sub_zero, getElem!_pos d i (by omega)]
 ·rw [if_neg hi, List.getElem?_eq_none (by simp; omega)]
theorem own_sort {w : World} {B : Nat} {e : TypeId} {g n c : Nat} {l : List Value} (h : OwnK w B e 1 (some ⟨g, 0, none⟩) n c l) (enc : α → Value) (m : Nat) (d : Array α) (os : Array Obj) (hd : d.size = n) :
 OwnK (sortWorld enc w g 0 m d os) B e 1 (some ⟨g, 0, none⟩) n c (d.toList.map enc) := by
 refine ⟨by rw [List.length_map, Array.length_toList, hd, Nat.mul_one], ?_⟩
 rcases h.2 with ⟨h2, _⟩ | ⟨g2, cap, cur, hv, hb, hg, h1, h2, h3, h4⟩
 ·cases h2
 ·have hv' := hv
  injection hv' with hv'
  injection hv' with hv'
  injection hv' with hv'
  subst hv'
  refine .inr ⟨g, cap, putCells enc 0 d cur, hv, hb, ?_, h1, h2, by unfold putCells; rw [Array.size_mapIdx]; exact h3, ?_⟩
  ·unfold sortWorld
   have hlt : g < w.heap.size := Blk.lt (t := e) hg
   rw [heap_grow_old _ _ (by rw [size_putRow]; exact hlt)]
   exact heap_put_same enc (Go.Sort.ahead w m) g d hg
  ·rw [Nat.mul_one]
   exact take_put enc d cur n hd (by omega)
end

theorem own1_get {w : World} {B : Nat} {e : TypeId} {g c n k : Nat} {l : List Value} {u : Value} (h : OwnK w B e 1 (some ⟨g, 0, none⟩) n c l) (hk : l[k]? = some u) : w.cell? ⟨g, k, none⟩ = some u := by
 have := h.row.get hk
 rw [Nat.zero_add] at this
 exact this
theorem own1_thaw {w : World} {B : Nat} {e : TypeId} {s g c n : Nat} {l : List Value} (h : OwnK w B e s (some ⟨g, 0, none⟩) n c l) (j : Nat) : w.frozen? ⟨g, j, none⟩ = false := by
 rcases h.2 with ⟨h2, _⟩ | ⟨g2, cap, cur, hv, hb, hg, rest⟩
 ·cases h2
 ·injection hv with hv
  injection hv with hv
  injection hv with hv
  subst hv
  exact Blk.thaw (t := e) hg j
theorem own1_set {w : World} {B : Nat} {e : TypeId} {s g c n : Nat} {l : List Value} (h : OwnK w B e s (some ⟨g, 0, none⟩) n c l) (j : Nat) (u : Value) :
 OwnK (w.setCell ⟨g, j, none⟩ u) B e s (some ⟨g, 0, none⟩) n c (l.set j u) := (World.ownsRow.stored h j u).1
/-- a row of n numbers, by their places -/
def IL (n : Nat) (f : Nat → Int) : List Value := (List.range n).map fun x => Value.int .i64 (f x)
theorem IL_len (n : Nat) (f : Nat → Int) : (IL n f).length = n := by simp [IL]
theorem IL_get {n k : Nat} (f : Nat → Int) (h : k < n) : (IL n f)[k]? = some (.int .i64 (f k)) := by
 unfold IL
 rw [List.getElem?_map, List.getElem?_range h]
 rfl
theorem IL_congr {n : Nat} {f g : Nat → Int} (h : ∀ x, x < n → f x = g x) : IL n f = IL n g := by
 unfold IL
 apply List.map_congr_left
 intro x hx
 rw [h x (List.mem_range.1 hx)]
theorem IL_set {n k : Nat} (f : Nat → Int) (v : Int) (h : k < n) : (IL n f).set k (.int .i64 v) = IL n (fun x => if x = k then v else f x) := by
 apply List.ext_getElem?
 intro i
 rw [List.getElem?_set]
 by_cases hi : i < n
 ·by_cases hk : k = i
  ·subst hk
   rw [if_pos rfl, if_pos (by rw [IL_len]; exact h), IL_get _ h, if_pos rfl]
  ·rw [if_neg hk, IL_get _ hi, IL_get _ hi, if_neg (fun h => hk h.symm)]
 ·rw [List.getElem?_eq_none (l := IL n (fun x => if x = k then v else f x)) (by rw [IL_len]; omega)]
  by_cases hk : k = i
  ·omega
  ·rw [if_neg hk, List.getElem?_eq_none (by rw [IL_len]; omega)]
theorem made_IL (n : Nat) : (madeCells (Value.int .i64 0).cells (n * 1)).toList = IL n (fun _ => 0) := by
 apply List.ext_getElem?
 intro i
 rw [Nat.mul_one]
 by_cases hi : i < n
 ·rw [IL_get _ hi]
  have e : (#[Value.int .i64 0] : Array Value)[i % 1]! = .int .i64 0 := by rw [Nat.mod_one]; rfl
  simp only [madeCells, Value.cells, List.size_toArray, List.length_cons, List.length_nil, Array.toList_map, Array.toList_range, List.getElem?_map, List.getElem?_range hi, Option.map_some]
  exact congrArg some e
 ·rw [List.getElem?_eq_none (l := IL n (fun _ => 0)) (by rw [IL_len]; omega), List.getElem?_eq_none (by rw [Array.length_toList, size_madeCells]; omega)]

end Go.Proofs.YthhbhbfkbncegaaGreatDoor.Ws
end
section
set_option linter.unusedVariables false
set_option linter.unusedSimpArgs false
namespace Go.Proofs.YthhbhbfkbncegaaGreatDoor.Bo
open Go.ChangeShapes Go.WideShapes Go.ChangeAt Go.RowKit Ws Od

/-- w' is w, some draws and some blocks further -/
def Grw (w w' : World) : Prop := ∃ q os, w' = Go.Sort.grow (w.drewN q) os
theorem Grw.drew (w : World) : Grw w w.drew := ⟨1, #[], by rw [Go.Sort.grow_empty]; rfl⟩
theorem Grw.alloc (w : World) (o : Obj) : Grw w (w.alloc o) := ⟨0, #[o], by rw [Go.Sort.alloc_eq_grow]; rfl⟩
theorem Grw.trans {a b c : World} (h : Grw a b) (k : Grw b c) : Grw a c := by
 obtain ⟨q, os, rfl⟩ := h
 obtain ⟨q', os', rfl⟩ := k
 refine ⟨q + q', os ++ os', ?_⟩
 rw [← Go.Sort.grow_grow]
 congr 1
 unfold World.drewN Go.Sort.grow
 simp [Nat.add_assoc]
theorem Grw.same {a b : World} (h : Grw a b) : Same a b := by
 obtain ⟨q, os, rfl⟩ := h
 exact ((Same.refl a).drewN q).trans (same_grow _ os)

def cmpI (x y : Int) : Int := if x < y then -1 else if y < x then 1 else 0
theorem cmp_any (x y : Int) (w : World) : Calls Tryz.prog 172 #[.int .i64 x, .int .i64 y] w fun e w' => e = .returned (.int .i64 (cmpI x y)) ∧ w = w' := by
 unfold cmpI
 by_cases h1 : x < y
 ·rw [if_pos h1]
  go_enter Tryz.func172, Tryz.ntmps172
  go_wp2
  go_ret
  exact ⟨rfl, rfl⟩
 ·rw [if_neg h1]
  by_cases h2 : y < x
  ·rw [if_pos h2]
   go_enter Tryz.func172, Tryz.ntmps172
   go_wp2
   go_ret
   exact ⟨rfl, rfl⟩
  ·rw [if_neg h2]
   go_enter Tryz.func172, Tryz.ntmps172
   go_wp2
   go_ret
   exact ⟨rfl, rfl⟩
theorem or_any (a b : Int) (g : Nat) (w : World) (h0 : w.cell? ⟨g, 0, none⟩ = some (.int .i64 a)) (h1 : w.cell? ⟨g, 1, none⟩ = some (.int .i64 b)) :
 Calls Tryz.prog 171 #[.slice (some ⟨g, 0, none⟩) 2 2] w fun e w' => e = .returned (.int .i64 (if a = 0 then b else a)) ∧ w = w' := by
 by_cases ha : a = 0
 ·rw [if_pos ha]
  subst ha
  by_cases hb : b = 0
  ·subst hb
   go_enter Tryz.func171, Tryz.ntmps171
   go_wp2
   go_loopg [8] 2 (fun gk iv wx => ∃ k : Nat, k + gk = 2 ∧ iv = .int .i64 k ∧ w = wx)
   case atStart => exact ⟨0, by omega, rfl, rfl⟩
   case round =>
    obtain ⟨k, hk, rfl, rfl⟩ := hrel
    match gk, k, hk with
    | 2, 0, _ =>
     go_wp2
     go_roundg 1
     case rel => exact ⟨1, by omega, by go_num, rfl⟩
     case measure => omega
    | 1, 1, _ =>
     go_wp2
     go_roundg 0
     case rel => exact ⟨2, by omega, by go_num, rfl⟩
     case measure => omega
    | 0, 2, _ =>
     go_wp2
     go_ret
     exact ⟨rfl, rfl⟩
  ·have hb' : (b != 0) = true := by simpa using hb
   clear hb
   go_enter Tryz.func171, Tryz.ntmps171
   go_wp2
   go_loopg [8] 2 (fun gk iv wx => ∃ k : Nat, k + gk = 2 ∧ k ≤ 1 ∧ iv = .int .i64 k ∧ w = wx)
   case atStart => exact ⟨0, by omega, by omega, rfl, rfl⟩
   case round =>
    obtain ⟨k, hk, hk1, rfl, rfl⟩ := hrel
    match gk, k, hk, hk1 with
    | 2, 0, _, _ =>
     go_wp2
     go_roundg 1
     case rel => exact ⟨1, by omega, by omega, by go_num, rfl⟩
     case measure => omega
    | 1, 1, _, _ =>
     go_wp2
     go_ret
     exact ⟨rfl, rfl⟩
 ·rw [if_neg ha]
  have ha' : (a != 0) = true := by simpa using ha
  clear ha
  go_enter Tryz.func171, Tryz.ntmps171
  go_wp2
  go_loopg [8] 2 (fun gk iv wx => ∃ k : Nat, k + gk = 2 ∧ k = 0 ∧ iv = .int .i64 k ∧ w = wx)
  case atStart => exact ⟨0, by omega, rfl, rfl, rfl⟩
  case round =>
   obtain ⟨k, hk, hk0, rfl, rfl⟩ := hrel
   subst hk0
   go_wp2
   go_ret
   exact ⟨rfl, rfl⟩

def acmp (P : List Int) (a b : Nat) : Int := if cmpI (pr P b) (pr P a) = 0 then cmpI a b else cmpI (pr P b) (pr P a)
theorem acmp_lt (P : List Int) (a b : Nat) : decide (acmp P a b < 0) = aheadB P a b := by
 unfold acmp aheadB cmpI
 rw [decide_eq_decide]
 repeat' split
 all_goals omega
theorem ahead_any (A : Option Addr) (n c : Nat) (P : List Int) (a b : Nat) (w : World) (hn : P.length = n) (ha : a < n) (hb : b < n) (hr : Row w A (P.map (Value.int .i64))) :
 Calls Tryz.prog 134 #[.slice A n c, .int .i64 a, .int .i64 b] w fun e w' => e = .returned (.int .i64 (acmp P a b)) ∧ Grw w w' := by
 have hga : (P.map (Value.int .i64))[a]? = some (.int .i64 (pr P a)) := by rw [List.getElem?_map, get_pr (by omega)]; rfl
 have hgb : (P.map (Value.int .i64))[b]? = some (.int .i64 (pr P b)) := by rw [List.getElem?_map, get_pr (by omega)]; rfl
 obtain ⟨g, o, rfl, ca⟩ := hr a _ hga
 obtain ⟨g', o', hA, cb⟩ := hr b _ hgb
 injection hA with hA
 injection hA with e1 e2
 subst e1
 subst e2
 have a0 : (0 : Int) ≤ a := by omega
 have b0 : (0 : Int) ≤ b := by omega
 have a1 : (a : Int) < n := by omega
 have b1 : (b : Int) < n := by omega
 unfold acmp
 clear hga hgb hr hn
 have C1 := fun w => cmp_any (pr P b) (pr P a) w
 have C2 := fun w => cmp_any (a : Int) (b : Int) w
 generalize cmpI (pr P b) (pr P a) = x at *
 generalize cmpI (a : Int) (b : Int) = y at *
 have HOR := Lib.hid (or_any x y w.heap.size (w.alloc (.cells #[.int .i64 x, .int .i64 y] 3)).drew ((Blk.new w 3 #[.int .i64 x, .int .i64 y]).cell 0) ((Blk.new w 3 #[.int .i64 x, .int .i64 y]).cell 1))
 generalize (if x = 0 then y else x) = r at *
 go_enter Tryz.func134, Tryz.ntmps134
 go_wp2_with fail
 have SS : Hid (∀ w', Grw w w' → w'.cell? ⟨g, o + a, none⟩ = some (.int .i64 (pr P a)) ∧ w'.cell? ⟨g, o + b, none⟩ = some (.int .i64 (pr P b)) ∧ Grw w w') := Lib.hid (fun w' s => ⟨s.same.cell ca, s.same.cell cb, s⟩)
 have HG := Lib.hid ((Grw.alloc w (.cells #[.int .i64 x, .int .i64 y] 3)).trans (Grw.drew _))
 go_region_held3 (fun w' => w'.cell? ⟨g, o + a, none⟩ = some (.int .i64 (pr P a)) ∧ w'.cell? ⟨g, o + b, none⟩ = some (.int .i64 (pr P b)) ∧ Grw w w')
  (first | (with_reducible assumption) | (with_reducible exact SS.out _ (Grw.drew w)) | (with_reducible exact SS.out _ HG.out))
  (first | (go_at_call 171; (with_reducible refine HOR.out.mono ?_); rintro e w' ⟨rfl, rfl⟩) | (go_at_call 172; first | ((with_reducible refine (C1 _).mono ?_); rintro e w' ⟨rfl, rfl⟩) | ((with_reducible refine (C2 _).mono ?_); rintro e w' ⟨rfl, rfl⟩)))
 go_wp2
 go_ret
 exact ⟨rfl, HG.out⟩
theorem closure_any (gp : Nat) (A : Option Addr) (n c : Nat) (P : List Int) (a b : Nat) (w : World) (hp : w.cell? ⟨gp, 0, none⟩ = some (.slice A n c)) (hn : P.length = n) (ha : a < n) (hb : b < n) (hr : Row w A (P.map (Value.int .i64))) :
 Calls Tryz.prog 133 #[.int .i64 a, .int .i64 b, .pointer (some ⟨gp, 0, none⟩)] w fun e w' => e = .returned (.int .i64 (acmp P a b)) ∧ Grw w w' := by
 have H := Lib.hid (ahead_any A n c P a b w hn ha hb hr)
 clear hn ha hb hr
 generalize acmp P a b = r at *
 go_enter Tryz.func133, Tryz.ntmps133
 go_wp2_with fail
 refine H.out.mono ?_
 rintro e w1 ⟨rfl, s1⟩
 go_wp2_with fail
 go_ret
 exact ⟨rfl, s1⟩
section
variable {n : Nat}
def encF (i : Fin n) : Value := .int .i64 (i.val : Int)
def cfF (P : List Int) (x y : Fin n) : Int := acmp P x.val y.val
theorem lt_cf (P : List Int) (x y : Fin n) : Go.Proofs.ltOf (cfF P) x y = aheadB P x.val y.val := acmp_lt P x.val y.val
theorem swo_cf (P : List Int) : Go.Sort.SWO (Go.Proofs.ltOf (cfF (n := n) P)) where
 irrefl x := by rw [lt_cf]; exact ahead_irrefl P x.val
 trans x y z h1 h2 := by rw [lt_cf] at *; exact ahead_trans h1 h2
 ntrans x y z h1 h2 := by rw [lt_cf] at *; rw [ahead_not] at *; omega
theorem tot_cf (P : List Int) (x y : Fin n) (h1 : Go.Proofs.ltOf (cfF P) x y = false) (h2 : Go.Proofs.ltOf (cfF P) y x = false) : x = y := by
 rw [lt_cf] at *
 rw [ahead_not] at *
 exact Fin.ext (by omega)
theorem lays_cf [Inhabited (Fin n)] (gp : Nat) (A : Option Addr) (c : Nat) (P : List Int) (g : Nat) (W : World) (hp : W.cell? ⟨gp, 0, none⟩ = some (.slice A n c)) (hn : P.length = n) (hr : Row W A (P.map (Value.int .i64))) (hgp : gp ≠ g) (hA : ∀ b o, A = some ⟨b, o, none⟩ → P ≠ [] → b ≠ g) :
 Go.Proofs.CmpLays1 Tryz.prog 133 #[.pointer (some ⟨gp, 0, none⟩)] (encF (n := n)) (cfF P) g 0 n W := by
 intro m os dk hdk x y
 have hc := chg_sort (encF (n := n)) W g m dk os
 exact closure_any gp A n c P x.val y.val _ (hc.cell hp hgp) hn x.isLt y.isLt (hr.chg hc fun b o hA' hl => hA b o hA' (by rintro rfl; exact hl rfl))
theorem sorted_ord {P : List Int} (hn : P.length = n) : ((Array.ofFn (n := n) fun i => i).toList.mergeSort fun x y => !(Go.Proofs.ltOf (cfF P) y x)).map (fun i : Fin n => i.val) = ordL P := by
 refine (ord_of ?_ ?_).is
 ·refine ((List.mergeSort_perm _ _).map _).trans ?_
  have e : ((Array.ofFn (n := n) fun i => i).toList).map (fun i : Fin n => i.val) = List.range P.length := by
   rw [Array.toList_ofFn]
   apply List.ext_getElem?
   intro i
   rw [List.getElem?_map, List.getElem?_ofFn]
   by_cases hi : i < n
   ·rw [dif_pos hi, List.getElem?_range (by omega)]; rfl
   ·rw [dif_neg hi, List.getElem?_eq_none (l := List.range P.length) (by simp; omega)]; rfl
  rw [e]
 ·rw [List.pairwise_map]
  refine (List.pairwise_mergeSort ?_ ?_ _).imp ?_
  ·intro a b c h1 h2
   rw [lt_cf, Bool.not_eq_true'] at *
   rw [ahead_not] at *
   omega
  ·intro a b
   rw [lt_cf, lt_cf, Bool.or_eq_true, Bool.not_eq_true', Bool.not_eq_true']
   cases h : aheadB P b.val a.val
   ·exact .inl rfl
   ·exact .inr (ahead_asymm h)
  ·intro a b h
   rw [lt_cf, Bool.not_eq_true'] at h
   exact h
end
theorem int_info : (Tryz.prog.info? 3).map (fun i => (i.zero, i.size, i.bytes)) = some (some (.int .i64 0), 1, 8) := by kernel_rfl
def Nums (w : World) (l : List Int) (e : Ending) (w' : World) : Prop := ∃ A c, e = .returned (.slice A l.length c) ∧ Row w' A (l.map (Value.int .i64)) ∧ Same w w'
/-- .. in a row of the call's own -/
def NumsF (w : World) (l : List Int) (e : Ending) (w' : World) : Prop := ∃ A c, e = .returned (.slice A l.length c) ∧ Row w' A (l.map (Value.int .i64)) ∧ Same w w' ∧ ∀ b o, A = some ⟨b, o, none⟩ → w.heap.size ≤ b
theorem numsF_mk {w w' : World} {l : List Int} {A : Option Addr} {n c : Nat} (hn : n = l.length) (hr : Row w' A (l.map (Value.int .i64))) (hs : Same w w') (hf : ∀ b o, A = some ⟨b, o, none⟩ → w.heap.size ≤ b) : NumsF w l (.returned (.slice A n c)) w' := by
 subst hn
 exact ⟨A, c, rfl, hr, hs, hf⟩
theorem ordL_len (P : List Int) : (ordL P).length = P.length := (isOrd_ordL P).len
def fillF (k : Nat) (x : Nat) : Int := if x < k then (x : Int) else 0
theorem fill_set {n k : Nat} (h : k < n) : (IL n (fillF k)).set k (.int .i64 (k : Int)) = IL n (fillF (k + 1)) := by
 rw [IL_set _ _ h]
 apply IL_congr
 intro x _
 unfold fillF
 by_cases hx : x = k
 ·rw [if_pos hx, if_pos (by omega), hx]
 ·rw [if_neg hx]
  by_cases hk : x < k
  ·rw [if_pos hk, if_pos (by omega)]
  ·rw [if_neg hk, if_neg (by omega)]
set_option maxRecDepth 100000 in
set_option maxHeartbeats 1000000 in
theorem order_any (A : Option Addr) (n c : Nat) (P : List Int) (w : World) (hn : P.length = n) (hm : n ≤ 5000) (hr : Row w A (P.map (Value.int .i64))) :
 Calls Tryz.prog 116 #[.slice A n c] w (NumsF w (nI (ordL P))) := by
 obtain ⟨i0, hi, hz0, hz1, hz2⟩ := info_parts int_info
 have HN := Lib.hid hn
 have HR := Lib.hid hr
 have hs0 := (Same.refl w).alloc (.cells #[.slice A n c] 32)
 have HS0 := Lib.hid hs0
 have HB0 := Lib.hid (Blk.new w 32 #[.slice A n c])
 clear hs0 hn hr
 go_enter Tryz.func116, Tryz.ntmps116
 go_wp2_with fail
 generalize hw1 : w.alloc (.cells #[.slice A n c] 32) = w1 at *
 have hsz : w1.heap.size = w.heap.size + 1 := by rw [← hw1]; simp
 generalize hgp : w.heap.size = gp at *
 obtain ⟨w2, hrun, ho, hg⟩ := run_make_full (P := Tryz.prog) w1 w1.heap.size 32 3 i0 _ 1 Tryz.underlying32 hi hz0 hz1 .i64 .i64 n (by rw [hz2]; omega) (by unfold maxLen; omega) (Nat.le_refl _)
 rw [hrun]
 clear hrun hw1
 have s2 : Same w1 w2 := (Chg.of_grown hg).weak fun g _ h => by cases h
 rw [made_IL] at ho
 have HO2 := Lib.hid (show OwnK w2 w1.heap.size 3 1 (some ⟨w1.heap.size, 0, none⟩) n n (IL n (fillF 0)) from by
  have e : IL n (fillF 0) = IL n (fun _ => 0) := IL_congr fun x _ => by unfold fillF; rw [if_neg (by omega)]
  rw [e]
  exact ho)
 have HS2 := Lib.hid (HS0.out.trans s2)
 have HB2 := Lib.hid (HB0.out.same s2)
 have HQ := Lib.hid hsz
 clear ho hg s2 hsz HS0 HB0
 generalize w1.heap.size = q at *
 go_wp2_with fail
 have HST := Lib.hid (show gp < q from by have := HQ.out; omega)
 have HFR : Hid (∀ b o, (some ⟨q, 0, none⟩ : Option Addr) = some ⟨b, o, none⟩ → w.heap.size ≤ b) := Lib.hid (fun b o h => by
  injection h with h
  injection h with h _
  have := HST.out
  omega)
 go_loopg [10] n (fun gk iv wx => ∃ k : Nat, k + gk = n ∧ iv = .int .i64 k ∧ OwnK wx q 3 1 (some ⟨q, 0, none⟩) n n (IL n (fillF k)) ∧ Blk wx gp 32 #[.slice A n c] ∧ Same w wx)
 case atStart => exact ⟨0, by omega, rfl, HO2.out, HB2.out, HS2.out⟩
 case round =>
  clear HO2 HB2 HS2
  obtain ⟨k, hk, rfl, ho, hb, sx⟩ := hrel
  have HO := Lib.hid ho
  have HB := Lib.hid hb
  have HS := Lib.hid sx
  clear ho hb sx
  cases gk with
  | zero =>
   obtain rfl : n = k := by omega
   have hge : ¬ (n : Int) < (n : Int) := by omega
   have hfl : IL n (fillF n) = IL n (fun x => (x : Int)) := IL_congr fun x hx => by unfold fillF; rw [if_pos hx]
   by_cases h0 : n = 0
   ·have hnone := Lib.hid (Tryz.slices_SortFunc_none (α := Nat) (some ⟨q, 0, none⟩) n (.func (.func 133) #[] #[.pointer (some ⟨gp, 0, none⟩)]) wr)
    have hP : nI (ordL P) = [] := by
     apply List.eq_nil_of_length_eq_zero
     rw [nI_len, ordL_len, HN.out, h0]
    have HPP := Lib.hid hP
    subst h0
    clear hfl hP
    go_wp2_with fail
    refine hnone.out.mono ?_
    rintro e w3 ⟨rfl, rfl⟩
    go_wp2_with fail
    go_ret
    exact numsF_mk (by rw [HPP.out]; rfl) (by rw [HPP.out]; exact Row.nil _ _) HS.out HFR.out
   ·haveI : Inhabited (Fin n) := ⟨⟨0, by omega⟩⟩
    have hds : (Array.ofFn (n := n) fun i => i).size = n := Array.size_ofFn
    have hcells : IL n (fillF n) = (Array.ofFn (n := n) fun i => i).toList.map (encF (n := n)) := by
     rw [hfl, Array.toList_ofFn]
     apply List.ext_getElem?
     intro i
     rw [List.getElem?_map, List.getElem?_ofFn]
     by_cases hi : i < n
     ·rw [dif_pos hi, IL_get _ hi]; rfl
     ·rw [dif_neg hi, List.getElem?_eq_none (by rw [IL_len]; omega)]; rfl
    have hrow := HR.out.same HS.out
    have hold := holds_of HO.out (encF (n := n)) _ hcells
    have hlays := lays_cf (n := n) gp A c P q wr (HB.out.cell 0) HN.out hrow (by have := HST.out; omega) (by
     intro b o hA hP
     obtain ⟨x, xs, rfl⟩ := List.exists_cons_of_ne_nil hP
     obtain ⟨b', o', hA', hc⟩ := HR.out 0 _ rfl
     rw [hA] at hA'
     injection hA' with hA'
     injection hA' with e1 _
     have hlt : b' < w.heap.size := World.block_lt_of_cell? w _ hc
     have := HST.out
     have := HQ.out
     omega)
    have hcon := Tryz.slices_SortFunc_total (encF (n := n)) (fun _ => rfl) (cfF P) (swo_cf P) 133 #[.pointer (some ⟨gp, 0, none⟩)] q 0 n (Array.ofFn (n := n) fun i => i) wr (enters_of Tryz.func133 (by kernel_rfl) rfl) (by rw [hds]; exact hlays) hold (HO.out.lt.2.1) (by rw [hds]; omega) (tot_cf P)
    rw [hds] at hcon
    have HCON := Lib.hid hcon
    have hso := sorted_ord (n := n) HN.out
    have HSO := Lib.hid hso
    clear hfl hds hcells hrow hold hlays hcon hso
    generalize ((Array.ofFn (n := n) fun i => i).toList.mergeSort fun x y => !(Go.Proofs.ltOf (cfF P) y x)) = M at *
    go_wp2_with fail
    refine HCON.out.mono ?_
    rintro e w3 ⟨rfl, nd, os, rfl⟩
    have hlen : M.length = n := by
     have h := congrArg List.length HSO.out
     rw [List.length_map, ordL_len, HN.out] at h
     exact h
    have ho3 := own_sort HO.out (encF (n := n)) nd M.toArray os (by simp [hlen])
    have hc3 := chg_sort (encF (n := n)) wr q nd M.toArray os
    have hs3 : Same w (sortWorld (encF (n := n)) wr q 0 nd M.toArray os) := HS.out.more hc3 (by
     rintro i rfl
     have := HST.out
     have := HQ.out
     omega)
    have hrow3 : Row (sortWorld (encF (n := n)) wr q 0 nd M.toArray os) (some ⟨q, 0, none⟩) ((nI (ordL P)).map (Value.int .i64)) := by
     have e : (nI (ordL P)).map (Value.int .i64) = M.toArray.toList.map (encF (n := n)) := by
      rw [← HSO.out]
      unfold nI
      rw [List.map_map, List.map_map]
      rfl
     rw [e]
     exact ho3.row
    have HS3 := Lib.hid hs3
    have HR3 := Lib.hid hrow3
    have hl3 : n = (nI (ordL P)).length := by rw [nI_len, ordL_len, HN.out]
    clear ho3 hc3 hs3 hrow3 hlen
    generalize sortWorld (encF (n := n)) wr q 0 nd M.toArray os = w3 at *
    have HL3 := Lib.hid hl3
    clear hl3
    go_wp2_with fail
    go_ret
    exact numsF_mk HL3.out HR3.out HS3.out HFR.out
  | succ GK =>
   have hlt : (k : Int) < n := by omega
   have hk0 : (0 : Int) ≤ k := by omega
   have hkn : k < n := by omega
   have c0 := own1_get HO.out (IL_get _ hkn)
   have t0 := own1_thaw HO.out k
   have ho3 := own1_set HO.out k (.int .i64 (k : Int))
   rw [fill_set hkn] at ho3
   have HO3 := Lib.hid ho3
   have HS3 := Lib.hid (HS.out.set (p := ⟨q, k, none⟩) (.inr (by have := HST.out; have := HQ.out; simp only; omega)) (.int .i64 (k : Int)))
   have HB3 := Lib.hid (HB.out.chg (Chg.set (S := fun i => i = q) (Chg.refl _ wr) (p := ⟨q, k, none⟩) (.inl rfl) (.int .i64 (k : Int))) (by have := HST.out; omega))
   clear ho3
   go_wp2_with fail
   go_roundg GK
   case rel => exact ⟨k + 1, by omega, by go_num, HO3.out, HB3.out, HS3.out⟩
   case measure => omega

/-- the ranks of those that stand below the k-th place -/
def rkF (P : List Int) (k x : Nat) : Int := if rankN P x < k then (rankN P x : Int) else 0
theorem rk_set {P : List Int} {k i : Nat} (hk : (ordL P)[k]? = some i) : (IL P.length (rkF P k)).set i (.int .i64 (k : Int)) = IL P.length (rkF P (k + 1)) := by
 have ho := isOrd_ordL P
 rw [IL_set _ _ (ho.lt hk)]
 apply IL_congr
 intro x hx
 have hri := ho.rank hk
 unfold rkF
 by_cases h : x = i
 ·rw [if_pos h, h, hri, if_pos (by omega)]
 ·rw [if_neg h]
  have hne : rankN P x ≠ k := by
   intro e
   have := ho.at_rank hx
   rw [e, hk] at this
   injection this with this
   exact h this.symm
  by_cases hr : rankN P x < k
  ·rw [if_pos hr, if_pos (by omega)]
  ·rw [if_neg hr, if_neg (by omega)]
theorem rk_end (P : List Int) : IL P.length (rkF P P.length) = (nI (rankL P)).map (Value.int .i64) := by
 unfold nI rankL IL
 rw [List.map_map, List.map_map]
 apply List.map_congr_left
 intro x hx
 unfold rkF
 rw [if_pos (rank_lt (List.mem_range.1 hx))]
 rfl
theorem nI_get {l : List Nat} {k i : Nat} (h : l[k]? = some i) : ((nI l).map (Value.int .i64))[k]? = some (.int .i64 (i : Int)) := by
 unfold nI
 rw [List.getElem?_map, List.getElem?_map, h]
 rfl
set_option maxRecDepth 100000 in
set_option maxHeartbeats 1000000 in
theorem ranksF_any (A : Option Addr) (n c : Nat) (P : List Int) (w : World) (hn : P.length = n) (hm : n ≤ 5000) (hr : Row w A (P.map (Value.int .i64))) :
 Calls Tryz.prog 96 #[.slice A n c] w (NumsF w (nI (rankL P))) := by
 obtain ⟨i0, hi, hz0, hz1, hz2⟩ := info_parts int_info
 have HN := Lib.hid hn
 have OD := Lib.hid (fun w' (s : Same w w') => order_any A n c P w' hn hm (hr.same s))
 clear hn hr
 go_enter Tryz.func96, Tryz.ntmps96
 go_wp2_with fail
 obtain ⟨w2, hrun, ho, hg⟩ := run_make_full (P := Tryz.prog) w w.heap.size 32 3 i0 _ 1 Tryz.underlying32 hi hz0 hz1 .i64 .i64 n (by rw [hz2]; omega) (by unfold maxLen; omega) (Nat.le_refl _)
 rw [hrun]
 clear hrun
 have s2 : Same w w2 := (Chg.of_grown hg).weak fun g _ h => by cases h
 rw [made_IL] at ho
 have HO2 := Lib.hid (show OwnK w2 w.heap.size 3 1 (some ⟨w.heap.size, 0, none⟩) n n (IL n (rkF P 0)) from by
  have e : IL n (rkF P 0) = IL n (fun _ => 0) := IL_congr fun x _ => by unfold rkF; rw [if_neg (by omega)]
  rw [e]
  exact ho)
 have HS2 := Lib.hid s2
 clear ho hg s2
 generalize hq : w.heap.size = q at *
 go_wp2_with fail
 refine (OD.out _ HS2.out).mono ?_
 rintro e w3 ⟨A3, c3, rfl, r3, s3, f3⟩
 have HF3 := Lib.hid f3
 have HQ2 := Lib.hid (HO2.out.lt.2.1)
 have HR3 := Lib.hid r3
 have HO3 := Lib.hid (HO2.out.same s3)
 have HS3 := Lib.hid (HS2.out.trans s3)
 have hl3 : (nI (ordL P)).length = n := by rw [nI_len, ordL_len, HN.out]
 rw [hl3]
 have HQ := Lib.hid hq
 clear r3 s3 f3 HO2 HS2 hl3 hq
 go_wp2_with fail
 go_loopg [12] n (fun gk iv wx => ∃ k : Nat, k + gk = n ∧ iv = .int .i64 k ∧ OwnK wx q 3 1 (some ⟨q, 0, none⟩) n n (IL n (rkF P k)) ∧ Row wx A3 ((nI (ordL P)).map (Value.int .i64)) ∧ Same w wx)
 case atStart => exact ⟨0, by omega, rfl, HO3.out, HR3.out, HS3.out⟩
 case round =>
  clear HO3 HR3 HS3
  obtain ⟨k, hk, rfl, ho, hr, sx⟩ := hrel
  have HO := Lib.hid ho
  have HR := Lib.hid hr
  have HS := Lib.hid sx
  clear ho hr sx
  cases gk with
  | zero =>
   obtain rfl : n = k := by omega
   have hge : ¬ (n : Int) < (n : Int) := by omega
   have hl : n = (nI (rankL P)).length := by rw [nI_len, rankL_len, HN.out]
   have HL := Lib.hid hl
   have hrw : Row wr (some ⟨q, 0, none⟩) ((nI (rankL P)).map (Value.int .i64)) := by
    rw [← rk_end P, HN.out]
    exact HO.out.row
   have HRW := Lib.hid hrw
   clear hl hrw
   go_wp2_with fail
   go_ret
   exact numsF_mk HL.out HRW.out HS.out (fun b o hA => by injection hA with hA; injection hA with e1 e2; have := HQ.out; omega)
  | succ GK =>
   have hlt : (k : Int) < n := by omega
   have hk0 : (0 : Int) ≤ k := by omega
   have hkn : k < n := by omega
   obtain ⟨i, hik⟩ : ∃ i, (ordL P)[k]? = some i := ⟨_, List.getElem?_eq_getElem (by rw [ordL_len, HN.out]; exact hkn)⟩
   have hin : i < n := by have := (isOrd_ordL P).lt hik; rw [HN.out] at this; exact this
   obtain ⟨b3, o3, rfl, y3⟩ := HR.out k _ (nI_get hik)
   have hi0 : (0 : Int) ≤ i := by omega
   have hi1 : (i : Int) < n := by omega
   have c0 := own1_get HO.out (IL_get _ hin)
   have t0 := own1_thaw HO.out i
   have ho3 := own1_set HO.out i (.int .i64 (k : Int))
   have hrs := rk_set hik
   rw [HN.out] at hrs
   rw [hrs] at ho3
   have HO3 := Lib.hid ho3
   have hnb : b3 ≠ q := by
    have h1 := HF3.out b3 o3 rfl
    have h2 := HQ2.out
    omega
   have HS3 := Lib.hid (HS.out.set (p := ⟨q, i, none⟩) (.inr (by have := HQ.out; simp only; omega)) (.int .i64 (k : Int)))
   have HR3 := Lib.hid (HR.out.chg (Chg.set (S := fun i => i = q) (Chg.refl _ wr) (p := ⟨q, i, none⟩) (.inl rfl) (.int .i64 (k : Int))) (by
    intro b o hA _ hb
    injection hA with hA
    injection hA with e1 _
    subst e1
    exact hnb hb))
   clear ho3 hrs hnb hik
   go_wp2_with fail
   go_roundg GK
   case rel => exact ⟨k + 1, by omega, by go_num, HO3.out, HR3.out, HS3.out⟩
   case measure => omega

end Go.Proofs.YthhbhbfkbncegaaGreatDoor.Bo
end
end
