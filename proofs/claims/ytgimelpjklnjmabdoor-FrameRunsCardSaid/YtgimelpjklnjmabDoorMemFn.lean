/-

  The law's helpers on memories (layer 13): a memory of words, and a memory's words.
-/
import Derived.Test.YtgimelpjklnjmabDoorMemMore
set_option linter.unusedSimpArgs false
set_option linter.unusedVariables false
namespace Go.Proofs.YtgimelpjklnjmabDoor.Mm
open Go.ChangeShapes Go.WideShapes Go.ChangeAt Go.RowKit Ws

theorem memory_any (C : Option Addr) (n d : Nat) (ys : List Int) (w : World) (hy : ys.length = n) (hn : n ≤ 4096) (hr : Row w C (ys.map (Value.int .u32))) :
    Calls Tryd.prog 14 #[.slice C n d] w fun e w' => ∃ g, e = .returned (.pointer (some ⟨g, 0, none⟩)) ∧ Same w w' ∧ Mem w' (fun i => w.heap.size ≤ i) g ys 0 := by
  have HY := Lib.hid hy
  have HR := Lib.hid hr
  clear hy hr
  go_enter Tryd.func14, Tryd.ntmps14
  go_wp2_with fail
  refine (new_any n hn _).mono ?_
  rintro e w1 ⟨rfl, s1, m1⟩
  have HM := Lib.hid m1
  have HS := Lib.hid s1
  clear m1 s1
  go_wp2_with fail
  refine (fill_all _ HM.out (by simp) C d ys HY.out (HR.out.same HS.out)).mono ?_
  rintro e w2 ⟨rfl, m2, c2⟩
  have HM2 := Lib.hid m2
  have HC2 := Lib.hid c2
  clear m2 c2
  go_wp2
  go_ret
  exact ⟨_, rfl, HS.out.more HC2.out (fun i hi => hi), HM2.out⟩

theorem words_any {R : Nat → Prop} {g : Nat} {l : List Int} {s : Int} (w : World) (h : Mem w R g l s) :
    Calls Tryd.prog 18 #[.pointer (some ⟨g, 0, none⟩)] w fun e w' => ∃ g' c', e = .returned (.slice (some ⟨g', 0, none⟩) l.length c') ∧ Same w w' ∧ Own w' w.heap.size 22 (some ⟨g', 0, none⟩) c' (l.map (Value.int .u32)) := by
  obtain ⟨n, hn⟩ : ∃ n, n = l.length := ⟨_, rfl⟩
  have HN := Lib.hid hn.symm
  have HM := Lib.hid h
  rw [← hn]
  clear h
  have HL := Lib.hid (len_any w HM.out)
  rw [HN.out] at HL
  clear hn
  go_enter Tryd.func18, Tryd.ntmps18
  go_wp2_with fail
  refine HL.out.mono ?_
  rintro e w' ⟨rfl, rfl⟩
  go_wp2_with fail
  refine (look_all _ HM.out HN.out).mono ?_
  rintro e w1 ⟨g', c', rfl, s1, o1⟩
  have HO := Lib.hid o1
  have HS := Lib.hid s1
  clear o1 s1
  go_wp2
  go_ret
  exact ⟨g', c', rfl, HS.out, HO.out⟩

end Go.Proofs.YtgimelpjklnjmabDoor.Mm
