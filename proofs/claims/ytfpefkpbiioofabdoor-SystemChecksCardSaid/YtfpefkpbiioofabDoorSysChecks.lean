/-

  SystemChecks: what is wrong of any system first, and where.
-/
import Derived.Test.YtfpefkpbiioofabDoorSysAw
import Derived.Test.YtfpefkpbiioofabDoorSysRef
section
set_option linter.unusedVariables false
set_option linter.unusedSimpArgs false
namespace Go.Proofs.YtfpefkpbiioofabDoor.Sy
open Go.ChangeShapes Go.WideShapes Go.ChangeAt Go.RowKit Ws
open Go.Proofs.YtfpefkpbiioofabDoor.Im (PT PO PS TsAt OsAt SysAt tcells ocells)
open Go.Proofs.YtfpefkpbiioofabDoor.Is (Tabs)
open Go.Proofs.YtfpefkpbiioofabDoor.Ly (three_same)

def i32 : Im.Ins := ⟨21, 0, 0, 0, 0⟩
def t32 : PT := ⟨1, 0, 9, 0, 9, 1, [i32]⟩
theorem code32 {w : World} {h : Nat} (hb : Blk w h 46 #[.int .i64 21, .int .i64 0, .int .i64 0, .int .i64 0, .int .u32 0]) : Im.Code w (some ⟨h, 0, none⟩) [i32] := by
  intro i x hx
  match i, hx with
  | 0, hx =>
    simp at hx
    subst hx
    refine ⟨by decide, h, 0, rfl, fun j v hv => ?_⟩
    have := hb.cell j
    rw [show (0 : Nat) + 0 * 5 + j = j by omega, this]
    simpa [Im.icells, i32] using hv
theorem ts32 {w : World} {g h : Nat} (hc : Im.Code w (some ⟨h, 0, none⟩) [i32]) (hb : Blk w g 49 #[.int .i64 1, .int .i64 0, .int .i64 9, .int .i64 0, .int .i64 9, .int .i64 1, .slice (some ⟨h, 0, none⟩) 1 1]) : TsAt w (some ⟨g, 0, none⟩) [t32] := by
  intro i x hx
  match i, hx with
  | 0, hx =>
    simp at hx
    subst hx
    refine ⟨g, 0, rfl, some ⟨h, 0, none⟩, 1, fun j v hv => ?_, hc, by decide⟩
    have := hb.cell j
    rw [show (0 : Nat) + 0 * 7 + j = j by omega, this]
    simpa [tcells, t32] using hv
theorem tks32 {w : World} {g h : Nat} (hb : Blk w g 49 #[.int .i64 1, .int .i64 0, .int .i64 9, .int .i64 0, .int .i64 9, .int .i64 1, .slice (some ⟨h, 0, none⟩) 1 1]) : Tk.Tasks w (some ⟨g, 0, none⟩) [⟨1, 0, 9, 0, 9, 1, some ⟨h, 0, none⟩, 1, 1⟩] := by
  intro i x hx
  match i, hx with
  | 0, hx =>
    simp at hx
    subst hx
    refine ⟨⟨by unfold Tk.In; simp only []; omega, by unfold Tk.In; simp only []; omega, by unfold Tk.In; simp only []; omega, by unfold Tk.In; simp only []; omega, by unfold Tk.In; simp only []; omega, by unfold Tk.In; simp only []; omega⟩, g, 0, rfl, fun j v hv => ?_⟩
    have := hb.cell j
    rw [show (0 : Nat) + 0 * 7 + j = j by omega, this]
    simpa [Tk.cells] using hv
theorem te32 : tE t32 = 0 := by decide
theorem ft32 : fTasks [t32] = (nw, 0) := by
  unfold fTasks
  show ((firstN (tkf [t32]) 0).or (tkf [t32] 0)).getD (nw, 0) = (nw, 0)
  have : tkf [t32] 0 = none := by
    show (if tE t32 = 0 then none else some ((((0 : Nat) : Int), -1, tI t32), tE t32)) = (none : Option (Spt × Int))
    rw [if_pos te32]
  rw [this]
  rfl
theorem objs_nil (w : World) (B : Option Addr) : Ly.Objs w B [] := fun i t h => by simp at h
theorem check_e (w : World) : Calls Tryd.prog 7 #[.agg #[.slice none 0 0, .slice none 0 0]] w fun e w' => e = .returned (.tuple #[.agg #[.int .i64 (-1), .int .i64 (-1), .int .i64 (-1)], .int .i64 1]) ∧ Same w w' := by
  have h := check_of none none 0 0 0 0 (fun j => if j = 0 then (nw, 1) else (nw, 0)) w
    (fun _ W _ => numbers_any none none 0 0 0 0 W) (fun h => absurd (h 0 (by omega)) (by decide)) (fun h => absurd (h 0 (by omega)) (by decide)) (fun h => absurd (h 0 (by omega)) (by decide)) (fun h => absurd (h 0 (by omega)) (by decide)) (fun h => absurd (h 0 (by omega)) (by decide))
  exact h
theorem check_x (g h : Nat) (w : World) (hT : Tabs w) (hc : Im.Code w (some ⟨h, 0, none⟩) [i32]) (hb : Blk w g 49 #[.int .i64 1, .int .i64 0, .int .i64 9, .int .i64 0, .int .i64 9, .int .i64 1, .slice (some ⟨h, 0, none⟩) 1 1]) : Calls Tryd.prog 7 #[.agg #[.slice (some ⟨g, 0, none⟩) 1 1, .slice none 0 0]] w fun e w' => e = .returned (.tuple #[.agg #[.int .i64 (-1), .int .i64 (-1), .int .i64 (-1)], .int .i64 0]) ∧ Same w w' := by
  have hts := ts32 hc hb
  have h := check_of (some ⟨g, 0, none⟩) none 1 1 0 0 (fun _ => (nw, 0)) w
    (fun _ W _ => numbers_any _ none 1 1 0 0 W)
    (fun _ W hs => by
      have := tasks_any (some ⟨g, 0, none⟩) none 1 1 0 0 [t32] W rfl (by omega) (hts.same hs) (fun p hp => by simp at hp; subst hp; decide) (hT.same hs)
      rw [ft32] at this
      exact this)
    (fun _ W _ => objects0 _ none 1 1 0 W) (fun _ W _ => users0 _ none 1 1 0 W)
    (fun _ W hs => calls0_any (some ⟨g, 0, none⟩) none 1 1 0 0 [t32] W rfl (by omega) (hts.same hs) (fun p hp => by simp at hp; subst hp; exact ⟨by decide, fun x hx => by simp [t32] at hx; subst hx; rfl⟩) (hT.same hs))
    (fun _ W hs => room_any (some ⟨g, 0, none⟩) none 1 1 0 0 [⟨1, 0, 9, 0, 9, 1, some ⟨h, 0, none⟩, 1, 1⟩] [] W rfl rfl (by omega) (by omega) (tks32 (hb.same hs)) (objs_nil _ _) (fun L hL => by
      have : some [1] = some L := hL
      injection this with this
      subst this
      exact ⟨rfl, fun x hx => by simp at hx; omega⟩))
  exact h
set_option maxRecDepth 100000 in
theorem awake32 (w : World) (hT : Tabs w) : Calls Tryd.prog 6 #[] w fun e w' => e = .returned (.bool true) ∧ Same w w' := by
  have CE := Lib.hid (fun w' => check_e w')
  have HTB := Lib.hid hT
  clear hT
  go_enter Tryd.func6, Tryd.ntmps6
  go_wp2_with fail
  refine (CE.out _).mono ?_
  rintro e w1 ⟨rfl, s1⟩
  have s2 := s1.alloc (.cells #[.int .i64 (-1), .int .i64 (-1), .int .i64 (-1)] 29)
  have HS2 := Lib.hid s2
  clear s1 s2 CE
  go_upto_region 2 with fail
  obtain ⟨w2, hw2⟩ : ∃ w2, w2 = w1.alloc (.cells #[.int .i64 (-1), .int .i64 (-1), .int .i64 (-1)] 29) := ⟨_, rfl⟩
  rw [← hw2] at HS2
  rw [← hw2]
  clear hw2
  have b1 := Blk.new w2 46 #[.int .i64 21, .int .i64 0, .int .i64 0, .int .i64 0, .int .u32 0]
  have s3 := (Same.refl w2).alloc (.cells #[.int .i64 21, .int .i64 0, .int .i64 0, .int .i64 0, .int .u32 0] 46)
  obtain ⟨h, hh⟩ : ∃ h, h = w2.heap.size := ⟨_, rfl⟩
  have b2 := Blk.new (w2.alloc (.cells #[.int .i64 21, .int .i64 0, .int .i64 0, .int .i64 0, .int .u32 0] 46)) 49 #[.int .i64 1, .int .i64 0, .int .i64 9, .int .i64 0, .int .i64 9, .int .i64 1, .slice (some ⟨h, 0, none⟩) 1 1]
  have s4 := (Same.refl (w2.alloc (.cells #[.int .i64 21, .int .i64 0, .int .i64 0, .int .i64 0, .int .u32 0] 46))).alloc (.cells #[.int .i64 1, .int .i64 0, .int .i64 9, .int .i64 0, .int .i64 9, .int .i64 1, .slice (some ⟨h, 0, none⟩) 1 1] 49)
  have CX := Lib.hid (check_x _ h _ (((HTB.out.same HS2.out).same s3).same s4) ((code32 (by rw [hh]; exact b1)).same s4) b2)
  have HS4 := Lib.hid ((HS2.out.trans s3).trans s4)
  rw [World.size_alloc] at CX
  subst hh
  clear b1 s3 b2 s4
  go_wp2_with fail
  refine CX.out.mono ?_
  rintro e w5 ⟨rfl, s5⟩
  have HS5 := Lib.hid ((HS4.out.trans s5).alloc (.cells #[.int .i64 (-1), .int .i64 (-1), .int .i64 (-1)] 29))
  clear s5
  go_wp2_with fail
  go_ret
  exact ⟨rfl, HS5.out⟩
end Go.Proofs.YtfpefkpbiioofabDoor.Sy
end
section
set_option linter.unusedVariables false
set_option linter.unusedSimpArgs false
namespace Go.Proofs.YtfpefkpbiioofabDoor.Sy
open Go.ChangeShapes Go.WideShapes Go.ChangeAt Go.RowKit Ws
open Go.Proofs.YtfpefkpbiioofabDoor.Im (PT PO PS TsAt OsAt SysAt tcells ocells TWf OWf SysWf)
open Go.Proofs.YtfpefkpbiioofabDoor.Is (Tabs)

set_option maxRecDepth 100000 in
set_option maxHeartbeats 2000000 in
theorem checks_walk (A B : Option Addr) (n c m d : Nat) (s : PS) (w : World) (hs : SysAt w A n B m s) (hw : SysWf s) (hnm : n ≤ maxLen ∧ m ≤ maxLen) (hT : Tabs w) :
    Calls Tryd.prog 3 #[.agg #[.slice A n c, .slice B m d]] w fun e w' => e = .returned (.bool true) ∧ Same w w' := by
  obtain ⟨tks, hl1, htk⟩ := Im.tk_of hs.ht hw.ts
  obtain ⟨obs, hl2, hob⟩ := Im.ob_of hs.ho
  rw [hs.hn] at hl1
  rw [hs.hm] at hl2
  have hs0 := (Same.refl w).alloc (.cells #[.slice A n c, .slice B m d] 25)
  have HS0 := Lib.hid hs0
  have hb0 := Blk.new w 25 #[.slice A n c, .slice B m d]
  have HB0 := Lib.hid hb0
  have FW := Lib.hid (few31 A B n c m d s 60 _ (hs.same hs0) hnm)
  have AW := Lib.hid (fun w' (h : Same w w') => awake32 w' (hT.same h))
  have CA := Lib.hid (fun w' (h : Same w w') (h1 : TFew s.ts 60) (h2 : OFew s.os 60) => check_any A B n c m d s tks obs w' (hs.same h) hw h1 h2 (hT.same h) hl1 hl2 (htk.same h) (hob.same h) (fun L hL => by have := Ly.lens_bd hL; rw [hl1, hl2] at this; exact this))
  have CR := Lib.hid (fun w' (h : Same w w') (h1 : TFew s.ts 60) (h2 : OFew s.os 60) => rcheck_sys A B n c m d s tks obs w' (hs.same h) h1 h2 hl1 hl2 (htk.same h) (hob.same h) (hT.same h))
  obtain ⟨a0, a1⟩ := (⟨hb0.cell 0, hb0.cell 1⟩ : _ ∧ _)
  simp only [List.getElem?_toArray, List.getElem?_cons_zero, List.getElem?_cons_succ] at a0 a1
  generalize chk (SF s n m (roomE tks obs)) = r at *
  clear hs0 hb0 hs hw hnm hT hl1 hl2 htk hob
  go_enter Tryd.func3, Tryd.ntmps3
  go_wp2_with fail
  refine FW.out.mono ?_
  rintro e w1 ⟨⟨b, rfl, hb⟩, s1⟩
  have HS1 := Lib.hid (HS0.out.trans s1)
  have HB1 := Lib.hid (HB0.out.same s1)
  have HBB := Lib.hid hb
  clear s1 hb FW HS0 HB0 a0 a1
  cases b with
  | false =>
    go_wp2_with fail
    refine (AW.out _ HS1.out).mono ?_
    rintro e w2 ⟨rfl, s2⟩
    have HS2 := Lib.hid (HS1.out.trans s2)
    clear s2
    go_wp2_with fail
    go_ret
    exact ⟨rfl, HS2.out⟩
  | true =>
    obtain ⟨hf1, hf2⟩ := HBB.out (by first | rfl | trivial)
    have RA := Lib.hid (CA.out _ HS1.out hf1 hf2)
    have RB := Lib.hid (fun w' h => CR.out w' h hf1 hf2)
    clear CA CR hf1 hf2
    obtain ⟨a0, a1⟩ := (⟨HB1.out.cell 0, HB1.out.cell 1⟩ : _ ∧ _)
    simp only [List.getElem?_toArray, List.getElem?_cons_zero, List.getElem?_cons_succ] at a0 a1
    obtain ⟨⟨ra, rb, rc⟩, re⟩ := r
    go_wp2_with fail
    refine RA.out.mono ?_
    rintro e w2 ⟨rfl, s2⟩
    dsimp only
    have s3 := (Same.refl w2).alloc (.cells #[.int .i64 ra, .int .i64 rb, .int .i64 rc] 29)
    have hb3 := Blk.new w2 29 #[.int .i64 ra, .int .i64 rb, .int .i64 rc]
    have HB3 := Lib.hid hb3
    have HS3 := Lib.hid ((HS1.out.trans s2).trans s3)
    obtain ⟨p0, p1⟩ := (⟨(HB1.out.same (s2.trans s3)).cell 0, (HB1.out.same (s2.trans s3)).cell 1⟩ : _ ∧ _)
    simp only [List.getElem?_toArray, List.getElem?_cons_zero, List.getElem?_cons_succ] at p0 p1
    clear s2 s3 hb3 RA HB1 HS1 a0 a1
    go_wp2_with fail
    refine (RB.out _ HS3.out).mono ?_
    rintro e w4 ⟨rfl, s4⟩
    dsimp only
    have s5 := (Same.refl w4).alloc (.cells #[.int .i64 ra, .int .i64 rb, .int .i64 rc] 29)
    have hb5 := Blk.new w4 29 #[.int .i64 ra, .int .i64 rb, .int .i64 rc]
    have HS5 := Lib.hid (HS3.out.trans (s4.trans s5))
    have hb6 := HB3.out.same (s4.trans s5)
    obtain ⟨x0, x1, x2⟩ := (⟨hb5.cell 0, hb5.cell 1, hb5.cell 2⟩ : _ ∧ _ ∧ _)
    obtain ⟨y0, y1, y2⟩ := (⟨hb6.cell 0, hb6.cell 1, hb6.cell 2⟩ : _ ∧ _ ∧ _)
    simp only [List.getElem?_toArray, List.getElem?_cons_zero, List.getElem?_cons_succ] at x0 x1 x2 y0 y1 y2
    clear s4 s5 hb5 hb6 p0 p1 HB3 HS3 RB
    go_wp2_with fail
    refine (AW.out _ HS5.out).mono ?_
    rintro e w6 ⟨rfl, s6⟩
    have HS6 := Lib.hid (HS5.out.trans s6)
    clear s6
    go_wp2_with fail
    go_ret
    exact ⟨rfl, HS6.out⟩
end Go.Proofs.YtfpefkpbiioofabDoor.Sy
end
