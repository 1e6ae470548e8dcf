/-

  What the loops of SystemCopies keep.
-/
import Derived.Test.YtaclphhbdfoaeaaDoorSysChk
import Derived.Test.YtaclphhbdfoaeaaDoorIsaLead
import Derived.Test.YtaclphhbdfoaeaaDoorSysMu
import Derived.Test.YtaclphhbdfoaeaaDoorSysFew
section
set_option linter.unusedVariables false
set_option linter.unusedSimpArgs false
namespace Go.Proofs.YtaclphhbdfoaeaaDoor.Sy
open Go.ChangeShapes Go.WideShapes Go.ChangeAt Go.RowKit Ws
open Go.Proofs.YtaclphhbdfoaeaaDoor.Im (PT PO PS TsAt OsAt SysAt tcells ocells)
open Go.Proofs.YtaclphhbdfoaeaaDoor.Is (Tabs)
open Go.Proofs.YtaclphhbdfoaeaaDoor.Ly (three_same)

theorem ics {w : World} {b : Nat} {T : TypeId} {v0 v1 v2 v3 v4 : Value} (h : Blk w b T #[v0, v1, v2, v3, v4]) : w.cell? ⟨b, 0, none⟩ = some v0 ∧ w.cell? ⟨b, 1, none⟩ = some v1 ∧ w.cell? ⟨b, 2, none⟩ = some v2 ∧ w.cell? ⟨b, 3, none⟩ = some v3 ∧ w.cell? ⟨b, 4, none⟩ = some v4 :=
  ⟨h.cell 0, h.cell 1, h.cell 2, h.cell 3, h.cell 4⟩
set_option maxRecDepth 100000 in
theorem call0_any (S : Value) (i op xa xb xc xn : Int) (n : Nat) (A B : Option Addr) (c m d : Nat) (hS : S = .agg #[.slice A n c, .slice B m d]) (hn : 0 ≤ xn ∧ xn < 4294967296) (hc : Is.callB op = false) (w : World) (hT : Tabs w) :
    Calls Tryd.prog 40 #[S, .int .i64 i, .agg #[.int .i64 op, .int .i64 xa, .int .i64 xb, .int .i64 xc, .int .u32 xn]] w fun e w' => e = .returned (.tuple #[.int .i64 (-1), .int .i64 0]) ∧ Same w w' := by
  subst hS
  have hs1 := ((Same.refl w).alloc (.cells #[.slice A n c, .slice B m d] 25)).alloc (.cells #[.int .i64 op, .int .i64 xa, .int .i64 xb, .int .i64 xc, .int .u32 xn] 35)
  have hb := Blk.new (w.alloc (.cells #[.slice A n c, .slice B m d] 25)) 35 #[.int .i64 op, .int .i64 xa, .int .i64 xb, .int .i64 xc, .int .u32 xn]
  rw [World.size_alloc] at hb
  obtain ⟨b0, b1, b2, b3, b4⟩ := ics hb
  have CA := Lib.hid (Is.calls_any op xa xb xc xn hn _ (hT.same hs1))
  rw [hc, Bool.and_false] at CA
  have HS := Lib.hid hs1
  clear hs1 hb hn hc hT
  go_enter Tryd.func40, Tryd.ntmps40
  go_wp2_with fail
  refine CA.out.mono ?_
  rintro e w1 ⟨he, s1⟩
  rw [if_neg (by decide)] at he
  subst he
  have HS1 := Lib.hid (HS.out.trans s1)
  clear s1
  unfold Is.ret3b
  go_wp2_with fail
  go_ret2
  exact ⟨rfl, HS1.out⟩
set_option maxRecDepth 100000 in
set_option maxHeartbeats 1000000 in
theorem calls0_any (A B : Option Addr) (n c m d : Nat) (ts : List PT) (w : World) (hn : ts.length = n) (hnb : n ≤ 5000) (ht : TsAt w A ts) (hf : ∀ p ∈ ts, p.code.length ≤ 200 ∧ ∀ x ∈ p.code, Is.callB x.op = false) (hT : Tabs w) :
    Calls Tryd.prog 26 #[.agg #[.slice A n c, .slice B m d]] w (FltP w (nw, 0)) := by
  have HF := Lib.hid (fb_new w A n c B m d)
  have HN := Lib.hid hn
  have HT := Lib.hid ht
  have HFW := Lib.hid hf
  have HTB := Lib.hid hT
  clear hn ht hf hT
  obtain ⟨a0, a1⟩ := HF.out.sc
  go_enter Tryd.func26, Tryd.ntmps26
  go_wp2_with fail
  clear a0 a1
  go_loopg [13] n (fun gk iv wx => ∃ k : Nat, k + gk = n ∧ iv = .int .i64 k ∧ FB w wx A n c B m d)
  case atStart => exact ⟨0, by omega, rfl, HF.out⟩
  case round =>
    rename World => wo
    obtain ⟨k, hk, rfl, hfb⟩ := hrel
    have HFB := Lib.hid hfb
    clear hfb
    cases gk with
    | zero =>
      obtain rfl : n = k := by omega
      have hge : ¬ (n : Int) < (n : Int) := by omega
      go_wp2_with fail
      refine (nowhere_any _).mono ?_
      rintro e wn ⟨rfl, sn⟩
      have HFN := Lib.hid (HFB.out.to sn)
      clear sn
      obtain ⟨⟨r0, r1, r2⟩, k0, k1, k2⟩ := HFN.out.rc
      go_wp2_with fail
      refine bodyPost_ret (v := .tuple #[.agg #[.int .i64 (-1), .int .i64 (-1), .int .i64 (-1)], .int .i64 (0)]) (res2 Tryd.results26 _ _ (w.heap.size + 1) 43 #[.int .i64 (-1), .int .i64 (-1), .int .i64 (-1)] (0, 0) _ rfl (b3put HFN.out.res _ _ _) Tryd.underlying43 rfl spot_size) rfl ?_
      exact flt_mk (rfl) (three_same HFN.out.same (by omega) _ _ _)
    | succ GK =>
      have hlt : (k : Int) < n := by omega
      have k0 : (0 : Int) ≤ k := by omega
      obtain ⟨x, hx⟩ : ∃ x, ts[k]? = some x := ⟨_, List.getElem?_eq_getElem (by have := HN.out; omega)⟩
      obtain ⟨b, o, rfl, X, cX, c0, c1, c2, c3, c4, c5, c6, hcode, _⟩ := (HT.out.same HFB.out.same).at_ hx
      have hcl := HFW.out x (List.mem_of_getElem? hx)
      clear hx
      obtain ⟨kind, prio, per, off, dl, own, code⟩ := x
      simp only at c0 c1 c2 c3 c4 c5 c6 hcode hcl
      have hs2 := (Same.refl wo).alloc (.cells #[.int .i64 kind, .int .i64 prio, .int .i64 per, .int .i64 off, .int .i64 dl, .int .i64 own, .slice X code.length cX] 32)
      have HF2 := Lib.hid (HFB.out.to hs2)
      have HCD := Lib.hid (hcode.same hs2)
      have HTB2 := Lib.hid ((HTB.out.same HFB.out.same).same hs2)
      have HCL := Lib.hid hcl.2
      obtain ⟨q0, q1, q2, q3, q4, q5, q6⟩ := tcs (Blk.new wo 32 #[.int .i64 kind, .int .i64 prio, .int .i64 per, .int .i64 off, .int .i64 dl, .int .i64 own, .slice X code.length cX])
      have hml := hcl.1
      obtain ⟨ml, hmle⟩ : ∃ ml, ml = code.length := ⟨_, rfl⟩
      have HML := Lib.hid hmle
      rw [← hmle] at c6 q0 q1 q2 q3 q4 q5 q6 hs2 hml HF2 HCD HTB2
      clear hs2 hcode hcl hmle
      obtain ⟨w2, hw2⟩ : ∃ w2, w2 = wo.alloc (.cells #[.int .i64 kind, .int .i64 prio, .int .i64 per, .int .i64 off, .int .i64 dl, .int .i64 own, .slice X ml cX] 32) := ⟨_, rfl⟩
      rw [← hw2] at HF2 HCD HTB2
      have E2 := Lib.hid hw2
      clear hw2
      go_wp2_with fail
      rw [← E2.out]
      clear E2 q0 q1 q2 q3 q4 q5 q6 c0 c1 c2 c3 c4 c5 c6
      go_loopg [21] ml (fun gj jv wy => ∃ j : Nat, j + gj = ml ∧ jv = .int .i64 j ∧ Same w2 wy)
      case atStart => exact ⟨0, by omega, rfl, Same.refl _⟩
      case round =>
        obtain ⟨j, hj, rfl, sj⟩ := hrel
        have HSJ := Lib.hid sj
        clear sj
        cases gk with
        | zero =>
          obtain rfl : ml = j := by omega
          have hge2 : ¬ (ml : Int) < (ml : Int) := by omega
          have HF3 := Lib.hid (HF2.out.to HSJ.out)
          go_wp2_with fail
          go_roundg GK
          case rel => exact ⟨k + 1, by omega, by go_num, HF3.out⟩
          case measure => omega
        | succ GJ =>
          have hlt2 : (j : Int) < ml := by omega
          have j0 : (0 : Int) ≤ j := by omega
          obtain ⟨y, hy⟩ : ∃ y, code[j]? = some y := ⟨_, List.getElem?_eq_getElem (by have := HML.out; omega)⟩
          obtain ⟨hyn, b2, o2, hX, hcells⟩ := (HCD.out.same HSJ.out) j y hy
          have hcb := HCL.out y (List.mem_of_getElem? hy)
          clear hy
          obtain ⟨op, xa, xb, xc, xn⟩ := y
          subst hX
          have e0 := hcells 0 _ rfl
          have e1 := hcells 1 _ rfl
          have e2 := hcells 2 _ rfl
          have e3 := hcells 3 _ rfl
          have e4 := hcells 4 _ rfl
          rw [Nat.add_zero] at e0
          simp only at hyn hcb e0 e1 e2 e3 e4
          clear hcells
          have hs5 := (Same.refl wr).alloc (.cells #[.int .i64 op, .int .i64 xa, .int .i64 xb, .int .i64 xc, .int .u32 xn] 35)
          obtain ⟨y0, y1, y2, y3, y4⟩ := ics (Blk.new wr 35 #[.int .i64 op, .int .i64 xa, .int .i64 xb, .int .i64 xc, .int .u32 xn])
          have HF5 := Lib.hid ((HF2.out.to HSJ.out).to hs5)
          have HS5 := Lib.hid (HSJ.out.trans hs5)
          have CA := Lib.hid (call0_any (.agg #[.slice (some ⟨b, o, none⟩) n c, .slice B m d]) k op xa xb xc xn n _ _ c m d rfl hyn hcb _ ((HTB2.out.same HSJ.out).same hs5))
          obtain ⟨a0, a1⟩ := HF5.out.sc
          clear hs5 hyn hcb
          go_wp2_with fail
          refine CA.out.mono ?_
          rintro e w6 ⟨rfl, s6⟩
          have HS6 := Lib.hid (HS5.out.trans s6)
          clear s6
          go_wp2_with fail
          go_roundg GJ
          case rel => exact ⟨j + 1, by omega, by go_num, HS6.out⟩
          case measure => omega
end Go.Proofs.YtaclphhbdfoaeaaDoor.Sy
end
section
section
set_option linter.unusedVariables false
set_option linter.unusedSimpArgs false
namespace Go.Proofs.YtaclphhbdfoaeaaDoor.Sy
open Go.ChangeShapes Go.WideShapes Go.ChangeAt Go.RowKit Ws
open Go.Proofs.YtaclphhbdfoaeaaDoor.Im (PT PO PS TsAt OsAt SysAt tcells ocells)
open Go.Proofs.YtaclphhbdfoaeaaDoor.Is (Tabs)
open Go.Proofs.YtaclphhbdfoaeaaDoor.Ly (three_same)

def i32 : Im.Ins := ⟨21, 0, 0, 0, 0⟩
def t32 : PT := ⟨1, 0, 9, 0, 9, 1, [i32]⟩
theorem code32 {w : World} {h : Nat} (hb : Blk w h 35 #[.int .i64 21, .int .i64 0, .int .i64 0, .int .i64 0, .int .u32 0]) : Im.Code w (some ⟨h, 0, none⟩) [i32] := by
  intro i x hx
  match i, hx with
  | 0, hx =>
    simp at hx
    subst hx
    refine ⟨by decide, h, 0, rfl, fun j v hv => ?_⟩
    have := hb.cell j
    rw [show (0 : Nat) + 0 * 5 + j = j by omega, this]
    simpa [Im.icells, i32] using hv
theorem ts32 {w : World} {g h : Nat} (hc : Im.Code w (some ⟨h, 0, none⟩) [i32]) (hb : Blk w g 32 #[.int .i64 1, .int .i64 0, .int .i64 9, .int .i64 0, .int .i64 9, .int .i64 1, .slice (some ⟨h, 0, none⟩) 1 1]) : TsAt w (some ⟨g, 0, none⟩) [t32] := by
  intro i x hx
  match i, hx with
  | 0, hx =>
    simp at hx
    subst hx
    refine ⟨g, 0, rfl, some ⟨h, 0, none⟩, 1, fun j v hv => ?_, hc, by decide⟩
    have := hb.cell j
    rw [show (0 : Nat) + 0 * 7 + j = j by omega, this]
    simpa [tcells, t32] using hv
theorem tks32 {w : World} {g h : Nat} (hb : Blk w g 32 #[.int .i64 1, .int .i64 0, .int .i64 9, .int .i64 0, .int .i64 9, .int .i64 1, .slice (some ⟨h, 0, none⟩) 1 1]) : Tk.Tasks w (some ⟨g, 0, none⟩) [⟨1, 0, 9, 0, 9, 1, some ⟨h, 0, none⟩, 1, 1⟩] := by
  intro i x hx
  match i, hx with
  | 0, hx =>
    simp at hx
    subst hx
    refine ⟨⟨by unfold Tk.In; simp only []; omega, by unfold Tk.In; simp only []; omega, by unfold Tk.In; simp only []; omega, by unfold Tk.In; simp only []; omega, by unfold Tk.In; simp only []; omega, by unfold Tk.In; simp only []; omega⟩, g, 0, rfl, fun j v hv => ?_⟩
    have := hb.cell j
    rw [show (0 : Nat) + 0 * 7 + j = j by omega, this]
    simpa [Tk.cells] using hv
theorem te32 : tE t32 = 0 := by decide
theorem ft32 : fTasks [t32] = (nw, 0) := by
  unfold fTasks
  show ((firstN (tkf [t32]) 0).or (tkf [t32] 0)).getD (nw, 0) = (nw, 0)
  have : tkf [t32] 0 = none := by
    show (if tE t32 = 0 then none else some ((((0 : Nat) : Int), -1, tI t32), tE t32)) = (none : Option (Spt × Int))
    rw [if_pos te32]
  rw [this]
  rfl
theorem objs_nil (w : World) (B : Option Addr) : Ly.Objs w B [] := fun i t h => by simp at h
theorem check_e (w : World) : Calls Tryd.prog 11 #[.agg #[.slice none 0 0, .slice none 0 0]] w fun e w' => e = .returned (.tuple #[.agg #[.int .i64 (-1), .int .i64 (-1), .int .i64 (-1)], .int .i64 1]) ∧ Same w w' := by
  have h := check_of none none 0 0 0 0 (fun j => if j = 0 then (nw, 1) else (nw, 0)) w
    (fun _ W _ => numbers_any none none 0 0 0 0 W) (fun h => absurd (h 0 (by omega)) (by decide)) (fun h => absurd (h 0 (by omega)) (by decide)) (fun h => absurd (h 0 (by omega)) (by decide)) (fun h => absurd (h 0 (by omega)) (by decide)) (fun h => absurd (h 0 (by omega)) (by decide))
  exact h
theorem check_x (g h : Nat) (w : World) (hT : Tabs w) (hc : Im.Code w (some ⟨h, 0, none⟩) [i32]) (hb : Blk w g 32 #[.int .i64 1, .int .i64 0, .int .i64 9, .int .i64 0, .int .i64 9, .int .i64 1, .slice (some ⟨h, 0, none⟩) 1 1]) : Calls Tryd.prog 11 #[.agg #[.slice (some ⟨g, 0, none⟩) 1 1, .slice none 0 0]] w fun e w' => e = .returned (.tuple #[.agg #[.int .i64 (-1), .int .i64 (-1), .int .i64 (-1)], .int .i64 0]) ∧ Same w w' := by
  have hts := ts32 hc hb
  have h := check_of (some ⟨g, 0, none⟩) none 1 1 0 0 (fun _ => (nw, 0)) w
    (fun _ W _ => numbers_any _ none 1 1 0 0 W)
    (fun _ W hs => by
      have := tasks_any (some ⟨g, 0, none⟩) none 1 1 0 0 [t32] W rfl (by omega) (hts.same hs) (fun p hp => by simp at hp; subst hp; decide) (hT.same hs)
      rw [ft32] at this
      exact this)
    (fun _ W _ => objects0 _ none 1 1 0 W) (fun _ W _ => users0 _ none 1 1 0 W)
    (fun _ W hs => calls0_any (some ⟨g, 0, none⟩) none 1 1 0 0 [t32] W rfl (by omega) (hts.same hs) (fun p hp => by simp at hp; subst hp; exact ⟨by decide, fun x hx => by simp [t32] at hx; subst hx; rfl⟩) (hT.same hs))
    (fun _ W hs => room_any (some ⟨g, 0, none⟩) none 1 1 0 0 [⟨1, 0, 9, 0, 9, 1, some ⟨h, 0, none⟩, 1, 1⟩] [] W rfl rfl (by omega) (by omega) (tks32 (hb.same hs)) (objs_nil _ _) (fun L hL => by
      have : some [1] = some L := hL
      injection this with this
      subst this
      exact ⟨rfl, fun x hx => by simp at hx; omega⟩))
  exact h
set_option maxRecDepth 100000 in
theorem awake32 (w : World) (hT : Tabs w) : Calls Tryd.prog 5 #[] w fun e w' => e = .returned (.bool true) ∧ Same w w' := by
  have CE := Lib.hid (fun w' => check_e w')
  have HTB := Lib.hid hT
  clear hT
  go_enter Tryd.func5, Tryd.ntmps5
  go_wp2_with fail
  refine (CE.out _).mono ?_
  rintro e w1 ⟨rfl, s1⟩
  have s2 := s1.alloc (.cells #[.int .i64 (-1), .int .i64 (-1), .int .i64 (-1)] 43)
  have HS2 := Lib.hid s2
  clear s1 s2 CE
  go_upto_region 2 with fail
  obtain ⟨w2, hw2⟩ : ∃ w2, w2 = w1.alloc (.cells #[.int .i64 (-1), .int .i64 (-1), .int .i64 (-1)] 43) := ⟨_, rfl⟩
  rw [← hw2] at HS2
  rw [← hw2]
  clear hw2
  have b1 := Blk.new w2 35 #[.int .i64 21, .int .i64 0, .int .i64 0, .int .i64 0, .int .u32 0]
  have s3 := (Same.refl w2).alloc (.cells #[.int .i64 21, .int .i64 0, .int .i64 0, .int .i64 0, .int .u32 0] 35)
  obtain ⟨h, hh⟩ : ∃ h, h = w2.heap.size := ⟨_, rfl⟩
  have b2 := Blk.new (w2.alloc (.cells #[.int .i64 21, .int .i64 0, .int .i64 0, .int .i64 0, .int .u32 0] 35)) 32 #[.int .i64 1, .int .i64 0, .int .i64 9, .int .i64 0, .int .i64 9, .int .i64 1, .slice (some ⟨h, 0, none⟩) 1 1]
  have s4 := (Same.refl (w2.alloc (.cells #[.int .i64 21, .int .i64 0, .int .i64 0, .int .i64 0, .int .u32 0] 35))).alloc (.cells #[.int .i64 1, .int .i64 0, .int .i64 9, .int .i64 0, .int .i64 9, .int .i64 1, .slice (some ⟨h, 0, none⟩) 1 1] 32)
  have CX := Lib.hid (check_x _ h _ (((HTB.out.same HS2.out).same s3).same s4) ((code32 (by rw [hh]; exact b1)).same s4) b2)
  have HS4 := Lib.hid ((HS2.out.trans s3).trans s4)
  rw [World.size_alloc] at CX
  subst hh
  clear b1 s3 b2 s4
  go_wp2_with fail
  refine CX.out.mono ?_
  rintro e w5 ⟨rfl, s5⟩
  have HS5 := Lib.hid ((HS4.out.trans s5).alloc (.cells #[.int .i64 (-1), .int .i64 (-1), .int .i64 (-1)] 43))
  clear s5
  go_wp2_with fail
  go_ret
  exact ⟨rfl, HS5.out⟩
end Go.Proofs.YtaclphhbdfoaeaaDoor.Sy
end
section
set_option linter.unusedVariables false
set_option linter.unusedSimpArgs false
namespace Go.Proofs.YtaclphhbdfoaeaaDoor.Im
open Go.ChangeShapes Go.WideShapes Go.ChangeAt Go.RowKit Ws
open Go.Proofs.YtaclphhbdfoaeaaDoor.Is (Tabs)

theorem wok_of {w : World} {A B : Option Addr} {n m : Nat} {s : PS} (h : SysAt w A n B m s) : Wok s := by
  refine ⟨fun p hp y hy => ?_, fun p hp => ?_, fun p hp => ?_⟩
  · obtain ⟨i, hi⟩ := List.getElem?_of_mem hp
    obtain ⟨j, hj⟩ := List.getElem?_of_mem hy
    obtain ⟨b, o, _, X, c, _, hc, _⟩ := h.ht i p hi
    exact (hc j y hj).1
  · obtain ⟨i, hi⟩ := List.getElem?_of_mem hp
    obtain ⟨b, o, _, X, c, Y, d, _, h3, _⟩ := h.ho i p hi
    exact h3
  · obtain ⟨i, hi⟩ := List.getElem?_of_mem hp
    obtain ⟨b, o, _, X, c, Y, d, _, _, _, h5, _⟩ := h.ho i p hi
    exact h5
theorem TS.ext {w : World} {H : Nat} {A : Option Addr} {ds : List DT} {f f' : Nat → Nat → Bool} (h : TS w H A ds f) (he : ∀ (j : Nat) (d : DT) (k : Nat) (x : Ins), ds[j]? = some d → d.p.code[k]? = some x → f j k = f' j k) : TS w H A ds f' :=
  ⟨h.tb, h.hd, fun j d k x hj hx => by rw [← he j d k x hj hx]; exact h.cd j d k x hj hx⟩
/-- what all loops keep -/
structure LI (w3 wx : World) (G : Nat) (A B : Option Addr) (n c m d : Nat) (ds : List DT) (es : List DO) (f : Nat → Nat → Bool) : Prop where
  ts : TS wx w3.heap.size A ds f
  rd : RD wx w3.heap.size B es
  sm : Same w3 wx
  bx : Blk wx G 25 #[.slice A n c, .slice B m d]
theorem LI.same {w3 wx wy : World} {G : Nat} {A B : Option Addr} {n c m d : Nat} {ds : List DT} {es : List DO} {f : Nat → Nat → Bool} (h : LI w3 wx G A B n c m d ds es f) (s : Same wx wy) : LI w3 wy G A B n c m d ds es f :=
  ⟨h.ts.chg s (fun _ _ f => f.elim) (fun _ _ f => f.elim), h.rd.chg s (fun _ _ f => f.elim) (fun _ _ f => f.elim), h.sm.trans s, h.bx.same s⟩
theorem LI.prio {w3 wx : World} {G : Nat} {A B : Option Addr} {n c m d : Nat} {ds : List DT} {es : List DO} {f : Nat → Nat → Bool} (h : LI w3 wx G A B n c m d ds es f) {g : Nat} (hg : A = some ⟨g, 0, none⟩) (i : Nat) (v : Int) : LI w3 (wx.setCell ⟨g, i * 7 + 1, none⟩ (.int .i64 v)) G A B n c m d ds es f := by
  obtain ⟨h0, cs, hb⟩ := h.ts.tb g hg
  have hc := set_chg wx g (i * 7 + 1) (.int .i64 v)
  exact ⟨h.ts.prio hg i v, h.rd.chg hc (fun j cs' hj hb' => Blk.ne hb' hb (by decide) hj) (fun j cs' hj hb' => Blk.ne hb' hb (by decide) hj), h.sm.more hc (fun j hj => by have h1 : j = g := hj; omega), h.bx.chg hc (fun hj => Blk.ne h.bx hb (by decide) hj)⟩
theorem LI.op {w3 wx : World} {G : Nat} {A B : Option Addr} {n c m d : Nat} {ds : List DT} {es : List DO} {f : Nat → Nat → Bool} (h : LI w3 wx G A B n c m d ds es f) (hp : ds.Pairwise Apt) {i k : Nat} {e : DT} {x : Ins} (hi : ds[i]? = some e) (hk : e.p.code[k]? = some x) {g : Nat} (hg : e.X = some ⟨g, 0, none⟩) :
    LI w3 (wx.setCell ⟨g, k * 5, none⟩ (.int .i64 99)) G A B n c m d ds es (fun a b => (a == i && b == k) || f a b) := by
  obtain ⟨g0, hg0, h0, ⟨cs, hb⟩, _⟩ := h.ts.cd i e k x hi hk
  have eq : g0 = g := by rw [hg] at hg0; injection hg0 with hg0; injection hg0 with hg0; exact hg0.symm
  subst eq
  have hc := set_chg wx g0 (k * 5) (.int .i64 99)
  exact ⟨h.ts.op hp hi hk hg, h.rd.chg hc (fun j cs' hj hb' => Blk.ne hb' hb (by decide) hj) (fun j cs' hj hb' => Blk.ne hb' hb (by decide) hj), h.sm.more hc (fun j hj => by have h1 : j = g0 := hj; omega), h.bx.chg hc (fun hj => Blk.ne h.bx hb (by decide) hj)⟩
theorem LI.put {w3 wx : World} {G : Nat} {A B : Option Addr} {n c m d : Nat} {ds : List DT} {es : List DO} {f : Nat → Nat → Bool} (h : LI w3 wx G A B n c m d ds es f) {g k : Nat} {cs : Array Value} (hb : Blk wx g 3 cs) (hg : w3.heap.size ≤ g) (u : Int) : LI w3 (wx.setCell ⟨g, k, none⟩ (.int .i64 u)) G A B n c m d ds es f := by
  have hc := set_chg wx g k (.int .i64 u)
  exact ⟨h.ts.chg hc (fun j cs' hj hb' => Blk.ne hb' hb (by decide) hj) (fun j cs' hj hb' => Blk.ne hb' hb (by decide) hj), h.rd.put hb u, h.sm.more hc (fun j hj => by have h1 : j = g := hj; omega), h.bx.chg hc (fun hj => Blk.ne h.bx hb (by decide) hj)⟩
theorem LI.ext {w3 wx : World} {G : Nat} {A B : Option Addr} {n c m d : Nat} {ds : List DT} {es : List DO} {f f' : Nat → Nat → Bool} (h : LI w3 wx G A B n c m d ds es f) (he : ∀ (j : Nat) (d : DT) (k : Nat) (x : Ins), ds[j]? = some d → d.p.code[k]? = some x → f j k = f' j k) : LI w3 wx G A B n c m d ds es f' := ⟨h.ts.ext he, h.rd, h.sm, h.bx⟩
end Go.Proofs.YtaclphhbdfoaeaaDoor.Im
end
end
