/-
  The document's own operation on slots enough for all readers: each row.
-/
import Derived.Test.YtejajmdmfipplabDoorRefWordW
import Derived.Test.YtejajmdmfipplabDoorChenLay
import Derived.Test.YtejajmdmfipplabDoorOpChen
set_option linter.unusedSimpArgs false
set_option linter.unusedVariables false
namespace Go.Proofs.YtejajmdmfipplabDoor.Rf
open Go.ChangeShapes Go.WideShapes Go.ChangeAt Go.RowKit Ws Mm Pa
open Go.Proofs.YtejajmdmfipplabDoor.Op (St Im gd get put more)

section
variable {N : Nat → Prop} {gl : Nat} {g : Nat} {x : Ox} {op rd : Int} {s : St} {A : Option Addr} {c : Nat} {l : List Int} {Bl cl : Nat} {o : Im}

theorem rto_lit (w : World) (h : RB N gl w g x o.at_ op rd s A c) (i : Int) (r : Nat) (hi : i = (r : Int)) :
    Calls Tryd.prog 96 #[.pointer (some ⟨g, 0, none⟩), .int .i64 i] w fun e w' => e = .returned (.tuple #[]) ∧ RB N gl w' g x o.at_ op rd (s.to r) A c ∧ Chg (fun i => i = g) w w' := by
  subst hi
  exact rto_any w h r
theorem word_ab (o : Im) (s : St) (l : List Int) (k : Nat) (nx : Option Nat) : (Op.word o s l k nx).1.a = s.a ∧ (Op.word o s l k nx).1.b = s.b := by
  unfold Op.word
  cases o.wr
  all_goals
    simp only [Bool.false_eq_true, if_true, if_false]
    split
    · exact ⟨rfl, rfl⟩
    · cases nx <;> exact ⟨rfl, rfl⟩
theorem ab_of {w' : World} {k : Nat} {nx : Option Nat} {A' : Option Addr} {c' : Nat} (h : RB N gl w' g x o.at_ op rd (Op.word o s l k nx).1 A' c') :
    w'.cell? ⟨g, 16, none⟩ = some (.int .u32 s.a) ∧ w'.cell? ⟨g, 17, none⟩ = some (.int .u32 s.b) := by
  obtain ⟨_, _, _, _, _, _, _, _, h1, h2⟩ := h.mid
  rw [(word_ab o s l k nx).1] at h1
  rw [(word_ab o s l k nx).2] at h2
  exact ⟨h1, h2⟩

theorem rfail_any (w : World) (h : RB N gl w g x o.at_ op rd s A c) (hcp : x.cp = o.cap) (ht : s.tries < o.cap) (hc : o.cap ≤ 16) :
    Calls Tryd.prog 101 #[.pointer (some ⟨g, 0, none⟩)] w fun e w' => e = .returned (.bool (decide (o.cap ≤ s.tries + 1))) ∧ RB N gl w' g x o.at_ op rd { s with tries := s.tries + 1, rc := [], row := 0, i := 0 } none 0 ∧ Chg (fun i => i = g) w w' := by
  obtain ⟨_, _, _, c3, _⟩ := h.obj
  rw [hcp] at c3
  obtain ⟨_, _, _, _, _, c13, _⟩ := h.mid
  obtain ⟨c38, _⟩ := h.tail
  have f13 := h.thaw 13
  have f38 := h.thaw 38
  have e1 : ((s.tries : Int) + 1) = ((s.tries + 1 : Nat) : Int) := by omega
  have h1 := h.set_tries (s.tries + 1)
  have hc1 := (Chg.refl (fun i => i = g) w).set (p := ⟨g, 13, none⟩) (.inl rfl) (.int .i64 ((s.tries + 1 : Nat) : Int))
  have h2 := h1.set_rec none 0 [] (own_nil _ _) (fun b hb => by cases hb)
  have hc2 := hc1.set (p := ⟨g, 38, none⟩) (.inl rfl) (.slice none ([] : List Int).length 0)
  rw [← e1] at h1 h2 hc1 hc2
  have H2 := Lib.hid h2
  have HC2 := Lib.hid hc2
  have H0 := Lib.hid h
  have E1 := Lib.hid e1
  clear h h1 h2 hc1 hc2 e1
  go_enter Tryd.func101, Tryd.ntmps101
  go_wp2_with fail
  refine (rto_lit _ H2.out 0 0 rfl).mono ?_
  rintro e w6 ⟨rfl, R6, c6⟩
  have HR6 := Lib.hid R6
  have HC6 := Lib.hid (HC2.out.trans c6)
  obtain ⟨_, _, _, k3, _⟩ := R6.obj
  obtain ⟨_, _, _, _, _, k13, _⟩ := R6.mid
  rw [hcp] at k3
  have k13 : w6.cell? ⟨g, 13, none⟩ = some (.int .i64 ((s.tries + 1 : Nat) : Int)) := k13
  clear R6 c6 H2 HC2 H0
  go_wp2_with fail
  go_quiet (fail)
  go_wp2
  go_ret
  exact ⟨rfl, HR6.out.same ((Same.refl _).drewN _), HC6.out.trans ((Chg.refl _ _).drewN _)⟩

/-- what the document's operation keeps: of a write no set as a number -/
def dc (o : Im) (s : St) : St := if o.wr then { s with a := 0 } else s
theorem dc_wr {o : Im} (h : o.wr = true) (s : St) : dc o s = { s with a := 0 } := by unfold dc; rw [if_pos h]
theorem dc_rd {o : Im} (h : o.wr = false) (s : St) : dc o s = s := by unfold dc; rw [if_neg (by simp [h])]
theorem dc_over (o : Im) (s : St) : (dc o s).over = s.over := by unfold dc; split <;> rfl
theorem dc_more (o : Im) (s : St) : dc o (more s) = more (dc o s) := by unfold dc; split <;> rfl
theorem word_dc (o : Im) (hwr : o.wr = true) (s : St) (l : List Int) (k : Nat) (nx : Option Nat) : Op.word o (dc o s) l k nx = (dc o (Op.word o s l k nx).1, (Op.word o s l k nx).2) := by
  rw [dc_wr hwr, dc_wr hwr]
  unfold Op.word
  rw [hwr]
  simp only [if_true]
  split
  · rfl
  · cases nx <;> rfl
/-- one of the slots is noted -/
theorem RB.set_used {w : World} (h : RB N gl w g x o.at_ op rd s A c) (k : Nat) (hk : k < 20) : RB N gl (w.setCell ⟨g, 18 + k, none⟩ (.bool true)) g x o.at_ op rd { s with used := s.used.set k true } A c := by
  have h20 := h.1
  refine ⟨by rw [List.length_set]; exact h20, ?_, ?_, h.4, h.5⟩
  · have := h.2.put (18 + k) (.bool true)
    rw [List.setIfInBounds_toArray] at this
    have e : (rfCells x o.at_ op rd s A c).set (18 + k) (.bool true) = rfCells x o.at_ op rd { s with used := s.used.set k true } A c := by
      have e1 : ∀ (a0 a1 a2 a3 a4 a5 a6 a7 a8 a9 a10 a11 a12 a13 a14 a15 a16 a17 : Value) (t : List Value), (a0 :: a1 :: a2 :: a3 :: a4 :: a5 :: a6 :: a7 :: a8 :: a9 :: a10 :: a11 :: a12 :: a13 :: a14 :: a15 :: a16 :: a17 :: t).set (18 + k) (.bool true) = a0 :: a1 :: a2 :: a3 :: a4 :: a5 :: a6 :: a7 :: a8 :: a9 :: a10 :: a11 :: a12 :: a13 :: a14 :: a15 :: a16 :: a17 :: t.set k (.bool true) := by
        intros
        rw [Nat.add_comm]
        rfl
      unfold rfCells
      rw [e1]
      have e2 : (rfTail s A c).set k (.bool true) = rfTail { s with used := s.used.set k true } A c := by
        unfold rfTail
        rw [List.set_append_left _ _ (by rw [List.length_map]; omega), List.map_set]
      rw [e2]
    rw [e] at this
    exact this
  · exact h.3.chg ((Chg.refl (fun i => i = g) w).set (p := ⟨g, 18 + k, none⟩) (.inl rfl) _) (fun b hb he => h.ne b hb he)
theorem RB.used_ {w : World} (h : RB N gl w g x o.at_ op rd s A c) (k : Nat) (hk : k < 20) : w.cell? ⟨g, 18 + k, none⟩ = some (.bool (s.used.getD k false)) := by
  have h20 := h.1
  have key : ∀ k, (rfCells x o.at_ op rd s A c)[k + 18]? = (rfTail s A c)[k]? := fun k => rfl
  rw [h.2.cell, List.getElem?_toArray, Nat.add_comm, key, rfTail, List.getElem?_append_left (by rw [List.length_map]; omega), List.getElem?_map, List.getElem?_eq_getElem (by omega), List.getD_eq_getElem?_getD, List.getElem?_eq_getElem (by omega)]
  rfl
theorem rrec2 (wd sl cp sa ow : Int) (ia ra : Option Addr) (il ic rl rc : Nat) (w : World) (hrl : rl ≤ 4) : Calls Tryd.prog 95 #[.agg #[.int .i64 2, .int .i64 wd, .int .i64 sl, .int .i64 cp, .int .u32 sa, .slice ia il ic, .int .i64 ow, .slice ra rl rc]] w fun e w' => e = .returned (.int .i64 ((rl : Int) + 2)) ∧ Same w w' := by
  have f1 : IntKind.i64.wrap ((rl : Int) + 2) = (rl : Int) + 2 := Go.IntWalk.i64_in _ (by omega)
  go_enter Tryd.func95, Tryd.ntmps95
  go_wp2
  go_ret
  exact ⟨rfl, (Same.refl _).alloc _⟩
set_option maxRecDepth 100000 in
theorem rnote_any (w : World) (h : RB N gl w g x o.at_ op rd s A c) (hk : x.k = 2) (hsl : x.rl = o.n) (hn4 : o.n ≤ 4) (v : Int) (hv : 0 ≤ v ∧ v < 4294967296) :
    Calls Tryd.prog 99 #[.pointer (some ⟨g, 0, none⟩), .int .u32 v] w fun e w' => e = .returned (.tuple #[]) ∧ RB N gl w' g x o.at_ op rd { s with used := Op.noteL (Op.csl o) s.used v } A c ∧ Chg (fun i => i = g) w w' := by
  obtain ⟨c0, c1, c2, c3, c4, c5, c6, c7⟩ := h.obj
  have HB := Lib.hid h
  have hs : Op.csl o ≤ 6 := by unfold Op.csl; omega
  have f1 : IntKind.i64.wrap v = v := Go.IntWalk.i64_in _ (by omega)
  have RR : ∀ w', Calls Tryd.prog 95 #[.agg #[.int .i64 x.k, .int .i64 x.wd, .int .i64 x.sl, .int .i64 x.cp, .int .u32 x.sa, .slice x.ia x.il x.ic, .int .i64 x.ow, .slice x.ra x.rl x.rc]] w' fun e w'' => e = .returned (.int .i64 (Op.csl o : Int)) ∧ Same w' w'' := by
    intro w'
    rw [hk, show (Op.csl o : Int) = (x.rl : Int) + 2 by unfold Op.csl; omega]
    exact rrec2 x.wd x.sl x.cp x.sa x.ow x.ia x.ra x.il x.ic x.rl x.rc w' (by omega)
  by_cases hlt : v < (Op.csl o : Int)
  · obtain ⟨q, rfl⟩ := Int.eq_ofNat_of_zero_le hv.1
    have hn : Op.noteL (Op.csl o) s.used (q : Int) = s.used.set q true := by unfold Op.noteL; rw [if_pos ⟨hv.1, hlt⟩, Int.toNat_natCast]
    have b1 : decide ((q : Int) < (Op.csl o : Int)) = true := decide_eq_true hlt
    have q0 : (0 : Int) ≤ q := hv.1
    have q1 : (q : Int) < 20 := by omega
    have q2 : q < 20 := by omega
    rw [hn]
    clear h hn hv hk hsl
    go_enter Tryd.func99, Tryd.ntmps99
    go_wp2_with fail
    refine (RR _).mono ?_
    rintro e w1 ⟨rfl, s1⟩
    have HB1 := Lib.hid (HB.out.same s1)
    have HC1 := Lib.hid (s1.chg (fun i => i = g))
    have k1 := HB1.out.used_ q q2
    have k2 := HB1.out.thaw (18 + q)
    clear s1 c0 c1 c2 c3 c4 c5 c6 c7 HB RR
    go_wp2_with fail
    go_end0
    exact ⟨rfl, HB1.out.set_used q q2, HC1.out.set (p := ⟨g, 18 + q, none⟩) (.inl rfl) _⟩
  · have hn : Op.noteL (Op.csl o) s.used v = s.used := by unfold Op.noteL; rw [if_neg (by omega)]
    have b1 : decide (v < (Op.csl o : Int)) = false := decide_eq_false hlt
    rw [hn]
    clear h hn hv hk hsl
    go_enter Tryd.func99, Tryd.ntmps99
    go_wp2_with fail
    refine (RR _).mono ?_
    rintro e w1 ⟨rfl, s1⟩
    go_wp2_with fail
    go_end0
    exact ⟨rfl, HB.out.same s1, s1.chg _⟩
theorem rchoose_any (w : World) (h : RB N gl w g x o.at_ op rd s A c) (hf : Op.freeL s.used < 20) :
    Calls Tryd.prog 100 #[.pointer (some ⟨g, 0, none⟩)] w fun e w' => e = .returned (.int .u32 ((Op.freeL s.used : Nat) : Int)) ∧ w = w' := by
  have h20 := h.1
  have hlt : Op.freeL s.used < s.used.length := by omega
  have h0 : (!s.used[Op.freeL s.used]) = true := List.findIdx_getElem (p := fun b : Bool => !b) (w := hlt)
  have hb : ∀ j, j < Op.freeL s.used → s.used.getD j false = true := by
    intro j hj
    have := List.not_of_lt_findIdx (show j < s.used.findIdx (fun b => !b) from hj)
    rw [List.getD_eq_getElem?_getD, List.getElem?_eq_getElem (by omega)]
    simpa using this
  have he : s.used.getD (Op.freeL s.used) false = false := by
    rw [List.getD_eq_getElem?_getD, List.getElem?_eq_getElem hlt]
    simpa using h0
  obtain ⟨f, hfe⟩ : ∃ f, f = Op.freeL s.used := ⟨_, rfl⟩
  rw [← hfe] at hf hb he ⊢
  have HU := Lib.hid (fun k (hk : k < 20) => h.used_ k hk)
  have HBB := Lib.hid hb
  have HE := Lib.hid he
  have HF := Lib.hid hf
  clear h h0 hlt hb he hfe h20 hf
  go_enter Tryd.func100, Tryd.ntmps100
  go_wp2_with fail
  go_loopg [4] (f + 1) (fun gk i wx => ∃ k : Nat, k + gk = f + 1 ∧ 0 < gk ∧ i = .int .i64 k ∧ wx = w)
  case atStart => exact ⟨0, by omega, by omega, rfl, rfl⟩
  case round =>
    obtain ⟨k, hk, hg0, rfl, rfl⟩ := hrel
    have hkf : k ≤ f := by omega
    have u := HU.out k (by have := HF.out; omega)
    have b0 : (0 : Int) ≤ k := by omega
    have b1 : (k : Int) < 20 := by have := HF.out; omega
    have b2 : k < 20 := by omega
    have f1 : IntKind.u32.wrap (k : Int) = k := by rw [IntKind.wrap_u32']; omega
    have f2 : IntKind.i64.wrap ((k : Int) + 1) = k + 1 := Go.IntWalk.i64_in _ (by omega)
    by_cases e : k = f
    · subst e
      rw [HE.out] at u
      go_wp2_with fail
      go_ret
      exact ⟨rfl, rfl⟩
    · rw [HBB.out k (by omega)] at u
      cases gk with
      | zero => omega
      | succ gk =>
        go_wp2_with fail
        go_roundg gk
        case rel => exact ⟨k + 1, by omega, by omega, by simp, rfl⟩
        case measure => omega

set_option maxHeartbeats 1000000 in
theorem rew0 (w : World) (h : RB N gl w g x o.at_ op rd (dc o s) A c) (hl : Own w Bl 22 (some ⟨gl, 0, none⟩) cl (l.map (Value.int .u32))) (hgl : g ≠ gl) (hN : ∀ i, N i → i < w.heap.size) (hNl : ¬ N gl)
    (n cc : Nat) (hsz : 1 + o.n + Op.csl o * o.width ≤ n) (hn : n ≤ 5000) (hcc : n ≤ cc) (hln : o.at_ + n ≤ l.length) (hwl : Op.Wd l) (ok : Op.chenOk o s) (hov : s.over = false) (hop : op = 2) (hrdr : rd = o.reader) (hwr : o.wr = true) (hrow : s.row = 0) (hx : x.k = 2 ∧ x.wd = o.width ∧ x.cp = o.cap ∧ x.sl = o.slots ∧ x.rl = o.n) (hW : Op.chenAl o) :
    Calls Tryd.prog 56 #[.pointer (some ⟨g, 0, none⟩), .slice (some ⟨gl, o.at_, none⟩) n cc] w (Leaves N gl g x o.at_ op rd Bl cl (dc o (Op.chenW o s l).1, (Op.chenW o s l).2) w) := by
  subst hrdr
  subst hop
  obtain ⟨hu20, hab, hbb, hrd, htr, ok⟩ := ok
  obtain ⟨⟨w1, w8⟩, ⟨n1, n4⟩, rdn⟩ := hW
  have hcsl : Op.csl o = o.n + 2 := rfl
  have hpos : 0 < Op.csl o * o.width := Nat.mul_pos (by omega) w1
  have dr : dc o s = { s with a := 0 } := dc_wr hwr s
  rw [dr] at h
  have c11 : w.cell? ⟨g, 11, none⟩ = some (.int .i64 s.row) := h.mid.2.2.2.1
  rw [hrow] at c11
  have c12 : w.cell? ⟨g, 12, none⟩ = some (.int .i64 s.i) := h.mid.2.2.2.2.1
  have c10 : w.cell? ⟨g, 10, none⟩ = some (.int .i64 o.reader) := h.mid.2.2.1
  have c7 := h.obj.2.2.2.2.2.2.2
  rw [hx.2.2.2.2] at c7
  have f16 := h.thaw 16
  have f17 := h.thaw 17
  have f12 := h.thaw 12
  have hgm := h.mine
  have u2 : IntKind.i64.wrap ((o.n : Int) + 2) = (o.n : Int) + 2 := Go.IntWalk.i64_in _ (by omega)
  have u1 := Ch.u32_in ((o.n : Int) + 2) (by omega)
  have fm : IntKind.i64.wrap (1 + (o.reader : Int)) = 1 + o.reader := Go.IntWalk.i64_in _ (by omega)
  have hy := hwl.get o 0
  rw [Op.get_gd] at hy
  obtain ⟨y, ey⟩ : ∃ y, y = gd l (o.at_) := ⟨_, rfl⟩
  have lc := (own_cell hl (o.at_) (by omega)).1
  have e0 : o.at_ + 0 = o.at_ := rfl
  rw [e0] at hy
  rw [← ey] at lc hy
  have hn1 : (0 : Int) < n := by omega
  have hn0 : 0 < n := by omega
  have e4 : Op.chenW o s l = ({ s.to 1 with a := Op.putI s.a y, used := Op.noteL (Op.csl o) s.used y }, l) := by simp [Op.chenW, hrow, Op.get_gd, ← ey]
  have NT := fun w' (h' : RB N gl w' g x o.at_ 2 o.reader { s with a := 0 } A c) => rnote_any w' h' hx.1 hx.2.2.2.2 n4 y hy
  have HNT := Lib.hid NT
  clear NT
  clear ey
  have E4 := Lib.hid e4
  have HB := Lib.hid h
  have HL := Lib.hid hl
  have HROW := Lib.hid hrow
  have HNW := Lib.hid hN
  clear e4 h hl hN ok hrow
  go_enter Tryd.func56, Tryd.ntmps56
  go_wp2_with fail
  refine (HNT.out _ HB.out).mono ?_
  rintro e w6 ⟨rfl, R6, C6⟩
  have HR6 := Lib.hid R6
  have HCC := Lib.hid C6
  clear R6 C6
  go_wp2_with fail
  refine (rto_lit _ HR6.out 1 1 rfl).mono ?_
  rintro e w9 ⟨rfl, R9, c9⟩
  have HR9 := Lib.hid R9
  have HC9 := Lib.hid (HCC.out.trans c9)
  clear R9 c9
  go_wp2
  go_end0
  rw [E4.out, dc_wr hwr]
  exact ⟨rfl, ⟨_, _, HR9.out⟩, HL.out.chg HC9.out (fun b' hb he => hgl (by injection hb with hb; injection hb with hb; rw [hb]; exact he.symm)), HC9.out.weak fun i _ hi => hi ▸ hgm⟩

set_option maxHeartbeats 1000000 in
theorem rew1 (w : World) (h : RB N gl w g x o.at_ op rd (dc o s) A c) (hl : Own w Bl 22 (some ⟨gl, 0, none⟩) cl (l.map (Value.int .u32))) (hgl : g ≠ gl) (hN : ∀ i, N i → i < w.heap.size) (hNl : ¬ N gl)
    (n cc : Nat) (hsz : 1 + o.n + Op.csl o * o.width ≤ n) (hn : n ≤ 5000) (hcc : n ≤ cc) (hln : o.at_ + n ≤ l.length) (hwl : Op.Wd l) (ok : Op.chenOk o s) (hov : s.over = false) (hop : op = 2) (hrdr : rd = o.reader) (hwr : o.wr = true) (hrow : s.row = 1) (hx : x.k = 2 ∧ x.wd = o.width ∧ x.cp = o.cap ∧ x.sl = o.slots ∧ x.rl = o.n) (hW : Op.chenAl o)  (hlt : s.i + 1 < o.n):
    Calls Tryd.prog 56 #[.pointer (some ⟨g, 0, none⟩), .slice (some ⟨gl, o.at_, none⟩) n cc] w (Leaves N gl g x o.at_ op rd Bl cl (dc o (Op.chenW o s l).1, (Op.chenW o s l).2) w) := by
  subst hrdr
  subst hop
  obtain ⟨hu20, hab, hbb, hrd, htr, ok⟩ := ok
  obtain ⟨⟨w1, w8⟩, ⟨n1, n4⟩, rdn⟩ := hW
  have hcsl : Op.csl o = o.n + 2 := rfl
  have hpos : 0 < Op.csl o * o.width := Nat.mul_pos (by omega) w1
  have dr : dc o s = { s with a := 0 } := dc_wr hwr s
  rw [dr] at h
  have c11 : w.cell? ⟨g, 11, none⟩ = some (.int .i64 s.row) := h.mid.2.2.2.1
  rw [hrow] at c11
  have c12 : w.cell? ⟨g, 12, none⟩ = some (.int .i64 s.i) := h.mid.2.2.2.2.1
  have c10 : w.cell? ⟨g, 10, none⟩ = some (.int .i64 o.reader) := h.mid.2.2.1
  have c7 := h.obj.2.2.2.2.2.2.2
  rw [hx.2.2.2.2] at c7
  have f16 := h.thaw 16
  have f17 := h.thaw 17
  have f12 := h.thaw 12
  have hgm := h.mine
  have u2 : IntKind.i64.wrap ((o.n : Int) + 2) = (o.n : Int) + 2 := Go.IntWalk.i64_in _ (by omega)
  have u1 := Ch.u32_in ((o.n : Int) + 2) (by omega)
  have fm : IntKind.i64.wrap (1 + (o.reader : Int)) = 1 + o.reader := Go.IntWalk.i64_in _ (by omega)
  obtain ⟨_, _, _, q1, _, _, _, qn⟩ := (ok hov).2.1 hwr
  have hi := q1 hrow
  have hnt := qn (by omega)
  have hy := hwl.get o (1 + s.i)
  rw [Op.get_gd] at hy
  obtain ⟨y, ey⟩ : ∃ y, y = gd l (o.at_ + (1 + s.i)) := ⟨_, rfl⟩
  have lc := own_cell hl (o.at_ + (1 + s.i)) (by omega)
  obtain ⟨lc, lf⟩ := lc
  rw [← ey] at lc hy
  have f1 : IntKind.i64.wrap (1 + (s.i : Int)) = 1 + s.i := Go.IntWalk.i64_in _ (by omega)
  have f2 : (1 + (s.i : Int)).toNat = 1 + s.i := by omega
  have f3 : (0 : Int) ≤ 1 + s.i := by omega
  have f4 : 1 + (s.i : Int) < n := by omega
  have f5 : IntKind.i64.wrap ((s.i : Int) + 1) = s.i + 1 := Go.IntWalk.i64_in _ (by omega)
  have b1 : ((s.i : Int) + 1 == (o.n : Int)) = false := by simp; omega
  have b1' : (((s.i + 1 : Nat) : Int) == (o.n : Int)) = false := by simp; omega
  have es : ((s.i : Int) + 1) = ((s.i + 1 : Nat) : Int) := by omega
  have nm := Op.notedC_more (s := s) (by omega) hu20 hnt y
  have e4 : Op.chenW o s l = ({ s with a := Op.putI s.a y, used := Op.noteL (Op.csl o) s.used y, i := s.i + 1 }, l) := by
    simp only [Op.chenW, hrow, Op.chenM, hlt, ↓reduceIte, Op.get_gd, ← ey]
  have NT := fun w' (h' : RB N gl w' g x o.at_ 2 o.reader { s with a := 0 } A c) => rnote_any w' h' hx.1 hx.2.2.2.2 n4 y hy
  have HNT := Lib.hid NT
  clear NT
  have HES := Lib.hid es
  clear ey nm hnt es q1 qn hlt 
  have E4 := Lib.hid e4
  have HB := Lib.hid h
  have HL := Lib.hid hl
  have HROW := Lib.hid hrow
  have HNW := Lib.hid hN
  clear e4 h hl hN ok hrow
  go_enter Tryd.func56, Tryd.ntmps56
  go_wp2_with fail
  refine (HNT.out _ HB.out).mono ?_
  rintro e w2 ⟨rfl, R2, C2⟩
  have HR2 := Lib.hid R2
  have HC2 := Lib.hid C2
  clear R2 C2
  have d12 : w2.cell? ⟨g, 12, none⟩ = some (.int .i64 s.i) := HR2.out.mid.2.2.2.2.1
  have t12 := HR2.out.thaw 12
  go_wp2_with fail
  have R3 := HR2.out.set_i (s.i + 1)
  have hc3 := HC2.out.set (p := ⟨g, 12, none⟩) (.inl rfl) (.int .i64 ((s.i + 1 : Nat) : Int))
  rw [← HES.out] at R3 hc3
  have HR3 := Lib.hid R3
  have HCC := Lib.hid hc3
  clear R3 hc3 HR2 HC2
  go_end0
  rw [E4.out, dc_wr hwr]
  exact ⟨rfl, ⟨_, _, HR3.out⟩, HL.out.chg HCC.out (fun b' hb he => hgl (by injection hb with hb; injection hb with hb; rw [hb]; exact he.symm)), HCC.out.weak fun i _ hi => hi ▸ hgm⟩

set_option maxHeartbeats 1000000 in
theorem rew1l (w : World) (h : RB N gl w g x o.at_ op rd (dc o s) A c) (hl : Own w Bl 22 (some ⟨gl, 0, none⟩) cl (l.map (Value.int .u32))) (hgl : g ≠ gl) (hN : ∀ i, N i → i < w.heap.size) (hNl : ¬ N gl)
    (n cc : Nat) (hsz : 1 + o.n + Op.csl o * o.width ≤ n) (hn : n ≤ 5000) (hcc : n ≤ cc) (hln : o.at_ + n ≤ l.length) (hwl : Op.Wd l) (ok : Op.chenOk o s) (hov : s.over = false) (hop : op = 2) (hrdr : rd = o.reader) (hwr : o.wr = true) (hrow : s.row = 1) (hx : x.k = 2 ∧ x.wd = o.width ∧ x.cp = o.cap ∧ x.sl = o.slots ∧ x.rl = o.n) (hW : Op.chenAl o)  (hlt : ¬ s.i + 1 < o.n):
    Calls Tryd.prog 56 #[.pointer (some ⟨g, 0, none⟩), .slice (some ⟨gl, o.at_, none⟩) n cc] w (Leaves N gl g x o.at_ op rd Bl cl (dc o (Op.chenW o s l).1, (Op.chenW o s l).2) w) := by
  subst hrdr
  subst hop
  obtain ⟨hu20, hab, hbb, hrd, htr, ok⟩ := ok
  obtain ⟨⟨w1, w8⟩, ⟨n1, n4⟩, rdn⟩ := hW
  have hcsl : Op.csl o = o.n + 2 := rfl
  have hpos : 0 < Op.csl o * o.width := Nat.mul_pos (by omega) w1
  have dr : dc o s = { s with a := 0 } := dc_wr hwr s
  rw [dr] at h
  have c11 : w.cell? ⟨g, 11, none⟩ = some (.int .i64 s.row) := h.mid.2.2.2.1
  rw [hrow] at c11
  have c12 : w.cell? ⟨g, 12, none⟩ = some (.int .i64 s.i) := h.mid.2.2.2.2.1
  have c10 : w.cell? ⟨g, 10, none⟩ = some (.int .i64 o.reader) := h.mid.2.2.1
  have c7 := h.obj.2.2.2.2.2.2.2
  rw [hx.2.2.2.2] at c7
  have f16 := h.thaw 16
  have f17 := h.thaw 17
  have f12 := h.thaw 12
  have hgm := h.mine
  have u2 : IntKind.i64.wrap ((o.n : Int) + 2) = (o.n : Int) + 2 := Go.IntWalk.i64_in _ (by omega)
  have u1 := Ch.u32_in ((o.n : Int) + 2) (by omega)
  have fm : IntKind.i64.wrap (1 + (o.reader : Int)) = 1 + o.reader := Go.IntWalk.i64_in _ (by omega)
  obtain ⟨_, _, _, q1, _, _, _, qn⟩ := (ok hov).2.1 hwr
  have hi := q1 hrow
  have hnt := qn (by omega)
  have hy := hwl.get o (1 + s.i)
  rw [Op.get_gd] at hy
  obtain ⟨y, ey⟩ : ∃ y, y = gd l (o.at_ + (1 + s.i)) := ⟨_, rfl⟩
  have lc := own_cell hl (o.at_ + (1 + s.i)) (by omega)
  obtain ⟨lc, lf⟩ := lc
  rw [← ey] at lc hy
  have f1 : IntKind.i64.wrap (1 + (s.i : Int)) = 1 + s.i := Go.IntWalk.i64_in _ (by omega)
  have f2 : (1 + (s.i : Int)).toNat = 1 + s.i := by omega
  have f3 : (0 : Int) ≤ 1 + s.i := by omega
  have f4 : 1 + (s.i : Int) < n := by omega
  have f5 : IntKind.i64.wrap ((s.i : Int) + 1) = s.i + 1 := Go.IntWalk.i64_in _ (by omega)
  have b1 : ((s.i : Int) + 1 == (o.n : Int)) = true := by simp; omega
  have b1' : (((s.i + 1 : Nat) : Int) == (o.n : Int)) = true := by simp; omega
  have es : ((s.i : Int) + 1) = ((s.i + 1 : Nat) : Int) := by omega
  have nm := Op.notedC_more (s := s) (by omega) hu20 hnt y
  have fr := Op.free_eq ((Op.noteL_length _ _ _).trans hu20) (show Op.csl o ≤ 16 by omega) (by have := nm.2; omega) nm.1
  obtain ⟨k, hk⟩ : ∃ k, k = Op.freeL (Op.noteL (Op.csl o) s.used y) := ⟨_, rfl⟩
  have hk16 : Op.freeL (Op.noteL (Op.csl o) s.used y) < 20 := by have := fr.2; omega
  have e4 : Op.chenW o s l = ({ s.to 2 with a := Op.putI s.a y, used := Op.noteL (Op.csl o) s.used y, b := (k : Int) }, l) := by
    simp only [Op.chenW, hrow, Op.chenM, hlt, ↓reduceIte, Op.get_gd, ← ey, hk]
  have HK16 := Lib.hid hk16
  have HKK := Lib.hid hk
  have f9 : IntKind.u32.wrap (k : Int) = k := Ch.u32_in _ (by omega)
  have NT := fun w' (h' : RB N gl w' g x o.at_ 2 o.reader { s with a := 0 } A c) => rnote_any w' h' hx.1 hx.2.2.2.2 n4 y hy
  have HNT := Lib.hid NT
  clear NT
  have HES := Lib.hid es
  clear ey nm hnt es q1 qn hlt fr hk hk16
  have E4 := Lib.hid e4
  have HB := Lib.hid h
  have HL := Lib.hid hl
  have HROW := Lib.hid hrow
  have HNW := Lib.hid hN
  clear e4 h hl hN ok hrow
  go_enter Tryd.func56, Tryd.ntmps56
  go_wp2_with fail
  refine (HNT.out _ HB.out).mono ?_
  rintro e w2 ⟨rfl, R2, C2⟩
  have HR2 := Lib.hid R2
  have HC2 := Lib.hid C2
  clear R2 C2
  have d12 : w2.cell? ⟨g, 12, none⟩ = some (.int .i64 s.i) := HR2.out.mid.2.2.2.2.1
  have t12 := HR2.out.thaw 12
  go_wp2_with fail
  have R3 := HR2.out.set_i (s.i + 1)
  have hc3 := HC2.out.set (p := ⟨g, 12, none⟩) (.inl rfl) (.int .i64 ((s.i + 1 : Nat) : Int))
  rw [← HES.out] at R3 hc3
  have HR3 := Lib.hid R3
  have HCC := Lib.hid hc3
  clear R3 hc3 HR2 HC2
  clear d12 t12
  generalize w2.setCell ⟨g, 12, none⟩ (.int .i64 ((s.i : Int) + 1)) = w4 at *
  have CH := rchoose_any w4 HR3.out HK16.out
  simp only at CH
  rw [← HKK.out] at CH
  have HCH := Lib.hid CH
  clear CH
  refine HCH.out.mono ?_
  rintro e w5 ⟨rfl, rfl⟩
  have k17 := HR3.out.mid.2.2.2.2.2.2.2.2.2
  have t17 := HR3.out.thaw 17
  go_wp2_with fail
  have HR5 := Lib.hid (HR3.out.set_b (k : Int))
  have hcc := HCC.out.set (p := ⟨g, 17, none⟩) (.inl rfl) (.int .u32 (k : Int))
  clear HCC
  have HCC := Lib.hid hcc
  clear hcc k17 t17 HR3
  refine (rto_lit _ HR5.out 2 2 rfl).mono ?_
  rintro e w9 ⟨rfl, R9, c9⟩
  have HR9 := Lib.hid R9
  have HC9 := Lib.hid (HCC.out.trans c9)
  clear R9 c9
  go_wp2
  go_end0
  rw [E4.out, dc_wr hwr]
  exact ⟨rfl, ⟨_, _, HR9.out⟩, HL.out.chg HC9.out (fun b' hb he => hgl (by injection hb with hb; injection hb with hb; rw [hb]; exact he.symm)), HC9.out.weak fun i _ hi => hi ▸ hgm⟩

set_option maxHeartbeats 1000000 in
theorem rew3 (w : World) (h : RB N gl w g x o.at_ op rd (dc o s) A c) (hl : Own w Bl 22 (some ⟨gl, 0, none⟩) cl (l.map (Value.int .u32))) (hgl : g ≠ gl) (hN : ∀ i, N i → i < w.heap.size) (hNl : ¬ N gl)
    (n cc : Nat) (hsz : 1 + o.n + Op.csl o * o.width ≤ n) (hn : n ≤ 5000) (hcc : n ≤ cc) (hln : o.at_ + n ≤ l.length) (hwl : Op.Wd l) (ok : Op.chenOk o s) (hov : s.over = false) (hop : op = 2) (hrdr : rd = o.reader) (hwr : o.wr = true) (hrow : s.row = 3) (hx : x.k = 2 ∧ x.wd = o.width ∧ x.cp = o.cap ∧ x.sl = o.slots ∧ x.rl = o.n) (hW : Op.chenAl o) :
    Calls Tryd.prog 56 #[.pointer (some ⟨g, 0, none⟩), .slice (some ⟨gl, o.at_, none⟩) n cc] w (Leaves N gl g x o.at_ op rd Bl cl (dc o (Op.chenW o s l).1, (Op.chenW o s l).2) w) := by
  subst hrdr
  subst hop
  obtain ⟨hu20, hab, hbb, hrd, htr, ok⟩ := ok
  obtain ⟨⟨w1, w8⟩, ⟨n1, n4⟩, rdn⟩ := hW
  have hcsl : Op.csl o = o.n + 2 := rfl
  have hpos : 0 < Op.csl o * o.width := Nat.mul_pos (by omega) w1
  have dr : dc o s = { s with a := 0 } := dc_wr hwr s
  rw [dr] at h
  have c11 : w.cell? ⟨g, 11, none⟩ = some (.int .i64 s.row) := h.mid.2.2.2.1
  rw [hrow] at c11
  have c12 : w.cell? ⟨g, 12, none⟩ = some (.int .i64 s.i) := h.mid.2.2.2.2.1
  have c10 : w.cell? ⟨g, 10, none⟩ = some (.int .i64 o.reader) := h.mid.2.2.1
  have c7 := h.obj.2.2.2.2.2.2.2
  rw [hx.2.2.2.2] at c7
  have f16 := h.thaw 16
  have f17 := h.thaw 17
  have f12 := h.thaw 12
  have hgm := h.mine
  have u2 : IntKind.i64.wrap ((o.n : Int) + 2) = (o.n : Int) + 2 := Go.IntWalk.i64_in _ (by omega)
  have u1 := Ch.u32_in ((o.n : Int) + 2) (by omega)
  have fm : IntKind.i64.wrap (1 + (o.reader : Int)) = 1 + o.reader := Go.IntWalk.i64_in _ (by omega)
  have lc := own_cell hl (o.at_) (by omega)
  obtain ⟨lc, lf⟩ := lc
  have hn1 : (0 : Int) < n := by omega
  have c17 : w.cell? ⟨g, 17, none⟩ = some (.int .u32 s.b) := h.mid.2.2.2.2.2.2.2.2.2
  have e4 : Op.chenW o s l = (s.to 4, put o l 0 s.b) := by simp [Op.chenW, hrow]
  have E4 := Lib.hid e4
  have HB := Lib.hid h
  have HL := Lib.hid hl
  have HROW := Lib.hid hrow
  have HNW := Lib.hid hN
  clear e4 h hl hN ok hrow
  go_enter Tryd.func56, Tryd.ntmps56
  go_wp2_with fail
  clear lc lf
  have C3 : Chg (fun i => i = gl) w (w.setCell ⟨gl, o.at_, none⟩ (.int .u32 (s.b))) := ((Chg.refl (fun i => i = gl) w).set (p := ⟨gl, o.at_, none⟩) (.inl rfl) _)
  have HB3 := Lib.hid (HB.out.chg C3 (fun i hi => .inr hi) hgl)
  have L3 : Own (w.setCell ⟨gl, o.at_, none⟩ (.int .u32 (s.b))) Bl 22 (some ⟨gl, 0, none⟩) cl ((put o l (0) (s.b)).map (Value.int .u32)) := by
    have := HL.out.put (o.at_) (.int .u32 (s.b))
    rw [← List.map_set] at this
    exact this
  have HL3 := Lib.hid L3
  have HC3 : Hid (Chg (fun i => ¬ N i) w (w.setCell ⟨gl, o.at_, none⟩ (.int .u32 (s.b)))) := Lib.hid (C3.weak fun i _ hi => hi ▸ hNl)
  clear C3 L3
  generalize w.setCell ⟨gl, o.at_, none⟩ (.int .u32 (s.b)) = w3 at *
  refine (rto_lit _ HB3.out 4 4 rfl).mono ?_
  rintro e w6 ⟨rfl, R6, c6⟩
  have HR6 := Lib.hid R6
  have HC6 := Lib.hid c6
  clear R6 c6
  go_wp2
  go_end0
  rw [E4.out, dc_wr hwr]
  exact ⟨rfl, ⟨_, _, HR6.out⟩, HL3.out.chg HC6.out (fun b' hb he => hgl (by injection hb with hb; injection hb with hb; rw [hb]; exact he.symm)), HC3.out.trans (HC6.out.weak fun i _ hi => hi ▸ hgm)⟩

end

end Go.Proofs.YtejajmdmfipplabDoor.Rf
