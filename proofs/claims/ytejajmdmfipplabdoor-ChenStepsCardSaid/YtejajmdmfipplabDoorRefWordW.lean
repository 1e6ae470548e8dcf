/-

  The document's own operation: the next word of the record of a write, whatever the kind is.
-/
import Derived.Test.YtejajmdmfipplabDoorRefWord
set_option linter.unusedSimpArgs false
set_option linter.unusedVariables false
namespace Go.Proofs.YtejajmdmfipplabDoor.Rf
open Go.ChangeShapes Go.WideShapes Go.ChangeAt Go.RowKit Ws Mm Pa
open Go.Proofs.YtejajmdmfipplabDoor.Op (St Im gd get put more)

section
variable {N : Nat → Prop} {gl : Nat} {g : Nat} {x : Ox} {at_ op rd : Int} {s : St} {A : Option Addr} {c : Nat} {l : List Int} {Bl cl : Nat} {o : Im}

set_option maxHeartbeats 1000000 in
set_option maxRecDepth 100000 in
theorem rword_wr_on (w : World) (h : RB N gl w g x at_ op rd s A c) (hl : Own w Bl 22 (some ⟨gl, 0, none⟩) cl (l.map (Value.int .u32))) (hgl : g ≠ gl) (hN : ∀ i, N i → i < w.heap.size) (hNl : ¬ N gl)
    (W hd slot n cc j : Nat) (row : Int) (next : Option Nat) (wop : Int) (HH : ∀ w', Calls Tryd.prog 94 #[.agg #[.int .i64 x.k, .int .i64 x.wd, .int .i64 x.sl, .int .i64 x.cp, .int .u32 x.sa, .slice x.ia x.il x.ic, .int .i64 x.ow, .slice x.ra x.rl x.rc]] w' fun e w'' => e = .returned (.int .i64 hd) ∧ Same w' w'')
    (HW : ∀ w', Calls Tryd.prog 53 #[.int .i64 x.k] w' fun e w'' => e = .returned (.int .i64 wop) ∧ w' = w'') (hop : (op == wop) = true) (hwr : o.wr = true) (hwd : x.wd = W) (how : o.width = W) (hW : W ≤ 8) (hhd : hd ≤ 100) (hslot : slot ≤ 100)
    (hj : j = hd + slot * W + s.i) (hjn : j < n) (hn : n ≤ 5000) (hcc : n ≤ cc) (hln : o.at_ + n ≤ l.length) (hi : s.i < W) (hrc : s.rc.length = W) (hlt : s.i + 1 < W) :
    Calls Tryd.prog 97 #[.pointer (some ⟨g, 0, none⟩), .slice (some ⟨gl, o.at_, none⟩) n cc, .int .u32 slot, .int .i64 row] w (Leaves N gl g x at_ op rd Bl cl (Op.word o s l (hd + slot * W) next) w) := by
  obtain ⟨v, hv⟩ : ∃ v, v = gd s.rc s.i := ⟨_, rfl⟩
  have hK : (Op.word o s l (hd + slot * W) next) = ({ s with i := s.i + 1 }, l.set (o.at_ + j) v) := by
    simp only [Op.word, hwr, Bool.false_eq_true, if_true, if_false]
    rw [if_pos (by rw [how]; exact hlt), hv, hj]
    try rfl
  rw [hK]
  have hq : ((slot : Int) * x.wd) = ((slot * W : Nat) : Int) := by rw [hwd, Int.natCast_mul]
  have hq8 : slot * W ≤ 800 := by
    have := Nat.mul_le_mul hslot hW
    omega
  generalize slot * W = q at *
  have f0 : IntKind.i64.wrap (slot : Int) = slot := Go.IntWalk.i64_in _ (by omega)
  have f1 : IntKind.i64.wrap ((slot : Int) * x.wd) = q := by rw [hq]; exact Go.IntWalk.i64_in _ (by omega)
  have f2 : IntKind.i64.wrap ((hd : Int) + q) = (hd : Int) + q := Go.IntWalk.i64_in _ (by omega)
  have f3 : IntKind.i64.wrap ((hd : Int) + q + s.i) = (j : Int) := by rw [Go.IntWalk.i64_in _ (by omega)]; omega
  have Hq := Lib.hid hq
  have HV := Lib.hid hv
  have HJ := Lib.hid hj
  have HKK := Lib.hid hK
  have HB := Lib.hid h
  have HL := Lib.hid hl
  have HN := Lib.hid hN
  have HRC := Lib.hid hrc
  have HWD := Lib.hid hwd
  have HOW := Lib.hid how
  have HWR := Lib.hid hwr
  clear hq hv hj hK h hl hN hrc hwd how hwr
  go_enter Tryd.func97, Tryd.ntmps97
  go_wp2_with fail
  go_region_held3 (fun w' => w'.cell? ⟨g, 0, none⟩ = some (.int .i64 x.k) ∧ w'.cell? ⟨g, 1, none⟩ = some (.int .i64 x.wd) ∧ w'.cell? ⟨g, 2, none⟩ = some (.int .i64 x.sl) ∧ w'.cell? ⟨g, 3, none⟩ = some (.int .i64 x.cp) ∧ w'.cell? ⟨g, 4, none⟩ = some (.int .u32 x.sa) ∧ w'.cell? ⟨g, 5, none⟩ = some (.slice x.ia x.il x.ic) ∧ w'.cell? ⟨g, 6, none⟩ = some (.int .i64 x.ow) ∧ w'.cell? ⟨g, 7, none⟩ = some (.slice x.ra x.rl x.rc) ∧ w'.cell? ⟨g, 12, none⟩ = some (.int .i64 s.i) ∧ Same w w')
    (first | assumption | exact objR HB.out (Same.refl _).drew | (rcases ‹_ ∧ _ ∧ _ ∧ _ ∧ _ ∧ _ ∧ _ ∧ _ ∧ _ ∧ Same w _› with ⟨_, _, _, _, _, _, _, _, _, x9⟩; exact objR HB.out (x9.trans hs)))
    (first | (go_at_call 94; ((with_reducible refine (HH _).mono ?_); rintro e w' ⟨rfl, hs⟩)))
  rcases ‹_ ∧ _ ∧ _ ∧ _ ∧ _ ∧ _ ∧ _ ∧ _ ∧ _ ∧ Same w _› with ⟨_, _, _, _, _, _, _, _, _, x9⟩
  have S1 := Lib.hid x9
  have HB1 := Lib.hid (HB.out.same x9)
  clear x9 f0 f1 f2 f3
  have c0 := HB1.out.obj.1
  have c9 := HB1.out.mid.2.1
  go_wp2_with fail
  go_quiet ((go_at_call 53; exact Calls.quiet_of_same ((HW _).mono fun _ _ ⟨he, hw⟩ => ⟨he, hw.symm⟩)))
  have S2 := Lib.hid (S1.out.trans ((Same.refl w').drewN nq))
  have HB2 := Lib.hid (HB.out.same S2.out)
  have HL2 := Lib.hid (HL.out.same S2.out)
  clear c0 c9 S1 HB1
  generalize w'.drewN nq = w2 at *
  have c12 := HB2.out.mid.2.2.2.2.1
  have c38 := HB2.out.tail.1
  go_wp2_with fail
  have hA0 := own_at HB2.out.row (by rw [List.length_map, HRC.out]; omega)
  obtain ⟨b, hA⟩ := hA0
  subst hA
  have rcl := (own_cell HB2.out.row s.i (by rw [HRC.out]; exact hi)).1
  rw [← HV.out] at rcl
  have HLj : Hid (o.at_ + j < l.length) := Lib.hid (by omega)
  have lcl := (own_cell HL2.out (o.at_ + j) HLj.out).1
  have lfr := (own_cell HL2.out (o.at_ + j) HLj.out).2
  have b1 : (0 : Int) ≤ s.i := by omega
  have b2 : (s.i : Int) < W := by omega
  have b3 : (0 : Int) ≤ j := by omega
  have b4 : (j : Int) < n := by omega
  rw [HRC.out] at c38
  have hbl := (HB2.out.far b rfl).2
  go_region_held3 (fun w' => w'.cell? ⟨g, 12, none⟩ = some (.int .i64 s.i) ∧ w'.cell? ⟨g, 38, none⟩ = some (.slice (some ⟨b, 0, none⟩) W c) ∧ w'.cell? ⟨b, s.i, none⟩ = some (.int .u32 v))
    (first | assumption | exact ⟨c12, c38, rcl⟩ | exact ⟨cell_far hgl c12, cell_far hgl c38, cell_far hbl rcl⟩)
    (fail)
  have C3 : Chg (fun i => i = gl) w2 (w2.setCell ⟨gl, o.at_ + j, none⟩ (.int .u32 v)).drew := ((Chg.refl (fun i => i = gl) w2).set (p := ⟨gl, o.at_ + j, none⟩) (.inl rfl) _).drew
  have HB3 := Lib.hid (HB2.out.chg C3 (fun i hi => .inr hi) hgl)
  have L3 : Own (w2.setCell ⟨gl, o.at_ + j, none⟩ (.int .u32 v)).drew Bl 22 (some ⟨gl, 0, none⟩) cl ((l.set (o.at_ + j) v).map (Value.int .u32)) := by
    have := HL2.out.put (o.at_ + j) (.int .u32 v)
    rw [← List.map_set] at this
    exact this.same (Same.refl _).drew
  have HL3 := Lib.hid L3
  have HC3 : Hid (Chg (fun i => ¬ N i) w (w2.setCell ⟨gl, o.at_ + j, none⟩ (.int .u32 v)).drew) := Lib.hid ((S2.out.chg _).trans (C3.weak fun i _ hi => hi ▸ hNl))
  clear C3 L3 HB2 HL2 S2 c12 c38 rcl lcl lfr b1 b2 b3 b4
  generalize (w2.setCell ⟨gl, o.at_ + j, none⟩ (.int .u32 v)).drew = w3 at *
  have c12 := HB3.out.mid.2.2.2.2.1
  have f12 := HB3.out.thaw 12
  have e12 : ((s.i : Int) + 1) = ((s.i + 1 : Nat) : Int) := by omega
  have B4 := HB3.out.set 12 (.int .i64 ((s.i : Int) + 1)) { s with i := s.i + 1 } (by rw [e12]; rfl) rfl rfl
  have HB4 := Lib.hid B4
  have HC4 := Lib.hid (HC3.out.trans ((Chg.refl (fun i => i = g) w3).set (p := ⟨g, 12, none⟩) (.inl rfl) (.int .i64 ((s.i : Int) + 1)) |>.weak fun i _ hi => hi ▸ HB3.out.mine))
  have HL4 := Lib.hid (HL3.out.chg ((Chg.refl (fun i => i = g) w3).set (p := ⟨g, 12, none⟩) (.inl rfl) (.int .i64 ((s.i : Int) + 1))) (fun b' hb he => hgl (by injection hb with hb; injection hb with hb; rw [hb]; exact he.symm)))
  have k12 := B4.mid.2.2.2.2.1
  have k1 := B4.obj.2.1
  rw [← e12] at k12
  have hcmp : (s.i : Int) + 1 < x.wd := by rw [HWD.out]; first | omega | (simp; omega)
  clear B4 HB3 HL3 HC3 e12
  go_wp2_with fail
  generalize w3.setCell ⟨g, 12, none⟩ (.int .i64 ((s.i : Int) + 1)) = w4 at *
  go_quiet (fail)
  go_wp2
  go_end0
  exact ⟨rfl, ⟨_, _, HB4.out.same ((Same.refl w4).drewN nq)⟩, HL4.out.same ((Same.refl w4).drewN nq), HC4.out.trans ((Chg.refl _ w4).drewN nq)⟩

end

end Go.Proofs.YtejajmdmfipplabDoor.Rf
