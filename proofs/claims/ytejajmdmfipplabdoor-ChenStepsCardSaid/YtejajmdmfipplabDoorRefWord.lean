/-

  The document's own operation: the next word of the record, whatever the kind is.
-/
import Derived.Test.YtejajmdmfipplabDoorRefBase
set_option linter.unusedSimpArgs false
set_option linter.unusedVariables false
namespace Go.Proofs.YtejajmdmfipplabDoor.Rf
open Go.ChangeShapes Go.WideShapes Go.ChangeAt Go.RowKit Ws Mm Pa
open Go.Proofs.YtejajmdmfipplabDoor.Op (St Im gd get put more)

theorem own_cell {w : World} {B g c : Nat} {e : TypeId} {l : List Int} (h : Own w B e (some ⟨g, 0, none⟩) c (l.map (Value.int .u32))) (j : Nat) (hj : j < l.length) :
    w.cell? ⟨g, j, none⟩ = some (.int .u32 (gd l j)) ∧ w.frozen? ⟨g, j, none⟩ = false := by
  obtain ⟨g', hg', _, _, hf⟩ := h.thaw (by simp; omega)
  injection hg' with hg'
  injection hg' with hg'
  subst hg'
  obtain ⟨b, o, hA, hc⟩ := h.row j (.int .u32 l[j]) (by simp [hj])
  injection hA with hA
  injection hA with e1 e2
  subst e1
  subst e2
  rw [Nat.zero_add] at hc
  refine ⟨?_, hf j⟩
  rw [hc]
  unfold gd
  rw [List.getD_eq_getElem?_getD, List.getElem?_eq_getElem hj]
  rfl
theorem cell_far {w : World} {g k gl j : Nat} (h : g ≠ gl) {u v : Value} (hc : w.cell? ⟨g, k, none⟩ = some u) : (w.setCell ⟨gl, j, none⟩ v).drew.cell? ⟨g, k, none⟩ = some u :=
  ((Chg.refl (fun i => i = gl) w).set (p := ⟨gl, j, none⟩) (.inl rfl) v).cell hc h
theorem row_one (w : World) (v : Value) (T : TypeId) : Row (w.alloc (.cells #[v] T)).drew (some ⟨w.heap.size, 0, none⟩) [v] := by
  intro j u hj
  cases j with
  | zero =>
    simp at hj
    subst hj
    exact ⟨_, _, rfl, ((Same.refl (w.alloc (.cells #[v] T))).drew).cell ((Same.refl _).new rfl)⟩
  | succ j => simp at hj
theorem rb_rec {N : Nat → Prop} {gl : Nat} {w : World} {g : Nat} {x : Ox} {at_ op rd : Int} {s : St} {A : Option Addr} {c : Nat} (h20 : s.used.length = 20) (hb : Blk w g 68 (rfCells x at_ op rd s A c).toArray) (hm : ¬ N g) (A' : Option Addr) (c' n : Nat) (r : List Int) (hn : n = r.length)
    (hr : Own w 0 22 A' c' (r.map (Value.int .u32))) (hf : ∀ b, A' = some ⟨b, 0, none⟩ → ¬ N b ∧ b ≠ gl) :
    RB N gl (w.setCell ⟨g, 38, none⟩ (.slice A' n c')) g x at_ op rd { s with rc := r } A' c' := by
  subst hn
  refine ⟨h20, ?_, hr.chg ((Chg.refl (fun i => i = g) w).set (p := ⟨g, 38, none⟩) (.inl rfl) _) (fun b hbb he => hr.ne hb (by decide) b hbb he), hf, hm⟩
  have := hb.put 38 (.slice A' r.length c')
  rw [List.setIfInBounds_toArray] at this
  have e : (rfCells x at_ op rd s A c).set 38 (.slice A' r.length c') = rfCells x at_ op rd { s with rc := r } A' c' := by
    show _ :: _ :: _ :: _ :: _ :: _ :: _ :: _ :: _ :: _ :: _ :: _ :: _ :: _ :: _ :: _ :: _ :: _ :: (rfTail s A c).set 20 _ = _
    rw [rfTail, List.set_append_right _ _ (by simp; omega), List.length_map, h20]
    rfl
  rw [e] at this
  exact this
theorem own_at {w : World} {B c : Nat} {e : TypeId} {A : Option Addr} {l : List Value} (h : Own w B e A c l) (h0 : 0 < l.length) : ∃ b, A = some ⟨b, 0, none⟩ := by
  obtain ⟨b, hb, _⟩ := h.thaw h0
  exact ⟨b, hb⟩

section
variable {N : Nat → Prop} {gl : Nat} {g : Nat} {x : Ox} {at_ op rd : Int} {s : St} {A : Option Addr} {c : Nat} {l : List Int} {Bl cl : Nat} {o : Im}

theorem objR {w w' : World} (h : RB N gl w g x at_ op rd s A c) (k : Same w w') : w'.cell? ⟨g, 0, none⟩ = some (.int .i64 x.k) ∧ w'.cell? ⟨g, 1, none⟩ = some (.int .i64 x.wd) ∧ w'.cell? ⟨g, 2, none⟩ = some (.int .i64 x.sl) ∧ w'.cell? ⟨g, 3, none⟩ = some (.int .i64 x.cp) ∧ w'.cell? ⟨g, 4, none⟩ = some (.int .u32 x.sa) ∧ w'.cell? ⟨g, 5, none⟩ = some (.slice x.ia x.il x.ic) ∧ w'.cell? ⟨g, 6, none⟩ = some (.int .i64 x.ow) ∧ w'.cell? ⟨g, 7, none⟩ = some (.slice x.ra x.rl x.rc) ∧ w'.cell? ⟨g, 12, none⟩ = some (.int .i64 s.i) ∧ Same w w' := by
  obtain ⟨a0, a1, a2, a3, a4, a5, a6, a7⟩ := (h.same k).obj
  obtain ⟨_, _, _, _, a12, _⟩ := (h.same k).mid
  exact ⟨a0, a1, a2, a3, a4, a5, a6, a7, a12, k⟩

/-- what a step leaves of the document's operation, and of the words -/
def Leaves (N : Nat → Prop) (gl g : Nat) (x : Ox) (at_ op rd : Int) (Bl cl : Nat) (r : St × List Int) (w : World) (e : Ending) (w' : World) : Prop :=
  e = .returned (.tuple #[]) ∧ (∃ A c, RB N gl w' g x at_ op rd r.1 A c) ∧ Own w' Bl 22 (some ⟨gl, 0, none⟩) cl (r.2.map (Value.int .u32)) ∧ Chg (fun i => ¬ N i) w w'

set_option maxHeartbeats 1000000 in
set_option maxRecDepth 100000 in
theorem rword_rd_on (w : World) (h : RB N gl w g x at_ op rd s A c) (hl : Own w Bl 22 (some ⟨gl, 0, none⟩) cl (l.map (Value.int .u32))) (hgl : g ≠ gl) (hN : ∀ i, N i → i < w.heap.size) (hNl : ¬ N gl)
    (W hd slot n cc j : Nat) (row : Int) (next : Option Nat) (wop : Int) (HH : ∀ w', Calls Tryd.prog 94 #[.agg #[.int .i64 x.k, .int .i64 x.wd, .int .i64 x.sl, .int .i64 x.cp, .int .u32 x.sa, .slice x.ia x.il x.ic, .int .i64 x.ow, .slice x.ra x.rl x.rc]] w' fun e w'' => e = .returned (.int .i64 hd) ∧ Same w' w'')
    (HW : ∀ w', Calls Tryd.prog 53 #[.int .i64 x.k] w' fun e w'' => e = .returned (.int .i64 wop) ∧ w' = w'') (hop : (op == wop) = false) (hwr : o.wr = false) (hwd : x.wd = W) (how : o.width = W) (hW : W ≤ 8) (hhd : hd ≤ 100) (hslot : slot ≤ 100)
    (hj : j = hd + slot * W + s.i) (hjn : j < n) (hn : n ≤ 5000) (hcc : n ≤ cc) (hln : o.at_ + n ≤ l.length) (hi : s.i < W) (hrc : s.rc.length = s.i) (hlt : s.i + 1 < W) :
    Calls Tryd.prog 97 #[.pointer (some ⟨g, 0, none⟩), .slice (some ⟨gl, o.at_, none⟩) n cc, .int .u32 slot, .int .i64 row] w (Leaves N gl g x at_ op rd Bl cl (Op.word o s l (hd + slot * W) next) w) := by
  obtain ⟨v, hv⟩ : ∃ v, v = gd l (o.at_ + j) := ⟨_, rfl⟩
  have hK : (Op.word o s l (hd + slot * W) next) = ({ s with i := s.i + 1, rc := s.rc ++ [v] }, l) := by
    simp only [Op.word, hwr, Bool.false_eq_true, if_true, if_false]
    rw [if_pos (by rw [how]; exact hlt), hv, hj]
    try rfl
  rw [hK]
  have hq : ((slot : Int) * x.wd) = ((slot * W : Nat) : Int) := by rw [hwd, Int.natCast_mul]
  have hq8 : slot * W ≤ 800 := by
    have := Nat.mul_le_mul hslot hW
    omega
  generalize slot * W = q at *
  have f0 : IntKind.i64.wrap (slot : Int) = slot := Go.IntWalk.i64_in _ (by omega)
  have f1 : IntKind.i64.wrap ((slot : Int) * x.wd) = q := by rw [hq]; exact Go.IntWalk.i64_in _ (by omega)
  have f2 : IntKind.i64.wrap ((hd : Int) + q) = (hd : Int) + q := Go.IntWalk.i64_in _ (by omega)
  have f3 : IntKind.i64.wrap ((hd : Int) + q + s.i) = (j : Int) := by rw [Go.IntWalk.i64_in _ (by omega)]; omega
  have Hq := Lib.hid hq
  have HV := Lib.hid hv
  have HJ := Lib.hid hj
  have HKK := Lib.hid hK
  have HB := Lib.hid h
  have HL := Lib.hid hl
  have HN := Lib.hid hN
  have HRC := Lib.hid hrc
  have HWD := Lib.hid hwd
  have HOW := Lib.hid how
  have HWR := Lib.hid hwr
  clear hq hv hj hK h hl hN hrc hwd how hwr
  go_enter Tryd.func97, Tryd.ntmps97
  go_wp2_with fail
  go_region_held3 (fun w' => w'.cell? ⟨g, 0, none⟩ = some (.int .i64 x.k) ∧ w'.cell? ⟨g, 1, none⟩ = some (.int .i64 x.wd) ∧ w'.cell? ⟨g, 2, none⟩ = some (.int .i64 x.sl) ∧ w'.cell? ⟨g, 3, none⟩ = some (.int .i64 x.cp) ∧ w'.cell? ⟨g, 4, none⟩ = some (.int .u32 x.sa) ∧ w'.cell? ⟨g, 5, none⟩ = some (.slice x.ia x.il x.ic) ∧ w'.cell? ⟨g, 6, none⟩ = some (.int .i64 x.ow) ∧ w'.cell? ⟨g, 7, none⟩ = some (.slice x.ra x.rl x.rc) ∧ w'.cell? ⟨g, 12, none⟩ = some (.int .i64 s.i) ∧ Same w w')
    (first | assumption | exact objR HB.out (Same.refl _).drew | (rcases ‹_ ∧ _ ∧ _ ∧ _ ∧ _ ∧ _ ∧ _ ∧ _ ∧ _ ∧ Same w _› with ⟨_, _, _, _, _, _, _, _, _, x9⟩; exact objR HB.out (x9.trans hs)))
    (first | (go_at_call 94; ((with_reducible refine (HH _).mono ?_); rintro e w' ⟨rfl, hs⟩)))
  rcases ‹_ ∧ _ ∧ _ ∧ _ ∧ _ ∧ _ ∧ _ ∧ _ ∧ _ ∧ Same w _› with ⟨_, _, _, _, _, _, _, _, _, x9⟩
  have S1 := Lib.hid x9
  have HB1 := Lib.hid (HB.out.same x9)
  clear x9 f0 f1 f2 f3
  have c0 := HB1.out.obj.1
  have c9 := HB1.out.mid.2.1
  go_wp2_with fail
  go_quiet ((go_at_call 53; exact Calls.quiet_of_same ((HW _).mono fun _ _ ⟨he, hw⟩ => ⟨he, hw.symm⟩)))
  have S2 := Lib.hid (S1.out.trans ((Same.refl w').drewN nq))
  have HB2 := Lib.hid (HB.out.same S2.out)
  have HL2 := Lib.hid (HL.out.same S2.out)
  clear c0 c9 S1 HB1
  generalize w'.drewN nq = w2 at *
  have c12 := HB2.out.mid.2.2.2.2.1
  have c38 := HB2.out.tail.1
  go_wp2_with fail
  have HLj : Hid (o.at_ + j < l.length) := Lib.hid (by omega)
  have lcl := (own_cell HL2.out (o.at_ + j) HLj.out).1
  rw [← HV.out] at lcl
  have b3 : (0 : Int) ≤ j := by omega
  have b4 : (j : Int) < n := by omega
  have f38 := HB2.out.thaw 38
  obtain ⟨i0, hi0, hz0, hz1, hz2⟩ := info_parts u32_info
  have sa := ((Same.refl w2).alloc (.cells #[.int .u32 v] 22)).drew
  have own1 := HB2.out.row.same sa
  have row1 := row_one w2 (.int .u32 v) 22
  have q38 := sa.cell c38
  have ne38 := HB2.out.ne g
  have fb := HB2.out.blk.same sa
  have HOWN := Lib.hid own1
  have HROW := Lib.hid row1
  have HQ38 := Lib.hid q38
  have HNE : Hid (∀ (e : A = some ⟨g, 0, none⟩), False) := Lib.hid (fun e => ne38 e rfl)
  have HFB := Lib.hid fb
  have HSA := Lib.hid sa
  have HLR : Hid (s.rc.length ≤ 8) := Lib.hid (by have := HRC.out; omega)
  clear sa own1 row1 ne38 fb
  have q38b : (w2.alloc (.cells #[.int .u32 v] 22)).cell? ⟨g, 38, none⟩ = some (.slice A s.rc.length c) := q38
  go_region_law ((refine step_app (by rfl) (.tmp 56) (.tmp 61) 28 (by rfl) 0 22 i0 _ 4 Tryd.underlying28 hi0 hz0 hz1 hz2 rfl A s.rc.length c (s.rc.map (Value.int .u32)) (by rfl) (List.length_map _) HOWN.out _ 1 1 [.int .u32 v] (by rfl) rfl HROW.out (words_one [v]) (by rw [List.length_map]; have := HLR.out; simp only [List.length_cons, List.length_nil]; omega) (by omega) (Nat.zero_le _) ?_; intro A' c' w5 o5 h5 hA5; have k38 := h5.cell HQ38.out (fun e => HNE.out e); have fb5 := HFB.out.chg h5 (fun e => HNE.out e); have k38f := fb5.thaw 38; have O5 := Lib.hid o5; have H5 := Lib.hid h5; have HA5 := Lib.hid hA5; clear o5 h5 hA5 fb5))
  all_goals
    have hO5 := O5.out
    have hr5 : (s.rc ++ [v]).map (Value.int .u32) = s.rc.map (Value.int .u32) ++ [.int .u32 v] := by simp
    rw [← hr5] at hO5
    have hgl2 := (own_lt HL2.out).2.1
    have far5 : ∀ b, A' = some ⟨b, 0, none⟩ → ¬ N b ∧ b ≠ gl := by
      intro b hb
      rcases HA5.out with e | e
      · rw [e] at hb
        exact HB2.out.far b hb
      · rw [e] at hb
        injection hb with hb
        injection hb with hb
        have hz : w2.heap.size + 1 = (w2.alloc (.cells #[.int .u32 v] 22)).drew.heap.size := by simp
        have hs2 := S2.out.size
        refine ⟨fun hNb => ?_, by omega⟩
        have := HN.out b hNb
        omega
    have R3 := rb_rec (x := x) (at_ := at_) (op := op) (rd := rd) HB2.out.used20 (HFB.out.chg H5.out (fun e => HNE.out e)) HB2.out.mine A' c' (s.rc.length + 1) (s.rc ++ [v]) (by simp) hO5 far5
    have c5 : Chg (fun i => ¬ N i) w2 w5 := (HSA.out.chg _).trans (H5.out.weak fun i _ hi => (HB2.out.far i hi).1)
    have c6 := c5.set (p := ⟨g, 38, none⟩) (.inl HB2.out.mine) (.slice A' (s.rc.length + 1) c')
    have l5 := ((HL2.out.same HSA.out).chg H5.out (fun b hb he => by injection hb with hb; injection hb with hb; subst hb; exact (HB2.out.far _ he).2 rfl)).chg ((Chg.refl (fun i => i = g) w5).set (p := ⟨g, 38, none⟩) (.inl rfl) (.slice A' (s.rc.length + 1) c')) (fun b hb he => hgl (by injection hb with hb; injection hb with hb; rw [hb]; exact he.symm))
    have HB3 := Lib.hid R3
    have HL3 := Lib.hid l5
    have HC3 : Hid (Chg (fun i => ¬ N i) w (w5.setCell ⟨g, 38, none⟩ (.slice A' (s.rc.length + 1) c'))) := Lib.hid ((S2.out.chg _).trans c6)
    clear hO5 hr5 R3 c5 c6 l5 far5 k38 k38f q38 q38b c38 c12 lcl f38 b3 b4
    generalize w5.setCell ⟨g, 38, none⟩ (.slice A' (s.rc.length + 1) c') = w3 at *
    have c12 := HB3.out.mid.2.2.2.2.1
    have f12 := HB3.out.thaw 12
    have e12 : ((s.i : Int) + 1) = ((s.i + 1 : Nat) : Int) := by omega
    have B4 := HB3.out.set 12 (.int .i64 ((s.i : Int) + 1)) { { s with rc := s.rc ++ [v] } with i := s.i + 1 } (by rw [e12]; rfl) rfl rfl
    have HB4 := Lib.hid B4
    have HC4 := Lib.hid (HC3.out.trans ((Chg.refl (fun i => i = g) w3).set (p := ⟨g, 12, none⟩) (.inl rfl) (.int .i64 ((s.i : Int) + 1)) |>.weak fun i _ hi => hi ▸ HB3.out.mine))
    have HL4 := Lib.hid (HL3.out.chg ((Chg.refl (fun i => i = g) w3).set (p := ⟨g, 12, none⟩) (.inl rfl) (.int .i64 ((s.i : Int) + 1))) (fun b' hb he => hgl (by injection hb with hb; injection hb with hb; rw [hb]; exact he.symm)))
    have k12 := B4.mid.2.2.2.2.1
    have k1 := B4.obj.2.1
    rw [← e12] at k12
    have hcmp : (s.i : Int) + 1 < x.wd := by rw [HWD.out]; first | omega | (simp; omega)
    clear B4 HB3 HL3 HC3 e12
    go_wp2_with fail
    generalize w3.setCell ⟨g, 12, none⟩ (.int .i64 ((s.i : Int) + 1)) = w4 at *
    go_quiet (fail)
    go_wp2
    go_end0
    exact ⟨rfl, ⟨_, _, HB4.out.same ((Same.refl w4).drewN nq)⟩, HL4.out.same ((Same.refl w4).drewN nq), HC4.out.trans ((Chg.refl _ w4).drewN nq)⟩

set_option maxHeartbeats 1000000 in
set_option maxRecDepth 100000 in
theorem rword_wr_to (w : World) (h : RB N gl w g x at_ op rd s A c) (hl : Own w Bl 22 (some ⟨gl, 0, none⟩) cl (l.map (Value.int .u32))) (hgl : g ≠ gl) (hN : ∀ i, N i → i < w.heap.size) (hNl : ¬ N gl)
    (W hd slot n cc j : Nat) (row : Int) (r : Nat) (wop : Int) (HH : ∀ w', Calls Tryd.prog 94 #[.agg #[.int .i64 x.k, .int .i64 x.wd, .int .i64 x.sl, .int .i64 x.cp, .int .u32 x.sa, .slice x.ia x.il x.ic, .int .i64 x.ow, .slice x.ra x.rl x.rc]] w' fun e w'' => e = .returned (.int .i64 hd) ∧ Same w' w'')
    (HW : ∀ w', Calls Tryd.prog 53 #[.int .i64 x.k] w' fun e w'' => e = .returned (.int .i64 wop) ∧ w' = w'') (hop : (op == wop) = true) (hwr : o.wr = true) (hwd : x.wd = W) (how : o.width = W) (hW : W ≤ 8) (hhd : hd ≤ 100) (hslot : slot ≤ 100)
    (hj : j = hd + slot * W + s.i) (hjn : j < n) (hn : n ≤ 5000) (hcc : n ≤ cc) (hln : o.at_ + n ≤ l.length) (hi : s.i < W) (hrc : s.rc.length = W) (hlt : ¬ s.i + 1 < W) (hrow : row = (r : Int)) :
    Calls Tryd.prog 97 #[.pointer (some ⟨g, 0, none⟩), .slice (some ⟨gl, o.at_, none⟩) n cc, .int .u32 slot, .int .i64 row] w (Leaves N gl g x at_ op rd Bl cl (Op.word o s l (hd + slot * W) (some r)) w) := by
  obtain ⟨v, hv⟩ : ∃ v, v = gd s.rc s.i := ⟨_, rfl⟩
  have hK : (Op.word o s l (hd + slot * W) (some r)) = ((({ s with i := s.i + 1 } : St).to r), l.set (o.at_ + j) v) := by
    simp only [Op.word, hwr, Bool.false_eq_true, if_true, if_false]
    rw [if_neg (by rw [how]; exact hlt), hv, hj]
    try rfl
  rw [hK]
  have hq : ((slot : Int) * x.wd) = ((slot * W : Nat) : Int) := by rw [hwd, Int.natCast_mul]
  have hq8 : slot * W ≤ 800 := by
    have := Nat.mul_le_mul hslot hW
    omega
  generalize slot * W = q at *
  have f0 : IntKind.i64.wrap (slot : Int) = slot := Go.IntWalk.i64_in _ (by omega)
  have f1 : IntKind.i64.wrap ((slot : Int) * x.wd) = q := by rw [hq]; exact Go.IntWalk.i64_in _ (by omega)
  have f2 : IntKind.i64.wrap ((hd : Int) + q) = (hd : Int) + q := Go.IntWalk.i64_in _ (by omega)
  have f3 : IntKind.i64.wrap ((hd : Int) + q + s.i) = (j : Int) := by rw [Go.IntWalk.i64_in _ (by omega)]; omega
  have Hq := Lib.hid hq
  have HV := Lib.hid hv
  have HJ := Lib.hid hj
  have HKK := Lib.hid hK
  have HB := Lib.hid h
  have HL := Lib.hid hl
  have HN := Lib.hid hN
  have HRC := Lib.hid hrc
  have HWD := Lib.hid hwd
  have HOW := Lib.hid how
  have HWR := Lib.hid hwr
  clear hq hv hj hK h hl hN hrc hwd how hwr
  go_enter Tryd.func97, Tryd.ntmps97
  go_wp2_with fail
  go_region_held3 (fun w' => w'.cell? ⟨g, 0, none⟩ = some (.int .i64 x.k) ∧ w'.cell? ⟨g, 1, none⟩ = some (.int .i64 x.wd) ∧ w'.cell? ⟨g, 2, none⟩ = some (.int .i64 x.sl) ∧ w'.cell? ⟨g, 3, none⟩ = some (.int .i64 x.cp) ∧ w'.cell? ⟨g, 4, none⟩ = some (.int .u32 x.sa) ∧ w'.cell? ⟨g, 5, none⟩ = some (.slice x.ia x.il x.ic) ∧ w'.cell? ⟨g, 6, none⟩ = some (.int .i64 x.ow) ∧ w'.cell? ⟨g, 7, none⟩ = some (.slice x.ra x.rl x.rc) ∧ w'.cell? ⟨g, 12, none⟩ = some (.int .i64 s.i) ∧ Same w w')
    (first | assumption | exact objR HB.out (Same.refl _).drew | (rcases ‹_ ∧ _ ∧ _ ∧ _ ∧ _ ∧ _ ∧ _ ∧ _ ∧ _ ∧ Same w _› with ⟨_, _, _, _, _, _, _, _, _, x9⟩; exact objR HB.out (x9.trans hs)))
    (first | (go_at_call 94; ((with_reducible refine (HH _).mono ?_); rintro e w' ⟨rfl, hs⟩)))
  rcases ‹_ ∧ _ ∧ _ ∧ _ ∧ _ ∧ _ ∧ _ ∧ _ ∧ _ ∧ Same w _› with ⟨_, _, _, _, _, _, _, _, _, x9⟩
  have S1 := Lib.hid x9
  have HB1 := Lib.hid (HB.out.same x9)
  clear x9 f0 f1 f2 f3
  have c0 := HB1.out.obj.1
  have c9 := HB1.out.mid.2.1
  go_wp2_with fail
  go_quiet ((go_at_call 53; exact Calls.quiet_of_same ((HW _).mono fun _ _ ⟨he, hw⟩ => ⟨he, hw.symm⟩)))
  have S2 := Lib.hid (S1.out.trans ((Same.refl w').drewN nq))
  have HB2 := Lib.hid (HB.out.same S2.out)
  have HL2 := Lib.hid (HL.out.same S2.out)
  clear c0 c9 S1 HB1
  generalize w'.drewN nq = w2 at *
  have c12 := HB2.out.mid.2.2.2.2.1
  have c38 := HB2.out.tail.1
  go_wp2_with fail
  have hA0 := own_at HB2.out.row (by rw [List.length_map, HRC.out]; omega)
  obtain ⟨b, hA⟩ := hA0
  subst hA
  have rcl := (own_cell HB2.out.row s.i (by rw [HRC.out]; exact hi)).1
  rw [← HV.out] at rcl
  have HLj : Hid (o.at_ + j < l.length) := Lib.hid (by omega)
  have lcl := (own_cell HL2.out (o.at_ + j) HLj.out).1
  have lfr := (own_cell HL2.out (o.at_ + j) HLj.out).2
  have b1 : (0 : Int) ≤ s.i := by omega
  have b2 : (s.i : Int) < W := by omega
  have b3 : (0 : Int) ≤ j := by omega
  have b4 : (j : Int) < n := by omega
  rw [HRC.out] at c38
  have hbl := (HB2.out.far b rfl).2
  go_region_held3 (fun w' => w'.cell? ⟨g, 12, none⟩ = some (.int .i64 s.i) ∧ w'.cell? ⟨g, 38, none⟩ = some (.slice (some ⟨b, 0, none⟩) W c) ∧ w'.cell? ⟨b, s.i, none⟩ = some (.int .u32 v))
    (first | assumption | exact ⟨c12, c38, rcl⟩ | exact ⟨cell_far hgl c12, cell_far hgl c38, cell_far hbl rcl⟩)
    (fail)
  have C3 : Chg (fun i => i = gl) w2 (w2.setCell ⟨gl, o.at_ + j, none⟩ (.int .u32 v)).drew := ((Chg.refl (fun i => i = gl) w2).set (p := ⟨gl, o.at_ + j, none⟩) (.inl rfl) _).drew
  have HB3 := Lib.hid (HB2.out.chg C3 (fun i hi => .inr hi) hgl)
  have L3 : Own (w2.setCell ⟨gl, o.at_ + j, none⟩ (.int .u32 v)).drew Bl 22 (some ⟨gl, 0, none⟩) cl ((l.set (o.at_ + j) v).map (Value.int .u32)) := by
    have := HL2.out.put (o.at_ + j) (.int .u32 v)
    rw [← List.map_set] at this
    exact this.same (Same.refl _).drew
  have HL3 := Lib.hid L3
  have HC3 : Hid (Chg (fun i => ¬ N i) w (w2.setCell ⟨gl, o.at_ + j, none⟩ (.int .u32 v)).drew) := Lib.hid ((S2.out.chg _).trans (C3.weak fun i _ hi => hi ▸ hNl))
  clear C3 L3 HB2 HL2 S2 c12 c38 rcl lcl lfr b1 b2 b3 b4
  generalize (w2.setCell ⟨gl, o.at_ + j, none⟩ (.int .u32 v)).drew = w3 at *
  have c12 := HB3.out.mid.2.2.2.2.1
  have f12 := HB3.out.thaw 12
  have e12 : ((s.i : Int) + 1) = ((s.i + 1 : Nat) : Int) := by omega
  have B4 := HB3.out.set 12 (.int .i64 ((s.i : Int) + 1)) { s with i := s.i + 1 } (by rw [e12]; rfl) rfl rfl
  have HB4 := Lib.hid B4
  have HC4 := Lib.hid (HC3.out.trans ((Chg.refl (fun i => i = g) w3).set (p := ⟨g, 12, none⟩) (.inl rfl) (.int .i64 ((s.i : Int) + 1)) |>.weak fun i _ hi => hi ▸ HB3.out.mine))
  have HL4 := Lib.hid (HL3.out.chg ((Chg.refl (fun i => i = g) w3).set (p := ⟨g, 12, none⟩) (.inl rfl) (.int .i64 ((s.i : Int) + 1))) (fun b' hb he => hgl (by injection hb with hb; injection hb with hb; rw [hb]; exact he.symm)))
  have k12 := B4.mid.2.2.2.2.1
  have k1 := B4.obj.2.1
  rw [← e12] at k12
  have hcmp : decide ((s.i : Int) + 1 < x.wd) = false := by rw [HWD.out]; first | omega | (simp; omega)
  clear B4 HB3 HL3 HC3 e12
  go_wp2_with fail
  generalize w3.setCell ⟨g, 12, none⟩ (.int .i64 ((s.i : Int) + 1)) = w4 at *
  go_quiet (fail)
  have HB5 := Lib.hid (HB4.out.same ((Same.refl w4).drewN nq))
  have HL5 := Lib.hid (HL4.out.same ((Same.refl w4).drewN nq))
  have HC5 := Lib.hid (HC4.out.trans ((Chg.refl _ w4).drewN nq))
  clear HB4 HL4 HC4 k12 k1 hcmp
  generalize w4.drewN nq = w7 at *
  subst hrow
  have hr0 : ¬ (r : Int) < 0 := by omega
  go_wp2_with fail
  refine (rto_any _ HB5.out r).mono ?_
  rintro e w6 ⟨rfl, R6, c6⟩
  have HR6 := Lib.hid R6
  have HC6 := Lib.hid c6
  clear R6 c6
  go_wp2
  go_end0
  exact ⟨rfl, ⟨_, _, HR6.out⟩, HL5.out.chg HC6.out (fun b' hb he => hgl (by injection hb with hb; injection hb with hb; rw [hb]; exact he.symm)), HC5.out.trans (HC6.out.weak fun i _ hi => hi ▸ HB5.out.mine)⟩

set_option maxHeartbeats 1000000 in
set_option maxRecDepth 100000 in
theorem rword_rd_to (w : World) (h : RB N gl w g x at_ op rd s A c) (hl : Own w Bl 22 (some ⟨gl, 0, none⟩) cl (l.map (Value.int .u32))) (hgl : g ≠ gl) (hN : ∀ i, N i → i < w.heap.size) (hNl : ¬ N gl)
    (W hd slot n cc j : Nat) (row : Int) (r : Nat) (wop : Int) (HH : ∀ w', Calls Tryd.prog 94 #[.agg #[.int .i64 x.k, .int .i64 x.wd, .int .i64 x.sl, .int .i64 x.cp, .int .u32 x.sa, .slice x.ia x.il x.ic, .int .i64 x.ow, .slice x.ra x.rl x.rc]] w' fun e w'' => e = .returned (.int .i64 hd) ∧ Same w' w'')
    (HW : ∀ w', Calls Tryd.prog 53 #[.int .i64 x.k] w' fun e w'' => e = .returned (.int .i64 wop) ∧ w' = w'') (hop : (op == wop) = false) (hwr : o.wr = false) (hwd : x.wd = W) (how : o.width = W) (hW : W ≤ 8) (hhd : hd ≤ 100) (hslot : slot ≤ 100)
    (hj : j = hd + slot * W + s.i) (hjn : j < n) (hn : n ≤ 5000) (hcc : n ≤ cc) (hln : o.at_ + n ≤ l.length) (hi : s.i < W) (hrc : s.rc.length = s.i) (hlt : ¬ s.i + 1 < W) (hrow : row = (r : Int)) :
    Calls Tryd.prog 97 #[.pointer (some ⟨g, 0, none⟩), .slice (some ⟨gl, o.at_, none⟩) n cc, .int .u32 slot, .int .i64 row] w (Leaves N gl g x at_ op rd Bl cl (Op.word o s l (hd + slot * W) (some r)) w) := by
  obtain ⟨v, hv⟩ : ∃ v, v = gd l (o.at_ + j) := ⟨_, rfl⟩
  have hK : (Op.word o s l (hd + slot * W) (some r)) = ((({ s with i := s.i + 1, rc := s.rc ++ [v] } : St).to r), l) := by
    simp only [Op.word, hwr, Bool.false_eq_true, if_true, if_false]
    rw [if_neg (by rw [how]; exact hlt), hv, hj]
    try rfl
  rw [hK]
  have hq : ((slot : Int) * x.wd) = ((slot * W : Nat) : Int) := by rw [hwd, Int.natCast_mul]
  have hq8 : slot * W ≤ 800 := by
    have := Nat.mul_le_mul hslot hW
    omega
  generalize slot * W = q at *
  have f0 : IntKind.i64.wrap (slot : Int) = slot := Go.IntWalk.i64_in _ (by omega)
  have f1 : IntKind.i64.wrap ((slot : Int) * x.wd) = q := by rw [hq]; exact Go.IntWalk.i64_in _ (by omega)
  have f2 : IntKind.i64.wrap ((hd : Int) + q) = (hd : Int) + q := Go.IntWalk.i64_in _ (by omega)
  have f3 : IntKind.i64.wrap ((hd : Int) + q + s.i) = (j : Int) := by rw [Go.IntWalk.i64_in _ (by omega)]; omega
  have Hq := Lib.hid hq
  have HV := Lib.hid hv
  have HJ := Lib.hid hj
  have HKK := Lib.hid hK
  have HB := Lib.hid h
  have HL := Lib.hid hl
  have HN := Lib.hid hN
  have HRC := Lib.hid hrc
  have HWD := Lib.hid hwd
  have HOW := Lib.hid how
  have HWR := Lib.hid hwr
  clear hq hv hj hK h hl hN hrc hwd how hwr
  go_enter Tryd.func97, Tryd.ntmps97
  go_wp2_with fail
  go_region_held3 (fun w' => w'.cell? ⟨g, 0, none⟩ = some (.int .i64 x.k) ∧ w'.cell? ⟨g, 1, none⟩ = some (.int .i64 x.wd) ∧ w'.cell? ⟨g, 2, none⟩ = some (.int .i64 x.sl) ∧ w'.cell? ⟨g, 3, none⟩ = some (.int .i64 x.cp) ∧ w'.cell? ⟨g, 4, none⟩ = some (.int .u32 x.sa) ∧ w'.cell? ⟨g, 5, none⟩ = some (.slice x.ia x.il x.ic) ∧ w'.cell? ⟨g, 6, none⟩ = some (.int .i64 x.ow) ∧ w'.cell? ⟨g, 7, none⟩ = some (.slice x.ra x.rl x.rc) ∧ w'.cell? ⟨g, 12, none⟩ = some (.int .i64 s.i) ∧ Same w w')
    (first | assumption | exact objR HB.out (Same.refl _).drew | (rcases ‹_ ∧ _ ∧ _ ∧ _ ∧ _ ∧ _ ∧ _ ∧ _ ∧ _ ∧ Same w _› with ⟨_, _, _, _, _, _, _, _, _, x9⟩; exact objR HB.out (x9.trans hs)))
    (first | (go_at_call 94; ((with_reducible refine (HH _).mono ?_); rintro e w' ⟨rfl, hs⟩)))
  rcases ‹_ ∧ _ ∧ _ ∧ _ ∧ _ ∧ _ ∧ _ ∧ _ ∧ _ ∧ Same w _› with ⟨_, _, _, _, _, _, _, _, _, x9⟩
  have S1 := Lib.hid x9
  have HB1 := Lib.hid (HB.out.same x9)
  clear x9 f0 f1 f2 f3
  have c0 := HB1.out.obj.1
  have c9 := HB1.out.mid.2.1
  go_wp2_with fail
  go_quiet ((go_at_call 53; exact Calls.quiet_of_same ((HW _).mono fun _ _ ⟨he, hw⟩ => ⟨he, hw.symm⟩)))
  have S2 := Lib.hid (S1.out.trans ((Same.refl w').drewN nq))
  have HB2 := Lib.hid (HB.out.same S2.out)
  have HL2 := Lib.hid (HL.out.same S2.out)
  clear c0 c9 S1 HB1
  generalize w'.drewN nq = w2 at *
  have c12 := HB2.out.mid.2.2.2.2.1
  have c38 := HB2.out.tail.1
  go_wp2_with fail
  have HLj : Hid (o.at_ + j < l.length) := Lib.hid (by omega)
  have lcl := (own_cell HL2.out (o.at_ + j) HLj.out).1
  rw [← HV.out] at lcl
  have b3 : (0 : Int) ≤ j := by omega
  have b4 : (j : Int) < n := by omega
  have f38 := HB2.out.thaw 38
  obtain ⟨i0, hi0, hz0, hz1, hz2⟩ := info_parts u32_info
  have sa := ((Same.refl w2).alloc (.cells #[.int .u32 v] 22)).drew
  have own1 := HB2.out.row.same sa
  have row1 := row_one w2 (.int .u32 v) 22
  have q38 := sa.cell c38
  have ne38 := HB2.out.ne g
  have fb := HB2.out.blk.same sa
  have HOWN := Lib.hid own1
  have HROW := Lib.hid row1
  have HQ38 := Lib.hid q38
  have HNE : Hid (∀ (e : A = some ⟨g, 0, none⟩), False) := Lib.hid (fun e => ne38 e rfl)
  have HFB := Lib.hid fb
  have HSA := Lib.hid sa
  have HLR : Hid (s.rc.length ≤ 8) := Lib.hid (by have := HRC.out; omega)
  clear sa own1 row1 ne38 fb
  have q38b : (w2.alloc (.cells #[.int .u32 v] 22)).cell? ⟨g, 38, none⟩ = some (.slice A s.rc.length c) := q38
  go_region_law ((refine step_app (by rfl) (.tmp 56) (.tmp 61) 28 (by rfl) 0 22 i0 _ 4 Tryd.underlying28 hi0 hz0 hz1 hz2 rfl A s.rc.length c (s.rc.map (Value.int .u32)) (by rfl) (List.length_map _) HOWN.out _ 1 1 [.int .u32 v] (by rfl) rfl HROW.out (words_one [v]) (by rw [List.length_map]; have := HLR.out; simp only [List.length_cons, List.length_nil]; omega) (by omega) (Nat.zero_le _) ?_; intro A' c' w5 o5 h5 hA5; have k38 := h5.cell HQ38.out (fun e => HNE.out e); have fb5 := HFB.out.chg h5 (fun e => HNE.out e); have k38f := fb5.thaw 38; have O5 := Lib.hid o5; have H5 := Lib.hid h5; have HA5 := Lib.hid hA5; clear o5 h5 hA5 fb5))
  all_goals
    have hO5 := O5.out
    have hr5 : (s.rc ++ [v]).map (Value.int .u32) = s.rc.map (Value.int .u32) ++ [.int .u32 v] := by simp
    rw [← hr5] at hO5
    have hgl2 := (own_lt HL2.out).2.1
    have far5 : ∀ b, A' = some ⟨b, 0, none⟩ → ¬ N b ∧ b ≠ gl := by
      intro b hb
      rcases HA5.out with e | e
      · rw [e] at hb
        exact HB2.out.far b hb
      · rw [e] at hb
        injection hb with hb
        injection hb with hb
        have hz : w2.heap.size + 1 = (w2.alloc (.cells #[.int .u32 v] 22)).drew.heap.size := by simp
        have hs2 := S2.out.size
        refine ⟨fun hNb => ?_, by omega⟩
        have := HN.out b hNb
        omega
    have R3 := rb_rec (x := x) (at_ := at_) (op := op) (rd := rd) HB2.out.used20 (HFB.out.chg H5.out (fun e => HNE.out e)) HB2.out.mine A' c' (s.rc.length + 1) (s.rc ++ [v]) (by simp) hO5 far5
    have c5 : Chg (fun i => ¬ N i) w2 w5 := (HSA.out.chg _).trans (H5.out.weak fun i _ hi => (HB2.out.far i hi).1)
    have c6 := c5.set (p := ⟨g, 38, none⟩) (.inl HB2.out.mine) (.slice A' (s.rc.length + 1) c')
    have l5 := ((HL2.out.same HSA.out).chg H5.out (fun b hb he => by injection hb with hb; injection hb with hb; subst hb; exact (HB2.out.far _ he).2 rfl)).chg ((Chg.refl (fun i => i = g) w5).set (p := ⟨g, 38, none⟩) (.inl rfl) (.slice A' (s.rc.length + 1) c')) (fun b hb he => hgl (by injection hb with hb; injection hb with hb; rw [hb]; exact he.symm))
    have HB3 := Lib.hid R3
    have HL3 := Lib.hid l5
    have HC3 : Hid (Chg (fun i => ¬ N i) w (w5.setCell ⟨g, 38, none⟩ (.slice A' (s.rc.length + 1) c'))) := Lib.hid ((S2.out.chg _).trans c6)
    clear hO5 hr5 R3 c5 c6 l5 far5 k38 k38f q38 q38b c38 c12 lcl f38 b3 b4
    generalize w5.setCell ⟨g, 38, none⟩ (.slice A' (s.rc.length + 1) c') = w3 at *
    have c12 := HB3.out.mid.2.2.2.2.1
    have f12 := HB3.out.thaw 12
    have e12 : ((s.i : Int) + 1) = ((s.i + 1 : Nat) : Int) := by omega
    have B4 := HB3.out.set 12 (.int .i64 ((s.i : Int) + 1)) { { s with rc := s.rc ++ [v] } with i := s.i + 1 } (by rw [e12]; rfl) rfl rfl
    have HB4 := Lib.hid B4
    have HC4 := Lib.hid (HC3.out.trans ((Chg.refl (fun i => i = g) w3).set (p := ⟨g, 12, none⟩) (.inl rfl) (.int .i64 ((s.i : Int) + 1)) |>.weak fun i _ hi => hi ▸ HB3.out.mine))
    have HL4 := Lib.hid (HL3.out.chg ((Chg.refl (fun i => i = g) w3).set (p := ⟨g, 12, none⟩) (.inl rfl) (.int .i64 ((s.i : Int) + 1))) (fun b' hb he => hgl (by injection hb with hb; injection hb with hb; rw [hb]; exact he.symm)))
    have k12 := B4.mid.2.2.2.2.1
    have k1 := B4.obj.2.1
    rw [← e12] at k12
    have hcmp : decide ((s.i : Int) + 1 < x.wd) = false := by rw [HWD.out]; first | omega | (simp; omega)
    clear B4 HB3 HL3 HC3 e12
    go_wp2_with fail
    generalize w3.setCell ⟨g, 12, none⟩ (.int .i64 ((s.i : Int) + 1)) = w4 at *
    go_quiet (fail)
    have HB5 := Lib.hid (HB4.out.same ((Same.refl w4).drewN nq))
    have HL5 := Lib.hid (HL4.out.same ((Same.refl w4).drewN nq))
    have HC5 := Lib.hid (HC4.out.trans ((Chg.refl _ w4).drewN nq))
    clear HB4 HL4 HC4 k12 k1 hcmp
    generalize w4.drewN nq = w7 at *
    subst hrow
    have hr0 : ¬ (r : Int) < 0 := by omega
    go_wp2_with fail
    refine (rto_any _ HB5.out r).mono ?_
    rintro e w6 ⟨rfl, R6, c6⟩
    have HR6 := Lib.hid R6
    have HC6 := Lib.hid c6
    clear R6 c6
    go_wp2
    go_end0
    exact ⟨rfl, ⟨_, _, HR6.out⟩, HL5.out.chg HC6.out (fun b' hb he => hgl (by injection hb with hb; injection hb with hb; rw [hb]; exact he.symm)), HC5.out.trans (HC6.out.weak fun i _ hi => hi ▸ HB5.out.mine)⟩

set_option maxHeartbeats 1000000 in
set_option maxRecDepth 100000 in
theorem rword_rd_end (w : World) (h : RB N gl w g x at_ op rd s A c) (hl : Own w Bl 22 (some ⟨gl, 0, none⟩) cl (l.map (Value.int .u32))) (hgl : g ≠ gl) (hN : ∀ i, N i → i < w.heap.size) (hNl : ¬ N gl)
    (W hd slot n cc j : Nat) (row : Int) (wop : Int) (HH : ∀ w', Calls Tryd.prog 94 #[.agg #[.int .i64 x.k, .int .i64 x.wd, .int .i64 x.sl, .int .i64 x.cp, .int .u32 x.sa, .slice x.ia x.il x.ic, .int .i64 x.ow, .slice x.ra x.rl x.rc]] w' fun e w'' => e = .returned (.int .i64 hd) ∧ Same w' w'')
    (HW : ∀ w', Calls Tryd.prog 53 #[.int .i64 x.k] w' fun e w'' => e = .returned (.int .i64 wop) ∧ w' = w'') (hop : (op == wop) = false) (hwr : o.wr = false) (hwd : x.wd = W) (how : o.width = W) (hW : W ≤ 8) (hhd : hd ≤ 100) (hslot : slot ≤ 100)
    (hj : j = hd + slot * W + s.i) (hjn : j < n) (hn : n ≤ 5000) (hcc : n ≤ cc) (hln : o.at_ + n ≤ l.length) (hi : s.i < W) (hrc : s.rc.length = s.i) (hlt : ¬ s.i + 1 < W) (hrow : row < 0) (hk6 : x.k ≠ 6) (hop2 : o.wr = decide (op = 2)) :
    Calls Tryd.prog 97 #[.pointer (some ⟨g, 0, none⟩), .slice (some ⟨gl, o.at_, none⟩) n cc, .int .u32 slot, .int .i64 row] w (Leaves N gl g x at_ op rd Bl cl (Op.word o s l (hd + slot * W) none) w) := by
  obtain ⟨v, hv⟩ : ∃ v, v = gd l (o.at_ + j) := ⟨_, rfl⟩
  have hK : (Op.word o s l (hd + slot * W) none) = ((({ s with i := s.i + 1, rc := s.rc ++ [v] } : St).fin o.wr 0), l) := by
    simp only [Op.word, hwr, Bool.false_eq_true, if_true, if_false]
    rw [if_neg (by rw [how]; exact hlt), hv, hj]
    try rfl
  rw [hK]
  have hq : ((slot : Int) * x.wd) = ((slot * W : Nat) : Int) := by rw [hwd, Int.natCast_mul]
  have hq8 : slot * W ≤ 800 := by
    have := Nat.mul_le_mul hslot hW
    omega
  generalize slot * W = q at *
  have f0 : IntKind.i64.wrap (slot : Int) = slot := Go.IntWalk.i64_in _ (by omega)
  have f1 : IntKind.i64.wrap ((slot : Int) * x.wd) = q := by rw [hq]; exact Go.IntWalk.i64_in _ (by omega)
  have f2 : IntKind.i64.wrap ((hd : Int) + q) = (hd : Int) + q := Go.IntWalk.i64_in _ (by omega)
  have f3 : IntKind.i64.wrap ((hd : Int) + q + s.i) = (j : Int) := by rw [Go.IntWalk.i64_in _ (by omega)]; omega
  have Hq := Lib.hid hq
  have HV := Lib.hid hv
  have HJ := Lib.hid hj
  have HKK := Lib.hid hK
  have HB := Lib.hid h
  have HL := Lib.hid hl
  have HN := Lib.hid hN
  have HRC := Lib.hid hrc
  have HWD := Lib.hid hwd
  have HOW := Lib.hid how
  have HWR := Lib.hid hwr
  clear hq hv hj hK h hl hN hrc hwd how hwr
  go_enter Tryd.func97, Tryd.ntmps97
  go_wp2_with fail
  go_region_held3 (fun w' => w'.cell? ⟨g, 0, none⟩ = some (.int .i64 x.k) ∧ w'.cell? ⟨g, 1, none⟩ = some (.int .i64 x.wd) ∧ w'.cell? ⟨g, 2, none⟩ = some (.int .i64 x.sl) ∧ w'.cell? ⟨g, 3, none⟩ = some (.int .i64 x.cp) ∧ w'.cell? ⟨g, 4, none⟩ = some (.int .u32 x.sa) ∧ w'.cell? ⟨g, 5, none⟩ = some (.slice x.ia x.il x.ic) ∧ w'.cell? ⟨g, 6, none⟩ = some (.int .i64 x.ow) ∧ w'.cell? ⟨g, 7, none⟩ = some (.slice x.ra x.rl x.rc) ∧ w'.cell? ⟨g, 12, none⟩ = some (.int .i64 s.i) ∧ Same w w')
    (first | assumption | exact objR HB.out (Same.refl _).drew | (rcases ‹_ ∧ _ ∧ _ ∧ _ ∧ _ ∧ _ ∧ _ ∧ _ ∧ _ ∧ Same w _› with ⟨_, _, _, _, _, _, _, _, _, x9⟩; exact objR HB.out (x9.trans hs)))
    (first | (go_at_call 94; ((with_reducible refine (HH _).mono ?_); rintro e w' ⟨rfl, hs⟩)))
  rcases ‹_ ∧ _ ∧ _ ∧ _ ∧ _ ∧ _ ∧ _ ∧ _ ∧ _ ∧ Same w _› with ⟨_, _, _, _, _, _, _, _, _, x9⟩
  have S1 := Lib.hid x9
  have HB1 := Lib.hid (HB.out.same x9)
  clear x9 f0 f1 f2 f3
  have c0 := HB1.out.obj.1
  have c9 := HB1.out.mid.2.1
  go_wp2_with fail
  go_quiet ((go_at_call 53; exact Calls.quiet_of_same ((HW _).mono fun _ _ ⟨he, hw⟩ => ⟨he, hw.symm⟩)))
  have S2 := Lib.hid (S1.out.trans ((Same.refl w').drewN nq))
  have HB2 := Lib.hid (HB.out.same S2.out)
  have HL2 := Lib.hid (HL.out.same S2.out)
  clear c0 c9 S1 HB1
  generalize w'.drewN nq = w2 at *
  have c12 := HB2.out.mid.2.2.2.2.1
  have c38 := HB2.out.tail.1
  go_wp2_with fail
  have HLj : Hid (o.at_ + j < l.length) := Lib.hid (by omega)
  have lcl := (own_cell HL2.out (o.at_ + j) HLj.out).1
  rw [← HV.out] at lcl
  have b3 : (0 : Int) ≤ j := by omega
  have b4 : (j : Int) < n := by omega
  have f38 := HB2.out.thaw 38
  obtain ⟨i0, hi0, hz0, hz1, hz2⟩ := info_parts u32_info
  have sa := ((Same.refl w2).alloc (.cells #[.int .u32 v] 22)).drew
  have own1 := HB2.out.row.same sa
  have row1 := row_one w2 (.int .u32 v) 22
  have q38 := sa.cell c38
  have ne38 := HB2.out.ne g
  have fb := HB2.out.blk.same sa
  have HOWN := Lib.hid own1
  have HROW := Lib.hid row1
  have HQ38 := Lib.hid q38
  have HNE : Hid (∀ (e : A = some ⟨g, 0, none⟩), False) := Lib.hid (fun e => ne38 e rfl)
  have HFB := Lib.hid fb
  have HSA := Lib.hid sa
  have HLR : Hid (s.rc.length ≤ 8) := Lib.hid (by have := HRC.out; omega)
  clear sa own1 row1 ne38 fb
  have q38b : (w2.alloc (.cells #[.int .u32 v] 22)).cell? ⟨g, 38, none⟩ = some (.slice A s.rc.length c) := q38
  go_region_law ((refine step_app (by rfl) (.tmp 56) (.tmp 61) 28 (by rfl) 0 22 i0 _ 4 Tryd.underlying28 hi0 hz0 hz1 hz2 rfl A s.rc.length c (s.rc.map (Value.int .u32)) (by rfl) (List.length_map _) HOWN.out _ 1 1 [.int .u32 v] (by rfl) rfl HROW.out (words_one [v]) (by rw [List.length_map]; have := HLR.out; simp only [List.length_cons, List.length_nil]; omega) (by omega) (Nat.zero_le _) ?_; intro A' c' w5 o5 h5 hA5; have k38 := h5.cell HQ38.out (fun e => HNE.out e); have fb5 := HFB.out.chg h5 (fun e => HNE.out e); have k38f := fb5.thaw 38; have O5 := Lib.hid o5; have H5 := Lib.hid h5; have HA5 := Lib.hid hA5; clear o5 h5 hA5 fb5))
  all_goals
    have hO5 := O5.out
    have hr5 : (s.rc ++ [v]).map (Value.int .u32) = s.rc.map (Value.int .u32) ++ [.int .u32 v] := by simp
    rw [← hr5] at hO5
    have hgl2 := (own_lt HL2.out).2.1
    have far5 : ∀ b, A' = some ⟨b, 0, none⟩ → ¬ N b ∧ b ≠ gl := by
      intro b hb
      rcases HA5.out with e | e
      · rw [e] at hb
        exact HB2.out.far b hb
      · rw [e] at hb
        injection hb with hb
        injection hb with hb
        have hz : w2.heap.size + 1 = (w2.alloc (.cells #[.int .u32 v] 22)).drew.heap.size := by simp
        have hs2 := S2.out.size
        refine ⟨fun hNb => ?_, by omega⟩
        have := HN.out b hNb
        omega
    have R3 := rb_rec (x := x) (at_ := at_) (op := op) (rd := rd) HB2.out.used20 (HFB.out.chg H5.out (fun e => HNE.out e)) HB2.out.mine A' c' (s.rc.length + 1) (s.rc ++ [v]) (by simp) hO5 far5
    have c5 : Chg (fun i => ¬ N i) w2 w5 := (HSA.out.chg _).trans (H5.out.weak fun i _ hi => (HB2.out.far i hi).1)
    have c6 := c5.set (p := ⟨g, 38, none⟩) (.inl HB2.out.mine) (.slice A' (s.rc.length + 1) c')
    have l5 := ((HL2.out.same HSA.out).chg H5.out (fun b hb he => by injection hb with hb; injection hb with hb; subst hb; exact (HB2.out.far _ he).2 rfl)).chg ((Chg.refl (fun i => i = g) w5).set (p := ⟨g, 38, none⟩) (.inl rfl) (.slice A' (s.rc.length + 1) c')) (fun b hb he => hgl (by injection hb with hb; injection hb with hb; rw [hb]; exact he.symm))
    have HB3 := Lib.hid R3
    have HL3 := Lib.hid l5
    have HC3 : Hid (Chg (fun i => ¬ N i) w (w5.setCell ⟨g, 38, none⟩ (.slice A' (s.rc.length + 1) c'))) := Lib.hid ((S2.out.chg _).trans c6)
    clear hO5 hr5 R3 c5 c6 l5 far5 k38 k38f q38 q38b c38 c12 lcl f38 b3 b4
    generalize w5.setCell ⟨g, 38, none⟩ (.slice A' (s.rc.length + 1) c') = w3 at *
    have c12 := HB3.out.mid.2.2.2.2.1
    have f12 := HB3.out.thaw 12
    have e12 : ((s.i : Int) + 1) = ((s.i + 1 : Nat) : Int) := by omega
    have B4 := HB3.out.set 12 (.int .i64 ((s.i : Int) + 1)) { { s with rc := s.rc ++ [v] } with i := s.i + 1 } (by rw [e12]; rfl) rfl rfl
    have HB4 := Lib.hid B4
    have HC4 := Lib.hid (HC3.out.trans ((Chg.refl (fun i => i = g) w3).set (p := ⟨g, 12, none⟩) (.inl rfl) (.int .i64 ((s.i : Int) + 1)) |>.weak fun i _ hi => hi ▸ HB3.out.mine))
    have HL4 := Lib.hid (HL3.out.chg ((Chg.refl (fun i => i = g) w3).set (p := ⟨g, 12, none⟩) (.inl rfl) (.int .i64 ((s.i : Int) + 1))) (fun b' hb he => hgl (by injection hb with hb; injection hb with hb; rw [hb]; exact he.symm)))
    have k12 := B4.mid.2.2.2.2.1
    have k1 := B4.obj.2.1
    rw [← e12] at k12
    have hcmp : decide ((s.i : Int) + 1 < x.wd) = false := by rw [HWD.out]; first | omega | (simp; omega)
    clear B4 HB3 HL3 HC3 e12
    go_wp2_with fail
    generalize w3.setCell ⟨g, 12, none⟩ (.int .i64 ((s.i : Int) + 1)) = w4 at *
    go_quiet (fail)
    have HB5 := Lib.hid (HB4.out.same ((Same.refl w4).drewN nq))
    have HL5 := Lib.hid (HL4.out.same ((Same.refl w4).drewN nq))
    have HC5 := Lib.hid (HC4.out.trans ((Chg.refl _ w4).drewN nq))
    clear HB4 HL4 HC4 k12 k1 hcmp
    generalize w4.drewN nq = w7 at *
    go_wp2_with fail
    refine (rend_any _ HB5.out hk6 o.wr hop2 0).mono ?_
    rintro e w6 ⟨rfl, R6, c6⟩
    have HR6 := Lib.hid R6
    have HC6 := Lib.hid c6
    clear R6 c6
    go_wp2
    go_end0
    exact ⟨rfl, HR6.out, HL5.out.chg HC6.out (fun b' hb he => hgl (by injection hb with hb; injection hb with hb; rw [hb]; exact he.symm)), HC5.out.trans (HC6.out.weak fun i _ hi => hi ▸ HB5.out.mine)⟩

end

end Go.Proofs.YtejajmdmfipplabDoor.Rf
