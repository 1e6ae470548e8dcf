/-
  The document's own operation on a queue: each row.
-/
import Derived.Test.YtdepogopepjonaaRefWordW
import Derived.Test.YtdepogopepjonaaRefQ
import Derived.Test.YtdepogopepjonaaFifoLay
import Derived.Test.YtdepogopepjonaaOpFifo
set_option linter.unusedSimpArgs false
set_option linter.unusedVariables false
namespace Go.Proofs.Ytdepogopepjonaa.Rf
open Go.ChangeShapes Go.WideShapes Go.ChangeAt Go.RowKit Ws Mm Pa
open Go.Proofs.Ytdepogopepjonaa.Op (St Im gd get put more)

section
variable {N : Nat → Prop} {gl : Nat} {g : Nat} {x : Ox} {op rd : Int} {s : St} {A : Option Addr} {c : Nat} {l : List Int} {Bl cl : Nat} {o : Im}

theorem rto_lit (w : World) (h : RB N gl w g x o.at_ op rd s A c) (i : Int) (r : Nat) (hi : i = (r : Int)) :
    Calls Try.prog 77 #[.pointer (some ⟨g, 0, none⟩), .int .i64 i] w fun e w' => e = .returned (.tuple #[]) ∧ RB N gl w' g x o.at_ op rd (s.to r) A c ∧ Chg (fun i => i = g) w w' := by
  subst hi
  exact rto_any w h r
theorem word_ab (o : Im) (s : St) (l : List Int) (k : Nat) (nx : Option Nat) : (Op.word o s l k nx).1.a = s.a ∧ (Op.word o s l k nx).1.b = s.b := by
  unfold Op.word
  cases o.wr
  all_goals
    simp only [Bool.false_eq_true, if_true, if_false]
    split
    · exact ⟨rfl, rfl⟩
    · cases nx <;> exact ⟨rfl, rfl⟩
theorem ab_of {w' : World} {k : Nat} {nx : Option Nat} {A' : Option Addr} {c' : Nat} (h : RB N gl w' g x o.at_ op rd (Op.word o s l k nx).1 A' c') :
    w'.cell? ⟨g, 16, none⟩ = some (.int .u32 s.a) ∧ w'.cell? ⟨g, 17, none⟩ = some (.int .u32 s.b) := by
  obtain ⟨_, _, _, _, _, _, _, _, h1, h2⟩ := h.mid
  rw [(word_ab o s l k nx).1] at h1
  rw [(word_ab o s l k nx).2] at h2
  exact ⟨h1, h2⟩

/-- what the document's operation keeps: no word of the program's -/
def dz (s : St) : St := { s with b := 0 }
theorem word_dz (o : Im) (s : St) (l : List Int) (k : Nat) (nx : Option Nat) : Op.word o (dz s) l k nx = (dz (Op.word o s l k nx).1, (Op.word o s l k nx).2) := by
  unfold Op.word dz
  cases o.wr
  all_goals
    simp only [Bool.false_eq_true, if_true, if_false]
    split
    · rfl
    · cases nx <;> rfl
theorem rstep_01 (c n m : Int) (hc : 0 ≤ c ∧ c < 4294967296) (hn : 0 ≤ n ∧ n < 4294967296) (hm : 0 < m ∧ m < 4294967296) (w : World) :
    Calls Try.prog 90 #[.int .u32 c, .int .u32 n, .int .u32 m] w fun e w' => e = .returned (.int .u32 ((c + n) % m)) ∧ w = w' := by
  have f1 := Ff.u64_in c (by omega)
  have f2 := Ff.u64_in n (by omega)
  have f3 := Ff.u64_in m (by omega)
  have f4 := Ff.u64_in (c + n) (by omega)
  have h0 := Int.emod_nonneg (c + n) (show m ≠ 0 by omega)
  have h1 := Int.emod_lt_of_pos (c + n) hm.1
  have f5 := Ff.u32_in ((c + n) % m) (by omega)
  have f6 : (m == 0) = false := by simp; omega
  have f7 : (c + n).tmod m = (c + n) % m := Int.tmod_eq_emod_of_nonneg (by omega)
  have f8 := Ff.u64_in ((c + n) % m) (by omega)
  clear h0 h1
  obtain ⟨c1, c2⟩ := hc
  obtain ⟨n1, n2⟩ := hn
  obtain ⟨m1, m2⟩ := hm
  go_enter Try.func90, Try.ntmps90
  go_wp2
  go_ret
  exact ⟨rfl, rfl⟩
theorem rnext_01 (c m : Int) (hc : 0 ≤ c ∧ c < 4294967296) (hm : 0 < m ∧ m < 4294967296) (w : World) :
    Calls Try.prog 83 #[.int .u32 c, .int .u32 m] w fun e w' => e = .returned (.int .u32 ((c + 1) % m)) ∧ w = w' := by
  have ST := fun w' => rstep_01 c 1 m hc (by omega) hm w'
  clear hc hm
  go_enter Try.func83, Try.ntmps83
  go_wp2_with fail
  refine (ST _).mono ?_
  rintro e w' ⟨rfl, rfl⟩
  go_wp2
  go_ret
  exact ⟨rfl, rfl⟩
theorem rgap_01 (x y m : Int) (hx : 0 ≤ x ∧ x < 4294967296) (hy : 0 ≤ y ∧ y < 4294967296) (hm : 0 < m ∧ m < 4294967296) (w : World) :
    Calls Try.prog 84 #[.int .u32 x, .int .u32 y, .int .u32 m] w fun e w' => e = .returned (.int .u32 (Op.fgap m x y)) ∧ Same w w' := by
  obtain ⟨p, hp⟩ : ∃ p, p = x % m := ⟨_, rfl⟩
  obtain ⟨q, hq⟩ : ∃ q, q = y % m := ⟨_, rfl⟩
  have p0 := Int.emod_nonneg x (show m ≠ 0 by omega)
  have p1 := Int.emod_lt_of_pos x hm.1
  have q0 := Int.emod_nonneg y (show m ≠ 0 by omega)
  have q1 := Int.emod_lt_of_pos y hm.1
  have r0 := Int.emod_nonneg (q + m - p) (show m ≠ 0 by omega)
  have r1 := Int.emod_lt_of_pos (q + m - p) hm.1
  have f6 : (m == 0) = false := by simp; omega
  have f6' : ¬ m = 0 := by omega
  have f7 : x.tmod m = p := (Int.tmod_eq_emod_of_nonneg (by omega)).trans hp.symm
  have f8 : y.tmod m = q := (Int.tmod_eq_emod_of_nonneg (by omega)).trans hq.symm
  rw [← hp] at p0 p1
  rw [← hq] at q0 q1
  have E : Hid (Op.fgap m x y = (q + m - p) % m) := Lib.hid (by unfold Op.fgap; rw [← hp, ← hq])
  have a1 := Ff.u32_in p (by omega)
  have a2 := Ff.u32_in q (by omega)
  have a3 := Ff.u64_in p (by omega)
  have a4 := Ff.u64_in q (by omega)
  have a5 := Ff.u64_in m (by omega)
  have a6 := Ff.u64_in (q + m) (by omega)
  have a7 := Ff.u64_in (q + m - p) (by omega)
  have a8 : (q + m - p).tmod m = (q + m - p) % m := Int.tmod_eq_emod_of_nonneg (by omega)
  have a9 := Ff.u64_in ((q + m - p) % m) (by omega)
  have a10 := Ff.u32_in ((q + m - p) % m) (by omega)
  obtain ⟨m1, m2⟩ := hm
  clear hp hq hx hy
  generalize (q + m - p) % m = z at *
  rw [E.out]
  go_enter Try.func84, Try.ntmps84
  go_wp2_with fail
  go_quiet (fail)
  go_wp2
  go_ret
  exact ⟨rfl, (Same.refl _).drewN _⟩
theorem rend_q (w : World) (h : RB N gl w g x o.at_ op rd s A c) (hk : x.k = 6 ∨ x.k = 6) (wr : Bool) (hop : wr = decide (op = 3)) (code : Int) :
    Calls Try.prog 79 #[.pointer (some ⟨g, 0, none⟩), .int .i64 code] w fun e w' => e = .returned (.tuple #[]) ∧ (∃ A' c', RB N gl w' g x o.at_ op rd (s.fin wr code) A' c') ∧ Chg (fun i => i = g) w w' := by
  obtain ⟨c0, _⟩ := h.obj
  obtain ⟨_, c9, _, _, _, _, c14, _⟩ := h.mid
  obtain ⟨_, c39⟩ := h.tail
  have f39 := h.thaw 39
  have f14 := h.thaw 14
  have HK := Lib.hid hk
  have h1 := h.set_over true
  have h2 := h1.set_code code
  have hc := (((Chg.refl (fun i => i = g) w).set (p := ⟨g, 39, none⟩) (.inl rfl) (.bool true))).set (p := ⟨g, 14, none⟩) (.inl rfl) (.int .i64 code)
  obtain ⟨w2, hw2⟩ : ∃ w2, w2 = (w.setCell ⟨g, 39, none⟩ (.bool true)).setCell ⟨g, 14, none⟩ (.int .i64 code) := ⟨_, rfl⟩
  have q0 := h2.obj.1
  have q9 := h2.mid.2.1
  have q38 := h2.tail.1
  have p38 := h2.thaw 38
  rw [← hw2] at q0 q9 q38 p38 h2 hc
  have H2 := Lib.hid h2
  have HC := Lib.hid hc
  have HO := Lib.hid hop
  have HW2 := Lib.hid hw2
  clear h h1 h2 hc hop hk
  by_cases h0 : code = 0
  · have hb0 : (code != 0) = false := by simp [h0]
    by_cases h9 : op = 3
    · have HB : Hid (wr = true ∨ code ≠ 0) := Lib.hid (.inl (by rw [HO.out]; simp [h9]))
      have b9 : (op == 3) = true := by simp [h9]
      have H0 := Lib.hid h0
      have H9 := Lib.hid h9
      clear h0 h9
      go_enter Try.func79, Try.ntmps79
      go_wp2_with fail
      rw [← HW2.out]
      go_quiet ((go_at_call 38; exact Calls.quiet_of_same ((rwrites_q _ HK.out _).mono fun _ _ ⟨he, hw⟩ => ⟨he, hw.symm⟩)))
      have q38' : (w2.drewN nq).cell? ⟨g, 38, none⟩ = some (.slice A s.rc.length c) := q38
      have p38' : (w2.drewN nq).frozen? ⟨g, 38, none⟩ = false := p38
      have H3 := Lib.hid (H2.out.same ((Same.refl w2).drewN nq))
      have HC3 := Lib.hid (HC.out.trans ((Chg.refl _ w2).drewN nq))
      generalize w2.drewN nq = w3 at *
      go_wp2
      go_end0
      have e3 : s.fin wr code = { s with over := true, code := code, rc := [] } := by
        unfold Op.St.fin
        rw [if_neg (fun h => by rcases HB.out with hb | hb; rw [hb] at h; exact Bool.noConfusion h.2; exact hb h.1)]
      rw [e3]
      exact ⟨rfl, ⟨_, _, H3.out.set_rec none 0 [] (own_nil _ _) (fun b hb => by cases hb)⟩, HC3.out.set (p := ⟨g, 38, none⟩) (.inl rfl) _⟩
    · have b9 : (op == 3) = false := by simp [h9]
      have H0 := Lib.hid h0
      have H9 := Lib.hid h9
      clear h0 h9
      go_enter Try.func79, Try.ntmps79
      go_wp2_with fail
      rw [← HW2.out]
      go_quiet ((go_at_call 38; exact Calls.quiet_of_same ((rwrites_q _ HK.out _).mono fun _ _ ⟨he, hw⟩ => ⟨he, hw.symm⟩)))
      go_wp2
      go_end0
      have e3 : s.fin wr code = { s with over := true, code := code } := by
        unfold Op.St.fin
        rw [if_pos ⟨H0.out, by rw [HO.out]; simp [H9.out]⟩]
      rw [e3]
      exact ⟨rfl, ⟨_, _, H2.out.same ((Same.refl w2).drewN _)⟩, HC.out.trans ((Chg.refl _ w2).drewN _)⟩
  · have hb0 : (code != 0) = true := by simpa using h0
    have H0 := Lib.hid h0
    clear h0
    go_enter Try.func79, Try.ntmps79
    go_wp2_with fail
    rw [← HW2.out]
    go_quiet (fail)
    have q38' : (w2.drewN nq).cell? ⟨g, 38, none⟩ = some (.slice A s.rc.length c) := q38
    have p38' : (w2.drewN nq).frozen? ⟨g, 38, none⟩ = false := p38
    have H3 := Lib.hid (H2.out.same ((Same.refl w2).drewN nq))
    have HC3 := Lib.hid (HC.out.trans ((Chg.refl _ w2).drewN nq))
    generalize w2.drewN nq = w3 at *
    go_wp2
    go_end0
    have e3 : s.fin wr code = { s with over := true, code := code, rc := [] } := by
      unfold Op.St.fin
      rw [if_neg (fun h => H0.out h.1)]
    rw [e3]
    exact ⟨rfl, ⟨_, _, H3.out.set_rec none 0 [] (own_nil _ _) (fun b hb => by cases hb)⟩, HC3.out.set (p := ⟨g, 38, none⟩) (.inl rfl) _⟩

set_option maxHeartbeats 1000000 in
theorem qw0 (w : World) (h : RB N gl w g x o.at_ op rd (dz s) A c) (hl : Own w Bl 22 (some ⟨gl, 0, none⟩) cl (l.map (Value.int .u32))) (hgl : g ≠ gl) (hN : ∀ i, N i → i < w.heap.size) (hNl : ¬ N gl)
    (n cc : Nat) (hsz : 2 + o.slots * o.width ≤ n) (hn : n ≤ 5000) (hcc : n ≤ cc) (hln : o.at_ + n ≤ l.length) (hwl : Op.Wd l) (ok : Op.fifoOk o s) (hov : s.over = false) (hop : op = 3) (hwr : o.wr = true) (hrow : s.row = 0) (hx : (x.k = 6 ∨ x.k = 6) ∧ x.wd = o.width ∧ x.sl = o.slots) (hW : Op.fifoAl o) (hsa : 0 ≤ x.sa ∧ x.sa < 4294967296) :
    Calls Try.prog 61 #[.pointer (some ⟨g, 0, none⟩), .slice (some ⟨gl, o.at_, none⟩) n cc, .bool true] w (Leaves N gl g x o.at_ op rd Bl cl (dz (Op.fifoW o s l).1, (Op.fifoW o s l).2) w) := by
  have hin := Op.fmod_bd hW
  have hws := hW.2
  have hinA := Op.fmod_in hW s.b
  obtain ⟨⟨b1, b2⟩, ab, hu20, htr0, ok⟩ := ok
  rw [← ab] at hinA
  have c11 : w.cell? ⟨g, 11, none⟩ = some (.int .i64 s.row) := h.mid.2.2.2.1
  rw [hrow] at c11
  have c16 : w.cell? ⟨g, 16, none⟩ = some (.int .u32 s.a) := h.mid.2.2.2.2.2.2.2.2.1
  have c2 := h.obj.2.2.1
  rw [hx.2.2] at c2
  have f16 := h.thaw 16
  have hgm := h.mine
  have u1 := Ff.u32_in (o.slots : Int) (by omega)
  obtain ⟨M, hM⟩ : ∃ M, M = Op.fmod o := ⟨_, rfl⟩
  have u2 : IntKind.u32.wrap (2 * (o.slots : Int)) = M := by
    rw [hM]
    exact Ff.u32_in _ (by omega)
  rw [← hM] at hin ab
  have m0 : ¬ M = 0 := by omega
  have m1 : 0 < M := hin.1
  have m2 : (M == 0) = false := by simpa using m0
  have hbs : s.a % (o.slots : Int) = s.b % (o.slots : Int) := by
    rw [ab, hM]
    unfold Op.fmod
    exact Int.emod_emod_of_dvd _ ⟨2, by rw [Int.mul_comm]⟩
  have s0 : ¬ (o.slots : Int) = 0 := by omega
  have s1 : (0 : Int) < (o.slots : Int) := by omega
  have hpos : 0 < o.slots * o.width := Nat.mul_pos (by omega) hW.1.1
  have hn2 : (1 : Int) < n := by omega
  have hn1 : (0 : Int) < n := by omega
  have hn2' : 1 < n := by omega
  have hn0 : 0 < n := by omega
  have hy := hwl.get o 1
  rw [Op.get_gd] at hy
  obtain ⟨y, ey⟩ : ∃ y, y = gd l (o.at_ + 1) := ⟨_, rfl⟩
  have ly := (own_cell hl (o.at_ + 1) (by omega)).1
  rw [← ey] at ly hy
  have f7 : y.tmod M = y % M := Int.tmod_eq_emod_of_nonneg (by omega)
  have r0 := Int.emod_nonneg y m0
  have r1 := Int.emod_lt_of_pos y m1
  have f9 := Ff.u32_in (y % M) (by omega)
  have e4 : Op.fifoW o s l = ({ s.to 1 with a := y % M, b := y }, l) := by simp [Op.fifoW, hrow, Op.get_gd, ← ey, ← hM]
  clear ey
  have E4 := Lib.hid e4
  have HB := Lib.hid h
  have HL := Lib.hid hl
  have HROW := Lib.hid hrow
  have HXK := Lib.hid hx.1
  clear e4 h hl hN ok hrow ab hbs hx hpos htr0 hM hws hin hinA hwl hW
  generalize (o.slots : Int) = sln at *
  go_enter Try.func61, Try.ntmps61
  go_wp2_with fail
  have R1 := Lib.hid (HB.out.set_a (y % M))
  have hc1 := Lib.hid ((Chg.refl (fun i => i = g) w).set (p := ⟨g, 16, none⟩) (.inl rfl) (.int .u32 (y % M)))
  refine (rto_lit _ R1.out 1 1 rfl).mono ?_
  rintro e w6 ⟨rfl, R6, c6⟩
  have HR6 := Lib.hid R6
  have HC6 := Lib.hid (hc1.out.trans c6)
  clear R6 c6 hc1 R1
  go_wp2
  go_end0
  rw [E4.out]
  exact ⟨rfl, ⟨_, _, HR6.out⟩, HL.out.chg HC6.out (fun b' hb he => hgl (by injection hb with hb; injection hb with hb; rw [hb]; exact he.symm)), HC6.out.weak fun i _ hi => hi ▸ hgm⟩

set_option maxHeartbeats 1000000 in
theorem qr0 (w : World) (h : RB N gl w g x o.at_ op rd (dz s) A c) (hl : Own w Bl 22 (some ⟨gl, 0, none⟩) cl (l.map (Value.int .u32))) (hgl : g ≠ gl) (hN : ∀ i, N i → i < w.heap.size) (hNl : ¬ N gl)
    (n cc : Nat) (hsz : 2 + o.slots * o.width ≤ n) (hn : n ≤ 5000) (hcc : n ≤ cc) (hln : o.at_ + n ≤ l.length) (hwl : Op.Wd l) (ok : Op.fifoOk o s) (hov : s.over = false) (hop : op = 4) (hwr : o.wr = false) (hrow : s.row = 0) (hx : (x.k = 6 ∨ x.k = 6) ∧ x.wd = o.width ∧ x.sl = o.slots) (hW : Op.fifoAl o) (hsa : 0 ≤ x.sa ∧ x.sa < 4294967296) :
    Calls Try.prog 61 #[.pointer (some ⟨g, 0, none⟩), .slice (some ⟨gl, o.at_, none⟩) n cc, .bool false] w (Leaves N gl g x o.at_ op rd Bl cl (dz (Op.fifoR o s l).1, (Op.fifoR o s l).2) w) := by
  have hin := Op.fmod_bd hW
  have hws := hW.2
  have hinA := Op.fmod_in hW s.b
  obtain ⟨⟨b1, b2⟩, ab, hu20, htr0, ok⟩ := ok
  rw [← ab] at hinA
  have c11 : w.cell? ⟨g, 11, none⟩ = some (.int .i64 s.row) := h.mid.2.2.2.1
  rw [hrow] at c11
  have c16 : w.cell? ⟨g, 16, none⟩ = some (.int .u32 s.a) := h.mid.2.2.2.2.2.2.2.2.1
  have c2 := h.obj.2.2.1
  rw [hx.2.2] at c2
  have f16 := h.thaw 16
  have hgm := h.mine
  have u1 := Ff.u32_in (o.slots : Int) (by omega)
  obtain ⟨M, hM⟩ : ∃ M, M = Op.fmod o := ⟨_, rfl⟩
  have u2 : IntKind.u32.wrap (2 * (o.slots : Int)) = M := by
    rw [hM]
    exact Ff.u32_in _ (by omega)
  rw [← hM] at hin ab
  have m0 : ¬ M = 0 := by omega
  have m1 : 0 < M := hin.1
  have m2 : (M == 0) = false := by simpa using m0
  have hbs : s.a % (o.slots : Int) = s.b % (o.slots : Int) := by
    rw [ab, hM]
    unfold Op.fmod
    exact Int.emod_emod_of_dvd _ ⟨2, by rw [Int.mul_comm]⟩
  have s0 : ¬ (o.slots : Int) = 0 := by omega
  have s1 : (0 : Int) < (o.slots : Int) := by omega
  have hpos : 0 < o.slots * o.width := Nat.mul_pos (by omega) hW.1.1
  have hn2 : (1 : Int) < n := by omega
  have hn1 : (0 : Int) < n := by omega
  have hn2' : 1 < n := by omega
  have hn0 : 0 < n := by omega
  have hy := hwl.get o 0
  rw [Op.get_gd] at hy
  obtain ⟨y, ey⟩ : ∃ y, y = gd l (o.at_) := ⟨_, rfl⟩
  have ly := (own_cell hl (o.at_) (by omega)).1
  rw [show o.at_ + 0 = o.at_ from rfl] at hy
  rw [← ey] at ly hy
  have f7 : y.tmod M = y % M := Int.tmod_eq_emod_of_nonneg (by omega)
  have r0 := Int.emod_nonneg y m0
  have r1 := Int.emod_lt_of_pos y m1
  have f9 := Ff.u32_in (y % M) (by omega)
  have e4 : Op.fifoR o s l = ({ s.to 1 with a := y % M, b := y }, l) := by simp [Op.fifoR, hrow, Op.get_gd, ← ey, ← hM]
  clear ey
  have E4 := Lib.hid e4
  have HB := Lib.hid h
  have HL := Lib.hid hl
  have HROW := Lib.hid hrow
  have HXK := Lib.hid hx.1
  clear e4 h hl hN ok hrow ab hbs hx hpos htr0 hM hws hin hinA hwl hW
  generalize (o.slots : Int) = sln at *
  go_enter Try.func61, Try.ntmps61
  go_wp2_with fail
  have R1 := Lib.hid (HB.out.set_a (y % M))
  have hc1 := Lib.hid ((Chg.refl (fun i => i = g) w).set (p := ⟨g, 16, none⟩) (.inl rfl) (.int .u32 (y % M)))
  refine (rto_lit _ R1.out 1 1 rfl).mono ?_
  rintro e w6 ⟨rfl, R6, c6⟩
  have HR6 := Lib.hid R6
  have HC6 := Lib.hid (hc1.out.trans c6)
  clear R6 c6 hc1 R1
  go_wp2
  go_end0
  rw [E4.out]
  exact ⟨rfl, ⟨_, _, HR6.out⟩, HL.out.chg HC6.out (fun b' hb he => hgl (by injection hb with hb; injection hb with hb; rw [hb]; exact he.symm)), HC6.out.weak fun i _ hi => hi ▸ hgm⟩

set_option maxHeartbeats 1000000 in
theorem qw1 (w : World) (h : RB N gl w g x o.at_ op rd (dz s) A c) (hl : Own w Bl 22 (some ⟨gl, 0, none⟩) cl (l.map (Value.int .u32))) (hgl : g ≠ gl) (hN : ∀ i, N i → i < w.heap.size) (hNl : ¬ N gl)
    (n cc : Nat) (hsz : 2 + o.slots * o.width ≤ n) (hn : n ≤ 5000) (hcc : n ≤ cc) (hln : o.at_ + n ≤ l.length) (hwl : Op.Wd l) (ok : Op.fifoOk o s) (hov : s.over = false) (hop : op = 3) (hwr : o.wr = true) (hrow : s.row = 1) (hx : (x.k = 6 ∨ x.k = 6) ∧ x.wd = o.width ∧ x.sl = o.slots) (hW : Op.fifoAl o) (hsa : 0 ≤ x.sa ∧ x.sa < 4294967296) :
    Calls Try.prog 61 #[.pointer (some ⟨g, 0, none⟩), .slice (some ⟨gl, o.at_, none⟩) n cc, .bool true] w (Leaves N gl g x o.at_ op rd Bl cl (dz (Op.fifoW o s l).1, (Op.fifoW o s l).2) w) := by
  have hin := Op.fmod_bd hW
  have hws := hW.2
  have hinA := Op.fmod_in hW s.b
  obtain ⟨⟨b1, b2⟩, ab, hu20, htr0, ok⟩ := ok
  rw [← ab] at hinA
  have c11 : w.cell? ⟨g, 11, none⟩ = some (.int .i64 s.row) := h.mid.2.2.2.1
  rw [hrow] at c11
  have c16 : w.cell? ⟨g, 16, none⟩ = some (.int .u32 s.a) := h.mid.2.2.2.2.2.2.2.2.1
  have c2 := h.obj.2.2.1
  rw [hx.2.2] at c2
  have f16 := h.thaw 16
  have hgm := h.mine
  have u1 := Ff.u32_in (o.slots : Int) (by omega)
  obtain ⟨M, hM⟩ : ∃ M, M = Op.fmod o := ⟨_, rfl⟩
  have u2 : IntKind.u32.wrap (2 * (o.slots : Int)) = M := by
    rw [hM]
    exact Ff.u32_in _ (by omega)
  rw [← hM] at hin ab
  have m0 : ¬ M = 0 := by omega
  have m1 : 0 < M := hin.1
  have m2 : (M == 0) = false := by simpa using m0
  have hbs : s.a % (o.slots : Int) = s.b % (o.slots : Int) := by
    rw [ab, hM]
    unfold Op.fmod
    exact Int.emod_emod_of_dvd _ ⟨2, by rw [Int.mul_comm]⟩
  have s0 : ¬ (o.slots : Int) = 0 := by omega
  have s1 : (0 : Int) < (o.slots : Int) := by omega
  have hpos : 0 < o.slots * o.width := Nat.mul_pos (by omega) hW.1.1
  have hn2 : (1 : Int) < n := by omega
  have hn1 : (0 : Int) < n := by omega
  have hn2' : 1 < n := by omega
  have hn0 : 0 < n := by omega
  have hy := hwl.get o 1
  rw [Op.get_gd] at hy
  obtain ⟨y, ey⟩ : ∃ y, y = gd l (o.at_ + 1) := ⟨_, rfl⟩
  have ly := (own_cell hl (o.at_ + 1) (by omega)).1
  rw [← ey] at ly hy
  have hz := hwl.get o 0
  rw [Op.get_gd] at hz
  obtain ⟨z, ez⟩ : ∃ z, z = gd l (o.at_) := ⟨_, rfl⟩
  have lz := (own_cell hl (o.at_) (by omega)).1
  rw [show o.at_ + 0 = o.at_ from rfl] at hz
  rw [← ez] at lz hz
  have GP := fun w' => rgap_01 s.a y M hinA hy (by omega) w'
  have GQ := fun w' => rgap_01 z s.a M hz hinA (by omega) w'
  have hgs : Op.fgap M z s.a = Op.fgap M z s.b := by unfold Op.fgap; rw [ab, Int.emod_emod_of_dvd _ (Int.dvd_refl _)]
  rw [hgs] at GQ
  obtain ⟨g1, hg1⟩ : ∃ g1, g1 = Op.fgap M s.a y := ⟨_, rfl⟩
  rw [← hg1] at GP
  obtain ⟨gp, hgp⟩ : ∃ gp, gp = Op.fgap M z s.b := ⟨_, rfl⟩
  rw [← hgp] at GQ
  clear hg1
  by_cases hc : (o.slots : Int) ≤ gp
  · have b1_ : decide ((o.slots : Int) ≤ gp) = true := by simpa using hc
    have e4 : Op.fifoW o s l = (s.fin true 2, l) := by simp [Op.fifoW, hrow, Op.get_gd, ← ey, ← ez, ← hM, ← hgp, hc]
    have E4 := Lib.hid e4
    have HB := Lib.hid h
    have HL := Lib.hid hl
    have HROW := Lib.hid hrow
    have HXK := Lib.hid hx.1
    clear e4 h hl hN ok hrow ab hbs hx hpos htr0 hM hws hin hinA hwl hW hgs hgp ey ez hc
    generalize (o.slots : Int) = sln at *
    go_enter Try.func61, Try.ntmps61
    go_wp2_with fail
    go_region_held3 (fun w' => w'.cell? ⟨g, 16, none⟩ = some (.int .u32 s.a) ∧ w'.cell? ⟨gl, o.at_, none⟩ = some (.int .u32 z) ∧ w'.cell? ⟨gl, o.at_ + 1, none⟩ = some (.int .u32 y) ∧ Same w w')
      (first | assumption | exact ⟨c16, lz, ly, (Same.refl _).drew⟩ | exact ⟨x0.cell c16, x0.cell lz, x0.cell ly, x0.drew⟩ | (rcases ‹_ ∧ _ ∧ _ ∧ Same w _› with ⟨x1, x2, x3, x9⟩; exact ⟨hs.cell x1, hs.cell x2, hs.cell x3, x9.trans hs⟩))
      (first | (go_at_call 84; ((with_reducible refine (GP _).mono ?_); rintro e w' ⟨rfl, hs⟩)))
    rcases ‹_ ∧ _ ∧ _ ∧ Same w _› with ⟨x1, x2, x3, x0⟩
    go_wp2_with fail
    go_region_held3 (fun w' => w'.cell? ⟨g, 16, none⟩ = some (.int .u32 s.a) ∧ w'.cell? ⟨gl, o.at_, none⟩ = some (.int .u32 z) ∧ w'.cell? ⟨gl, o.at_ + 1, none⟩ = some (.int .u32 y) ∧ Same w w')
      (first | assumption | exact ⟨c16, lz, ly, (Same.refl _).drew⟩ | exact ⟨x0.cell c16, x0.cell lz, x0.cell ly, x0.drew⟩ | (rcases ‹_ ∧ _ ∧ _ ∧ Same w _› with ⟨x1, x2, x3, x9⟩; exact ⟨hs.cell x1, hs.cell x2, hs.cell x3, x9.trans hs⟩))
      (first | (go_at_call 84; ((with_reducible refine (GQ _).mono ?_); rintro e w' ⟨rfl, hs⟩)))
    rcases ‹_ ∧ _ ∧ _ ∧ Same w _› with ⟨_, _, _, x9⟩
    have HC1 := Lib.hid ((Chg.refl (fun i => i = g) w).trans (x9.chg _))
    have HB3 := Lib.hid (HB.out.same x9)
    go_wp2_with fail
    refine (rend_q _ HB3.out HXK.out o.wr (by rw [hwr, hop]; rfl) 2).mono ?_
    rintro e w6 ⟨rfl, R6, c6⟩
    have HR6 := Lib.hid R6
    have HC6 := Lib.hid (HC1.out.trans c6)
    clear R6 c6
    go_wp2
    go_end0
    rw [E4.out, ← hwr]
    exact ⟨rfl, HR6.out, HL.out.chg HC6.out (fun b' hb he => hgl (by injection hb with hb; injection hb with hb; rw [hb]; exact he.symm)), HC6.out.weak fun i _ hi => hi ▸ hgm⟩
  · have b1_ : decide ((o.slots : Int) ≤ gp) = false := by simpa using hc
    have e4 : Op.fifoW o s l = (s.to 2, l) := by simp [Op.fifoW, hrow, Op.get_gd, ← ey, ← ez, ← hM, ← hgp, hc]
    have E4 := Lib.hid e4
    have HB := Lib.hid h
    have HL := Lib.hid hl
    have HROW := Lib.hid hrow
    have HXK := Lib.hid hx.1
    clear e4 h hl hN ok hrow ab hbs hx hpos htr0 hM hws hin hinA hwl hW hgs hgp ey ez hc
    generalize (o.slots : Int) = sln at *
    go_enter Try.func61, Try.ntmps61
    go_wp2_with fail
    go_region_held3 (fun w' => w'.cell? ⟨g, 16, none⟩ = some (.int .u32 s.a) ∧ w'.cell? ⟨gl, o.at_, none⟩ = some (.int .u32 z) ∧ w'.cell? ⟨gl, o.at_ + 1, none⟩ = some (.int .u32 y) ∧ Same w w')
      (first | assumption | exact ⟨c16, lz, ly, (Same.refl _).drew⟩ | exact ⟨x0.cell c16, x0.cell lz, x0.cell ly, x0.drew⟩ | (rcases ‹_ ∧ _ ∧ _ ∧ Same w _› with ⟨x1, x2, x3, x9⟩; exact ⟨hs.cell x1, hs.cell x2, hs.cell x3, x9.trans hs⟩))
      (first | (go_at_call 84; ((with_reducible refine (GP _).mono ?_); rintro e w' ⟨rfl, hs⟩)))
    rcases ‹_ ∧ _ ∧ _ ∧ Same w _› with ⟨x1, x2, x3, x0⟩
    go_wp2_with fail
    go_region_held3 (fun w' => w'.cell? ⟨g, 16, none⟩ = some (.int .u32 s.a) ∧ w'.cell? ⟨gl, o.at_, none⟩ = some (.int .u32 z) ∧ w'.cell? ⟨gl, o.at_ + 1, none⟩ = some (.int .u32 y) ∧ Same w w')
      (first | assumption | exact ⟨c16, lz, ly, (Same.refl _).drew⟩ | exact ⟨x0.cell c16, x0.cell lz, x0.cell ly, x0.drew⟩ | (rcases ‹_ ∧ _ ∧ _ ∧ Same w _› with ⟨x1, x2, x3, x9⟩; exact ⟨hs.cell x1, hs.cell x2, hs.cell x3, x9.trans hs⟩))
      (first | (go_at_call 84; ((with_reducible refine (GQ _).mono ?_); rintro e w' ⟨rfl, hs⟩)))
    rcases ‹_ ∧ _ ∧ _ ∧ Same w _› with ⟨_, _, _, x9⟩
    have HC1 := Lib.hid ((Chg.refl (fun i => i = g) w).trans (x9.chg _))
    have HB3 := Lib.hid (HB.out.same x9)
    go_wp2_with fail
    refine (rto_lit _ HB3.out 2 2 rfl).mono ?_
    rintro e w6 ⟨rfl, R6, c6⟩
    have HR6 := Lib.hid R6
    have HC6 := Lib.hid (HC1.out.trans c6)
    clear R6 c6
    go_wp2
    go_end0
    rw [E4.out]
    exact ⟨rfl, ⟨_, _, HR6.out⟩, HL.out.chg HC6.out (fun b' hb he => hgl (by injection hb with hb; injection hb with hb; rw [hb]; exact he.symm)), HC6.out.weak fun i _ hi => hi ▸ hgm⟩

set_option maxHeartbeats 1000000 in
theorem qr1 (w : World) (h : RB N gl w g x o.at_ op rd (dz s) A c) (hl : Own w Bl 22 (some ⟨gl, 0, none⟩) cl (l.map (Value.int .u32))) (hgl : g ≠ gl) (hN : ∀ i, N i → i < w.heap.size) (hNl : ¬ N gl)
    (n cc : Nat) (hsz : 2 + o.slots * o.width ≤ n) (hn : n ≤ 5000) (hcc : n ≤ cc) (hln : o.at_ + n ≤ l.length) (hwl : Op.Wd l) (ok : Op.fifoOk o s) (hov : s.over = false) (hop : op = 4) (hwr : o.wr = false) (hrow : s.row = 1) (hx : (x.k = 6 ∨ x.k = 6) ∧ x.wd = o.width ∧ x.sl = o.slots) (hW : Op.fifoAl o) (hsa : 0 ≤ x.sa ∧ x.sa < 4294967296) :
    Calls Try.prog 61 #[.pointer (some ⟨g, 0, none⟩), .slice (some ⟨gl, o.at_, none⟩) n cc, .bool false] w (Leaves N gl g x o.at_ op rd Bl cl (dz (Op.fifoR o s l).1, (Op.fifoR o s l).2) w) := by
  have hin := Op.fmod_bd hW
  have hws := hW.2
  have hinA := Op.fmod_in hW s.b
  obtain ⟨⟨b1, b2⟩, ab, hu20, htr0, ok⟩ := ok
  rw [← ab] at hinA
  have c11 : w.cell? ⟨g, 11, none⟩ = some (.int .i64 s.row) := h.mid.2.2.2.1
  rw [hrow] at c11
  have c16 : w.cell? ⟨g, 16, none⟩ = some (.int .u32 s.a) := h.mid.2.2.2.2.2.2.2.2.1
  have c2 := h.obj.2.2.1
  rw [hx.2.2] at c2
  have f16 := h.thaw 16
  have hgm := h.mine
  have u1 := Ff.u32_in (o.slots : Int) (by omega)
  obtain ⟨M, hM⟩ : ∃ M, M = Op.fmod o := ⟨_, rfl⟩
  have u2 : IntKind.u32.wrap (2 * (o.slots : Int)) = M := by
    rw [hM]
    exact Ff.u32_in _ (by omega)
  rw [← hM] at hin ab
  have m0 : ¬ M = 0 := by omega
  have m1 : 0 < M := hin.1
  have m2 : (M == 0) = false := by simpa using m0
  have hbs : s.a % (o.slots : Int) = s.b % (o.slots : Int) := by
    rw [ab, hM]
    unfold Op.fmod
    exact Int.emod_emod_of_dvd _ ⟨2, by rw [Int.mul_comm]⟩
  have s0 : ¬ (o.slots : Int) = 0 := by omega
  have s1 : (0 : Int) < (o.slots : Int) := by omega
  have hpos : 0 < o.slots * o.width := Nat.mul_pos (by omega) hW.1.1
  have hn2 : (1 : Int) < n := by omega
  have hn1 : (0 : Int) < n := by omega
  have hn2' : 1 < n := by omega
  have hn0 : 0 < n := by omega
  have hy := hwl.get o 1
  rw [Op.get_gd] at hy
  obtain ⟨y, ey⟩ : ∃ y, y = gd l (o.at_ + 1) := ⟨_, rfl⟩
  have ly := (own_cell hl (o.at_ + 1) (by omega)).1
  rw [← ey] at ly hy
  have hz := hwl.get o 0
  rw [Op.get_gd] at hz
  obtain ⟨z, ez⟩ : ∃ z, z = gd l (o.at_) := ⟨_, rfl⟩
  have lz := (own_cell hl (o.at_) (by omega)).1
  rw [show o.at_ + 0 = o.at_ from rfl] at hz
  rw [← ez] at lz hz
  have GP := fun w' => rgap_01 s.a y M hinA hy (by omega) w'
  have hgs : Op.fgap M s.a y = Op.fgap M s.b y := by unfold Op.fgap; rw [ab, Int.emod_emod_of_dvd _ (Int.dvd_refl _)]
  rw [hgs] at GP
  obtain ⟨gp, hgp⟩ : ∃ gp, gp = Op.fgap M s.b y := ⟨_, rfl⟩
  rw [← hgp] at GP
  by_cases hc : gp = 0
  · have b1_ : (gp == 0) = true := by simpa using hc
    have e4 : Op.fifoR o s l = (s.fin false 3, l) := by simp [Op.fifoR, hrow, Op.get_gd, ← ey, ← ez, ← hM, ← hgp, hc]
    have E4 := Lib.hid e4
    have HB := Lib.hid h
    have HL := Lib.hid hl
    have HROW := Lib.hid hrow
    have HXK := Lib.hid hx.1
    clear e4 h hl hN ok hrow ab hbs hx hpos htr0 hM hws hin hinA hwl hW hgs hgp ey ez hc
    generalize (o.slots : Int) = sln at *
    go_enter Try.func61, Try.ntmps61
    go_wp2_with fail
    go_region_held3 (fun w' => w'.cell? ⟨g, 16, none⟩ = some (.int .u32 s.a) ∧ w'.cell? ⟨gl, o.at_, none⟩ = some (.int .u32 z) ∧ w'.cell? ⟨gl, o.at_ + 1, none⟩ = some (.int .u32 y) ∧ Same w w')
      (first | assumption | exact ⟨c16, lz, ly, (Same.refl _).drew⟩ | exact ⟨x0.cell c16, x0.cell lz, x0.cell ly, x0.drew⟩ | (rcases ‹_ ∧ _ ∧ _ ∧ Same w _› with ⟨x1, x2, x3, x9⟩; exact ⟨hs.cell x1, hs.cell x2, hs.cell x3, x9.trans hs⟩))
      (first | (go_at_call 84; ((with_reducible refine (GP _).mono ?_); rintro e w' ⟨rfl, hs⟩)))
    rcases ‹_ ∧ _ ∧ _ ∧ Same w _› with ⟨_, _, _, x9⟩
    have HC1 := Lib.hid ((Chg.refl (fun i => i = g) w).trans (x9.chg _))
    have HB3 := Lib.hid (HB.out.same x9)
    go_wp2_with fail
    refine (rend_q _ HB3.out HXK.out o.wr (by rw [hwr, hop]; rfl) 3).mono ?_
    rintro e w6 ⟨rfl, R6, c6⟩
    have HR6 := Lib.hid R6
    have HC6 := Lib.hid (HC1.out.trans c6)
    clear R6 c6
    go_wp2
    go_end0
    rw [E4.out, ← hwr]
    exact ⟨rfl, HR6.out, HL.out.chg HC6.out (fun b' hb he => hgl (by injection hb with hb; injection hb with hb; rw [hb]; exact he.symm)), HC6.out.weak fun i _ hi => hi ▸ hgm⟩
  · have b1_ : (gp == 0) = false := by simpa using hc
    have e4 : Op.fifoR o s l = (s.to 2, l) := by simp [Op.fifoR, hrow, Op.get_gd, ← ey, ← ez, ← hM, ← hgp, hc]
    have E4 := Lib.hid e4
    have HB := Lib.hid h
    have HL := Lib.hid hl
    have HROW := Lib.hid hrow
    have HXK := Lib.hid hx.1
    clear e4 h hl hN ok hrow ab hbs hx hpos htr0 hM hws hin hinA hwl hW hgs hgp ey ez hc
    generalize (o.slots : Int) = sln at *
    go_enter Try.func61, Try.ntmps61
    go_wp2_with fail
    go_region_held3 (fun w' => w'.cell? ⟨g, 16, none⟩ = some (.int .u32 s.a) ∧ w'.cell? ⟨gl, o.at_, none⟩ = some (.int .u32 z) ∧ w'.cell? ⟨gl, o.at_ + 1, none⟩ = some (.int .u32 y) ∧ Same w w')
      (first | assumption | exact ⟨c16, lz, ly, (Same.refl _).drew⟩ | exact ⟨x0.cell c16, x0.cell lz, x0.cell ly, x0.drew⟩ | (rcases ‹_ ∧ _ ∧ _ ∧ Same w _› with ⟨x1, x2, x3, x9⟩; exact ⟨hs.cell x1, hs.cell x2, hs.cell x3, x9.trans hs⟩))
      (first | (go_at_call 84; ((with_reducible refine (GP _).mono ?_); rintro e w' ⟨rfl, hs⟩)))
    rcases ‹_ ∧ _ ∧ _ ∧ Same w _› with ⟨_, _, _, x9⟩
    have HC1 := Lib.hid ((Chg.refl (fun i => i = g) w).trans (x9.chg _))
    have HB3 := Lib.hid (HB.out.same x9)
    go_wp2_with fail
    refine (rto_lit _ HB3.out 2 2 rfl).mono ?_
    rintro e w6 ⟨rfl, R6, c6⟩
    have HR6 := Lib.hid R6
    have HC6 := Lib.hid (HC1.out.trans c6)
    clear R6 c6
    go_wp2
    go_end0
    rw [E4.out]
    exact ⟨rfl, ⟨_, _, HR6.out⟩, HL.out.chg HC6.out (fun b' hb he => hgl (by injection hb with hb; injection hb with hb; rw [hb]; exact he.symm)), HC6.out.weak fun i _ hi => hi ▸ hgm⟩

set_option maxHeartbeats 1000000 in
theorem qw2 (w : World) (h : RB N gl w g x o.at_ op rd (dz s) A c) (hl : Own w Bl 22 (some ⟨gl, 0, none⟩) cl (l.map (Value.int .u32))) (hgl : g ≠ gl) (hN : ∀ i, N i → i < w.heap.size) (hNl : ¬ N gl)
    (n cc : Nat) (hsz : 2 + o.slots * o.width ≤ n) (hn : n ≤ 5000) (hcc : n ≤ cc) (hln : o.at_ + n ≤ l.length) (hwl : Op.Wd l) (ok : Op.fifoOk o s) (hov : s.over = false) (hop : op = 3) (hwr : o.wr = true) (hrow : s.row = 2) (hx : (x.k = 6 ∨ x.k = 6) ∧ x.wd = o.width ∧ x.sl = o.slots) (hW : Op.fifoAl o) (hsa : 0 ≤ x.sa ∧ x.sa < 4294967296) :
    Calls Try.prog 61 #[.pointer (some ⟨g, 0, none⟩), .slice (some ⟨gl, o.at_, none⟩) n cc, .bool true] w (Leaves N gl g x o.at_ op rd Bl cl (dz (Op.fifoW o s l).1, (Op.fifoW o s l).2) w) := by
  have hin := Op.fmod_bd hW
  have hws := hW.2
  have hinA := Op.fmod_in hW s.b
  obtain ⟨⟨b1, b2⟩, ab, hu20, htr0, ok⟩ := ok
  rw [← ab] at hinA
  have c11 : w.cell? ⟨g, 11, none⟩ = some (.int .i64 s.row) := h.mid.2.2.2.1
  rw [hrow] at c11
  have c16 : w.cell? ⟨g, 16, none⟩ = some (.int .u32 s.a) := h.mid.2.2.2.2.2.2.2.2.1
  have c2 := h.obj.2.2.1
  rw [hx.2.2] at c2
  have f16 := h.thaw 16
  have hgm := h.mine
  have u1 := Ff.u32_in (o.slots : Int) (by omega)
  obtain ⟨M, hM⟩ : ∃ M, M = Op.fmod o := ⟨_, rfl⟩
  have u2 : IntKind.u32.wrap (2 * (o.slots : Int)) = M := by
    rw [hM]
    exact Ff.u32_in _ (by omega)
  rw [← hM] at hin ab
  have m0 : ¬ M = 0 := by omega
  have m1 : 0 < M := hin.1
  have m2 : (M == 0) = false := by simpa using m0
  have hbs : s.a % (o.slots : Int) = s.b % (o.slots : Int) := by
    rw [ab, hM]
    unfold Op.fmod
    exact Int.emod_emod_of_dvd _ ⟨2, by rw [Int.mul_comm]⟩
  have s0 : ¬ (o.slots : Int) = 0 := by omega
  have s1 : (0 : Int) < (o.slots : Int) := by omega
  have hpos : 0 < o.slots * o.width := Nat.mul_pos (by omega) hW.1.1
  have hn2 : (1 : Int) < n := by omega
  have hn1 : (0 : Int) < n := by omega
  have hn2' : 1 < n := by omega
  have hn0 : 0 < n := by omega
  obtain ⟨_, _, _, o4, o2, _⟩ := ok hov
  have o2 := o2 hwr
  have hi := o4 hrow
  have hW8 := hW.1
  have q0 := Int.emod_nonneg s.b s0
  have q1 := Int.emod_lt_of_pos s.b s1
  obtain ⟨q, hq⟩ : ∃ q : Nat, q = (s.b % (o.slots : Int)).toNat := ⟨_, rfl⟩
  have hqi : s.a % (o.slots : Int) = (q : Int) := by rw [hbs]; omega
  have f7 : s.a.tmod (o.slots : Int) = (q : Int) := (Int.tmod_eq_emod_of_nonneg (by omega)).trans hqi
  have f9 := Ff.u32_in (q : Int) (by omega)
  have hqm := Nat.mul_le_mul_right o.width (show q + 1 ≤ o.slots by omega)
  rw [Nat.add_mul] at hqm
  have HH : ∀ w', Calls Try.prog 36 #[.agg #[.int .i64 x.k, .int .i64 x.wd, .int .i64 x.sl, .int .i64 x.cp, .int .u32 x.sa, .slice x.ia x.il x.ic, .int .i64 x.ow, .slice x.ra x.rl x.rc]] w' fun e w'' => e = .returned (.int .i64 ((2 : Nat) : Int)) ∧ Same w' w'' := by
    intro w'
    rw [show x.k = 6 by have := hx.1; omega]
    exact Ff.rhead_any x.wd x.sl x.cp x.sa x.ow x.ia x.ra x.il x.ic x.rl x.rc w' hsa
  have HW := fun w' => rwrites_q x.k hx.1 w'
  have e4 : Op.fifoW o s l = Op.word o s l (2 + q * o.width) (some 3) := by simp [Op.fifoW, hrow, Op.fifoK, hq]
  have hidx : 2 + q * o.width + s.i < n := by omega
  by_cases hlt : s.i + 1 < o.width
  · have PR := rword_wr_on (s := dz s) w h hl hgl hN hNl o.width 2 q n cc (2 + q * o.width + s.i) (3) (some 3) 3 HH HW (by rw [hop]; rfl) hwr hx.2.1 rfl hW8.2 (by omega) (by omega) rfl hidx hn hcc hln hi o2 hlt
    rw [word_dz] at PR
    have HP := Lib.hid PR
    have E4 := Lib.hid e4
    have HROW := Lib.hid hrow
    have HB := Lib.hid h
    clear PR e4 hrow hN ok hidx o2 o4 h hl hq hqm q0 q1 hM ab hbs hx hpos htr0
    generalize (o.slots : Int) = sln at *
    go_enter Try.func61, Try.ntmps61
    go_wp2_with fail
    refine HP.out.mono ?_
    rintro e w6 ⟨rfl, ⟨A6, c6, R6⟩, L6, C6⟩
    have HR6 := Lib.hid R6
    have HL6 := Lib.hid L6
    have HC6 := Lib.hid C6
    clear R6 L6 C6
    go_wp2
    go_end0
    rw [E4.out]
    exact ⟨rfl, ⟨_, _, HR6.out⟩, HL6.out, HC6.out⟩
  · have PR := rword_wr_to (s := dz s) w h hl hgl hN hNl o.width 2 q n cc (2 + q * o.width + s.i) (3) 3 3 HH HW (by rw [hop]; rfl) hwr hx.2.1 rfl hW8.2 (by omega) (by omega) rfl hidx hn hcc hln hi o2 hlt rfl
    rw [word_dz] at PR
    have HP := Lib.hid PR
    have E4 := Lib.hid e4
    have HROW := Lib.hid hrow
    have HB := Lib.hid h
    clear PR e4 hrow hN ok hidx o2 o4 h hl hq hqm q0 q1 hM ab hbs hx hpos htr0
    generalize (o.slots : Int) = sln at *
    go_enter Try.func61, Try.ntmps61
    go_wp2_with fail
    refine HP.out.mono ?_
    rintro e w6 ⟨rfl, ⟨A6, c6, R6⟩, L6, C6⟩
    have HR6 := Lib.hid R6
    have HL6 := Lib.hid L6
    have HC6 := Lib.hid C6
    clear R6 L6 C6
    go_wp2
    go_end0
    rw [E4.out]
    exact ⟨rfl, ⟨_, _, HR6.out⟩, HL6.out, HC6.out⟩

set_option maxHeartbeats 1000000 in
theorem qr2 (w : World) (h : RB N gl w g x o.at_ op rd (dz s) A c) (hl : Own w Bl 22 (some ⟨gl, 0, none⟩) cl (l.map (Value.int .u32))) (hgl : g ≠ gl) (hN : ∀ i, N i → i < w.heap.size) (hNl : ¬ N gl)
    (n cc : Nat) (hsz : 2 + o.slots * o.width ≤ n) (hn : n ≤ 5000) (hcc : n ≤ cc) (hln : o.at_ + n ≤ l.length) (hwl : Op.Wd l) (ok : Op.fifoOk o s) (hov : s.over = false) (hop : op = 4) (hwr : o.wr = false) (hrow : s.row = 2) (hx : (x.k = 6 ∨ x.k = 6) ∧ x.wd = o.width ∧ x.sl = o.slots) (hW : Op.fifoAl o) (hsa : 0 ≤ x.sa ∧ x.sa < 4294967296) :
    Calls Try.prog 61 #[.pointer (some ⟨g, 0, none⟩), .slice (some ⟨gl, o.at_, none⟩) n cc, .bool false] w (Leaves N gl g x o.at_ op rd Bl cl (dz (Op.fifoR o s l).1, (Op.fifoR o s l).2) w) := by
  have hin := Op.fmod_bd hW
  have hws := hW.2
  have hinA := Op.fmod_in hW s.b
  obtain ⟨⟨b1, b2⟩, ab, hu20, htr0, ok⟩ := ok
  rw [← ab] at hinA
  have c11 : w.cell? ⟨g, 11, none⟩ = some (.int .i64 s.row) := h.mid.2.2.2.1
  rw [hrow] at c11
  have c16 : w.cell? ⟨g, 16, none⟩ = some (.int .u32 s.a) := h.mid.2.2.2.2.2.2.2.2.1
  have c2 := h.obj.2.2.1
  rw [hx.2.2] at c2
  have f16 := h.thaw 16
  have hgm := h.mine
  have u1 := Ff.u32_in (o.slots : Int) (by omega)
  obtain ⟨M, hM⟩ : ∃ M, M = Op.fmod o := ⟨_, rfl⟩
  have u2 : IntKind.u32.wrap (2 * (o.slots : Int)) = M := by
    rw [hM]
    exact Ff.u32_in _ (by omega)
  rw [← hM] at hin ab
  have m0 : ¬ M = 0 := by omega
  have m1 : 0 < M := hin.1
  have m2 : (M == 0) = false := by simpa using m0
  have hbs : s.a % (o.slots : Int) = s.b % (o.slots : Int) := by
    rw [ab, hM]
    unfold Op.fmod
    exact Int.emod_emod_of_dvd _ ⟨2, by rw [Int.mul_comm]⟩
  have s0 : ¬ (o.slots : Int) = 0 := by omega
  have s1 : (0 : Int) < (o.slots : Int) := by omega
  have hpos : 0 < o.slots * o.width := Nat.mul_pos (by omega) hW.1.1
  have hn2 : (1 : Int) < n := by omega
  have hn1 : (0 : Int) < n := by omega
  have hn2' : 1 < n := by omega
  have hn0 : 0 < n := by omega
  obtain ⟨_, _, _, o4, _, o2⟩ := ok hov
  have o2 := (o2 hwr).2.1 hrow
  have hi := o4 hrow
  have hW8 := hW.1
  have q0 := Int.emod_nonneg s.b s0
  have q1 := Int.emod_lt_of_pos s.b s1
  obtain ⟨q, hq⟩ : ∃ q : Nat, q = (s.b % (o.slots : Int)).toNat := ⟨_, rfl⟩
  have hqi : s.a % (o.slots : Int) = (q : Int) := by rw [hbs]; omega
  have f7 : s.a.tmod (o.slots : Int) = (q : Int) := (Int.tmod_eq_emod_of_nonneg (by omega)).trans hqi
  have f9 := Ff.u32_in (q : Int) (by omega)
  have hqm := Nat.mul_le_mul_right o.width (show q + 1 ≤ o.slots by omega)
  rw [Nat.add_mul] at hqm
  have HH : ∀ w', Calls Try.prog 36 #[.agg #[.int .i64 x.k, .int .i64 x.wd, .int .i64 x.sl, .int .i64 x.cp, .int .u32 x.sa, .slice x.ia x.il x.ic, .int .i64 x.ow, .slice x.ra x.rl x.rc]] w' fun e w'' => e = .returned (.int .i64 ((2 : Nat) : Int)) ∧ Same w' w'' := by
    intro w'
    rw [show x.k = 6 by have := hx.1; omega]
    exact Ff.rhead_any x.wd x.sl x.cp x.sa x.ow x.ia x.ra x.il x.ic x.rl x.rc w' hsa
  have HW := fun w' => rwrites_q x.k hx.1 w'
  have e4 : Op.fifoR o s l = Op.word o s l (2 + q * o.width) (some 3) := by simp [Op.fifoR, hrow, Op.fifoK, hq]
  have hidx : 2 + q * o.width + s.i < n := by omega
  by_cases hlt : s.i + 1 < o.width
  · have PR := rword_rd_on (s := dz s) w h hl hgl hN hNl o.width 2 q n cc (2 + q * o.width + s.i) (3) (some 3) 3 HH HW (by rw [hop]; rfl) hwr hx.2.1 rfl hW8.2 (by omega) (by omega) rfl hidx hn hcc hln hi o2 hlt
    rw [word_dz] at PR
    have HP := Lib.hid PR
    have E4 := Lib.hid e4
    have HROW := Lib.hid hrow
    have HB := Lib.hid h
    clear PR e4 hrow hN ok hidx o2 o4 h hl hq hqm q0 q1 hM ab hbs hx hpos htr0
    generalize (o.slots : Int) = sln at *
    go_enter Try.func61, Try.ntmps61
    go_wp2_with fail
    refine HP.out.mono ?_
    rintro e w6 ⟨rfl, ⟨A6, c6, R6⟩, L6, C6⟩
    have HR6 := Lib.hid R6
    have HL6 := Lib.hid L6
    have HC6 := Lib.hid C6
    clear R6 L6 C6
    go_wp2
    go_end0
    rw [E4.out]
    exact ⟨rfl, ⟨_, _, HR6.out⟩, HL6.out, HC6.out⟩
  · have PR := rword_rd_to (s := dz s) w h hl hgl hN hNl o.width 2 q n cc (2 + q * o.width + s.i) (3) 3 3 HH HW (by rw [hop]; rfl) hwr hx.2.1 rfl hW8.2 (by omega) (by omega) rfl hidx hn hcc hln hi o2 hlt rfl
    rw [word_dz] at PR
    have HP := Lib.hid PR
    have E4 := Lib.hid e4
    have HROW := Lib.hid hrow
    have HB := Lib.hid h
    clear PR e4 hrow hN ok hidx o2 o4 h hl hq hqm q0 q1 hM ab hbs hx hpos htr0
    generalize (o.slots : Int) = sln at *
    go_enter Try.func61, Try.ntmps61
    go_wp2_with fail
    refine HP.out.mono ?_
    rintro e w6 ⟨rfl, ⟨A6, c6, R6⟩, L6, C6⟩
    have HR6 := Lib.hid R6
    have HL6 := Lib.hid L6
    have HC6 := Lib.hid C6
    clear R6 L6 C6
    go_wp2
    go_end0
    rw [E4.out]
    exact ⟨rfl, ⟨_, _, HR6.out⟩, HL6.out, HC6.out⟩

set_option maxHeartbeats 1000000 in
theorem qw3 (w : World) (h : RB N gl w g x o.at_ op rd (dz s) A c) (hl : Own w Bl 22 (some ⟨gl, 0, none⟩) cl (l.map (Value.int .u32))) (hgl : g ≠ gl) (hN : ∀ i, N i → i < w.heap.size) (hNl : ¬ N gl)
    (n cc : Nat) (hsz : 2 + o.slots * o.width ≤ n) (hn : n ≤ 5000) (hcc : n ≤ cc) (hln : o.at_ + n ≤ l.length) (hwl : Op.Wd l) (ok : Op.fifoOk o s) (hov : s.over = false) (hop : op = 3) (hwr : o.wr = true) (hrow : s.row = 3) (hx : (x.k = 6 ∨ x.k = 6) ∧ x.wd = o.width ∧ x.sl = o.slots) (hW : Op.fifoAl o) (hsa : 0 ≤ x.sa ∧ x.sa < 4294967296) :
    Calls Try.prog 61 #[.pointer (some ⟨g, 0, none⟩), .slice (some ⟨gl, o.at_, none⟩) n cc, .bool true] w (Leaves N gl g x o.at_ op rd Bl cl (dz (Op.fifoW o s l).1, (Op.fifoW o s l).2) w) := by
  have hin := Op.fmod_bd hW
  have hws := hW.2
  have hinA := Op.fmod_in hW s.b
  obtain ⟨⟨b1, b2⟩, ab, hu20, htr0, ok⟩ := ok
  rw [← ab] at hinA
  have c11 : w.cell? ⟨g, 11, none⟩ = some (.int .i64 s.row) := h.mid.2.2.2.1
  rw [hrow] at c11
  have c16 : w.cell? ⟨g, 16, none⟩ = some (.int .u32 s.a) := h.mid.2.2.2.2.2.2.2.2.1
  have c2 := h.obj.2.2.1
  rw [hx.2.2] at c2
  have f16 := h.thaw 16
  have hgm := h.mine
  have u1 := Ff.u32_in (o.slots : Int) (by omega)
  obtain ⟨M, hM⟩ : ∃ M, M = Op.fmod o := ⟨_, rfl⟩
  have u2 : IntKind.u32.wrap (2 * (o.slots : Int)) = M := by
    rw [hM]
    exact Ff.u32_in _ (by omega)
  rw [← hM] at hin ab
  have m0 : ¬ M = 0 := by omega
  have m1 : 0 < M := hin.1
  have m2 : (M == 0) = false := by simpa using m0
  have hbs : s.a % (o.slots : Int) = s.b % (o.slots : Int) := by
    rw [ab, hM]
    unfold Op.fmod
    exact Int.emod_emod_of_dvd _ ⟨2, by rw [Int.mul_comm]⟩
  have s0 : ¬ (o.slots : Int) = 0 := by omega
  have s1 : (0 : Int) < (o.slots : Int) := by omega
  have hpos : 0 < o.slots * o.width := Nat.mul_pos (by omega) hW.1.1
  have hn2 : (1 : Int) < n := by omega
  have hn1 : (0 : Int) < n := by omega
  have hn2' : 1 < n := by omega
  have hn0 : 0 < n := by omega
  have lc := own_cell hl (o.at_ + 1) (by omega)
  obtain ⟨lc, lf⟩ := lc
  have NX := fun w' => rnext_01 s.a M hinA (by omega) w'
  have hnx : (s.a + 1) % M = (s.b + 1) % M := by rw [ab, Int.emod_add_emod]
  rw [hnx] at NX
  have e4 : Op.fifoW o s l = (s.fin true 0, put o l 1 ((s.b + 1) % M)) := by simp [Op.fifoW, hrow, ← hM]
  clear hnx
  have E4 := Lib.hid e4
  have HB := Lib.hid h
  have HL := Lib.hid hl
  have HROW := Lib.hid hrow
  have HXK := Lib.hid hx.1
  clear e4 h hl hN ok hrow ab hbs hx hpos htr0 hM hws hin hinA hwl hW
  generalize (o.slots : Int) = sln at *
  go_enter Try.func61, Try.ntmps61
  go_wp2_with fail
  refine (NX _).mono ?_
  rintro e w2 ⟨rfl, rfl⟩
  go_wp2_with fail
  have C3 : Chg (fun i => i = gl) w (w.setCell ⟨gl, o.at_ + 1, none⟩ (.int .u32 ((s.b + 1) % M))) := ((Chg.refl (fun i => i = gl) w).set (p := ⟨gl, o.at_ + 1, none⟩) (.inl rfl) _)
  have HB3 := Lib.hid (HB.out.chg C3 (fun i hi => .inr hi) hgl)
  have L3 : Own (w.setCell ⟨gl, o.at_ + 1, none⟩ (.int .u32 ((s.b + 1) % M))) Bl 22 (some ⟨gl, 0, none⟩) cl ((put o l 1 ((s.b + 1) % M)).map (Value.int .u32)) := by
    have := HL.out.put (o.at_ + 1) (.int .u32 ((s.b + 1) % M))
    rw [← List.map_set] at this
    exact this
  have HL3 := Lib.hid L3
  have HC3 : Hid (Chg (fun i => ¬ N i) w (w.setCell ⟨gl, o.at_ + 1, none⟩ (.int .u32 ((s.b + 1) % M)))) := Lib.hid (C3.weak fun i _ hi => hi ▸ hNl)
  clear C3 L3 lc lf
  generalize w.setCell ⟨gl, o.at_ + 1, none⟩ (.int .u32 ((s.b + 1) % M)) = w3 at *
  refine (rend_q _ HB3.out HXK.out o.wr (by rw [hwr, hop]; rfl) 0).mono ?_
  rintro e w6 ⟨rfl, R6, c6⟩
  have HR6 := Lib.hid R6
  have HC6 := Lib.hid c6
  clear R6 c6
  go_wp2
  go_end0
  rw [E4.out, ← hwr]
  exact ⟨rfl, HR6.out, HL3.out.chg HC6.out (fun b' hb he => hgl (by injection hb with hb; injection hb with hb; rw [hb]; exact he.symm)), HC3.out.trans (HC6.out.weak fun i _ hi => hi ▸ hgm)⟩

set_option maxHeartbeats 1000000 in
theorem qr3 (w : World) (h : RB N gl w g x o.at_ op rd (dz s) A c) (hl : Own w Bl 22 (some ⟨gl, 0, none⟩) cl (l.map (Value.int .u32))) (hgl : g ≠ gl) (hN : ∀ i, N i → i < w.heap.size) (hNl : ¬ N gl)
    (n cc : Nat) (hsz : 2 + o.slots * o.width ≤ n) (hn : n ≤ 5000) (hcc : n ≤ cc) (hln : o.at_ + n ≤ l.length) (hwl : Op.Wd l) (ok : Op.fifoOk o s) (hov : s.over = false) (hop : op = 4) (hwr : o.wr = false) (hrow : s.row = 3) (hx : (x.k = 6 ∨ x.k = 6) ∧ x.wd = o.width ∧ x.sl = o.slots) (hW : Op.fifoAl o) (hsa : 0 ≤ x.sa ∧ x.sa < 4294967296) :
    Calls Try.prog 61 #[.pointer (some ⟨g, 0, none⟩), .slice (some ⟨gl, o.at_, none⟩) n cc, .bool false] w (Leaves N gl g x o.at_ op rd Bl cl (dz (Op.fifoR o s l).1, (Op.fifoR o s l).2) w) := by
  have hin := Op.fmod_bd hW
  have hws := hW.2
  have hinA := Op.fmod_in hW s.b
  obtain ⟨⟨b1, b2⟩, ab, hu20, htr0, ok⟩ := ok
  rw [← ab] at hinA
  have c11 : w.cell? ⟨g, 11, none⟩ = some (.int .i64 s.row) := h.mid.2.2.2.1
  rw [hrow] at c11
  have c16 : w.cell? ⟨g, 16, none⟩ = some (.int .u32 s.a) := h.mid.2.2.2.2.2.2.2.2.1
  have c2 := h.obj.2.2.1
  rw [hx.2.2] at c2
  have f16 := h.thaw 16
  have hgm := h.mine
  have u1 := Ff.u32_in (o.slots : Int) (by omega)
  obtain ⟨M, hM⟩ : ∃ M, M = Op.fmod o := ⟨_, rfl⟩
  have u2 : IntKind.u32.wrap (2 * (o.slots : Int)) = M := by
    rw [hM]
    exact Ff.u32_in _ (by omega)
  rw [← hM] at hin ab
  have m0 : ¬ M = 0 := by omega
  have m1 : 0 < M := hin.1
  have m2 : (M == 0) = false := by simpa using m0
  have hbs : s.a % (o.slots : Int) = s.b % (o.slots : Int) := by
    rw [ab, hM]
    unfold Op.fmod
    exact Int.emod_emod_of_dvd _ ⟨2, by rw [Int.mul_comm]⟩
  have s0 : ¬ (o.slots : Int) = 0 := by omega
  have s1 : (0 : Int) < (o.slots : Int) := by omega
  have hpos : 0 < o.slots * o.width := Nat.mul_pos (by omega) hW.1.1
  have hn2 : (1 : Int) < n := by omega
  have hn1 : (0 : Int) < n := by omega
  have hn2' : 1 < n := by omega
  have hn0 : 0 < n := by omega
  have lc := own_cell hl (o.at_) (by omega)
  obtain ⟨lc, lf⟩ := lc
  have NX := fun w' => rnext_01 s.a M hinA (by omega) w'
  have hnx : (s.a + 1) % M = (s.b + 1) % M := by rw [ab, Int.emod_add_emod]
  rw [hnx] at NX
  have e4 : Op.fifoR o s l = (s.fin false 0, put o l 0 ((s.b + 1) % M)) := by simp [Op.fifoR, hrow, ← hM]
  clear hnx
  have E4 := Lib.hid e4
  have HB := Lib.hid h
  have HL := Lib.hid hl
  have HROW := Lib.hid hrow
  have HXK := Lib.hid hx.1
  clear e4 h hl hN ok hrow ab hbs hx hpos htr0 hM hws hin hinA hwl hW
  generalize (o.slots : Int) = sln at *
  go_enter Try.func61, Try.ntmps61
  go_wp2_with fail
  refine (NX _).mono ?_
  rintro e w2 ⟨rfl, rfl⟩
  go_wp2_with fail
  have C3 : Chg (fun i => i = gl) w (w.setCell ⟨gl, o.at_, none⟩ (.int .u32 ((s.b + 1) % M))) := ((Chg.refl (fun i => i = gl) w).set (p := ⟨gl, o.at_, none⟩) (.inl rfl) _)
  have HB3 := Lib.hid (HB.out.chg C3 (fun i hi => .inr hi) hgl)
  have L3 : Own (w.setCell ⟨gl, o.at_, none⟩ (.int .u32 ((s.b + 1) % M))) Bl 22 (some ⟨gl, 0, none⟩) cl ((put o l 0 ((s.b + 1) % M)).map (Value.int .u32)) := by
    have := HL.out.put (o.at_) (.int .u32 ((s.b + 1) % M))
    rw [← List.map_set] at this
    exact this
  have HL3 := Lib.hid L3
  have HC3 : Hid (Chg (fun i => ¬ N i) w (w.setCell ⟨gl, o.at_, none⟩ (.int .u32 ((s.b + 1) % M)))) := Lib.hid (C3.weak fun i _ hi => hi ▸ hNl)
  clear C3 L3 lc lf
  generalize w.setCell ⟨gl, o.at_, none⟩ (.int .u32 ((s.b + 1) % M)) = w3 at *
  refine (rend_q _ HB3.out HXK.out o.wr (by rw [hwr, hop]; rfl) 0).mono ?_
  rintro e w6 ⟨rfl, R6, c6⟩
  have HR6 := Lib.hid R6
  have HC6 := Lib.hid c6
  clear R6 c6
  go_wp2
  go_end0
  rw [E4.out, ← hwr]
  exact ⟨rfl, HR6.out, HL3.out.chg HC6.out (fun b' hb he => hgl (by injection hb with hb; injection hb with hb; rw [hb]; exact he.symm)), HC3.out.trans (HC6.out.weak fun i _ hi => hi ▸ hgm)⟩

end

end Go.Proofs.Ytdepogopepjonaa.Rf
