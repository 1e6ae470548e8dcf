/-
  The document's own operation on a ring: each row.
-/
import Derived.Test.YtniglkbfkehfmaaRefWordW
import Derived.Test.YtniglkbfkehfmaaRingLay
import Derived.Test.YtniglkbfkehfmaaOpRing
set_option linter.unusedVariables false
namespace Go.Proofs.Ytniglkbfkehfmaa.Rf
open Go.ChangeShapes Go.WideShapes Go.ChangeAt Go.RowKit Ws Mm Pa
open Go.Proofs.Ytniglkbfkehfmaa.Op (St Im gd get put more)

section
variable {N : Nat → Prop} {gl : Nat} {g : Nat} {x : Ox} {op rd : Int} {s : St} {A : Option Addr} {c : Nat} {l : List Int} {Bl cl : Nat} {o : Im}

theorem rto_lit (w : World) (h : RB N gl w g x o.at_ op rd s A c) (i : Int) (r : Nat) (hi : i = (r : Int)) :
    Calls Try.prog 102 #[.pointer (some ⟨g, 0, none⟩), .int .i64 i] w fun e w' => e = .returned (.tuple #[]) ∧ RB N gl w' g x o.at_ op rd (s.to r) A c ∧ Chg (fun i => i = g) w w' := by
  subst hi
  exact rto_any w h r
theorem word_ab (o : Im) (s : St) (l : List Int) (k : Nat) (nx : Option Nat) : (Op.word o s l k nx).1.a = s.a ∧ (Op.word o s l k nx).1.b = s.b := by
  unfold Op.word
  cases o.wr
  all_goals
    simp only [Bool.false_eq_true, if_true, if_false]
    split
    · exact ⟨rfl, rfl⟩
    · cases nx <;> exact ⟨rfl, rfl⟩
theorem ab_of {w' : World} {k : Nat} {nx : Option Nat} {A' : Option Addr} {c' : Nat} (h : RB N gl w' g x o.at_ op rd (Op.word o s l k nx).1 A' c') :
    w'.cell? ⟨g, 16, none⟩ = some (.int .u32 s.a) ∧ w'.cell? ⟨g, 17, none⟩ = some (.int .u32 s.b) := by
  obtain ⟨_, _, _, _, _, _, _, _, h1, h2⟩ := h.mid
  rw [(word_ab o s l k nx).1] at h1
  rw [(word_ab o s l k nx).2] at h2
  exact ⟨h1, h2⟩

theorem rfail_any (w : World) (h : RB N gl w g x o.at_ op rd s A c) (hcp : x.cp = o.cap) (ht : s.tries < o.cap) (hc : o.cap ≤ 16) :
    Calls Try.prog 107 #[.pointer (some ⟨g, 0, none⟩)] w fun e w' => e = .returned (.bool (decide (o.cap ≤ s.tries + 1))) ∧ RB N gl w' g x o.at_ op rd { s with tries := s.tries + 1, rc := [], row := 0, i := 0 } none 0 ∧ Chg (fun i => i = g) w w' := by
  obtain ⟨_, _, _, c3, _⟩ := h.obj
  rw [hcp] at c3
  obtain ⟨_, _, _, _, _, c13, _⟩ := h.mid
  obtain ⟨c38, _⟩ := h.tail
  have f13 := h.thaw 13
  have f38 := h.thaw 38
  have e1 : ((s.tries : Int) + 1) = ((s.tries + 1 : Nat) : Int) := by omega
  have h1 := h.set_tries (s.tries + 1)
  have hc1 := (Chg.refl (fun i => i = g) w).set (p := ⟨g, 13, none⟩) (.inl rfl) (.int .i64 ((s.tries + 1 : Nat) : Int))
  have h2 := h1.set_rec none 0 [] (own_nil _ _) (fun b hb => by cases hb)
  have hc2 := hc1.set (p := ⟨g, 38, none⟩) (.inl rfl) (.slice none ([] : List Int).length 0)
  rw [← e1] at h1 h2 hc1 hc2
  have H2 := Lib.hid h2
  have HC2 := Lib.hid hc2
  have H0 := Lib.hid h
  have E1 := Lib.hid e1
  clear h h1 h2 hc1 hc2 e1
  go_enter Try.func107, Try.ntmps107
  go_wp2_with fail
  refine (rto_lit _ H2.out 0 0 rfl).mono ?_
  rintro e w6 ⟨rfl, R6, c6⟩
  have HR6 := Lib.hid R6
  have HC6 := Lib.hid (HC2.out.trans c6)
  obtain ⟨_, _, _, k3, _⟩ := R6.obj
  obtain ⟨_, _, _, _, _, k13, _⟩ := R6.mid
  rw [hcp] at k3
  have k13 : w6.cell? ⟨g, 13, none⟩ = some (.int .i64 ((s.tries + 1 : Nat) : Int)) := k13
  clear R6 c6 H2 HC2 H0
  go_wp2_with fail
  go_quiet (fail)
  go_wp2
  go_ret
  exact ⟨rfl, HR6.out.same ((Same.refl _).drewN _), HC6.out.trans ((Chg.refl _ _).drewN _)⟩

/-- what the document's operation keeps: no word of the program's -/
def dz (s : St) : St := { s with b := 0 }
theorem word_dz (o : Im) (s : St) (l : List Int) (k : Nat) (nx : Option Nat) : Op.word o (dz s) l k nx = (dz (Op.word o s l k nx).1, (Op.word o s l k nx).2) := by
  unfold Op.word dz
  cases o.wr
  all_goals
    simp only [Bool.false_eq_true, if_true, if_false]
    split
    · rfl
    · cases nx <;> rfl
theorem rstep_01 (c n m : Int) (hc : 0 ≤ c ∧ c < 4294967296) (hn : 0 ≤ n ∧ n < 4294967296) (hm : 0 < m ∧ m < 4294967296) (w : World) :
    Calls Try.prog 125 #[.int .u32 c, .int .u32 n, .int .u32 m] w fun e w' => e = .returned (.int .u32 ((c + n) % m)) ∧ w = w' := by
  have f1 := Rg.u64_in c (by omega)
  have f2 := Rg.u64_in n (by omega)
  have f3 := Rg.u64_in m (by omega)
  have f4 := Rg.u64_in (c + n) (by omega)
  have h0 := Int.emod_nonneg (c + n) (show m ≠ 0 by omega)
  have h1 := Int.emod_lt_of_pos (c + n) hm.1
  have f5 := Rg.u32_in ((c + n) % m) (by omega)
  have f6 : (m == 0) = false := by simp; omega
  have f7 : (c + n).tmod m = (c + n) % m := Int.tmod_eq_emod_of_nonneg (by omega)
  have f8 := Rg.u64_in ((c + n) % m) (by omega)
  clear h0 h1
  obtain ⟨c1, c2⟩ := hc
  obtain ⟨n1, n2⟩ := hn
  obtain ⟨m1, m2⟩ := hm
  go_enter Try.func125, Try.ntmps125
  go_wp2
  go_ret
  exact ⟨rfl, rfl⟩
theorem rnext_01 (c m : Int) (hc : 0 ≤ c ∧ c < 4294967296) (hm : 0 < m ∧ m < 4294967296) (w : World) :
    Calls Try.prog 108 #[.int .u32 c, .int .u32 m] w fun e w' => e = .returned (.int .u32 ((c + 1) % m)) ∧ w = w' := by
  have ST := fun w' => rstep_01 c 1 m hc (by omega) hm w'
  clear hc hm
  go_enter Try.func108, Try.ntmps108
  go_wp2_with fail
  refine (ST _).mono ?_
  rintro e w' ⟨rfl, rfl⟩
  go_wp2
  go_ret
  exact ⟨rfl, rfl⟩
theorem rgap_01 (x y m : Int) (hx : 0 ≤ x ∧ x < 4294967296) (hy : 0 ≤ y ∧ y < 4294967296) (hm : 0 < m ∧ m < 4294967296) (w : World) :
    Calls Try.prog 109 #[.int .u32 x, .int .u32 y, .int .u32 m] w fun e w' => e = .returned (.int .u32 (Op.rgap m x y)) ∧ Same w w' := by
  obtain ⟨p, hp⟩ : ∃ p, p = x % m := ⟨_, rfl⟩
  obtain ⟨q, hq⟩ : ∃ q, q = y % m := ⟨_, rfl⟩
  have p0 := Int.emod_nonneg x (show m ≠ 0 by omega)
  have p1 := Int.emod_lt_of_pos x hm.1
  have q0 := Int.emod_nonneg y (show m ≠ 0 by omega)
  have q1 := Int.emod_lt_of_pos y hm.1
  have r0 := Int.emod_nonneg (q + m - p) (show m ≠ 0 by omega)
  have r1 := Int.emod_lt_of_pos (q + m - p) hm.1
  have f6 : (m == 0) = false := by simp; omega
  have f6' : ¬ m = 0 := by omega
  have f7 : x.tmod m = p := (Int.tmod_eq_emod_of_nonneg (by omega)).trans hp.symm
  have f8 : y.tmod m = q := (Int.tmod_eq_emod_of_nonneg (by omega)).trans hq.symm
  rw [← hp] at p0 p1
  rw [← hq] at q0 q1
  have E : Hid (Op.rgap m x y = (q + m - p) % m) := Lib.hid (by unfold Op.rgap; rw [← hp, ← hq])
  have a1 := Rg.u32_in p (by omega)
  have a2 := Rg.u32_in q (by omega)
  have a3 := Rg.u64_in p (by omega)
  have a4 := Rg.u64_in q (by omega)
  have a5 := Rg.u64_in m (by omega)
  have a6 := Rg.u64_in (q + m) (by omega)
  have a7 := Rg.u64_in (q + m - p) (by omega)
  have a8 : (q + m - p).tmod m = (q + m - p) % m := Int.tmod_eq_emod_of_nonneg (by omega)
  have a9 := Rg.u64_in ((q + m - p) % m) (by omega)
  have a10 := Rg.u32_in ((q + m - p) % m) (by omega)
  obtain ⟨m1, m2⟩ := hm
  clear hp hq hx hy
  generalize (q + m - p) % m = z at *
  rw [E.out]
  go_enter Try.func109, Try.ntmps109
  go_wp2_with fail
  go_quiet (fail)
  go_wp2
  go_ret
  exact ⟨rfl, (Same.refl _).drewN _⟩

set_option maxHeartbeats 1000000 in
theorem rgw0 (w : World) (h : RB N gl w g x o.at_ op rd (dz s) A c) (hl : Own w Bl 22 (some ⟨gl, 0, none⟩) cl (l.map (Value.int .u32))) (hgl : g ≠ gl) (hN : ∀ i, N i → i < w.heap.size) (hNl : ¬ N gl)
    (n cc : Nat) (hsz : 1 + o.slots * o.width ≤ n) (hn : n ≤ 5000) (hcc : n ≤ cc) (hln : o.at_ + n ≤ l.length) (hwl : Op.Wd l) (ok : Op.ringOk o s) (hov : s.over = false) (hop : op = 2) (hwr : o.wr = true) (hrow : s.row = 0) (hx : x.k = 4 ∧ x.wd = o.width ∧ x.cp = o.cap ∧ x.sl = o.slots) (hW : Op.ringAl o) (hsa : 0 ≤ x.sa ∧ x.sa < 4294967296) :
    Calls Try.prog 62 #[.pointer (some ⟨g, 0, none⟩), .slice (some ⟨gl, o.at_, none⟩) n cc, .bool true] w (Leaves N gl g x o.at_ op rd Bl cl (dz (Op.ringW o s l).1, (Op.ringW o s l).2) w) := by
  have hin := Op.rmod_bd hW
  have hws := hW.2.2
  have hinA := Op.rmod_in hW s.b
  obtain ⟨⟨b1, b2⟩, ⟨ab, hbw⟩, hu20, ok⟩ := ok
  rw [← ab] at hinA
  have c11 : w.cell? ⟨g, 11, none⟩ = some (.int .i64 s.row) := h.mid.2.2.2.1
  rw [hrow] at c11
  have c16 : w.cell? ⟨g, 16, none⟩ = some (.int .u32 s.a) := h.mid.2.2.2.2.2.2.2.2.1
  have c2 := h.obj.2.2.1
  rw [hx.2.2.2] at c2
  have f16 := h.thaw 16
  have hgm := h.mine
  have htr := (ok hov).2.1
  have u1 := Rg.u32_in (o.slots : Int) (by omega)
  obtain ⟨M, hM⟩ : ∃ M, M = Op.rmod o := ⟨_, rfl⟩
  have u2 : IntKind.u32.wrap ((o.slots : Int) * 1048576) = M := by
    rw [hM]
    exact Rg.u32_in _ (by unfold Op.rmod at hin; omega)
  rw [← hM] at hin ab hbw
  have m0 : ¬ M = 0 := by omega
  have m1 : 0 < M := hin.1
  have m2 : (M == 0) = false := by simpa using m0
  have hbs : s.a % (o.slots : Int) = s.b % (o.slots : Int) := by
    rw [ab, hM]
    unfold Op.rmod
    exact Int.emod_emod_of_dvd _ ⟨1048576, rfl⟩
  have s0 : ¬ (o.slots : Int) = 0 := by omega
  have s1 : (0 : Int) < (o.slots : Int) := by omega
  have hy := hwl.get o 0
  rw [Op.get_gd] at hy
  obtain ⟨y, ey⟩ : ∃ y, y = gd l (o.at_) := ⟨_, rfl⟩
  have lc := (own_cell hl (o.at_) (by omega)).1
  have e0 : o.at_ + 0 = o.at_ := rfl
  rw [e0] at hy
  rw [← ey] at lc hy
  have hn1 : (0 : Int) < n := by omega
  have hn0 : 0 < n := by omega
  have f7 : y.tmod M = y % M := Int.tmod_eq_emod_of_nonneg (by omega)
  have r0 := Int.emod_nonneg y m0
  have r1 := Int.emod_lt_of_pos y m1
  have f9 := Rg.u32_in (y % M) (by omega)
  have NX := fun w' => rnext_01 (y % M) M (by omega) (by omega) w'
  rw [Int.emod_add_emod] at NX
  have e4 : Op.ringW o s l = ({ s.to 1 with a := (y + 1) % M, b := (y + 1) % M }, l) := by simp [Op.ringW, hrow, Op.get_gd, ← ey, ← hM]
  clear ey
  have hyM : (y + 1) % M = (y + 1) % M := rfl
  have E4 := Lib.hid e4
  have HB := Lib.hid h
  have HL := Lib.hid hl
  have HROW := Lib.hid hrow
  clear e4 h hl hN ok hrow ab hbs hbw hM hws hin hinA hwl hW hx hyM
  generalize (o.slots : Int) = sln at *
  go_enter Try.func62, Try.ntmps62
  go_wp2_with fail
  have R1 := Lib.hid (HB.out.set_a (y % M))
  have hc1 := Lib.hid ((Chg.refl (fun i => i = g) w).set (p := ⟨g, 16, none⟩) (.inl rfl) (.int .u32 (y % M)))
  refine (NX _).mono ?_
  rintro e w2 ⟨rfl, rfl⟩
  have k16 := R1.out.thaw 16
  go_wp2_with fail
  have R2 := Lib.hid (R1.out.set_a ((y + 1) % M))
  have hc2 := Lib.hid (hc1.out.set (p := ⟨g, 16, none⟩) (.inl rfl) (.int .u32 ((y + 1) % M)))
  refine (rto_lit _ R2.out 1 1 rfl).mono ?_
  rintro e w6 ⟨rfl, R6, c6⟩
  have HR6 := Lib.hid R6
  have HC6 := Lib.hid (hc2.out.trans c6)
  clear R6 c6 hc1 R1
  go_wp2
  go_end0
  rw [E4.out]
  exact ⟨rfl, ⟨_, _, HR6.out⟩, HL.out.chg HC6.out (fun b' hb he => hgl (by injection hb with hb; injection hb with hb; rw [hb]; exact he.symm)), HC6.out.weak fun i _ hi => hi ▸ hgm⟩

set_option maxHeartbeats 1000000 in
theorem rgr0 (w : World) (h : RB N gl w g x o.at_ op rd (dz s) A c) (hl : Own w Bl 22 (some ⟨gl, 0, none⟩) cl (l.map (Value.int .u32))) (hgl : g ≠ gl) (hN : ∀ i, N i → i < w.heap.size) (hNl : ¬ N gl)
    (n cc : Nat) (hsz : 1 + o.slots * o.width ≤ n) (hn : n ≤ 5000) (hcc : n ≤ cc) (hln : o.at_ + n ≤ l.length) (hwl : Op.Wd l) (ok : Op.ringOk o s) (hov : s.over = false) (hop : op = 1) (hwr : o.wr = false) (hrow : s.row = 0) (hx : x.k = 4 ∧ x.wd = o.width ∧ x.cp = o.cap ∧ x.sl = o.slots) (hW : Op.ringAl o) (hsa : 0 ≤ x.sa ∧ x.sa < 4294967296) :
    Calls Try.prog 62 #[.pointer (some ⟨g, 0, none⟩), .slice (some ⟨gl, o.at_, none⟩) n cc, .bool false] w (Leaves N gl g x o.at_ op rd Bl cl (dz (Op.ringR o s l).1, (Op.ringR o s l).2) w) := by
  have hin := Op.rmod_bd hW
  have hws := hW.2.2
  have hinA := Op.rmod_in hW s.b
  obtain ⟨⟨b1, b2⟩, ⟨ab, hbw⟩, hu20, ok⟩ := ok
  rw [← ab] at hinA
  have c11 : w.cell? ⟨g, 11, none⟩ = some (.int .i64 s.row) := h.mid.2.2.2.1
  rw [hrow] at c11
  have c16 : w.cell? ⟨g, 16, none⟩ = some (.int .u32 s.a) := h.mid.2.2.2.2.2.2.2.2.1
  have c2 := h.obj.2.2.1
  rw [hx.2.2.2] at c2
  have f16 := h.thaw 16
  have hgm := h.mine
  have htr := (ok hov).2.1
  have u1 := Rg.u32_in (o.slots : Int) (by omega)
  obtain ⟨M, hM⟩ : ∃ M, M = Op.rmod o := ⟨_, rfl⟩
  have u2 : IntKind.u32.wrap ((o.slots : Int) * 1048576) = M := by
    rw [hM]
    exact Rg.u32_in _ (by unfold Op.rmod at hin; omega)
  rw [← hM] at hin ab hbw
  have m0 : ¬ M = 0 := by omega
  have m1 : 0 < M := hin.1
  have m2 : (M == 0) = false := by simpa using m0
  have hbs : s.a % (o.slots : Int) = s.b % (o.slots : Int) := by
    rw [ab, hM]
    unfold Op.rmod
    exact Int.emod_emod_of_dvd _ ⟨1048576, rfl⟩
  have s0 : ¬ (o.slots : Int) = 0 := by omega
  have s1 : (0 : Int) < (o.slots : Int) := by omega
  have hy := hwl.get o 0
  rw [Op.get_gd] at hy
  obtain ⟨y, ey⟩ : ∃ y, y = gd l (o.at_) := ⟨_, rfl⟩
  have lc := (own_cell hl (o.at_) (by omega)).1
  have e0 : o.at_ + 0 = o.at_ := rfl
  rw [e0] at hy
  rw [← ey] at lc hy
  have hn1 : (0 : Int) < n := by omega
  have hn0 : 0 < n := by omega
  have f7 : y.tmod M = y % M := Int.tmod_eq_emod_of_nonneg (by omega)
  have r0 := Int.emod_nonneg y m0
  have r1 := Int.emod_lt_of_pos y m1
  have f9 := Rg.u32_in (y % M) (by omega)
  have e4 : Op.ringR o s l = ({ s.to 1 with a := y % M, b := y }, l) := by simp [Op.ringR, hrow, Op.get_gd, ← ey, ← hM]
  clear ey
  have hyM : (y + 1) % M = (y + 1) % M := rfl
  have E4 := Lib.hid e4
  have HB := Lib.hid h
  have HL := Lib.hid hl
  have HROW := Lib.hid hrow
  clear e4 h hl hN ok hrow ab hbs hbw hM hws hin hinA hwl hW hx hyM
  generalize (o.slots : Int) = sln at *
  go_enter Try.func62, Try.ntmps62
  go_wp2_with fail
  have R1 := Lib.hid (HB.out.set_a (y % M))
  have hc1 := Lib.hid ((Chg.refl (fun i => i = g) w).set (p := ⟨g, 16, none⟩) (.inl rfl) (.int .u32 (y % M)))
  refine (rto_lit _ R1.out 1 1 rfl).mono ?_
  rintro e w6 ⟨rfl, R6, c6⟩
  have HR6 := Lib.hid R6
  have HC6 := Lib.hid (hc1.out.trans c6)
  clear R6 c6 hc1 R1
  go_wp2
  go_end0
  rw [E4.out]
  exact ⟨rfl, ⟨_, _, HR6.out⟩, HL.out.chg HC6.out (fun b' hb he => hgl (by injection hb with hb; injection hb with hb; rw [hb]; exact he.symm)), HC6.out.weak fun i _ hi => hi ▸ hgm⟩

set_option maxHeartbeats 1000000 in
theorem rgw1 (w : World) (h : RB N gl w g x o.at_ op rd (dz s) A c) (hl : Own w Bl 22 (some ⟨gl, 0, none⟩) cl (l.map (Value.int .u32))) (hgl : g ≠ gl) (hN : ∀ i, N i → i < w.heap.size) (hNl : ¬ N gl)
    (n cc : Nat) (hsz : 1 + o.slots * o.width ≤ n) (hn : n ≤ 5000) (hcc : n ≤ cc) (hln : o.at_ + n ≤ l.length) (hwl : Op.Wd l) (ok : Op.ringOk o s) (hov : s.over = false) (hop : op = 2) (hwr : o.wr = true) (hrow : s.row = 1) (hx : x.k = 4 ∧ x.wd = o.width ∧ x.cp = o.cap ∧ x.sl = o.slots) (hW : Op.ringAl o) (hsa : 0 ≤ x.sa ∧ x.sa < 4294967296) :
    Calls Try.prog 62 #[.pointer (some ⟨g, 0, none⟩), .slice (some ⟨gl, o.at_, none⟩) n cc, .bool true] w (Leaves N gl g x o.at_ op rd Bl cl (dz (Op.ringW o s l).1, (Op.ringW o s l).2) w) := by
  have hin := Op.rmod_bd hW
  have hws := hW.2.2
  have hinA := Op.rmod_in hW s.b
  obtain ⟨⟨b1, b2⟩, ⟨ab, hbw⟩, hu20, ok⟩ := ok
  rw [← ab] at hinA
  have c11 : w.cell? ⟨g, 11, none⟩ = some (.int .i64 s.row) := h.mid.2.2.2.1
  rw [hrow] at c11
  have c16 : w.cell? ⟨g, 16, none⟩ = some (.int .u32 s.a) := h.mid.2.2.2.2.2.2.2.2.1
  have c2 := h.obj.2.2.1
  rw [hx.2.2.2] at c2
  have f16 := h.thaw 16
  have hgm := h.mine
  have htr := (ok hov).2.1
  have u1 := Rg.u32_in (o.slots : Int) (by omega)
  obtain ⟨M, hM⟩ : ∃ M, M = Op.rmod o := ⟨_, rfl⟩
  have u2 : IntKind.u32.wrap ((o.slots : Int) * 1048576) = M := by
    rw [hM]
    exact Rg.u32_in _ (by unfold Op.rmod at hin; omega)
  rw [← hM] at hin ab hbw
  have m0 : ¬ M = 0 := by omega
  have m1 : 0 < M := hin.1
  have m2 : (M == 0) = false := by simpa using m0
  have hbs : s.a % (o.slots : Int) = s.b % (o.slots : Int) := by
    rw [ab, hM]
    unfold Op.rmod
    exact Int.emod_emod_of_dvd _ ⟨1048576, rfl⟩
  have s0 : ¬ (o.slots : Int) = 0 := by omega
  have s1 : (0 : Int) < (o.slots : Int) := by omega
  obtain ⟨_, _, o2, _, o4⟩ := (ok hov).2.2.1 hwr
  have hi := o4 hrow
  have hW8 := hW.1
  have q0 := Int.emod_nonneg s.b s0
  have q1 := Int.emod_lt_of_pos s.b s1
  obtain ⟨q, hq⟩ : ∃ q : Nat, q = (s.b % (o.slots : Int)).toNat := ⟨_, rfl⟩
  have hqi : s.a % (o.slots : Int) = (q : Int) := by rw [hbs]; omega
  have f7 : s.a.tmod (o.slots : Int) = (q : Int) := (Int.tmod_eq_emod_of_nonneg (by omega)).trans hqi
  have f9 := Rg.u32_in (q : Int) (by omega)
  have hqm := Nat.mul_le_mul_right o.width (show q + 1 ≤ o.slots by omega)
  rw [Nat.add_mul] at hqm
  have HH : ∀ w', Calls Try.prog 100 #[.agg #[.int .i64 x.k, .int .i64 x.wd, .int .i64 x.sl, .int .i64 x.cp, .int .u32 x.sa, .slice x.ia x.il x.ic, .int .i64 x.ow, .slice x.ra x.rl x.rc]] w' fun e w'' => e = .returned (.int .i64 ((1 : Nat) : Int)) ∧ Same w' w'' := by
    intro w'
    rw [hx.1]
    exact Rg.rhead_any x.wd x.sl x.cp x.sa x.ow x.ia x.ra x.il x.ic x.rl x.rc w' hsa
  have HW := fun w' => Ob.rwrites_reg x.k (by rw [hx.1]; decide) w'
  have e4 : Op.ringW o s l = Op.word o s l (1 + q * o.width) (some 2) := by simp [Op.ringW, hrow, Op.ringK, hq]
  have hidx : 1 + q * o.width + s.i < n := by omega
  by_cases hlt : s.i + 1 < o.width
  · have PR := rword_wr_on (s := dz s) w h hl hgl hN hNl o.width 1 q n cc (1 + q * o.width + s.i) (2) (some 2) 2 HH HW (by rw [hop]; rfl) hwr hx.2.1 rfl hW8.2 (by omega) (by omega) rfl hidx hn hcc hln hi o2 hlt
    rw [word_dz] at PR
    have HP := Lib.hid PR
    have E4 := Lib.hid e4
    have HROW := Lib.hid hrow
    have HB := Lib.hid h
    clear PR e4 hrow hN ok hidx o2 o4 h hl hq hqm q0 q1 hM ab hbs hbw
    generalize (o.slots : Int) = sln at *
    go_enter Try.func62, Try.ntmps62
    go_wp2_with fail
    refine HP.out.mono ?_
    rintro e w6 ⟨rfl, ⟨A6, c6, R6⟩, L6, C6⟩
    have HR6 := Lib.hid R6
    have HL6 := Lib.hid L6
    have HC6 := Lib.hid C6
    clear R6 L6 C6
    go_wp2
    go_end0
    rw [E4.out]
    exact ⟨rfl, ⟨_, _, HR6.out⟩, HL6.out, HC6.out⟩
  · have PR := rword_wr_to (s := dz s) w h hl hgl hN hNl o.width 1 q n cc (1 + q * o.width + s.i) (2) 2 2 HH HW (by rw [hop]; rfl) hwr hx.2.1 rfl hW8.2 (by omega) (by omega) rfl hidx hn hcc hln hi o2 hlt rfl
    rw [word_dz] at PR
    have HP := Lib.hid PR
    have E4 := Lib.hid e4
    have HROW := Lib.hid hrow
    have HB := Lib.hid h
    clear PR e4 hrow hN ok hidx o2 o4 h hl hq hqm q0 q1 hM ab hbs hbw
    generalize (o.slots : Int) = sln at *
    go_enter Try.func62, Try.ntmps62
    go_wp2_with fail
    refine HP.out.mono ?_
    rintro e w6 ⟨rfl, ⟨A6, c6, R6⟩, L6, C6⟩
    have HR6 := Lib.hid R6
    have HL6 := Lib.hid L6
    have HC6 := Lib.hid C6
    clear R6 L6 C6
    go_wp2
    go_end0
    rw [E4.out]
    exact ⟨rfl, ⟨_, _, HR6.out⟩, HL6.out, HC6.out⟩

set_option maxHeartbeats 1000000 in
theorem rgr1 (w : World) (h : RB N gl w g x o.at_ op rd (dz s) A c) (hl : Own w Bl 22 (some ⟨gl, 0, none⟩) cl (l.map (Value.int .u32))) (hgl : g ≠ gl) (hN : ∀ i, N i → i < w.heap.size) (hNl : ¬ N gl)
    (n cc : Nat) (hsz : 1 + o.slots * o.width ≤ n) (hn : n ≤ 5000) (hcc : n ≤ cc) (hln : o.at_ + n ≤ l.length) (hwl : Op.Wd l) (ok : Op.ringOk o s) (hov : s.over = false) (hop : op = 1) (hwr : o.wr = false) (hrow : s.row = 1) (hx : x.k = 4 ∧ x.wd = o.width ∧ x.cp = o.cap ∧ x.sl = o.slots) (hW : Op.ringAl o) (hsa : 0 ≤ x.sa ∧ x.sa < 4294967296) :
    Calls Try.prog 62 #[.pointer (some ⟨g, 0, none⟩), .slice (some ⟨gl, o.at_, none⟩) n cc, .bool false] w (Leaves N gl g x o.at_ op rd Bl cl (dz (Op.ringR o s l).1, (Op.ringR o s l).2) w) := by
  have hin := Op.rmod_bd hW
  have hws := hW.2.2
  have hinA := Op.rmod_in hW s.b
  obtain ⟨⟨b1, b2⟩, ⟨ab, hbw⟩, hu20, ok⟩ := ok
  rw [← ab] at hinA
  have c11 : w.cell? ⟨g, 11, none⟩ = some (.int .i64 s.row) := h.mid.2.2.2.1
  rw [hrow] at c11
  have c16 : w.cell? ⟨g, 16, none⟩ = some (.int .u32 s.a) := h.mid.2.2.2.2.2.2.2.2.1
  have c2 := h.obj.2.2.1
  rw [hx.2.2.2] at c2
  have f16 := h.thaw 16
  have hgm := h.mine
  have htr := (ok hov).2.1
  have u1 := Rg.u32_in (o.slots : Int) (by omega)
  obtain ⟨M, hM⟩ : ∃ M, M = Op.rmod o := ⟨_, rfl⟩
  have u2 : IntKind.u32.wrap ((o.slots : Int) * 1048576) = M := by
    rw [hM]
    exact Rg.u32_in _ (by unfold Op.rmod at hin; omega)
  rw [← hM] at hin ab hbw
  have m0 : ¬ M = 0 := by omega
  have m1 : 0 < M := hin.1
  have m2 : (M == 0) = false := by simpa using m0
  have hbs : s.a % (o.slots : Int) = s.b % (o.slots : Int) := by
    rw [ab, hM]
    unfold Op.rmod
    exact Int.emod_emod_of_dvd _ ⟨1048576, rfl⟩
  have s0 : ¬ (o.slots : Int) = 0 := by omega
  have s1 : (0 : Int) < (o.slots : Int) := by omega
  obtain ⟨_, _, o2, _, _, o4⟩ := (ok hov).2.2.2 hwr
  have o2 := o2 hrow
  have hi := o4 hrow
  have hW8 := hW.1
  have q0 := Int.emod_nonneg s.b s0
  have q1 := Int.emod_lt_of_pos s.b s1
  obtain ⟨q, hq⟩ : ∃ q : Nat, q = (s.b % (o.slots : Int)).toNat := ⟨_, rfl⟩
  have hqi : s.a % (o.slots : Int) = (q : Int) := by rw [hbs]; omega
  have f7 : s.a.tmod (o.slots : Int) = (q : Int) := (Int.tmod_eq_emod_of_nonneg (by omega)).trans hqi
  have f9 := Rg.u32_in (q : Int) (by omega)
  have hqm := Nat.mul_le_mul_right o.width (show q + 1 ≤ o.slots by omega)
  rw [Nat.add_mul] at hqm
  have HH : ∀ w', Calls Try.prog 100 #[.agg #[.int .i64 x.k, .int .i64 x.wd, .int .i64 x.sl, .int .i64 x.cp, .int .u32 x.sa, .slice x.ia x.il x.ic, .int .i64 x.ow, .slice x.ra x.rl x.rc]] w' fun e w'' => e = .returned (.int .i64 ((1 : Nat) : Int)) ∧ Same w' w'' := by
    intro w'
    rw [hx.1]
    exact Rg.rhead_any x.wd x.sl x.cp x.sa x.ow x.ia x.ra x.il x.ic x.rl x.rc w' hsa
  have HW := fun w' => Ob.rwrites_reg x.k (by rw [hx.1]; decide) w'
  have e4 : Op.ringR o s l = Op.word o s l (1 + q * o.width) (some 2) := by simp [Op.ringR, hrow, Op.ringK, hq]
  have hidx : 1 + q * o.width + s.i < n := by omega
  by_cases hlt : s.i + 1 < o.width
  · have PR := rword_rd_on (s := dz s) w h hl hgl hN hNl o.width 1 q n cc (1 + q * o.width + s.i) (2) (some 2) 2 HH HW (by rw [hop]; rfl) hwr hx.2.1 rfl hW8.2 (by omega) (by omega) rfl hidx hn hcc hln hi o2 hlt
    rw [word_dz] at PR
    have HP := Lib.hid PR
    have E4 := Lib.hid e4
    have HROW := Lib.hid hrow
    have HB := Lib.hid h
    clear PR e4 hrow hN ok hidx o2 o4 h hl hq hqm q0 q1 hM ab hbs hbw
    generalize (o.slots : Int) = sln at *
    go_enter Try.func62, Try.ntmps62
    go_wp2_with fail
    refine HP.out.mono ?_
    rintro e w6 ⟨rfl, ⟨A6, c6, R6⟩, L6, C6⟩
    have HR6 := Lib.hid R6
    have HL6 := Lib.hid L6
    have HC6 := Lib.hid C6
    clear R6 L6 C6
    go_wp2
    go_end0
    rw [E4.out]
    exact ⟨rfl, ⟨_, _, HR6.out⟩, HL6.out, HC6.out⟩
  · have PR := rword_rd_to (s := dz s) w h hl hgl hN hNl o.width 1 q n cc (1 + q * o.width + s.i) (2) 2 2 HH HW (by rw [hop]; rfl) hwr hx.2.1 rfl hW8.2 (by omega) (by omega) rfl hidx hn hcc hln hi o2 hlt rfl
    rw [word_dz] at PR
    have HP := Lib.hid PR
    have E4 := Lib.hid e4
    have HROW := Lib.hid hrow
    have HB := Lib.hid h
    clear PR e4 hrow hN ok hidx o2 o4 h hl hq hqm q0 q1 hM ab hbs hbw
    generalize (o.slots : Int) = sln at *
    go_enter Try.func62, Try.ntmps62
    go_wp2_with fail
    refine HP.out.mono ?_
    rintro e w6 ⟨rfl, ⟨A6, c6, R6⟩, L6, C6⟩
    have HR6 := Lib.hid R6
    have HL6 := Lib.hid L6
    have HC6 := Lib.hid C6
    clear R6 L6 C6
    go_wp2
    go_end0
    rw [E4.out]
    exact ⟨rfl, ⟨_, _, HR6.out⟩, HL6.out, HC6.out⟩

set_option maxHeartbeats 1000000 in
theorem rgw2 (w : World) (h : RB N gl w g x o.at_ op rd (dz s) A c) (hl : Own w Bl 22 (some ⟨gl, 0, none⟩) cl (l.map (Value.int .u32))) (hgl : g ≠ gl) (hN : ∀ i, N i → i < w.heap.size) (hNl : ¬ N gl)
    (n cc : Nat) (hsz : 1 + o.slots * o.width ≤ n) (hn : n ≤ 5000) (hcc : n ≤ cc) (hln : o.at_ + n ≤ l.length) (hwl : Op.Wd l) (ok : Op.ringOk o s) (hov : s.over = false) (hop : op = 2) (hwr : o.wr = true) (hrow : s.row = 2) (hx : x.k = 4 ∧ x.wd = o.width ∧ x.cp = o.cap ∧ x.sl = o.slots) (hW : Op.ringAl o) (hsa : 0 ≤ x.sa ∧ x.sa < 4294967296) :
    Calls Try.prog 62 #[.pointer (some ⟨g, 0, none⟩), .slice (some ⟨gl, o.at_, none⟩) n cc, .bool true] w (Leaves N gl g x o.at_ op rd Bl cl (dz (Op.ringW o s l).1, (Op.ringW o s l).2) w) := by
  have hin := Op.rmod_bd hW
  have hws := hW.2.2
  have hinA := Op.rmod_in hW s.b
  obtain ⟨⟨b1, b2⟩, ⟨ab, hbw⟩, hu20, ok⟩ := ok
  rw [← ab] at hinA
  have c11 : w.cell? ⟨g, 11, none⟩ = some (.int .i64 s.row) := h.mid.2.2.2.1
  rw [hrow] at c11
  have c16 : w.cell? ⟨g, 16, none⟩ = some (.int .u32 s.a) := h.mid.2.2.2.2.2.2.2.2.1
  have c2 := h.obj.2.2.1
  rw [hx.2.2.2] at c2
  have f16 := h.thaw 16
  have hgm := h.mine
  have htr := (ok hov).2.1
  have u1 := Rg.u32_in (o.slots : Int) (by omega)
  obtain ⟨M, hM⟩ : ∃ M, M = Op.rmod o := ⟨_, rfl⟩
  have u2 : IntKind.u32.wrap ((o.slots : Int) * 1048576) = M := by
    rw [hM]
    exact Rg.u32_in _ (by unfold Op.rmod at hin; omega)
  rw [← hM] at hin ab hbw
  have m0 : ¬ M = 0 := by omega
  have m1 : 0 < M := hin.1
  have m2 : (M == 0) = false := by simpa using m0
  have hbs : s.a % (o.slots : Int) = s.b % (o.slots : Int) := by
    rw [ab, hM]
    unfold Op.rmod
    exact Int.emod_emod_of_dvd _ ⟨1048576, rfl⟩
  have s0 : ¬ (o.slots : Int) = 0 := by omega
  have s1 : (0 : Int) < (o.slots : Int) := by omega
  have lc := own_cell hl (o.at_) (by omega)
  obtain ⟨lc, lf⟩ := lc
  have hn1 : (0 : Int) < n := by omega
  have hba : s.b = s.a := by rw [ab]; exact (Int.emod_eq_of_lt b1 (hbw hwr (by omega))).symm
  have e4 : Op.ringW o s l = (s.fin true 0, put o l 0 s.a) := by simp [Op.ringW, hrow, hba]
  have E4 := Lib.hid e4
  have HB := Lib.hid h
  have HL := Lib.hid hl
  have HROW := Lib.hid hrow
  clear e4 h hl hN ok hrow hbs hbw
  clear hba ab hM
  generalize (o.slots : Int) = sln at *
  go_enter Try.func62, Try.ntmps62
  go_wp2_with fail
  have C3 : Chg (fun i => i = gl) w (w.setCell ⟨gl, o.at_, none⟩ (.int .u32 s.a)) := ((Chg.refl (fun i => i = gl) w).set (p := ⟨gl, o.at_, none⟩) (.inl rfl) _)
  have HB3 := Lib.hid (HB.out.chg C3 (fun i hi => .inr hi) hgl)
  have L3 : Own (w.setCell ⟨gl, o.at_, none⟩ (.int .u32 s.a)) Bl 22 (some ⟨gl, 0, none⟩) cl ((put o l 0 s.a).map (Value.int .u32)) := by
    have := HL.out.put (o.at_) (.int .u32 s.a)
    rw [← List.map_set] at this
    exact this
  have HL3 := Lib.hid L3
  have HC3 : Hid (Chg (fun i => ¬ N i) w (w.setCell ⟨gl, o.at_, none⟩ (.int .u32 s.a))) := Lib.hid (C3.weak fun i _ hi => hi ▸ hNl)
  clear C3 L3 lc lf
  generalize w.setCell ⟨gl, o.at_, none⟩ (.int .u32 s.a) = w3 at *
  refine (rend_any _ HB3.out (by rw [hx.1]; decide) o.wr (by rw [hwr, hop]; rfl) 0).mono ?_
  rintro e w6 ⟨rfl, R6, c6⟩
  have HR6 := Lib.hid R6
  have HC6 := Lib.hid c6
  clear R6 c6
  go_wp2
  go_end0
  rw [E4.out, ← hwr]
  exact ⟨rfl, HR6.out, HL3.out.chg HC6.out (fun b' hb he => hgl (by injection hb with hb; injection hb with hb; rw [hb]; exact he.symm)), HC3.out.trans (HC6.out.weak fun i _ hi => hi ▸ hgm)⟩

set_option maxHeartbeats 1000000 in
theorem rgr2 (w : World) (h : RB N gl w g x o.at_ op rd (dz s) A c) (hl : Own w Bl 22 (some ⟨gl, 0, none⟩) cl (l.map (Value.int .u32))) (hgl : g ≠ gl) (hN : ∀ i, N i → i < w.heap.size) (hNl : ¬ N gl)
    (n cc : Nat) (hsz : 1 + o.slots * o.width ≤ n) (hn : n ≤ 5000) (hcc : n ≤ cc) (hln : o.at_ + n ≤ l.length) (hwl : Op.Wd l) (ok : Op.ringOk o s) (hov : s.over = false) (hop : op = 1) (hwr : o.wr = false) (hrow : s.row = 2) (hx : x.k = 4 ∧ x.wd = o.width ∧ x.cp = o.cap ∧ x.sl = o.slots) (hW : Op.ringAl o) (hsa : 0 ≤ x.sa ∧ x.sa < 4294967296) :
    Calls Try.prog 62 #[.pointer (some ⟨g, 0, none⟩), .slice (some ⟨gl, o.at_, none⟩) n cc, .bool false] w (Leaves N gl g x o.at_ op rd Bl cl (dz (Op.ringR o s l).1, (Op.ringR o s l).2) w) := by
  have hin := Op.rmod_bd hW
  have hws := hW.2.2
  have hinA := Op.rmod_in hW s.b
  obtain ⟨⟨b1, b2⟩, ⟨ab, hbw⟩, hu20, ok⟩ := ok
  rw [← ab] at hinA
  have c11 : w.cell? ⟨g, 11, none⟩ = some (.int .i64 s.row) := h.mid.2.2.2.1
  rw [hrow] at c11
  have c16 : w.cell? ⟨g, 16, none⟩ = some (.int .u32 s.a) := h.mid.2.2.2.2.2.2.2.2.1
  have c2 := h.obj.2.2.1
  rw [hx.2.2.2] at c2
  have f16 := h.thaw 16
  have hgm := h.mine
  have htr := (ok hov).2.1
  have u1 := Rg.u32_in (o.slots : Int) (by omega)
  obtain ⟨M, hM⟩ : ∃ M, M = Op.rmod o := ⟨_, rfl⟩
  have u2 : IntKind.u32.wrap ((o.slots : Int) * 1048576) = M := by
    rw [hM]
    exact Rg.u32_in _ (by unfold Op.rmod at hin; omega)
  rw [← hM] at hin ab hbw
  have m0 : ¬ M = 0 := by omega
  have m1 : 0 < M := hin.1
  have m2 : (M == 0) = false := by simpa using m0
  have hbs : s.a % (o.slots : Int) = s.b % (o.slots : Int) := by
    rw [ab, hM]
    unfold Op.rmod
    exact Int.emod_emod_of_dvd _ ⟨1048576, rfl⟩
  have s0 : ¬ (o.slots : Int) = 0 := by omega
  have s1 : (0 : Int) < (o.slots : Int) := by omega
  have hy := hwl.get o 0
  rw [Op.get_gd] at hy
  obtain ⟨y, ey⟩ : ∃ y, y = gd l (o.at_) := ⟨_, rfl⟩
  have lc := (own_cell hl (o.at_) (by omega)).1
  have e0 : o.at_ + 0 = o.at_ := rfl
  rw [e0] at hy
  rw [← ey] at lc hy
  have hn1 : (0 : Int) < n := by omega
  have hn0 : 0 < n := by omega
  have GP := fun w' => rgap_01 s.a y M hinA hy (by omega) w'
  have hgs : Op.rgap M s.a y = Op.rgap M s.b y := by unfold Op.rgap; rw [ab]; congr 2; exact Int.emod_emod_of_dvd _ (Int.dvd_refl _)
  rw [hgs] at GP
  obtain ⟨gp, hgp⟩ : ∃ gp, gp = Op.rgap M s.b y := ⟨_, rfl⟩
  have gp0 : 0 ≤ gp := by rw [hgp]; exact Int.emod_nonneg _ m0
  have gp1 : gp < M := by rw [hgp]; exact Int.emod_lt_of_pos _ m1
  have gw := Rg.u32_in (gp + 1) (by omega)
  rw [← hgp] at GP
  by_cases hfr : gp + 1 < (o.slots : Int)
  · have b1 : decide (gp + 1 < (o.slots : Int)) = true := by simpa using hfr
    have e4 : Op.ringR o s l = (s.fin false 0, l) := by simp [Op.ringR, hrow, Op.get_gd, ← ey, ← hM, ← hgp, hfr]
    have E4 := Lib.hid e4
    have HB := Lib.hid h
    have HL := Lib.hid hl
    have HROW := Lib.hid hrow
    clear e4 h hl hN ok hrow hbs hbw
    clear ab hM hgs hgp ey
    have HCX := Lib.hid hx
    have HWX := Lib.hid hW
    have hcpx := hx.2.2.1
    generalize (o.slots : Int) = sln at *
    go_enter Try.func62, Try.ntmps62
    go_wp2_with fail
    go_region_held3 (fun w' => w'.cell? ⟨g, 16, none⟩ = some (.int .u32 s.a) ∧ w'.cell? ⟨gl, o.at_, none⟩ = some (.int .u32 y) ∧ Same w w')
      (first | assumption | exact ⟨c16, lc, (Same.refl _).drew⟩ | (rcases ‹_ ∧ _ ∧ Same w _› with ⟨x1, x2, x9⟩; exact ⟨hs.cell x1, hs.cell x2, x9.trans hs⟩))
      (first | (go_at_call 109; ((with_reducible refine (GP _).mono ?_); rintro e w' ⟨rfl, hs⟩)))
    rcases ‹_ ∧ _ ∧ Same w _› with ⟨_, _, x9⟩
    have HC1 := Lib.hid ((Chg.refl (fun i => i = g) w).trans (x9.chg _))
    have HB3 := Lib.hid (HB.out.same x9)
    go_wp2_with fail
    refine (rend_any _ HB3.out (by rw [HCX.out.1]; decide) o.wr (by rw [hwr, hop]; rfl) 0).mono ?_
    rintro e w6 ⟨rfl, R6, c6⟩
    have HR6 := Lib.hid R6
    have HC6 := Lib.hid (HC1.out.trans c6)
    clear R6 c6
    go_wp2
    go_end0
    rw [E4.out, ← hwr]
    exact ⟨rfl, HR6.out, HL.out.chg HC6.out (fun b' hb he => hgl (by injection hb with hb; injection hb with hb; rw [hb]; exact he.symm)), HC6.out.weak fun i _ hi => hi ▸ hgm⟩
  · have b1 : decide (gp + 1 < (o.slots : Int)) = false := by simpa using hfr
    have e4 : Op.ringR o s l = (Op.failS o s, l) := by simp [Op.ringR, hrow, Op.get_gd, ← ey, ← hM, ← hgp, hfr]
    have E4 := Lib.hid e4
    have HB := Lib.hid h
    have HL := Lib.hid hl
    have HROW := Lib.hid hrow
    clear e4 h hl hN ok hrow hbs hbw
    clear ab hM hgs hgp ey
    have HCX := Lib.hid hx
    have HWX := Lib.hid hW
    have hcpx := hx.2.2.1
    generalize (o.slots : Int) = sln at *
    go_enter Try.func62, Try.ntmps62
    go_wp2_with fail
    go_region_held3 (fun w' => w'.cell? ⟨g, 16, none⟩ = some (.int .u32 s.a) ∧ w'.cell? ⟨gl, o.at_, none⟩ = some (.int .u32 y) ∧ Same w w')
      (first | assumption | exact ⟨c16, lc, (Same.refl _).drew⟩ | (rcases ‹_ ∧ _ ∧ Same w _› with ⟨x1, x2, x9⟩; exact ⟨hs.cell x1, hs.cell x2, x9.trans hs⟩))
      (first | (go_at_call 109; ((with_reducible refine (GP _).mono ?_); rintro e w' ⟨rfl, hs⟩)))
    rcases ‹_ ∧ _ ∧ Same w _› with ⟨_, _, x9⟩
    have HC1 := Lib.hid ((Chg.refl (fun i => i = g) w).trans (x9.chg _))
    have HB3 := Lib.hid (HB.out.same x9)
    go_wp2_with fail
    refine (rfail_any _ HB3.out HCX.out.2.2.1 htr HWX.out.2.1.2).mono ?_
    rintro e w5 ⟨rfl, R5, c5⟩
    have HR5 := Lib.hid R5
    have HC5 := Lib.hid (HC1.out.trans c5)
    clear R5 c5
    by_cases hcap : o.cap ≤ s.tries + 1
    · rw [show decide (o.cap ≤ (dz s).tries + 1) = true from decide_eq_true hcap]
      go_wp2_with fail
      refine (rend_any _ HR5.out (by rw [HCX.out.1]; decide) o.wr (by rw [hwr, hop]; rfl) 1).mono ?_
      rintro e w6 ⟨rfl, R6, c6⟩
      have HR6 := Lib.hid R6
      have HC6 := Lib.hid (HC5.out.trans c6)
      clear R6 c6
      go_wp2
      go_end0
      rw [E4.out]
      unfold Op.failS
      simp only [hcap, ↓reduceIte]
      exact ⟨rfl, HR6.out, HL.out.chg HC6.out (fun b' hb he => hgl (by injection hb with hb; injection hb with hb; rw [hb]; exact he.symm)), HC6.out.weak fun i _ hi => hi ▸ hgm⟩
    · rw [show decide (o.cap ≤ (dz s).tries + 1) = false from decide_eq_false hcap]
      go_wp2
      go_end0
      rw [E4.out]
      unfold Op.failS
      simp only [hcap, ↓reduceIte]
      exact ⟨rfl, ⟨_, _, HR5.out⟩, HL.out.chg HC5.out (fun b' hb he => hgl (by injection hb with hb; injection hb with hb; rw [hb]; exact he.symm)), HC5.out.weak fun i _ hi => hi ▸ hgm⟩

end

end Go.Proofs.Ytniglkbfkehfmaa.Rf
