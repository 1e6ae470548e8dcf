/-
  Layer 33: a task and an object laid (image.out's task and object).
-/
import Derived.Test.YtfpefkpbiioofabImgSmall
set_option linter.unusedVariables false
set_option linter.unusedSimpArgs false
namespace Go.Proofs.Ytfpefkpbiioofab.Im
open Go.ChangeShapes Go.WideShapes Go.ChangeAt Go.RowKit Ws Cd

theorem row_blk {w : World} {b : Nat} {t : TypeId} {cs : Array Value} (h : Blk w b t cs) : Row w (some ⟨b, 0, none⟩) cs.toList := by
  intro j u hj
  refine ⟨b, 0, rfl, ?_⟩
  rw [Nat.zero_add, h.cell j]
  simpa using hj
/-- numbers that were just built into a slice are laid -/
theorem small_lit {H g : Nat} {A : Option Addr} {c : Nat} {s : St} (n : Nat) (xs : List Int) (cs : Array Value) (w : World) (b : Nat) (hb : b = w.heap.size) (hx : xs.length = n) (hn : n ≤ 9223372036854775807) (hcs : cs = (xs.map (Value.int .i64)).toArray) (h : Out w H g A c s) :
    Calls Try.prog 22 #[.pointer (some ⟨g, 0, none⟩), .slice (some ⟨b, 0, none⟩) n n] (w.alloc (.cells cs 3)) fun e w' => e = .returned (.tuple #[]) ∧ (∃ A' c', Out w' H g A' c' (lay s (sm xs))) ∧ Lain w H g w' := by
  subst hcs
  subst hb
  have hs := (Same.refl w).alloc (.cells (xs.map (Value.int .i64)).toArray 3)
  have ho := h.same hs
  refine (small_any _ n n xs _ hx hn ho (fun wx hl => ?_)).mono (fun e w' ⟨h1, h2, h3⟩ => ⟨h1, h2, Lain.trans (Lain.of hs) h3⟩)
  have := row_blk (ho.blk2 hl (Blk.new w 3 (xs.map (Value.int .i64)).toArray) (by decide) (by decide))
  simpa using this
theorem large_lit {H g : Nat} {A : Option Addr} {c : Nat} {s : St} (n : Nat) (xs : List Int) (cs : Array Value) (w : World) (b : Nat) (hb : b = w.heap.size) (hx : xs.length = n) (hn : n ≤ 9223372036854775807) (hcs : cs = (xs.map (Value.int .i64)).toArray) (h : Out w H g A c s) :
    Calls Try.prog 43 #[.pointer (some ⟨g, 0, none⟩), .slice (some ⟨b, 0, none⟩) n n] (w.alloc (.cells cs 3)) fun e w' => e = .returned (.tuple #[]) ∧ (∃ A' c', Out w' H g A' c' (lay s (lg xs))) ∧ Lain w H g w' := by
  subst hcs
  subst hb
  have hs := (Same.refl w).alloc (.cells (xs.map (Value.int .i64)).toArray 3)
  have ho := h.same hs
  refine (large_any _ n n xs _ hx hn ho (fun wx hl => ?_)).mono (fun e w' ⟨h1, h2, h3⟩ => ⟨h1, h2, Lain.trans (Lain.of hs) h3⟩)
  have := row_blk (ho.blk2 hl (Blk.new w 3 (xs.map (Value.int .i64)).toArray) (by decide) (by decide))
  simpa using this
theorem ins_take {l : List Ins} {k : Nat} {x : Ins} (s : St) (h : l[k]? = some x) : lay (lay (lay s ((l.take k).flatMap itI)) (sm [x.op, x.a, x.b, x.c])) (lg [x.n]) = lay s ((l.take (k + 1)).flatMap itI) := by
  rw [List.take_add_one, h, List.flatMap_append, lay_app, ← lay_app]
  rfl
theorem task_all (s : St) (p : PT) : lay (lay (lay (lay s (sm [p.kind, p.prio])) (lg [p.per, p.off, p.dl])) (sm [p.own, p.code.length])) (p.code.flatMap itI) = lay s (itT p) := by
  unfold itT
  rw [lay_app, ← lay_app, ← lay_app]
  rfl
theorem ini_take {l : List Int} {k : Nat} {x : Int} (s : St) (h : l[k]? = some x) : lay (lay s (lg (l.take k))) (lg [x]) = lay s (lg (l.take (k + 1))) := by
  unfold lg
  rw [List.take_add_one, h, List.map_append, lay_app]
  rfl
theorem obj_all (s : St) (p : PO) : lay (lay (lay (lay (lay (lay s (sm [p.k, p.wd, p.sl, p.cp])) (lg [p.sa])) (sm [p.ow, p.rd.length])) (sm p.rd)) (sm [p.ini.length])) (lg p.ini) = lay s (itO p) := by
  have e : itO p = sm [p.k, p.wd, p.sl, p.cp] ++ (lg [p.sa] ++ (sm [p.ow, p.rd.length] ++ (sm p.rd ++ (sm [(p.ini.length : Int)] ++ lg p.ini)))) := rfl
  rw [e]
  simp only [lay_app]
theorem tc {w : World} {b : Nat} {T : TypeId} {v0 v1 v2 v3 v4 v5 v6 : Value} (h : Blk w b T #[v0, v1, v2, v3, v4, v5, v6]) : w.cell? ⟨b, 0, none⟩ = some v0 ∧ w.cell? ⟨b, 1, none⟩ = some v1 ∧ w.cell? ⟨b, 2, none⟩ = some v2 ∧ w.cell? ⟨b, 3, none⟩ = some v3 ∧ w.cell? ⟨b, 4, none⟩ = some v4 ∧ w.cell? ⟨b, 5, none⟩ = some v5 ∧ w.cell? ⟨b, 6, none⟩ = some v6 :=
  ⟨h.cell 0, h.cell 1, h.cell 2, h.cell 3, h.cell 4, h.cell 5, h.cell 6⟩
theorem oc {w : World} {b : Nat} {T : TypeId} {v0 v1 v2 v3 v4 v5 v6 v7 : Value} (h : Blk w b T #[v0, v1, v2, v3, v4, v5, v6, v7]) : w.cell? ⟨b, 0, none⟩ = some v0 ∧ w.cell? ⟨b, 1, none⟩ = some v1 ∧ w.cell? ⟨b, 2, none⟩ = some v2 ∧ w.cell? ⟨b, 3, none⟩ = some v3 ∧ w.cell? ⟨b, 4, none⟩ = some v4 ∧ w.cell? ⟨b, 5, none⟩ = some v5 ∧ w.cell? ⟨b, 6, none⟩ = some v6 ∧ w.cell? ⟨b, 7, none⟩ = some v7 :=
  ⟨h.cell 0, h.cell 1, h.cell 2, h.cell 3, h.cell 4, h.cell 5, h.cell 6, h.cell 7⟩
theorem ic {w : World} {b : Nat} {T : TypeId} {v0 v1 v2 v3 v4 : Value} (h : Blk w b T #[v0, v1, v2, v3, v4]) : w.cell? ⟨b, 0, none⟩ = some v0 ∧ w.cell? ⟨b, 1, none⟩ = some v1 ∧ w.cell? ⟨b, 2, none⟩ = some v2 ∧ w.cell? ⟨b, 3, none⟩ = some v3 ∧ w.cell? ⟨b, 4, none⟩ = some v4 :=
  ⟨h.cell 0, h.cell 1, h.cell 2, h.cell 3, h.cell 4⟩
set_option maxRecDepth 100000 in
set_option maxHeartbeats 1000000 in
theorem puttask_any {H g : Nat} {A : Option Addr} {c : Nat} {s : St} (w0 w : World) (hs : Same w0 w) (hH : w0.heap.size ≤ H) (kind prio per off dl own : Int) (code : List Ins) (X : Option Addr) (d : Nat) (hcode : Code w0 X code) (hlen : code.length ≤ 9223372036854775807) (h : Out w H g A c s) :
    Calls Try.prog 23 #[.pointer (some ⟨g, 0, none⟩), .agg #[.int .i64 kind, .int .i64 prio, .int .i64 per, .int .i64 off, .int .i64 dl, .int .i64 own, .slice X code.length d]] w fun e w' => e = .returned (.tuple #[]) ∧ (∃ A' c', Out w' H g A' c' (lay s (itT ⟨kind, prio, per, off, dl, own, code⟩))) ∧ Lain w H g w' := by
  have HALL := Lib.hid (task_all s ⟨kind, prio, per, off, dl, own, code⟩)
  generalize itT ⟨kind, prio, per, off, dl, own, code⟩ = ALL at *
  dsimp only at HALL
  have HCODE := Lib.hid hcode
  clear hcode
  have hb0 := Blk.new w 49 #[.int .i64 kind, .int .i64 prio, .int .i64 per, .int .i64 off, .int .i64 dl, .int .i64 own, .slice X code.length d]
  have hs0 := (Same.refl w).alloc (.cells #[.int .i64 kind, .int .i64 prio, .int .i64 per, .int .i64 off, .int .i64 dl, .int .i64 own, .slice X code.length d] 49)
  have HS := Lib.hid hs
  have HO0 := Lib.hid (h.same hs0)
  have HL0 := Lib.hid (Lain.of (H := H) (g := g) hs0)
  have HB0 := Lib.hid hb0
  have HLEN := Lib.hid hlen
  clear hs h hb0 hs0 hlen
  go_enter Try.func23, Try.ntmps23
  obtain ⟨q0, q1, q2, q3, q4, q5, q6⟩ := tc HB0.out
  go_wp2_with fail
  refine (small_lit 2 [kind, prio] _ _ _ (by simp) rfl (by omega) rfl HO0.out).mono ?_
  rintro e w1 ⟨rfl, ⟨A1, c1, o1⟩, l1⟩
  have HO1 := Lib.hid o1
  have HL1 := Lib.hid (Lain.trans HL0.out l1)
  have HB1 := Lib.hid (HO0.out.blk2 l1 HB0.out (by decide) (by decide))
  clear o1 l1 q0 q1 q2 q3 q4 q5 q6 HO0 HL0 HB0
  obtain ⟨q0, q1, q2, q3, q4, q5, q6⟩ := tc HB1.out
  go_wp2_with fail
  refine (large_lit 3 [per, off, dl] _ _ _ (by simp) rfl (by omega) rfl HO1.out).mono ?_
  rintro e w2 ⟨rfl, ⟨A2, c2, o2⟩, l2⟩
  have HO2 := Lib.hid o2
  have HL2 := Lib.hid (Lain.trans HL1.out l2)
  have HB2 := Lib.hid (HO1.out.blk2 l2 HB1.out (by decide) (by decide))
  clear o2 l2 q0 q1 q2 q3 q4 q5 q6 HO1 HL1 HB1
  obtain ⟨q0, q1, q2, q3, q4, q5, q6⟩ := tc HB2.out
  go_wp2_with fail
  refine (small_lit 2 [own, (code.length : Int)] _ _ _ (by simp) rfl (by omega) rfl HO2.out).mono ?_
  rintro e w3 ⟨rfl, ⟨A3, c3, o3⟩, l3⟩
  have HO3 := Lib.hid o3
  have HL3 := Lib.hid (Lain.trans HL2.out l3)
  have HB3 := Lib.hid (HO2.out.blk2 l3 HB2.out (by decide) (by decide))
  clear o3 l3 q0 q1 q2 q3 q4 q5 q6 HO2 HL2 HB2
  obtain ⟨q0, q1, q2, q3, q4, q5, q6⟩ := tc HB3.out
  go_wp2_with fail
  clear q0 q1 q2 q3 q4 q5 q6
  generalize hs3 : lay (lay (lay s (sm [kind, prio])) (lg [per, off, dl])) (sm [own, (code.length : Int)]) = s3 at *
  clear hs3
  generalize hm : code.length = m at *
  have HM := Lib.hid hm
  clear hm
  go_loopg [33] m (fun gk iv wx => ∃ (k : Nat) (A1 : Option Addr) (c1 : Nat), k + gk = m ∧ iv = .int .i64 k ∧ Out wx H g A1 c1 (lay s3 ((code.take k).flatMap itI)) ∧ Lain w H g wx)
  case atStart => exact ⟨0, A3, c3, by omega, rfl, HO3.out, HL3.out⟩
  case round =>
    obtain ⟨k, A1, c1, hk, rfl, ho, hl⟩ := hrel
    have HOk := Lib.hid ho
    have HLk := Lib.hid hl
    clear ho hl
    cases gk with
    | zero =>
      obtain rfl : k = m := by omega
      have hge : ¬ (k : Int) < (k : Int) := by omega
      go_wp2_with fail
      go_end0
      refine ⟨rfl, ⟨A1, c1, ?_⟩, HLk.out⟩
      have h1 := HOk.out
      rw [List.take_of_length_le (by rw [HM.out]; omega), HALL.out] at h1
      exact h1
    | succ GK =>
      have hmb := HLEN.out
      have hlt : (k : Int) < m := by omega
      have k0 : (0 : Int) ≤ k := by omega
      obtain ⟨x, hx⟩ : ∃ x, code[k]? = some x := ⟨_, List.getElem?_eq_getElem (by have := HM.out; omega)⟩
      have HX := Lib.hid hx
      obtain ⟨hn, b, o, rfl, e0, e1, e2, e3, e4⟩ := (HCODE.out.same (Lain.stays HS.out hH HLk.out)).at_ hx
      clear hx
      have hs1 := (Same.refl wr).alloc (.cells #[.int .i64 x.op, .int .i64 x.a, .int .i64 x.b, .int .i64 x.c, .int .u32 x.n] 52)
      have HB4 := Lib.hid (Blk.new wr 52 #[.int .i64 x.op, .int .i64 x.a, .int .i64 x.b, .int .i64 x.c, .int .u32 x.n])
      have HO4 := Lib.hid (HOk.out.same hs1)
      have HL4 := Lib.hid (Lain.trans HLk.out (Lain.of hs1))
      clear hs1
      obtain ⟨q0, q1, q2, q3, q4⟩ := ic HB4.out
      go_wp2_with fail
      refine (small_lit 4 [x.op, x.a, x.b, x.c] _ _ _ (by simp) rfl (by omega) rfl HO4.out).mono ?_
      rintro e w5 ⟨rfl, ⟨A5, c5, o5⟩, l5⟩
      have HO5 := Lib.hid o5
      have HL5 := Lib.hid (Lain.trans HL4.out l5)
      have HB5 := Lib.hid (HO4.out.blk2 l5 HB4.out (by decide) (by decide))
      clear o5 l5 q0 q1 q2 q3 q4 HB4 HO4 HL4 e0 e1 e2 e3 e4
      obtain ⟨q0, q1, q2, q3, q4⟩ := ic HB5.out
      go_wp2_with fail
      refine (large_lit 1 [x.n] _ _ _ (by simp) rfl (by omega) rfl HO5.out).mono ?_
      rintro e w6 ⟨rfl, ⟨A6, c6, o6⟩, l6⟩
      have HO6 := Lib.hid o6
      have HL6 := Lib.hid (Lain.trans HL5.out l6)
      clear o6 l6 q0 q1 q2 q3 q4 HB5 HO5 HL5
      go_wp2_with fail
      go_roundg GK
      case measure => omega
      case rel => exact ⟨k + 1, A6, c6, by omega, by go_num, by rw [← ins_take s3 HX.out]; exact HO6.out, HL6.out⟩
set_option maxRecDepth 100000 in
set_option maxHeartbeats 1000000 in
theorem putobj_any {H g : Nat} {A : Option Addr} {c : Nat} {s : St} (w0 w : World) (hs : Same w0 w) (hH : w0.heap.size ≤ H) (k_ wd sl cp sa ow : Int) (rd ini : List Int) (X : Option Addr) (d : Nat) (Y : Option Addr) (f : Nat) (hini : Row w0 X (ini.map (Value.int .u32))) (hwd : ∀ y ∈ ini, 0 ≤ y ∧ y < 4294967296) (hsa : 0 ≤ sa ∧ sa < 4294967296) (hrd : Row w0 Y (rd.map (Value.int .i64))) (hlen : ini.length ≤ 9223372036854775807) (hrl : rd.length ≤ 9223372036854775807) (h : Out w H g A c s) :
    Calls Try.prog 24 #[.pointer (some ⟨g, 0, none⟩), .agg #[.int .i64 k_, .int .i64 wd, .int .i64 sl, .int .i64 cp, .int .u32 sa, .slice X ini.length d, .int .i64 ow, .slice Y rd.length f]] w fun e w' => e = .returned (.tuple #[]) ∧ (∃ A' c', Out w' H g A' c' (lay s (itO ⟨k_, wd, sl, cp, sa, ow, rd, ini⟩))) ∧ Lain w H g w' := by
  have HALL := Lib.hid (obj_all s ⟨k_, wd, sl, cp, sa, ow, rd, ini⟩)
  generalize itO ⟨k_, wd, sl, cp, sa, ow, rd, ini⟩ = ALL at *
  dsimp only at HALL
  have HINI := Lib.hid hini
  have HWD := Lib.hid hwd
  have HRD := Lib.hid hrd
  clear hini hrd hwd
  have hb0 := Blk.new w 56 #[.int .i64 k_, .int .i64 wd, .int .i64 sl, .int .i64 cp, .int .u32 sa, .slice X ini.length d, .int .i64 ow, .slice Y rd.length f]
  have hs0 := (Same.refl w).alloc (.cells #[.int .i64 k_, .int .i64 wd, .int .i64 sl, .int .i64 cp, .int .u32 sa, .slice X ini.length d, .int .i64 ow, .slice Y rd.length f] 56)
  have HS := Lib.hid hs
  have HO0 := Lib.hid (h.same hs0)
  have HL0 := Lib.hid (Lain.of (H := H) (g := g) hs0)
  have HB0 := Lib.hid hb0
  have HLEN := Lib.hid hlen
  clear hs h hb0 hs0 hlen
  go_enter Try.func24, Try.ntmps24
  obtain ⟨q0, q1, q2, q3, q4, q5, q6, q7⟩ := oc HB0.out
  go_wp2_with fail
  refine (small_lit 4 [k_, wd, sl, cp] _ _ _ (by simp) rfl (by omega) rfl HO0.out).mono ?_
  rintro e w1 ⟨rfl, ⟨A1, c1, o1⟩, l1⟩
  have HO1 := Lib.hid o1
  have HL1 := Lib.hid (Lain.trans HL0.out l1)
  have HB1 := Lib.hid (HO0.out.blk2 l1 HB0.out (by decide) (by decide))
  clear o1 l1 q0 q1 q2 q3 q4 q5 q6 q7 HO0 HL0 HB0
  obtain ⟨q0, q1, q2, q3, q4, q5, q6, q7⟩ := oc HB1.out
  go_wp2_with fail
  refine (large_lit 1 [sa] _ _ _ (by simp) rfl (by omega) rfl HO1.out).mono ?_
  rintro e w2 ⟨rfl, ⟨A2, c2, o2⟩, l2⟩
  have HO2 := Lib.hid o2
  have HL2 := Lib.hid (Lain.trans HL1.out l2)
  have HB2 := Lib.hid (HO1.out.blk2 l2 HB1.out (by decide) (by decide))
  clear o2 l2 q0 q1 q2 q3 q4 q5 q6 q7 HO1 HL1 HB1
  obtain ⟨q0, q1, q2, q3, q4, q5, q6, q7⟩ := oc HB2.out
  go_wp2_with fail
  refine (small_lit 2 [ow, (rd.length : Int)] _ _ _ (by simp) rfl (by omega) rfl HO2.out).mono ?_
  rintro e w3 ⟨rfl, ⟨A3, c3, o3⟩, l3⟩
  have HO3 := Lib.hid o3
  have HL3 := Lib.hid (Lain.trans HL2.out l3)
  have HB3 := Lib.hid (HO2.out.blk2 l3 HB2.out (by decide) (by decide))
  clear o3 l3 q0 q1 q2 q3 q4 q5 q6 q7 HO2 HL2 HB2
  obtain ⟨q0, q1, q2, q3, q4, q5, q6, q7⟩ := oc HB3.out
  go_wp2_with fail
  have HKEEP := Lib.hid HL3.out
  refine (small_any Y rd.length f rd _ rfl hrl HO3.out (fun wx hl => HRD.out.same (Lain.stays HS.out hH (Lain.trans HKEEP.out hl)))).mono ?_
  rintro e w4 ⟨rfl, ⟨A4, c4, o4⟩, l4⟩
  have HO4 := Lib.hid o4
  have HL4 := Lib.hid (Lain.trans HL3.out l4)
  have HB4 := Lib.hid (HO3.out.blk2 l4 HB3.out (by decide) (by decide))
  clear o4 l4 q0 q1 q2 q3 q4 q5 q6 q7 HO3 HL3 HB3 HKEEP
  obtain ⟨q0, q1, q2, q3, q4, q5, q6, q7⟩ := oc HB4.out
  go_wp2_with fail
  refine (small_lit 1 [(ini.length : Int)] _ _ _ (by simp) rfl (by omega) rfl HO4.out).mono ?_
  rintro e w5 ⟨rfl, ⟨A5, c5, o5⟩, l5⟩
  have HO5 := Lib.hid o5
  have HL5 := Lib.hid (Lain.trans HL4.out l5)
  have HB5 := Lib.hid (HO4.out.blk2 l5 HB4.out (by decide) (by decide))
  clear o5 l5 q0 q1 q2 q3 q4 q5 q6 q7 HO4 HL4 HB4
  obtain ⟨q0, q1, q2, q3, q4, q5, q6, q7⟩ := oc HB5.out
  go_wp2_with fail
  clear q0 q1 q2 q3 q4 q5 q6 q7
  generalize hs3 : lay (lay (lay (lay (lay s (sm [k_, wd, sl, cp])) (lg [sa])) (sm [ow, (rd.length : Int)])) (sm rd)) (sm [(ini.length : Int)]) = s3 at *
  clear hs3
  generalize hm : ini.length = m at *
  have HM := Lib.hid hm
  clear hm
  go_loopg [44] m (fun gk iv wx => ∃ (k : Nat) (A1 : Option Addr) (c1 : Nat), k + gk = m ∧ iv = .int .i64 k ∧ Out wx H g A1 c1 (lay s3 (lg (ini.take k))) ∧ Lain w H g wx)
  case atStart => exact ⟨0, A5, c5, by omega, rfl, HO5.out, HL5.out⟩
  case round =>
    obtain ⟨k, A1, c1, hk, rfl, ho, hl⟩ := hrel
    have HOk := Lib.hid ho
    have HLk := Lib.hid hl
    clear ho hl
    cases gk with
    | zero =>
      obtain rfl : k = m := by omega
      have hge : ¬ (k : Int) < (k : Int) := by omega
      go_wp2_with fail
      go_end0
      refine ⟨rfl, ⟨A1, c1, ?_⟩, HLk.out⟩
      have h1 := HOk.out
      rw [List.take_of_length_le (by rw [HM.out]; omega), HALL.out] at h1
      exact h1
    | succ GK =>
      have hmb := HLEN.out
      have hlt : (k : Int) < m := by omega
      have k0 : (0 : Int) ≤ k := by omega
      obtain ⟨x, hx⟩ : ∃ x, ini[k]? = some x := ⟨_, List.getElem?_eq_getElem (by have := HM.out; omega)⟩
      have HX := Lib.hid hx
      have hxb := HWD.out x (List.mem_of_getElem? hx)
      obtain ⟨b, o, rfl, cx⟩ := (HINI.out.same (Lain.stays HS.out hH HLk.out)) k (.int .u32 x) (by rw [List.getElem?_map, hx]; rfl)
      clear hx
      go_wp2_with fail
      refine (large_lit 1 [x] _ _ _ (by simp) rfl (by omega) rfl HOk.out).mono ?_
      rintro e w6 ⟨rfl, ⟨A6, c6, o6⟩, l6⟩
      have HO6 := Lib.hid o6
      have HL6 := Lib.hid (Lain.trans HLk.out l6)
      clear o6 l6 HOk HLk cx
      go_wp2_with fail
      go_roundg GK
      case measure => omega
      case rel => exact ⟨k + 1, A6, c6, by omega, by go_num, by rw [← ini_take s3 HX.out]; exact HO6.out, HL6.out⟩
end Go.Proofs.Ytfpefkpbiioofab.Im
