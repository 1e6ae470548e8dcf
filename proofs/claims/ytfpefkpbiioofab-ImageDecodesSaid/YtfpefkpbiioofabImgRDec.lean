/-
  Layer 33: bytes decoded, by the document (under way).
-/
import Derived.Test.YtfpefkpbiioofabImgNum
import Derived.Test.YtfpefkpbiioofabImgTrip2
set_option linter.unusedVariables false
set_option linter.unusedSimpArgs false
namespace Go.Proofs.Ytfpefkpbiioofab.Im
open Go.ChangeShapes Go.WideShapes Go.ChangeAt Go.RowKit Ws Cd

theorem stay_l {α : Type} {f : Rdr α} (hf : ∀ r, r.bad = true → (f r).2 = r) : ∀ (n : Nat) (r : Rs), r.bad = true → (rL f n r).2 = r
  | 0, _, _ => rfl
  | n + 1, r, h => by
    show (f (rL f n r).2).2 = r
    rw [stay_l hf n r h]
    exact hf r h
theorem stay_i (l : List Int) (r : Rs) (h : r.bad = true) : (rI l r).2 = r := by
  simp only [rI, stay_u h]
theorem stay_t (l : List Int) (r : Rs) (h : r.bad = true) : (rT l r).2 = r := by
  simp only [rT, stay_u h]
  exact stay_l (stay_i l) _ _ h
theorem stay_o (l : List Int) (r : Rs) (h : r.bad = true) : (rO l r).2 = r := by
  simp only [rO, stay_u h]
  rw [stay_l (fun r h => by rw [stay_u h]) _ _ h]
  simp only [stay_u h]
  exact stay_l (fun r h => by rw [stay_u h]) _ _ h
/-- a reader that is bad stays where it is: of the rest of a list nothing is read -/
theorem stay_rest {α : Type} {f : Rdr α} (hf : ∀ r, r.bad = true → (f r).2 = r) {j n : Nat} (hj : j ≤ n) (r : Rs) (h : (rL f j r).2.bad = true) : (rL f n r).2 = (rL f j r).2 := by
  obtain ⟨d, rfl⟩ : ∃ d, n = j + d := ⟨n - j, by omega⟩
  clear hj
  induction d with
  | zero => rfl
  | succ d ih =>
    show (f (rL f (j + d) r).2).2 = _
    rw [ih]
    exact hf _ h
/-- within a round: the reader, and one variable of the round's own -/
structure TS (wx w' : World) (g gt : Nat) (A : Option Addr) (n c : Nat) (r : Rs) (T : TypeId) (cs : Array Value) : Prop where
  chg : Chg (fun i => i = g) wx w'
  rd : RIn w' g A n c r
  blk : Blk w' gt T cs
  fresh : wx.heap.size ≤ gt
  old : g < wx.heap.size
  k : r.k ≤ n
theorem TS.num {wx w' w2 : World} {g gt : Nat} {A : Option Addr} {n c : Nat} {r r2 : Rs} {T : TypeId} {cs : Array Value} (h : TS wx w' g gt A n c r T cs) (hr : RIn w2 g A n c r2) (hc : Chg (fun i => i = g) w' w2) (hk : r2.k ≤ n) : TS wx w2 g gt A n c r2 T cs :=
  ⟨h.chg.trans hc, hr, h.blk.chg hc (fun he => by have := h.fresh; have := h.old; omega), h.fresh, h.old, hk⟩
theorem TS.put {wx w' : World} {g gt : Nat} {A : Option Addr} {n c : Nat} {r : Rs} {T : TypeId} {cs : Array Value} (h : TS wx w' g gt A n c r T cs) (f : Nat) (v : Value) : TS wx (w'.setCell ⟨gt, f, none⟩ v) g gt A n c r T (cs.setIfInBounds f v) := by
  have hp : Chg (fun i => i = gt) w' (w'.setCell ⟨gt, f, none⟩ v) := (Chg.refl (fun i => i = gt) w').set (p := ⟨gt, f, none⟩) (.inl rfl) v
  exact ⟨chg_new h.chg hp h.fresh, Blk.chg h.rd hp (fun he => by have := h.fresh; have := h.old; omega), h.blk.put f v, h.fresh, h.old, h.k⟩
theorem TS.to {wx w' w2 : World} {g gt : Nat} {A : Option Addr} {n c : Nat} {r : Rs} {T : TypeId} {cs : Array Value} (h : TS wx w' g gt A n c r T cs) (hs : Same w' w2) : TS wx w2 g gt A n c r T cs :=
  ⟨h.chg.trans (hs.chg _), Blk.same h.rd hs, h.blk.same hs, h.fresh, h.old, h.k⟩
theorem int_inf : (Try.prog.info? 3).map (fun i => (i.zero, i.size, i.bytes)) = some (some (.int .i64 0), 1, 8) := by kernel_rfl
theorem u32_inf : (Try.prog.info? 50).map (fun i => (i.zero, i.size, i.bytes)) = some (some (.int .u32 0), 1, 4) := by kernel_rfl
/-- what was read behind an append to a row of one's own -/
theorem TS.app {wo u w8 : World} {g gt : Nat} {A : Option Addr} {n c : Nat} {r : Rs} {T : TypeId} {cs : Array Value} {e : TypeId} {sz : Nat} {X : Option Addr} {j cc : Nat} {xs : List Value} (h : TS wo u g gt A n c r T cs) (ho : OwnK u gt e sz X j cc xs) (hc : Chg (fun i => X = some ⟨i, 0, none⟩) u w8) (he : e ≠ T) (he2 : e ≠ 45) : TS wo w8 g gt A n c r T cs :=
  ⟨chg_up h.chg hc (fun i hi => by have := ownK_ge ho hi; have := h.fresh; omega), Blk.chg h.rd hc (fun hx => OwnK.ne ho h.rd he2 _ hx rfl), h.blk.chg hc (fun hx => OwnK.ne ho h.blk he _ hx rfl), h.fresh, h.old, h.k⟩
theorem ownK_put {w : World} {gt f : Nat} {v : Value} {T : TypeId} {cs : Array Value} {B : Nat} {e : TypeId} {sz : Nat} {X : Option Addr} {j cc : Nat} {xs : List Value} (h : OwnK w B e sz X j cc xs) (hb : Blk w gt T cs) (he : e ≠ T) : OwnK (w.setCell ⟨gt, f, none⟩ v) B e sz X j cc xs :=
  OwnK.chg h ((Chg.refl (fun i => i = gt) w).set (p := ⟨gt, f, none⟩) (.inl rfl) v) (fun i hi he2 => OwnK.ne h hb he i hi he2)
theorem ownK_two {w w8 : World} {B : Nat} {e e2 : TypeId} {sz sz2 : Nat} {X Y : Option Addr} {j cc j2 c2 : Nat} {xs ys : List Value} (h : OwnK w B e sz X j cc xs) (h2 : OwnK w B e2 sz2 Y j2 c2 ys) (hc : Chg (fun i => Y = some ⟨i, 0, none⟩) w w8) (he : e ≠ e2) : OwnK w8 B e sz X j cc xs :=
  OwnK.chg h hc fun i hi hy => by
    obtain ⟨cs, hb⟩ := ownK_blk h2 hy
    exact OwnK.ne h hb he i hi rfl
/-- what stays while bytes are decoded: the bytes -/
structure Bas (wx : World) (g : Nat) (A : Option Addr) (n : Nat) (l : List Int) : Prop where
  len : l.length = n
  short : n ≤ 65536
  byt : By l
  row : Row wx A (by8 l)
  ne : ∀ b o, A = some ⟨b, o, none⟩ → by8 l ≠ [] → ¬ b = g
theorem rnum_ts {l : List Int} {wx w' : World} {g gt : Nat} {A : Option Addr} {n c : Nat} {r : Rs} {T : TypeId} {cs : Array Value} (m : Nat) (hm : 1 ≤ m ∧ m ≤ 4) (hb : Bas wx g A n l) (h : TS wx w' g gt A n c r T cs) :
    Calls Try.prog 18 #[.pointer (some ⟨g, 0, none⟩), .int .i64 m] w' fun e w2 => e = .returned (.int .i64 (rU l m r).1) ∧ TS wx w2 g gt A n c (rU l m r).2 T cs :=
  (rnum_any A n c g m r w' hb.len hb.short hb.byt (hb.row.chg h.chg hb.ne) h.rd h.k hm).mono fun e w2 ⟨h1, h2, h3⟩ => ⟨h1, h.num h2 h3 (by
    have := rU_le (l := l) (n := m) (r := r) (by rw [hb.len]; exact h.k)
    rw [hb.len] at this
    exact this)⟩
theorem rnum_b {l : List Int} {wx w' : World} {g : Nat} {A : Option Addr} {n c : Nat} {r : Rs} (m : Nat) (hm : 1 ≤ m ∧ m ≤ 4) (hb : Bas wx g A n l) (hc : Chg (fun i => i = g) wx w') (hr : RIn w' g A n c r) (hk : r.k ≤ n) :
    Calls Try.prog 18 #[.pointer (some ⟨g, 0, none⟩), .int .i64 m] w' fun e w2 => e = .returned (.int .i64 (rU l m r).1) ∧ Chg (fun i => i = g) wx w2 ∧ RIn w2 g A n c (rU l m r).2 ∧ (rU l m r).2.k ≤ n :=
  (rnum_any A n c g m r w' hb.len hb.short hb.byt (hb.row.chg hc hb.ne) hr hk hm).mono fun e w2 ⟨h1, h2, h3⟩ => ⟨h1, hc.trans h3, h2, by
    have := rU_le (l := l) (n := m) (r := r) (by rw [hb.len]; exact hk)
    rw [hb.len] at this
    exact this⟩
/-- where the document's Decode stands between two parts: the result, the reader, the system so far -/
structure DS (w wx : World) (g gs : Nat) (A : Option Addr) (n c : Nat) (r : Rs) (ds : List DT) (es : List DO) (A5 : Option Addr) (n5 c5 : Nat) (B5 : Option Addr) (m5 d5 : Nat) : Prop where
  rd : RIn wx g A n c r
  res : Blk wx w.heap.size 27 #[.slice none 0 0, .slice none 0 0]
  sys : Blk wx gs 27 #[.slice A5 n5 c5, .slice B5 m5 d5]
  tr : OwnK wx gs 49 7 A5 n5 c5 (ds.flatMap DT.cells)
  or : OwnK wx gs 56 8 B5 m5 d5 (es.flatMap DO.cells)
  tk : ∀ x ∈ ds, x.ok wx gs
  ok : ∀ x ∈ es, x.ok wx gs
  same : Same w wx
  g1 : w.heap.size < g
  g2 : g < gs
  k : r.k ≤ n
theorem DS.frame {w wx w' : World} {g gs : Nat} {A : Option Addr} {n c : Nat} {r r' : Rs} {ds : List DT} {es : List DO} {A5 : Option Addr} {n5 c5 : Nat} {B5 : Option Addr} {m5 d5 : Nat} (h : DS w wx g gs A n c r ds es A5 n5 c5 B5 m5 d5) (hc : Chg (fun i => i = g) wx w') (hr : RIn w' g A n c r') (hk : r'.k ≤ n) : DS w w' g gs A n c r' ds es A5 n5 c5 B5 m5 d5 :=
  have h1 := h.g1
  have h2 := h.g2
  ⟨hr, h.res.chg hc (fun he => by omega), h.sys.chg hc (fun he => by omega), h.tr.chg hc (fun i hi he => by have := ownK_ge h.tr hi; omega), h.or.chg hc (fun i hi he => by have := ownK_ge h.or hi; omega), fun x hx => (h.tk x hx).keep hc (fun i hi he => by omega), fun x hx => (h.ok x hx).keep hc (fun i hi he => by omega), Same.more h.same hc (fun i hi => by omega), h.g1, h.g2, hk⟩
theorem DS.addT {w wx w2 w8 : World} {g gs : Nat} {A : Option Addr} {n c : Nat} {r : Rs} {ds : List DT} {es : List DO} {A5 : Option Addr} {n5 c5 : Nat} {B5 : Option Addr} {m5 d5 : Nat} {d : DT} {A8 : Option Addr} {c8 : Nat} (h : DS w wx g gs A n c r ds es A5 n5 c5 B5 m5 d5) (hd : d.ok wx gs) (hs : Same wx w2) (ho : OwnK w8 gs 49 7 A8 (n5 + 1) c8 (ds.flatMap DT.cells ++ d.cells)) (hc : Chg (fun g => A5 = some ⟨g, 0, none⟩) w2 w8) :
    DS w (w8.setCell ⟨gs, 0, none⟩ (.slice A8 (n5 + 1) c8)) g gs A n c r (ds ++ [d]) es A8 (n5 + 1) c8 B5 m5 d5 ∧ w8.cell? ⟨gs, 0, none⟩ = some (.slice A5 n5 c5) ∧ w8.frozen? ⟨gs, 0, none⟩ = false := by
  have h1 := h.g1
  have h2 := h.g2
  have tr2 := h.tr.same hs
  have sys8 := (h.sys.same hs).chg hc fun he => OwnK.ne tr2 (h.sys.same hs) (by decide) _ he rfl
  have rd8 : RIn w8 g A n c r := Blk.chg (Blk.same h.rd hs) hc fun he => OwnK.ne tr2 (Blk.same h.rd hs) (by decide) _ he rfl
  have res8 := (h.res.same hs).chg hc fun he => OwnK.ne tr2 (h.res.same hs) (by decide) _ he rfl
  have hp : Chg (fun i => i = gs) w8 (w8.setCell ⟨gs, 0, none⟩ (.slice A8 (n5 + 1) c8)) := (Chg.refl (fun i => i = gs) w8).set (p := ⟨gs, 0, none⟩) (.inl rfl) _
  have or8 : OwnK w8 gs 56 8 B5 m5 d5 (es.flatMap DO.cells) := OwnK.chg (h.or.same hs) hc fun i hi he => by
    obtain ⟨cs, hb⟩ := ownK_blk tr2 he
    exact OwnK.ne (h.or.same hs) hb (by decide) i hi rfl
  refine ⟨⟨Blk.chg rd8 hp (fun he => by omega), res8.chg hp (fun he => by omega), by simpa using sys8.put 0 (.slice A8 (n5 + 1) c8), ?_, OwnK.chg or8 hp fun i hi he => OwnK.ne or8 sys8 (by decide) i hi he, ?_, ?_, chg_new (S := fun _ => False) (Same.more (h.same.trans hs) hc fun i hi => by have := ownK_ge h.tr hi; omega) hp (by omega), h1, h2, h.k⟩, sys8.cell 0, sys8.thaw 0⟩
  · rw [fm_snoc]
    exact OwnK.chg ho hp fun i hi he => OwnK.ne ho sys8 (by decide) i hi he
  · intro x hx
    have hk : x.ok wx gs := by
      rcases List.mem_append.1 hx with hx | hx
      · exact h.tk x hx
      · rw [List.mem_singleton] at hx
        subst hx
        exact hd
    exact ((hk.keep hs (fun _ _ f => f)).row tr2 hc (by decide)).blk sys8 hp (by decide)
  · intro x hx
    exact (((h.ok x hx).keep hs (fun _ _ f => f)).row tr2 hc (by decide) (by decide)).blk sys8 hp (by decide) (by decide)
theorem DS.addO {w wx w2 w8 : World} {g gs : Nat} {A : Option Addr} {n c : Nat} {r : Rs} {ds : List DT} {es : List DO} {A5 : Option Addr} {n5 c5 : Nat} {B5 : Option Addr} {m5 d5 : Nat} {d : DO} {A8 : Option Addr} {c8 : Nat} (h : DS w wx g gs A n c r ds es A5 n5 c5 B5 m5 d5) (hd : d.ok wx gs) (hs : Same wx w2) (ho : OwnK w8 gs 56 8 A8 (m5 + 1) c8 (es.flatMap DO.cells ++ d.cells)) (hc : Chg (fun g => B5 = some ⟨g, 0, none⟩) w2 w8) :
    DS w (w8.setCell ⟨gs, 1, none⟩ (.slice A8 (m5 + 1) c8)) g gs A n c r ds (es ++ [d]) A5 n5 c5 A8 (m5 + 1) c8 ∧ w8.cell? ⟨gs, 1, none⟩ = some (.slice B5 m5 d5) ∧ w8.frozen? ⟨gs, 1, none⟩ = false := by
  have h1 := h.g1
  have h2 := h.g2
  have tr2 := h.or.same hs
  have sys8 := (h.sys.same hs).chg hc fun he => OwnK.ne tr2 (h.sys.same hs) (by decide) _ he rfl
  have rd8 : RIn w8 g A n c r := Blk.chg (Blk.same h.rd hs) hc fun he => OwnK.ne tr2 (Blk.same h.rd hs) (by decide) _ he rfl
  have res8 := (h.res.same hs).chg hc fun he => OwnK.ne tr2 (h.res.same hs) (by decide) _ he rfl
  have hp : Chg (fun i => i = gs) w8 (w8.setCell ⟨gs, 1, none⟩ (.slice A8 (m5 + 1) c8)) := (Chg.refl (fun i => i = gs) w8).set (p := ⟨gs, 1, none⟩) (.inl rfl) _
  have or8 : OwnK w8 gs 49 7 A5 n5 c5 (ds.flatMap DT.cells) := OwnK.chg (h.tr.same hs) hc fun i hi he => by
    obtain ⟨cs, hb⟩ := ownK_blk tr2 he
    exact OwnK.ne (h.tr.same hs) hb (by decide) i hi rfl
  refine ⟨⟨Blk.chg rd8 hp (fun he => by omega), res8.chg hp (fun he => by omega), by simpa using sys8.put 1 (.slice A8 (m5 + 1) c8), OwnK.chg or8 hp fun i hi he => OwnK.ne or8 sys8 (by decide) i hi he, ?_, ?_, ?_, chg_new (S := fun _ => False) (Same.more (h.same.trans hs) hc fun i hi => by have := ownK_ge h.or hi; omega) hp (by omega), h1, h2, h.k⟩, sys8.cell 1, sys8.thaw 1⟩
  · rw [fm_snoc]
    exact OwnK.chg ho hp fun i hi he => OwnK.ne ho sys8 (by decide) i hi he
  · intro x hx
    exact (((h.tk x hx).keep hs (fun _ _ f => f)).row tr2 hc (by decide)).blk sys8 hp (by decide)
  · intro x hx
    have hk : x.ok wx gs := by
      rcases List.mem_append.1 hx with hx | hx
      · exact h.ok x hx
      · rw [List.mem_singleton] at hx
        subst hx
        exact hd
    exact ((hk.keep hs (fun _ _ f => f)).row tr2 hc (by decide) (by decide)).blk sys8 hp (by decide) (by decide)
theorem hd3 {x y z : Int} {l : List Int} (h0 : l[0]? = some x) (h1 : l[1]? = some y) (h2 : l[2]? = some z) : l.take 3 = hd ↔ x = 67 ∧ y = 88 ∧ z = 1 := by
  match l, h0, h1, h2 with
  | a :: b :: c :: r, h0, h1, h2 =>
    simp at h0 h1 h2
    subst h0 h1 h2
    simp [hd]
set_option maxRecDepth 100000 in
set_option maxHeartbeats 8000000 in
theorem rdecode_any (A : Option Addr) (n c : Nat) (l : List Int) (w : World) (hl : l.length = n) (hnc : n ≤ c ∧ c ≤ 9223372036854775807) (hb : By l) (hr : Row w A (by8 l)) :
    Calls Try.prog 6 #[.slice A n c] w (DecP w (dec l)) := by
  obtain ⟨iI, hiI, zI0, zI1, zI2⟩ := info_parts ins_info
  obtain ⟨iT, hiT, tT0, tT1, tT2⟩ := info_parts tk_info
  obtain ⟨iO, hiO, oO0, oO1, oO2⟩ := info_parts ob_info
  obtain ⟨iN, hiN, nN0, nN1, nN2⟩ := info_parts int_inf
  obtain ⟨iU, hiU, uN0, uN1, uN2⟩ := info_parts u32_inf
  obtain ⟨hnc, hcm⟩ := hnc
  have HL := Lib.hid hl
  have HBY := Lib.hid hb
  have HRW := Lib.hid hr
  clear hl hb hr
  obtain ⟨w1, hw1⟩ : ∃ w1, w1 = w.alloc (.cells #[.slice none 0 0, .slice none 0 0] 27) := ⟨_, rfl⟩
  have HS1 := Lib.hid (show Same w w1 from hw1 ▸ (Same.refl w).alloc _)
  have HB1 := Lib.hid (show Blk w1 w.heap.size 27 #[.slice none 0 0, .slice none 0 0] from hw1 ▸ Blk.new w _ _)
  have HZ1 := Lib.hid (show w1.heap.size = w.heap.size + 1 by rw [hw1]; simp)
  have E1 := Lib.hid hw1
  clear hw1
  go_enter Try.func6, Try.ntmps6
  go_upto_region 1 with fail
  rw [← E1.out]
  clear E1
  by_cases h65 : (n : Int) > 65536
  · have HR65 := Lib.hid (show 65536 < l.length by have := HL.out; omega)
    obtain ⟨y0, y1⟩ := (⟨HB1.out.thaw 0, HB1.out.thaw 1⟩ : _ ∧ _)
    obtain ⟨z0, z1⟩ := (⟨HB1.out.cell 0, HB1.out.cell 1⟩ : _ ∧ _)
    simp only [List.getElem?_toArray, List.getElem?_cons_zero, List.getElem?_cons_succ] at z0 z1
    go_wp2_with fail
    obtain ⟨p1, p2⟩ := puts2 (v0 := .slice none 0 0) (v1 := .slice none 0 0) HB1.out
    refine bodyPost_ret (v := .tuple #[.agg #[.slice none 0 0, .slice none 0 0], .int .i64 (0), .int .i64 6]) (results_cell3 Try.results6 _ _ w.heap.size 27 #[.slice none 0 0, .slice none 0 0] (0, 0) _ rfl p1 Try.underlying27 rfl sys_size) rfl ?_
    exact decp_zero (dec_room HR65.out) (chg_new HS1.out p2 (Nat.le_refl _))
  have HN65 := Lib.hid (show ¬ 65536 < l.length by have := HL.out; omega)
  by_cases hN2 : 3 ≤ l.length ∧ l.take 3 ≠ hd
  · have HPN := Lib.hid hN2.2
    have h3 : (n : Int) ≥ 3 := by have := hN2.1; have := HL.out; omega
    obtain ⟨x0, hx0⟩ : ∃ x, l[0]? = some x := ⟨_, List.getElem?_eq_getElem (by have := HL.out; omega)⟩
    obtain ⟨b0, o0, hA0, c0⟩ := (HRW.out.same HS1.out) 0 (.int .u8 x0) (by unfold by8; rw [List.getElem?_map, hx0]; rfl)
    obtain ⟨x1, hx1⟩ : ∃ x, l[1]? = some x := ⟨_, List.getElem?_eq_getElem (by have := HL.out; omega)⟩
    obtain ⟨b1, o1, hA1, c1⟩ := (HRW.out.same HS1.out) 1 (.int .u8 x1) (by unfold by8; rw [List.getElem?_map, hx1]; rfl)
    obtain ⟨x2, hx2⟩ : ∃ x, l[2]? = some x := ⟨_, List.getElem?_eq_getElem (by have := HL.out; omega)⟩
    obtain ⟨b2, o2, hA2, c2⟩ := (HRW.out.same HS1.out) 2 (.int .u8 x2) (by unfold by8; rw [List.getElem?_map, hx2]; rfl)
    subst hA0
    injection hA1 with hA1
    injection hA1 with u1 u2
    injection hA2 with hA2
    injection hA2 with u3 u4
    subst u1 u2 u3 u4
    have hh := hd3 hx0 hx1 hx2
    clear hx0 hx1 hx2 hN2
    rw [Nat.add_zero] at c0
    have i0 : (0 : Int) < n := by omega
    have i1 : (1 : Int) < n := by omega
    have i2 : (2 : Int) < n := by omega
    by_cases h0 : x0 = 67
    · have e0 : (x0 != 67) = false := by simpa using h0
      by_cases h1 : x1 = 88
      · have e1 : (x1 != 88) = false := by simpa using h1
        have h2 : ¬ x2 = 1 := fun h => HPN.out (hh.2 ⟨h0, h1, h⟩)
        have e2 : (x2 != 1) = true := by simpa using h2
        clear h0 h1 h2 hh
        obtain ⟨y0, y1⟩ := (⟨HB1.out.thaw 0, HB1.out.thaw 1⟩ : _ ∧ _)
        obtain ⟨z0, z1⟩ := (⟨HB1.out.cell 0, HB1.out.cell 1⟩ : _ ∧ _)
        simp only [List.getElem?_toArray, List.getElem?_cons_zero, List.getElem?_cons_succ] at z0 z1
        go_wp2_with fail
        obtain ⟨p1, p2⟩ := puts2 (v0 := .slice none 0 0) (v1 := .slice none 0 0) HB1.out
        refine bodyPost_ret (v := .tuple #[.agg #[.slice none 0 0, .slice none 0 0], .int .i64 (0), .int .i64 4]) (results_cell3 Try.results6 _ _ w.heap.size 27 #[.slice none 0 0, .slice none 0 0] (0, 0) _ rfl p1 Try.underlying27 rfl sys_size) rfl ?_
        exact decp_zero (dec_head HN65.out (by have := HL.out; omega) HPN.out) (chg_new HS1.out p2 (Nat.le_refl _))
      · have e1 : (x1 != 88) = true := by simpa using h1
        clear h0 h1 hh
        obtain ⟨y0, y1⟩ := (⟨HB1.out.thaw 0, HB1.out.thaw 1⟩ : _ ∧ _)
        obtain ⟨z0, z1⟩ := (⟨HB1.out.cell 0, HB1.out.cell 1⟩ : _ ∧ _)
        simp only [List.getElem?_toArray, List.getElem?_cons_zero, List.getElem?_cons_succ] at z0 z1
        go_wp2_with fail
        obtain ⟨p1, p2⟩ := puts2 (v0 := .slice none 0 0) (v1 := .slice none 0 0) HB1.out
        refine bodyPost_ret (v := .tuple #[.agg #[.slice none 0 0, .slice none 0 0], .int .i64 (0), .int .i64 4]) (results_cell3 Try.results6 _ _ w.heap.size 27 #[.slice none 0 0, .slice none 0 0] (0, 0) _ rfl p1 Try.underlying27 rfl sys_size) rfl ?_
        exact decp_zero (dec_head HN65.out (by have := HL.out; omega) HPN.out) (chg_new HS1.out p2 (Nat.le_refl _))
    · have e0 : (x0 != 67) = true := by simpa using h0
      clear h0 hh
      obtain ⟨y0, y1⟩ := (⟨HB1.out.thaw 0, HB1.out.thaw 1⟩ : _ ∧ _)
      obtain ⟨z0, z1⟩ := (⟨HB1.out.cell 0, HB1.out.cell 1⟩ : _ ∧ _)
      simp only [List.getElem?_toArray, List.getElem?_cons_zero, List.getElem?_cons_succ] at z0 z1
      go_wp2_with fail
      obtain ⟨p1, p2⟩ := puts2 (v0 := .slice none 0 0) (v1 := .slice none 0 0) HB1.out
      refine bodyPost_ret (v := .tuple #[.agg #[.slice none 0 0, .slice none 0 0], .int .i64 (0), .int .i64 4]) (results_cell3 Try.results6 _ _ w.heap.size 27 #[.slice none 0 0, .slice none 0 0] (0, 0) _ rfl p1 Try.underlying27 rfl sys_size) rfl ?_
      exact decp_zero (dec_head HN65.out (by have := HL.out; omega) HPN.out) (chg_new HS1.out p2 (Nat.le_refl _))
  have HN2 := Lib.hid hN2
  go_upto_region 3 with fail
  go_cut [43] from 23 to 43 (fun v wx => v = .bool false ∧ wx = w1)
  case first =>
    by_cases h3 : (n : Int) ≥ 3
    · have hT : l.take 3 = hd := by
        by_cases h : l.take 3 = hd
        · exact h
        · exact absurd ⟨by have := HL.out; omega, h⟩ HN2.out
      obtain ⟨x0, hx0⟩ : ∃ x, l[0]? = some x := ⟨_, List.getElem?_eq_getElem (by have := HL.out; omega)⟩
      obtain ⟨b0, o0, hA0, c0⟩ := (HRW.out.same HS1.out) 0 (.int .u8 x0) (by unfold by8; rw [List.getElem?_map, hx0]; rfl)
      obtain ⟨x1, hx1⟩ : ∃ x, l[1]? = some x := ⟨_, List.getElem?_eq_getElem (by have := HL.out; omega)⟩
      obtain ⟨b1, o1, hA1, c1⟩ := (HRW.out.same HS1.out) 1 (.int .u8 x1) (by unfold by8; rw [List.getElem?_map, hx1]; rfl)
      obtain ⟨x2, hx2⟩ : ∃ x, l[2]? = some x := ⟨_, List.getElem?_eq_getElem (by have := HL.out; omega)⟩
      obtain ⟨b2, o2, hA2, c2⟩ := (HRW.out.same HS1.out) 2 (.int .u8 x2) (by unfold by8; rw [List.getElem?_map, hx2]; rfl)
      subst hA0
      injection hA1 with hA1
      injection hA1 with u1 u2
      injection hA2 with hA2
      injection hA2 with u3 u4
      subst u1 u2 u3 u4
      obtain ⟨rfl, rfl, rfl⟩ := (hd3 hx0 hx1 hx2).1 hT
      clear hx0 hx1 hx2 hT
      rw [Nat.add_zero] at c0
      have i0 : (0 : Int) < n := by omega
      have i1 : (1 : Int) < n := by omega
      have i2 : (2 : Int) < n := by omega
      go_wp2_with fail
      go_meet
      case rel => exact ⟨rfl, rfl⟩
    · go_wp2_with fail
      go_meet
      case rel => exact ⟨rfl, rfl⟩
  case rest =>
    obtain ⟨rfl, hwc⟩ := hcut
    rw [hwc]
    clear hwc
    have s2 := (Same.refl w1).alloc (.cells #[.slice A n c, .int .i64 0, .bool false] 45)
    have HRI := Lib.hid (show RIn _ w1.heap.size A n c ⟨0, false⟩ from Blk.new w1 45 #[.slice A n c, .int .i64 0, .bool false])
    have HS2 := Lib.hid (HS1.out.trans s2)
    have HB2 := Lib.hid (HB1.out.same s2)
    have HB := Lib.hid (show Bas _ w1.heap.size A n l from ⟨HL.out, by omega, HBY.out, HRW.out.same (HS1.out.trans s2), fun b o hA hne hbg => by
      cases hl0 : by8 l with
      | nil => exact hne hl0
      | cons u us =>
        obtain ⟨b2, o2, hA2, hc⟩ := HRW.out 0 u (by rw [hl0]; rfl)
        rw [hA] at hA2
        injection hA2 with hA2
        injection hA2 with e1 e2
        have hb2 : b2 < w.heap.size := World.block_lt_of_cell? _ _ hc
        have := HZ1.out
        omega⟩)
    clear s2 HS1 HB1
    go_wp2_with fail
    refine (rnum_b 3 (by omega) HB.out (Chg.refl _ _) HRI.out (Nat.zero_le _)).mono ?_
    rintro e w3 ⟨rfl, c3, r3, k3⟩
    have C3 := Lib.hid c3
    have R3 := Lib.hid (show RIn w3 w1.heap.size A n c (fst3 l) from r3)
    have K3 := Lib.hid k3
    clear c3 r3 k3
    go_wp2_with fail
    refine (rnum_b 1 (by omega) HB.out C3.out R3.out K3.out).mono ?_
    rintro e w4 ⟨rfl, c4, r4, k4⟩
    obtain ⟨⟨x1, ra⟩, hx1⟩ : ∃ p, p = rU l 1 (fst3 l) := ⟨_, rfl⟩
    rw [← hx1] at r4 k4 ⊢
    have hx1b := tld1_bd HBY.out (fst3 l)
    have hx1c : 0 ≤ x1 ∧ x1 < 256 := by have h := congrArg Prod.fst hx1; simp only [rU] at h; omega
    obtain ⟨N1, hN1, hN1b⟩ := nat_of hx1c
    subst hN1
    have EX1 := Lib.hid hx1
    have C4 := Lib.hid c4
    have R4 := Lib.hid r4
    have K4 := Lib.hid k4
    clear hx1 hx1b hx1c c4 r4 k4 C3 R3 K3
    dsimp only
    go_wp2_with fail
    refine (rnum_b 1 (by omega) HB.out C4.out R4.out K4.out).mono ?_
    rintro e w5 ⟨rfl, c5, r5, k5⟩
    obtain ⟨⟨x2, rb⟩, hx2⟩ : ∃ p, p = rU l 1 ra := ⟨_, rfl⟩
    rw [← hx2] at r5 k5 ⊢
    have hx2b := tld1_bd HBY.out ra
    have hx2c : 0 ≤ x2 ∧ x2 < 256 := by have h := congrArg Prod.fst hx2; simp only [rU] at h; omega
    obtain ⟨N2, hN2', hN2b⟩ := nat_of hx2c
    subst hN2'
    have EX2 := Lib.hid hx2
    have hwsz : w.heap.size < w1.heap.size := by have := HZ1.out; omega
    have hgs : w1.heap.size < w5.heap.size := by
      have h1 := c5.size
      simp at h1
      omega
    have s6 := (Same.refl w5).alloc (.cells #[.slice none 0 0, .slice none 0 0] 27)
    have HD6 := Lib.hid (show DS w (w5.alloc (.cells #[.slice none 0 0, .slice none 0 0] 27)) w1.heap.size w5.heap.size A n c rb [] [] none 0 0 none 0 0 from ⟨Blk.same r5 s6, (HB2.out.chg c5 (fun he => by omega)).same s6, Blk.new w5 _ _, OwnK.none _ _ _ _, OwnK.none _ _ _ _, fun x h => (by cases h), fun x h => (by cases h), (Same.more HS2.out c5 (fun i hi => by omega)).trans s6, hwsz, hgs, k5⟩)
    have HB6 := Lib.hid (show Bas (w5.alloc (.cells #[.slice none 0 0, .slice none 0 0] 27)) w1.heap.size A n l from ⟨HB.out.len, HB.out.short, HB.out.byt, (HB.out.row.chg c5 HB.out.ne).same s6, HB.out.ne⟩)
    clear hx2 hx2b hx2c c5 r5 k5 s6 C4 R4 K4 HB HB2 HS2 HRI hwsz hgs
    dsimp only
    go_upto_region 10 with fail
    generalize hw6 : w5.alloc (.cells #[.slice none 0 0, .slice none 0 0] 27) = w6 at *
    clear hw6
    generalize w5.heap.size = gs at *
    generalize w1.heap.size = g at *
    have HN1 := Lib.hid hN1b
    have HN2b := Lib.hid hN2b
    clear hN1b hN2b
    go_upto_block 0 with fail
    go_cut [9, 10, 11, 12] from 54 to 126 (fun _ _ _ _ wx => ∃ (A5 : Option Addr) (n5 c5 : Nat) (ds : List DT) (r : Rs), r = (rL (rT l) N1 rb).2 ∧ (r.bad = false → ds.map (·.p) = (rL (rT l) N1 rb).1) ∧ n5 ≤ 255 ∧ Bas wx g A n l ∧ DS w wx g gs A n c r ds [] A5 n5 c5 none 0 0)
    case first =>
      go_wp2_with fail
      go_loopg [9] N1 (fun gk iv wx => ∃ (k : Nat) (A5 : Option Addr) (c5 : Nat) (ds : List DT) (r : Rs), k + gk = N1 ∧ iv = .int .i64 k ∧ r = (rL (rT l) k rb).2 ∧ (r.bad = false → ds.map (·.p) = (rL (rT l) k rb).1) ∧ Bas wx g A n l ∧ DS w wx g gs A n c r ds [] A5 k c5 none 0 0)
      case atStart => exact ⟨0, none, 0, [], rb, by omega, rfl, rfl, fun _ => rfl, HB6.out, HD6.out⟩
      case round =>
        rename World => wo
        obtain ⟨k, A5, c5, ds, r, hk, rfl, hr, hds, hbs, hd⟩ := hrel
        have HR := Lib.hid hr
        have HDS := Lib.hid hds
        have HBS := Lib.hid hbs
        have HD := Lib.hid hd
        clear hr hds hbs hd
        have b2 : wo.cell? ⟨g, 2, none⟩ = some (.bool r.bad) := HD.out.rd.cell 2
        cases gk with
        | zero =>
          obtain rfl : k = N1 := by omega
          have hge : ¬ (k : Int) < (k : Int) := by omega
          go_wp2_with fail
          go_meet
          case rel => exact ⟨A5, k, c5, ds, r, HR.out, HDS.out, HN1.out, HBS.out, HD.out⟩
        | succ GK =>
          have hlt : (k : Int) < N1 := by omega
          obtain ⟨rk, rbad⟩ := r
          cases rbad with
          | true =>
            have hst := stay_rest (stay_t l) (show k ≤ N1 by omega) rb (by rw [← HR.out])
            have HST := Lib.hid (show (⟨rk, true⟩ : Rs) = (rL (rT l) N1 rb).2 by rw [hst]; exact HR.out)
            clear hst
            go_wp2_with fail
            go_meet
            case rel => exact ⟨A5, k, c5, ds, _, HST.out, (fun h => by cases h), by have := HN1.out; omega, HBS.out, HD.out⟩
          | false =>
            go_upto_region 14 with fail
            have ht0 : TS wo (wo.alloc (.cells #[.int .i64 0, .int .i64 0, .int .i64 0, .int .i64 0, .int .i64 0, .int .i64 0, .slice none 0 0] 49)) g wo.heap.size A n c ⟨rk, false⟩ 49 #[.int .i64 0, .int .i64 0, .int .i64 0, .int .i64 0, .int .i64 0, .int .i64 0, .slice none 0 0] := ⟨(Chg.refl _ _).alloc _, Blk.same HD.out.rd ((Same.refl _).alloc _), Blk.new wo _ _, Nat.le_refl _, by have := HD.out.rd.lt; exact this, HD.out.k⟩
            have HT0 := Lib.hid ht0
            clear ht0 b2
            obtain ⟨r0, hr0⟩ : ∃ r : Rs, r = ⟨rk, false⟩ := ⟨_, rfl⟩
            rw [← hr0] at HT0
            have HR0 := Lib.hid hr0
            clear hr0
            generalize hw0 : wo.alloc (.cells #[.int .i64 0, .int .i64 0, .int .i64 0, .int .i64 0, .int .i64 0, .int .i64 0, .slice none 0 0] 49) = v0 at *
            clear hw0
            have HGT := Lib.hid HT0.out.fresh
            generalize wo.heap.size = gt at *
            go_wp2_with fail
            refine (rnum_ts 1 (by omega) HBS.out HT0.out).mono ?_
            rintro e w1 ⟨rfl, h⟩
            obtain ⟨⟨x1, r1⟩, hx⟩ : ∃ p, p = rU l 1 r0 := ⟨_, rfl⟩
            rw [← hx] at h ⊢
            have EX1 := Lib.hid hx
            have y0 := h.blk.thaw 0
            have z0 := h.blk.cell 0
            simp only [List.getElem?_toArray, List.getElem?_cons_zero, List.getElem?_cons_succ] at z0
            have h2 := h.put 0 (.int .i64 x1)
            have HT1 := Lib.hid (show TS wo (w1.setCell ⟨gt, 0, none⟩ (.int .i64 x1)) g gt A n c r1 49 #[.int .i64 x1, .int .i64 0, .int .i64 0, .int .i64 0, .int .i64 0, .int .i64 0, .slice none 0 0] by simpa using h2)
            clear hx h h2 HT0
            dsimp only
            go_wp2_with fail
            clear y0 z0
            generalize w1.setCell ⟨gt, 0, none⟩ (.int .i64 x1) = v1 at *
            refine (rnum_ts 1 (by omega) HBS.out HT1.out).mono ?_
            rintro e w2 ⟨rfl, h⟩
            obtain ⟨⟨x2, r2⟩, hx⟩ : ∃ p, p = rU l 1 r1 := ⟨_, rfl⟩
            rw [← hx] at h ⊢
            have EX2 := Lib.hid hx
            have y0 := h.blk.thaw 1
            have z0 := h.blk.cell 1
            simp only [List.getElem?_toArray, List.getElem?_cons_zero, List.getElem?_cons_succ] at z0
            have h2 := h.put 1 (.int .i64 x2)
            have HT2 := Lib.hid (show TS wo (w2.setCell ⟨gt, 1, none⟩ (.int .i64 x2)) g gt A n c r2 49 #[.int .i64 x1, .int .i64 x2, .int .i64 0, .int .i64 0, .int .i64 0, .int .i64 0, .slice none 0 0] by simpa using h2)
            clear hx h h2 HT1
            dsimp only
            go_wp2_with fail
            clear y0 z0
            generalize w2.setCell ⟨gt, 1, none⟩ (.int .i64 x2) = v2 at *
            refine (rnum_ts 4 (by omega) HBS.out HT2.out).mono ?_
            rintro e w3 ⟨rfl, h⟩
            obtain ⟨⟨x3, r3⟩, hx⟩ : ∃ p, p = rU l 4 r2 := ⟨_, rfl⟩
            rw [← hx] at h ⊢
            have EX3 := Lib.hid hx
            have y0 := h.blk.thaw 2
            have z0 := h.blk.cell 2
            simp only [List.getElem?_toArray, List.getElem?_cons_zero, List.getElem?_cons_succ] at z0
            have h2 := h.put 2 (.int .i64 x3)
            have HT3 := Lib.hid (show TS wo (w3.setCell ⟨gt, 2, none⟩ (.int .i64 x3)) g gt A n c r3 49 #[.int .i64 x1, .int .i64 x2, .int .i64 x3, .int .i64 0, .int .i64 0, .int .i64 0, .slice none 0 0] by simpa using h2)
            clear hx h h2 HT2
            dsimp only
            go_wp2_with fail
            clear y0 z0
            generalize w3.setCell ⟨gt, 2, none⟩ (.int .i64 x3) = v3 at *
            refine (rnum_ts 4 (by omega) HBS.out HT3.out).mono ?_
            rintro e w4 ⟨rfl, h⟩
            obtain ⟨⟨x4, r4⟩, hx⟩ : ∃ p, p = rU l 4 r3 := ⟨_, rfl⟩
            rw [← hx] at h ⊢
            have EX4 := Lib.hid hx
            have y0 := h.blk.thaw 3
            have z0 := h.blk.cell 3
            simp only [List.getElem?_toArray, List.getElem?_cons_zero, List.getElem?_cons_succ] at z0
            have h2 := h.put 3 (.int .i64 x4)
            have HT4 := Lib.hid (show TS wo (w4.setCell ⟨gt, 3, none⟩ (.int .i64 x4)) g gt A n c r4 49 #[.int .i64 x1, .int .i64 x2, .int .i64 x3, .int .i64 x4, .int .i64 0, .int .i64 0, .slice none 0 0] by simpa using h2)
            clear hx h h2 HT3
            dsimp only
            go_wp2_with fail
            clear y0 z0
            generalize w4.setCell ⟨gt, 3, none⟩ (.int .i64 x4) = v4 at *
            refine (rnum_ts 4 (by omega) HBS.out HT4.out).mono ?_
            rintro e w5 ⟨rfl, h⟩
            obtain ⟨⟨x5, r5⟩, hx⟩ : ∃ p, p = rU l 4 r4 := ⟨_, rfl⟩
            rw [← hx] at h ⊢
            have EX5 := Lib.hid hx
            have y0 := h.blk.thaw 4
            have z0 := h.blk.cell 4
            simp only [List.getElem?_toArray, List.getElem?_cons_zero, List.getElem?_cons_succ] at z0
            have h2 := h.put 4 (.int .i64 x5)
            have HT5 := Lib.hid (show TS wo (w5.setCell ⟨gt, 4, none⟩ (.int .i64 x5)) g gt A n c r5 49 #[.int .i64 x1, .int .i64 x2, .int .i64 x3, .int .i64 x4, .int .i64 x5, .int .i64 0, .slice none 0 0] by simpa using h2)
            clear hx h h2 HT4
            dsimp only
            go_wp2_with fail
            clear y0 z0
            generalize w5.setCell ⟨gt, 4, none⟩ (.int .i64 x5) = v5 at *
            refine (rnum_ts 1 (by omega) HBS.out HT5.out).mono ?_
            rintro e w6 ⟨rfl, h⟩
            obtain ⟨⟨x6, r6⟩, hx⟩ : ∃ p, p = rU l 1 r5 := ⟨_, rfl⟩
            rw [← hx] at h ⊢
            have EX6 := Lib.hid hx
            have y0 := h.blk.thaw 5
            have z0 := h.blk.cell 5
            simp only [List.getElem?_toArray, List.getElem?_cons_zero, List.getElem?_cons_succ] at z0
            have h2 := h.put 5 (.int .i64 x6)
            have HT6 := Lib.hid (show TS wo (w6.setCell ⟨gt, 5, none⟩ (.int .i64 x6)) g gt A n c r6 49 #[.int .i64 x1, .int .i64 x2, .int .i64 x3, .int .i64 x4, .int .i64 x5, .int .i64 x6, .slice none 0 0] by simpa using h2)
            clear hx h h2 HT5
            dsimp only
            go_wp2_with fail
            clear y0 z0
            generalize w6.setCell ⟨gt, 5, none⟩ (.int .i64 x6) = v6 at *
            refine (rnum_ts 1 (by omega) HBS.out HT6.out).mono ?_
            rintro e w7 ⟨rfl, h⟩
            obtain ⟨⟨x7, r7⟩, hx⟩ : ∃ p, p = rU l 1 r6 := ⟨_, rfl⟩
            rw [← hx] at h ⊢
            have hxb := tld1_bd HBY.out r6
            have hxc : 0 ≤ x7 ∧ x7 < 256 := by have h1 := congrArg Prod.fst hx; simp only [rU] at h1; omega
            obtain ⟨M, hM, hMb⟩ := nat_of hxc
            subst hM
            have EX7 := Lib.hid hx
            have HT7 := Lib.hid h
            have HMB := Lib.hid hMb
            clear hx h hxb hxc HT6 hMb
            dsimp only
            go_upto_block 2 with fail
            go_cut [11, 12] from 87 to 120 (fun _ _ wx => ∃ (Xc : Option Addr) (jn cc : Nat) (code : List Ins) (r : Rs), r = (rL (rI l) M r7).2 ∧ (r.bad = false → code = (rL (rI l) M r7).1) ∧ code.length = jn ∧ jn ≤ 255 ∧ TS wo wx g gt A n c r 49 #[.int .i64 x1, .int .i64 x2, .int .i64 x3, .int .i64 x4, .int .i64 x5, .int .i64 x6, .slice Xc jn cc] ∧ OwnK wx gt 52 5 Xc jn cc (code.flatMap icells))
            case first =>
              go_wp2_with fail
              have hMb := HMB.out
              go_loopg [11] M (fun gk nv wx => ∃ (j : Nat) (Xc : Option Addr) (cc : Nat) (code : List Ins) (r : Rs), j + gk = M ∧ nv = .int .i64 gk ∧ r = (rL (rI l) j r7).2 ∧ code = (rL (rI l) j r7).1 ∧ TS wo wx g gt A n c r 49 #[.int .i64 x1, .int .i64 x2, .int .i64 x3, .int .i64 x4, .int .i64 x5, .int .i64 x6, .slice Xc j cc] ∧ OwnK wx gt 52 5 Xc j cc (code.flatMap icells))
              case atStart => exact ⟨0, none, 0, [], r7, by omega, rfl, rfl, rfl, HT7.out, OwnK.none _ _ _ _⟩
              case round =>
                obtain ⟨j, Xc, cc, code, ri, hj, rfl, hri, hcd, htj, hoj⟩ := hrel
                have HRI := Lib.hid hri
                have HCDE := Lib.hid hcd
                have HTj := Lib.hid htj
                have HOj := Lib.hid hoj
                have b2 : wr.cell? ⟨g, 2, none⟩ = some (.bool ri.bad) := HTj.out.rd.cell 2
                clear hri hcd htj hoj
                cases gk with
                | zero =>
                  obtain rfl : j = M := by omega
                  go_wp2_with fail
                  go_meet
                  case rel => exact ⟨Xc, j, cc, code, ri, HRI.out, fun _ => HCDE.out, (by rw [HCDE.out, rL_len]), HMB.out, HTj.out, HOj.out⟩
                | succ GJ =>
                  have hgt0 : ((GJ + 1 : Nat) : Int) > 0 := by omega
                  have hgt1 : (GJ : Int) + 1 > 0 := by omega
                  obtain ⟨rk, rbad⟩ := ri
                  cases rbad with
                  | true =>
                    have hst := stay_rest (stay_i l) (show j ≤ M by omega) r7 (by rw [← HRI.out])
                    have HST := Lib.hid (show (⟨rk, true⟩ : Rs) = (rL (rI l) M r7).2 by rw [hst]; exact HRI.out)
                    clear hst
                    go_wp2_with fail
                    go_meet
                    case rel => exact ⟨Xc, j, cc, code, _, HST.out, (fun h => by cases h), (by rw [HCDE.out, rL_len]), by have := HMB.out; omega, HTj.out, HOj.out⟩
                  | false =>
                    obtain ⟨ri, hri⟩ : ∃ r : Rs, r = ⟨rk, false⟩ := ⟨_, rfl⟩
                    rw [← hri] at HRI HTj
                    clear hri
                    go_upto_region 24 with fail
                    have hi0 : TS wr (wr.alloc (.cells #[.int .i64 0, .int .i64 0, .int .i64 0, .int .i64 0, .int .u32 0] 52)) g wr.heap.size A n c ri 52 #[.int .i64 0, .int .i64 0, .int .i64 0, .int .i64 0, .int .u32 0] := ⟨(Chg.refl _ _).alloc _, Blk.same HTj.out.rd ((Same.refl _).alloc _), Blk.new wr _ _, Nat.le_refl _, by have := HTj.out.rd.lt; exact this, HTj.out.k⟩
                    have HI0 := Lib.hid hi0
                    have HBI := Lib.hid (show Bas wr g A n l from ⟨HBS.out.len, HBS.out.short, HBS.out.byt, HBS.out.row.chg HTj.out.chg HBS.out.ne, HBS.out.ne⟩)
                    clear hi0
                    generalize hw0 : wr.alloc (.cells #[.int .i64 0, .int .i64 0, .int .i64 0, .int .i64 0, .int .u32 0] 52) = u0 at *
                    clear hw0
                    have HGI := Lib.hid HI0.out.fresh
                    generalize wr.heap.size = gi at *
                    obtain ⟨s0, hs0⟩ : ∃ r : Rs, r = ri := ⟨_, rfl⟩
                    rw [← hs0] at HI0
                    have HS0 := Lib.hid hs0
                    clear hs0
                    go_wp2_with fail
                    refine (rnum_ts 1 (by omega) HBI.out HI0.out).mono ?_
                    rintro e w1 ⟨rfl, h⟩
                    obtain ⟨⟨y1, s1⟩, hx⟩ : ∃ p, p = rU l 1 s0 := ⟨_, rfl⟩
                    rw [← hx] at h ⊢
                    have EY1 := Lib.hid hx
                    have f0 := h.blk.thaw 0
                    have z0 := h.blk.cell 0
                    simp only [List.getElem?_toArray, List.getElem?_cons_zero, List.getElem?_cons_succ] at z0
                    have h2 := h.put 0 (.int .i64 y1)
                    have HI1 := Lib.hid (show TS wr (w1.setCell ⟨gi, 0, none⟩ (.int .i64 y1)) g gi A n c s1 52 #[.int .i64 y1, .int .i64 0, .int .i64 0, .int .i64 0, .int .u32 0] by simpa using h2)
                    clear hx h h2 HI0
                    dsimp only
                    go_wp2_with fail
                    clear f0 z0
                    generalize w1.setCell ⟨gi, 0, none⟩ (.int .i64 y1) = u1 at *
                    refine (rnum_ts 1 (by omega) HBI.out HI1.out).mono ?_
                    rintro e w2 ⟨rfl, h⟩
                    obtain ⟨⟨y2, s2⟩, hx⟩ : ∃ p, p = rU l 1 s1 := ⟨_, rfl⟩
                    rw [← hx] at h ⊢
                    have EY2 := Lib.hid hx
                    have f0 := h.blk.thaw 1
                    have z0 := h.blk.cell 1
                    simp only [List.getElem?_toArray, List.getElem?_cons_zero, List.getElem?_cons_succ] at z0
                    have h2 := h.put 1 (.int .i64 y2)
                    have HI2 := Lib.hid (show TS wr (w2.setCell ⟨gi, 1, none⟩ (.int .i64 y2)) g gi A n c s2 52 #[.int .i64 y1, .int .i64 y2, .int .i64 0, .int .i64 0, .int .u32 0] by simpa using h2)
                    clear hx h h2 HI1
                    dsimp only
                    go_wp2_with fail
                    clear f0 z0
                    generalize w2.setCell ⟨gi, 1, none⟩ (.int .i64 y2) = u2 at *
                    refine (rnum_ts 1 (by omega) HBI.out HI2.out).mono ?_
                    rintro e w3 ⟨rfl, h⟩
                    obtain ⟨⟨y3, s3⟩, hx⟩ : ∃ p, p = rU l 1 s2 := ⟨_, rfl⟩
                    rw [← hx] at h ⊢
                    have EY3 := Lib.hid hx
                    have f0 := h.blk.thaw 2
                    have z0 := h.blk.cell 2
                    simp only [List.getElem?_toArray, List.getElem?_cons_zero, List.getElem?_cons_succ] at z0
                    have h2 := h.put 2 (.int .i64 y3)
                    have HI3 := Lib.hid (show TS wr (w3.setCell ⟨gi, 2, none⟩ (.int .i64 y3)) g gi A n c s3 52 #[.int .i64 y1, .int .i64 y2, .int .i64 y3, .int .i64 0, .int .u32 0] by simpa using h2)
                    clear hx h h2 HI2
                    dsimp only
                    go_wp2_with fail
                    clear f0 z0
                    generalize w3.setCell ⟨gi, 2, none⟩ (.int .i64 y3) = u3 at *
                    refine (rnum_ts 1 (by omega) HBI.out HI3.out).mono ?_
                    rintro e w4 ⟨rfl, h⟩
                    obtain ⟨⟨y4, s4⟩, hx⟩ : ∃ p, p = rU l 1 s3 := ⟨_, rfl⟩
                    rw [← hx] at h ⊢
                    have EY4 := Lib.hid hx
                    have f0 := h.blk.thaw 3
                    have z0 := h.blk.cell 3
                    simp only [List.getElem?_toArray, List.getElem?_cons_zero, List.getElem?_cons_succ] at z0
                    have h2 := h.put 3 (.int .i64 y4)
                    have HI4 := Lib.hid (show TS wr (w4.setCell ⟨gi, 3, none⟩ (.int .i64 y4)) g gi A n c s4 52 #[.int .i64 y1, .int .i64 y2, .int .i64 y3, .int .i64 y4, .int .u32 0] by simpa using h2)
                    clear hx h h2 HI3
                    dsimp only
                    go_wp2_with fail
                    clear f0 z0
                    generalize w4.setCell ⟨gi, 3, none⟩ (.int .i64 y4) = u4 at *
                    refine (rnum_ts 4 (by omega) HBI.out HI4.out).mono ?_
                    rintro e w5 ⟨rfl, h⟩
                    obtain ⟨⟨y5, s5⟩, hx⟩ : ∃ p, p = rU l 4 s4 := ⟨_, rfl⟩
                    rw [← hx] at h ⊢
                    have EY5 := Lib.hid hx
                    have f0 := h.blk.thaw 4
                    have z0 := h.blk.cell 4
                    simp only [List.getElem?_toArray, List.getElem?_cons_zero, List.getElem?_cons_succ] at z0
                    have hyb : 0 ≤ y5 ∧ y5 < 4294967296 := by have h1 := tld_bd HBY.out (n := 4) (by omega) s4; have h3 := congrArg Prod.fst hx; simp only [rU] at h3; omega
                    have h2 := h.put 4 (.int .u32 y5)
                    have HI5 := Lib.hid (show TS wr (w5.setCell ⟨gi, 4, none⟩ (.int .u32 y5)) g gi A n c s5 52 #[.int .i64 y1, .int .i64 y2, .int .i64 y3, .int .i64 y4, .int .u32 y5] by simpa using h2)
                    clear hx h h2 HI4
                    dsimp only
                    go_upto_region 29 with fail
                    clear f0 z0
                    generalize w5.setCell ⟨gi, 4, none⟩ (.int .u32 y5) = u5 at *
                    have hT5 := HTj.out.blk.chg HI5.out.chg (fun he => by have := HTj.out.fresh; have := HTj.out.old; omega)
                    have t6 := hT5.cell 6
                    have f6 := hT5.thaw 6
                    simp only [List.getElem?_toArray, List.getElem?_cons_zero, List.getElem?_cons_succ] at t6
                    obtain ⟨q0, q1, q2, q3, q4⟩ := ic HI5.out.blk
                    have hO5 := HOj.out.chg HI5.out.chg (fun i hi he => by have := ownK_ge HOj.out hi; have := HTj.out.fresh; have := HTj.out.old; omega)
                    have HO5 := Lib.hid hO5
                    have HT5 := Lib.hid hT5
                    have hlt5 := hT5.lt
                    clear hO5 hT5
                    go_wp2_with (at_builtin; go_loud (refine wpList_appK rfl (.tmp 116) (.tmp 118) 47 rfl gt 52 iI _ 5 40 Try.underlying47 hiI zI0 zI1 zI2 rfl (by omega) Xc j cc (code.flatMap icells) rfl (HO5.out.same ((Same.refl _).alloc _)) _ 1 1 [.int .i64 y1, .int .i64 y2, .int .i64 y3, .int .i64 y4, .int .u32 y5] rfl rfl (row_new _ _ _) ?c1 (by omega) (by omega) ?c2 ?_))
                    case c1 =>
                      intro u hu
                      simp only [List.mem_cons, List.not_mem_nil, or_false] at hu
                      rcases hu with rfl | rfl | rfl | rfl | rfl <;> rfl
                    case c2 => (first | omega | (simp; omega))
                    intro A8 c8 w8 ho8 hc8
                    have hO5a := HO5.out.same ((Same.refl u5).alloc (.cells #[.int .i64 y1, .int .i64 y2, .int .i64 y3, .int .i64 y4, .int .u32 y5] 52))
                    have hT8 := (HT5.out.same ((Same.refl u5).alloc (.cells #[.int .i64 y1, .int .i64 y2, .int .i64 y3, .int .i64 y4, .int .u32 y5] 52))).chg hc8 (fun he => OwnK.ne hO5a (HT5.out.same ((Same.refl u5).alloc _)) (by decide) _ he rfl)
                    have hR8 : RIn w8 g A n c s5 := Blk.chg (Blk.same HI5.out.rd ((Same.refl u5).alloc (.cells #[.int .i64 y1, .int .i64 y2, .int .i64 y3, .int .i64 y4, .int .u32 y5] 52))) hc8 (fun he => OwnK.ne hO5a (Blk.same HI5.out.rd ((Same.refl u5).alloc _)) (by decide) _ he rfl)
                    have hC8 : Chg (fun i => i = g) wo w8 := chg_up ((HTj.out.chg.trans HI5.out.chg).alloc _) hc8 (fun i hi => by have := ownK_ge hO5a hi; have := HTj.out.fresh; omega)
                    have hts : TS wo w8 g gt A n c s5 49 #[.int .i64 x1, .int .i64 x2, .int .i64 x3, .int .i64 x4, .int .i64 x5, .int .i64 x6, .slice Xc j cc] := ⟨hC8, hR8, hT8, HTj.out.fresh, HTj.out.old, HI5.out.k⟩
                    have HT8 := Lib.hid (show TS wo (w8.setCell ⟨gt, 6, none⟩ (.slice A8 (j + 1) c8)) g gt A n c s5 49 #[.int .i64 x1, .int .i64 x2, .int .i64 x3, .int .i64 x4, .int .i64 x5, .int .i64 x6, .slice A8 (j + 1) c8] by simpa using hts.put 6 (.slice A8 (j + 1) c8))
                    have HO8 := Lib.hid (OwnK.chg ho8 ((Chg.refl (fun i => i = gt) w8).set (p := ⟨gt, 6, none⟩) (.inl rfl) (.slice A8 (j + 1) c8)) (fun i hi he => OwnK.ne ho8 hT8 (by decide) i hi he))
                    have hI : rI l s0 = (⟨y1, y2, y3, y4, y5⟩, s5) := by simp only [rI, ← EY1.out, ← EY2.out, ← EY3.out, ← EY4.out, ← EY5.out]
                    have HNX := Lib.hid (rL_succ (rI l) j r7 (show (code, ri) = rL (rI l) j r7 by rw [HRI.out, HCDE.out]) (show ((⟨y1, y2, y3, y4, y5⟩ : Ins), s5) = rI l ri by rw [← HS0.out, hI]))
                    have t8 := hT8.cell 6
                    have f8 := hT8.thaw 6
                    simp only [List.getElem?_toArray, List.getElem?_cons_zero, List.getElem?_cons_succ] at t8
                    clear ho8 hc8 hO5a hT8 hR8 hC8 hts hI HT5 HO5 t6 f6 q0 q1 q2 q3 q4 HI5
                    go_wp2_with fail
                    go_roundg GJ
                    case measure => omega
                    case rel =>
                      refine ⟨j + 1, A8, c8, code ++ [⟨y1, y2, y3, y4, y5⟩], s5, by omega, ?_, by rw [← HNX.out], by rw [← HNX.out], HT8.out, ?_⟩
                      · first | rfl | (congr 1; omega)
                      · rw [fm_snoc]
                        exact HO8.out
            case rest =>
              obtain ⟨Xc, jn, cc, code, rr, hrr, hcd, hcl, hjn, hts, hoc⟩ := hcut
              have hd2 := HD.out.frame hts.chg hts.rd hts.k
              have hdk : DT.ok wc gs ⟨⟨x1, x2, x3, x4, x5, x6, code⟩, Xc, cc⟩ := by
                unfold DT.ok
                rw [hcl]
                exact OwnK.base hoc (by have := HD.out.sys.lt; have := hts.fresh; omega)
              have hT : rT l r0 = (⟨x1, x2, x3, x4, x5, x6, (rL (rI l) M r7).1⟩, rr) := by
                rw [hrr]
                simp only [rT, ← EX1.out, ← EX2.out, ← EX3.out, ← EX4.out, ← EX5.out, ← EX6.out, ← EX7.out, Int.toNat_natCast]
              have hr0 : (rL (rT l) k rb).2 = r0 := by rw [← HR.out, HR0.out]
              have hnx : (rL (rT l) (k + 1) rb).2 = rr := by
                show (rT l (rL (rT l) k rb).2).2 = rr
                rw [hr0, hT]
              have hnl : rr.bad = false → (ds ++ [(⟨⟨x1, x2, x3, x4, x5, x6, code⟩, Xc, cc⟩ : DT)]).map (·.p) = (rL (rT l) (k + 1) rb).1 := fun hb => by
                show _ = (rL (rT l) k rb).1 ++ [(rT l (rL (rT l) k rb).2).1]
                rw [hr0, hT, List.map_append, HDS.out (by trivial), hcd hb]
                rfl
              obtain ⟨q0, q1, q2, q3, q4, q5, q6⟩ := tc hts.blk
              obtain ⟨z0, z1⟩ := (⟨hd2.sys.cell 0, hd2.sys.cell 1⟩ : _ ∧ _)
              simp only [List.getElem?_toArray, List.getElem?_cons_zero, List.getElem?_cons_succ] at z0 z1
              have hgsl := hd2.sys.lt
              have HD2 := Lib.hid hd2
              have HDK := Lib.hid hdk
              have HNX := Lib.hid hnx
              have HNL := Lib.hid hnl
              have HCL := Lib.hid hcl
              clear hd2 hdk hT hr0 hnx hnl hrr hcd hcl hts hoc
              have hN1c := HN1.out
              generalize hcl2 : code.length = cl at *
              have hcl3 := HCL.out
              subst hcl3
              go_wp2_with (at_builtin; go_loud (refine wpList_appK rfl (.tmp 122) (.tmp 124) 24 rfl gs 49 iT _ 7 72 Try.underlying24 hiT tT0 tT1 tT2 rfl (by omega) A5 k c5 (ds.flatMap DT.cells) rfl (HD2.out.tr.same ((Same.refl _).alloc _)) _ 1 1 [.int .i64 x1, .int .i64 x2, .int .i64 x3, .int .i64 x4, .int .i64 x5, .int .i64 x6, .slice Xc cl cc] rfl rfl (row_new _ _ _) ?c1 (by omega) (by omega) ?c2 ?_))
              case c1 => first | exact ⟨rfl, rfl, rfl, rfl, rfl, rfl, rfl⟩ | (intro u hu; simp only [List.mem_cons, List.not_mem_nil, or_false] at hu; rcases hu with rfl | rfl | rfl | rfl | rfl | rfl | rfl <;> rfl)
              case c2 => (first | omega | (simp; omega))
              intro A8 c8 w8 ho8 hc8
              obtain ⟨hd8, z8, f8⟩ := HD2.out.addT HDK.out ((Same.refl wc).alloc (.cells #[.int .i64 x1, .int .i64 x2, .int .i64 x3, .int .i64 x4, .int .i64 x5, .int .i64 x6, .slice Xc cl cc] 49)) (by simp only [DT.cells, tcells, hcl2]; exact ho8) hc8
              have HD8 := Lib.hid hd8
              have HB8 := Lib.hid (show Bas (w8.setCell ⟨gs, 0, none⟩ (.slice A8 (k + 1) c8)) g A n l from ⟨HBS.out.len, HBS.out.short, HBS.out.byt, HRW.out.same hd8.same, HBS.out.ne⟩)
              clear ho8 hc8 hd8 q0 q1 q2 q3 q4 q5 q6 z0 z1
              go_wp2_with fail
              go_roundg GK
              case measure => omega
              case rel => exact ⟨k + 1, A8, c8, _, rr, by omega, by go_num, HNX.out.symm, HNL.out, HB8.out, HD8.out⟩
    case rest =>
      obtain ⟨A5, n5, c5, ds, rt, hrt, hds, hn5, hbs, hd⟩ := hcut
      have HRT := Lib.hid hrt
      have HDS := Lib.hid hds
      have HD6' := Lib.hid hd
      have HB6' := Lib.hid hbs
      have HN5 := Lib.hid hn5
      clear hrt hds hd hbs hn5 HD6 HB6
      rename World => wt
      go_upto_block 4 with fail
      go_cut [13, 14, 15, 16] from 127 to 205 (fun _ _ _ _ wx => ∃ (B5 : Option Addr) (m5 d5 : Nat) (es : List DO) (r : Rs), r = (rL (rO l) N2 rt).2 ∧ (r.bad = false → es.map (·.p) = (rL (rO l) N2 rt).1) ∧ m5 ≤ 255 ∧ Bas wx g A n l ∧ DS w wx g gs A n c r ds es A5 n5 c5 B5 m5 d5)
      case first =>
        go_wp2_with fail
        go_loopg [13] N2 (fun gk iv wx => ∃ (k : Nat) (B5 : Option Addr) (d5 : Nat) (es : List DO) (r : Rs), k + gk = N2 ∧ iv = .int .i64 k ∧ r = (rL (rO l) k rt).2 ∧ (r.bad = false → es.map (·.p) = (rL (rO l) k rt).1) ∧ Bas wx g A n l ∧ DS w wx g gs A n c r ds es A5 n5 c5 B5 k d5)
        case atStart => exact ⟨0, none, 0, [], rt, by omega, rfl, rfl, fun _ => rfl, HB6'.out, HD6'.out⟩
        case round =>
          rename World => wo
          obtain ⟨k, B5, d5, es, r, hk, rfl, hr, hes, hbs, hd⟩ := hrel
          have HR := Lib.hid hr
          have HES := Lib.hid hes
          have HBS := Lib.hid hbs
          have HD := Lib.hid hd
          clear hr hes hbs hd
          have b2 : wo.cell? ⟨g, 2, none⟩ = some (.bool r.bad) := HD.out.rd.cell 2
          cases gk with
          | zero =>
            obtain rfl : k = N2 := by omega
            have hge : ¬ (k : Int) < (k : Int) := by omega
            go_wp2_with fail
            go_meet
            case rel => exact ⟨B5, k, d5, es, r, HR.out, HES.out, HN2b.out, HBS.out, HD.out⟩
          | succ GK =>
            have hlt : (k : Int) < N2 := by omega
            obtain ⟨rk, rbad⟩ := r
            cases rbad with
            | true =>
              have hst := stay_rest (stay_o l) (show k ≤ N2 by omega) rt (by rw [← HR.out])
              have HST := Lib.hid (show (⟨rk, true⟩ : Rs) = (rL (rO l) N2 rt).2 by rw [hst]; exact HR.out)
              clear hst
              go_wp2_with fail
              go_meet
              case rel => exact ⟨B5, k, d5, es, _, HST.out, (fun h => by cases h), by have := HN2b.out; omega, HBS.out, HD.out⟩
            | false =>
              go_upto_region 35 with fail
              have ht0 : TS wo (wo.alloc (.cells #[.int .i64 0, .int .i64 0, .int .i64 0, .int .i64 0, .int .u32 0, .slice none 0 0, .int .i64 0, .slice none 0 0] 56)) g wo.heap.size A n c ⟨rk, false⟩ 56 #[.int .i64 0, .int .i64 0, .int .i64 0, .int .i64 0, .int .u32 0, .slice none 0 0, .int .i64 0, .slice none 0 0] := ⟨(Chg.refl _ _).alloc _, Blk.same HD.out.rd ((Same.refl _).alloc _), Blk.new wo _ _, Nat.le_refl _, by have := HD.out.rd.lt; exact this, HD.out.k⟩
              have HT0 := Lib.hid ht0
              clear ht0 b2
              obtain ⟨r0, hr0⟩ : ∃ r : Rs, r = ⟨rk, false⟩ := ⟨_, rfl⟩
              rw [← hr0] at HT0
              have HR0 := Lib.hid hr0
              clear hr0
              generalize hw0 : wo.alloc (.cells #[.int .i64 0, .int .i64 0, .int .i64 0, .int .i64 0, .int .u32 0, .slice none 0 0, .int .i64 0, .slice none 0 0] 56) = v0 at *
              clear hw0
              have HGT := Lib.hid HT0.out.fresh
              generalize wo.heap.size = gt at *
              go_wp2_with fail
              refine (rnum_ts 1 (by omega) HBS.out HT0.out).mono ?_
              rintro e w1 ⟨rfl, h⟩
              obtain ⟨⟨x1, r1⟩, hx⟩ : ∃ p, p = rU l 1 r0 := ⟨_, rfl⟩
              rw [← hx] at h ⊢
              have EX1 := Lib.hid hx
              have y0 := h.blk.thaw 0
              have z0 := h.blk.cell 0
              simp only [List.getElem?_toArray, List.getElem?_cons_zero, List.getElem?_cons_succ] at z0
              have h2 := h.put 0 (.int .i64 x1)
              have HT1 := Lib.hid (show TS wo (w1.setCell ⟨gt, 0, none⟩ (.int .i64 x1)) g gt A n c r1 56 #[.int .i64 x1, .int .i64 0, .int .i64 0, .int .i64 0, .int .u32 0, .slice none 0 0, .int .i64 0, .slice none 0 0] by simpa using h2)
              clear hx h h2 HT0
              dsimp only
              go_wp2_with fail
              clear y0 z0
              generalize w1.setCell ⟨gt, 0, none⟩ (.int .i64 x1) = v1 at *
              refine (rnum_ts 1 (by omega) HBS.out HT1.out).mono ?_
              rintro e w2 ⟨rfl, h⟩
              obtain ⟨⟨x2, r2⟩, hx⟩ : ∃ p, p = rU l 1 r1 := ⟨_, rfl⟩
              rw [← hx] at h ⊢
              have EX2 := Lib.hid hx
              have y0 := h.blk.thaw 1
              have z0 := h.blk.cell 1
              simp only [List.getElem?_toArray, List.getElem?_cons_zero, List.getElem?_cons_succ] at z0
              have h2 := h.put 1 (.int .i64 x2)
              have HT2 := Lib.hid (show TS wo (w2.setCell ⟨gt, 1, none⟩ (.int .i64 x2)) g gt A n c r2 56 #[.int .i64 x1, .int .i64 x2, .int .i64 0, .int .i64 0, .int .u32 0, .slice none 0 0, .int .i64 0, .slice none 0 0] by simpa using h2)
              clear hx h h2 HT1
              dsimp only
              go_wp2_with fail
              clear y0 z0
              generalize w2.setCell ⟨gt, 1, none⟩ (.int .i64 x2) = v2 at *
              refine (rnum_ts 1 (by omega) HBS.out HT2.out).mono ?_
              rintro e w3 ⟨rfl, h⟩
              obtain ⟨⟨x3, r3⟩, hx⟩ : ∃ p, p = rU l 1 r2 := ⟨_, rfl⟩
              rw [← hx] at h ⊢
              have EX3 := Lib.hid hx
              have y0 := h.blk.thaw 2
              have z0 := h.blk.cell 2
              simp only [List.getElem?_toArray, List.getElem?_cons_zero, List.getElem?_cons_succ] at z0
              have h2 := h.put 2 (.int .i64 x3)
              have HT3 := Lib.hid (show TS wo (w3.setCell ⟨gt, 2, none⟩ (.int .i64 x3)) g gt A n c r3 56 #[.int .i64 x1, .int .i64 x2, .int .i64 x3, .int .i64 0, .int .u32 0, .slice none 0 0, .int .i64 0, .slice none 0 0] by simpa using h2)
              clear hx h h2 HT2
              dsimp only
              go_wp2_with fail
              clear y0 z0
              generalize w3.setCell ⟨gt, 2, none⟩ (.int .i64 x3) = v3 at *
              refine (rnum_ts 1 (by omega) HBS.out HT3.out).mono ?_
              rintro e w4 ⟨rfl, h⟩
              obtain ⟨⟨x4, r4⟩, hx⟩ : ∃ p, p = rU l 1 r3 := ⟨_, rfl⟩
              rw [← hx] at h ⊢
              have EX4 := Lib.hid hx
              have y0 := h.blk.thaw 3
              have z0 := h.blk.cell 3
              simp only [List.getElem?_toArray, List.getElem?_cons_zero, List.getElem?_cons_succ] at z0
              have h2 := h.put 3 (.int .i64 x4)
              have HT4 := Lib.hid (show TS wo (w4.setCell ⟨gt, 3, none⟩ (.int .i64 x4)) g gt A n c r4 56 #[.int .i64 x1, .int .i64 x2, .int .i64 x3, .int .i64 x4, .int .u32 0, .slice none 0 0, .int .i64 0, .slice none 0 0] by simpa using h2)
              clear hx h h2 HT3
              dsimp only
              go_wp2_with fail
              clear y0 z0
              generalize w4.setCell ⟨gt, 3, none⟩ (.int .i64 x4) = v4 at *
              refine (rnum_ts 4 (by omega) HBS.out HT4.out).mono ?_
              rintro e w5 ⟨rfl, h⟩
              obtain ⟨⟨x5, r5⟩, hx⟩ : ∃ p, p = rU l 4 r4 := ⟨_, rfl⟩
              rw [← hx] at h ⊢
              have EX5 := Lib.hid hx
              have y0 := h.blk.thaw 4
              have z0 := h.blk.cell 4
              simp only [List.getElem?_toArray, List.getElem?_cons_zero, List.getElem?_cons_succ] at z0
              have hsab : 0 ≤ x5 ∧ x5 < 4294967296 := by have h1 := tld_bd HBY.out (n := 4) (by omega) r4; have h3 := congrArg Prod.fst hx; simp only [rU] at h3; omega
              have h2 := h.put 4 (.int .u32 x5)
              have HT5 := Lib.hid (show TS wo (w5.setCell ⟨gt, 4, none⟩ (.int .u32 x5)) g gt A n c r5 56 #[.int .i64 x1, .int .i64 x2, .int .i64 x3, .int .i64 x4, .int .u32 x5, .slice none 0 0, .int .i64 0, .slice none 0 0] by simpa using h2)
              clear hx h h2 HT4
              dsimp only
              go_wp2_with fail
              clear y0 z0
              generalize w5.setCell ⟨gt, 4, none⟩ (.int .u32 x5) = v5 at *
              refine (rnum_ts 1 (by omega) HBS.out HT5.out).mono ?_
              rintro e w6 ⟨rfl, h⟩
              obtain ⟨⟨x6, r6⟩, hx⟩ : ∃ p, p = rU l 1 r5 := ⟨_, rfl⟩
              rw [← hx] at h ⊢
              have EX6 := Lib.hid hx
              have y0 := h.blk.thaw 6
              have z0 := h.blk.cell 6
              simp only [List.getElem?_toArray, List.getElem?_cons_zero, List.getElem?_cons_succ] at z0
              have h2 := h.put 6 (.int .i64 x6)
              have HT6 := Lib.hid (show TS wo (w6.setCell ⟨gt, 6, none⟩ (.int .i64 x6)) g gt A n c r6 56 #[.int .i64 x1, .int .i64 x2, .int .i64 x3, .int .i64 x4, .int .u32 x5, .slice none 0 0, .int .i64 x6, .slice none 0 0] by simpa using h2)
              clear hx h h2 HT5
              dsimp only
              go_wp2_with fail
              clear y0 z0
              generalize w6.setCell ⟨gt, 6, none⟩ (.int .i64 x6) = v6 at *
              refine (rnum_ts 1 (by omega) HBS.out HT6.out).mono ?_
              rintro e w7 ⟨rfl, h⟩
              obtain ⟨⟨x7, r7⟩, hx⟩ : ∃ p, p = rU l 1 r6 := ⟨_, rfl⟩
              rw [← hx] at h ⊢
              have hxb := tld1_bd HBY.out r6
              have hxc : 0 ≤ x7 ∧ x7 < 256 := by have h1 := congrArg Prod.fst hx; simp only [rU] at h1; omega
              obtain ⟨M, hM, hMb⟩ := nat_of hxc
              subst hM
              have EX7 := Lib.hid hx
              have HT7 := Lib.hid h
              have HMB := Lib.hid hMb
              clear hx h hxb hxc HT6 hMb
              dsimp only
              go_upto_block 6 with fail
              go_cut [15] from 161 to 178 (fun _ wx => ∃ (Xc : Option Addr) (jn cc : Nat) (xs : List Int) (r : Rs), r = (rL (rU l 1) M r7).2 ∧ (r.bad = false → xs = (rL (rU l 1) M r7).1) ∧ xs.length = jn ∧ jn ≤ 255 ∧ TS wo wx g gt A n c r 56 #[.int .i64 x1, .int .i64 x2, .int .i64 x3, .int .i64 x4, .int .u32 x5, .slice none 0 0, .int .i64 x6, .slice Xc jn cc] ∧ OwnK wx gt 3 1 Xc jn cc (xs.flatMap ints1))
              case first =>
                go_wp2_with fail
                have hMb := HMB.out
                go_loopg [15] M (fun gk nv wx => ∃ (j : Nat) (Xc : Option Addr) (cc : Nat) (xs : List Int) (r : Rs), j + gk = M ∧ nv = .int .i64 gk ∧ r = (rL (rU l 1) j r7).2 ∧ xs = (rL (rU l 1) j r7).1 ∧ TS wo wx g gt A n c r 56 #[.int .i64 x1, .int .i64 x2, .int .i64 x3, .int .i64 x4, .int .u32 x5, .slice none 0 0, .int .i64 x6, .slice Xc j cc] ∧ OwnK wx gt 3 1 Xc j cc (xs.flatMap ints1))
                case atStart => exact ⟨0, none, 0, [], r7, by omega, rfl, rfl, rfl, HT7.out, OwnK.none _ _ _ _⟩
                case round =>
                  obtain ⟨j, Xc, cc, xs, ri, hj, rfl, hri, hcd, htj, hoj⟩ := hrel
                  have HRI := Lib.hid hri
                  have HXS := Lib.hid hcd
                  have HTj := Lib.hid htj
                  have HOj := Lib.hid hoj
                  have b2 : wr.cell? ⟨g, 2, none⟩ = some (.bool ri.bad) := HTj.out.rd.cell 2
                  clear hri hcd htj hoj
                  cases gk with
                  | zero =>
                    obtain rfl : j = M := by omega
                    go_wp2_with fail
                    go_meet
                    case rel => exact ⟨Xc, j, cc, xs, ri, HRI.out, fun _ => HXS.out, (by rw [HXS.out, rL_len]), HMB.out, HTj.out, HOj.out⟩
                  | succ GJ =>
                    have hgt0 : ((GJ + 1 : Nat) : Int) > 0 := by omega
                    have hgt1 : (GJ : Int) + 1 > 0 := by omega
                    obtain ⟨rk, rbad⟩ := ri
                    cases rbad with
                    | true =>
                      have hst := stay_rest (f := rU l 1) (fun r h => by rw [stay_u h]) (show j ≤ M by omega) r7 (by rw [← HRI.out])
                      have HST := Lib.hid (show (⟨rk, true⟩ : Rs) = (rL (rU l 1) M r7).2 by rw [hst]; exact HRI.out)
                      clear hst
                      go_wp2_with fail
                      go_meet
                      case rel => exact ⟨Xc, j, cc, xs, _, HST.out, (fun h => by cases h), (by rw [HXS.out, rL_len]), by have := HMB.out; omega, HTj.out, HOj.out⟩
                    | false =>
                      go_upto_region 44 with fail
                      obtain ⟨ri, hri⟩ : ∃ r : Rs, r = ⟨rk, false⟩ := ⟨_, rfl⟩
                      rw [← hri] at HRI HTj
                      clear hri b2
                      have z7 : wr.cell? ⟨gt, 7, none⟩ = some (.slice Xc j cc) := HTj.out.blk.cell 7
                      have HTD := Lib.hid (HTj.out.to (Same.refl _).drew)
                      have HOD := Lib.hid (HOj.out.same (Same.refl _).drew)
                      have HBD := Lib.hid (show Bas wr.drew g A n l from ⟨HBS.out.len, HBS.out.short, HBS.out.byt, (HBS.out.row.chg HTj.out.chg HBS.out.ne).same (Same.refl _).drew, HBS.out.ne⟩)
                      refine wp_region_held_drew (S := fun _ => True) (by kernel_rfl) ?_ (fun hHeld => ?_)
                      · trivial
                      refine Ro.take_on (i := 0) (v := ?_) rfl (by kernel_rfl) (by kernel_rfl) (by kernel_rfl) (fun _ _ _ h => h) (by rfl) trivial ?_ ?_
                      rotate_left
                      · intro wS hSw; (try dsimp only at hSw); go_simp; try with_reducible rfl
                      try simp only [Act.put, List.setIfInBounds_toArray, List.set_cons_zero, List.set_cons_succ]
                      refine Ro.take_on (i := 2) (v := ?_) rfl (by kernel_rfl) (by kernel_rfl) (by kernel_rfl) (fun _ _ _ h => h) (by rfl) trivial ?_ ?_
                      rotate_left
                      · intro wS hSw; (try dsimp only at hSw); go_simp; try with_reducible rfl
                      try simp only [Act.put, List.setIfInBounds_toArray, List.set_cons_zero, List.set_cons_succ]
                      refine Ra.two_on (i := 1) (j := 3) rfl rfl (by kernel_rfl) (by rfl) (by rfl) (fun K hK => ?_) (fun K hK => ?_)
                      · go_simp
                        refine hK.out _ _ trivial (fun hNew => ?_)
                        clear hK K hNew
                        try simp only [Act.put, List.setIfInBounds_toArray, List.set_cons_zero, List.set_cons_succ]
                        refine Ro.one_on (i := 3) rfl (by kernel_rfl) (by rfl) (fun K hK => ?_)
                        go_simp
                        go_at_call 18
                        refine (rnum_b 1 (by omega) HBD.out (Chg.refl _ _) HTD.out.rd HTD.out.k).mono ?_
                        rintro e w2 ⟨rfl, h2c, h2r, h2k⟩
                        obtain ⟨⟨y, s1⟩, hx⟩ : ∃ p, p = rU l 1 ri := ⟨_, rfl⟩
                        rw [← hx] at h2r h2k ⊢
                        have HYX := Lib.hid hx
                        have HT2 := Lib.hid (HTD.out.num h2r h2c h2k)
                        have HO2 := Lib.hid (HOD.out.chg h2c (fun i hi he => by have := ownK_ge HOD.out hi; have := HTD.out.fresh; have := HTD.out.old; omega))
                        clear hx h2c h2r h2k
                        dsimp only
                        refine hK.out _ _ trivial (fun hNew => ?_)
                        clear hK K hNew
                        try simp only [Act.put, List.setIfInBounds_toArray, List.set_cons_zero, List.set_cons_succ]
                        clear z7
                        refine Ro.one_on (i := 4) rfl (by kernel_rfl) (by rfl) (fun K hK => ?_)
                        go_simp
                        refine hK.out _ _ trivial (fun hNew => ?_)
                        clear hK K hNew
                        try simp only [Act.put, List.setIfInBounds_toArray, List.set_cons_zero, List.set_cons_succ]
                        have HT3 := Lib.hid (HT2.out.to ((Same.refl w2).alloc (.cells #[.int .i64 y] 3)))
                        have HO3 := Lib.hid (HO2.out.same ((Same.refl w2).alloc (.cells #[.int .i64 y] 3)))
                        have hrow3 := row_new w2 #[.int .i64 y] 3
                        refine Ro.one_on (i := 5) rfl (by kernel_rfl) (by rfl) (fun K hK => ?_)
                        refine Ra.oper_app (.tmp 173) (.tmp 176) 54 rfl gt 3 iN _ 1 8 Try.underlying54 hiN nN0 nN1 nN2 rfl (by omega) Xc j cc (xs.flatMap ints1) rfl HO3.out (some ⟨w2.heap.size, 0, none⟩) 1 1 [.int .i64 y] rfl rfl hrow3 ?_ (by omega) (by omega) ?_ (j + 1) rfl ?_
                        · intro u hu; simp only [List.mem_cons, List.not_mem_nil, or_false] at hu; subst hu; rfl
                        · have := HT3.out.blk.lt; omega
                        intro A8 c8 w8 ho8 hc8
                        have HT8 := Lib.hid (HT3.out.app HO3.out hc8 (by decide) (by decide))
                        have HO8 := Lib.hid ho8
                        clear ho8 hc8 hrow3
                        refine hK.out _ _ trivial (fun hNew => ?_)
                        clear hK K hNew
                        try simp only [Act.put, List.setIfInBounds_toArray, List.set_cons_zero, List.set_cons_succ]
                        have t8 : w8.cell? ⟨gt, 7, none⟩ = some (.slice Xc j cc) := HT8.out.blk.cell 7
                        have f8 := HT8.out.blk.thaw 7
                        refine Ro.take_on (i := 6) (v := ?_) rfl (by kernel_rfl) (by kernel_rfl) (by kernel_rfl) (fun _ _ _ h => h) (by rfl) trivial ?_ ?_
                        rotate_left
                        · intro wS hSw; (try dsimp only at hSw); go_simp; try with_reducible rfl
                        try simp only [Act.put, List.setIfInBounds_toArray, List.set_cons_zero, List.set_cons_succ]
                        refine Ro.one_on (i := 7) rfl (by kernel_rfl) (by rfl) (fun K hK => ?_)
                        go_simp
                        refine hK.out _ _ trivial (fun hNew => ?_)
                        clear hK K hNew
                        try simp only [Act.put, List.setIfInBounds_toArray, List.set_cons_zero, List.set_cons_succ]
                        refine wpAnyH_done (by kernel_rfl) ?_ _
                        have HT9 := Lib.hid (show TS wo (w8.setCell ⟨gt, 7, none⟩ (.slice A8 (j + 1) c8)) g gt A n c s1 56 #[.int .i64 x1, .int .i64 x2, .int .i64 x3, .int .i64 x4, .int .u32 x5, .slice none 0 0, .int .i64 x6, .slice A8 (j + 1) c8] by simpa using HT8.out.put 7 (.slice A8 (j + 1) c8))
                        have HO9 := Lib.hid (ownK_put (f := 7) (v := .slice A8 (j + 1) c8) HO8.out HT8.out.blk (by decide))
                        have HNX := Lib.hid (rL_succ (rU l 1) j r7 (show (xs, ri) = (rL (rU l 1) j r7) by rw [HRI.out, HXS.out]) HYX.out)
                        clear t8 f8 HT8 HO8 HT3 HO3 HT2 HO2
                        go_wp2_with fail
                        go_roundg GJ
                        case measure => omega
                        case rel =>
                          refine ⟨j + 1, A8, c8, xs ++ [y], s1, by omega, ?_, by rw [← HNX.out], by rw [← HNX.out], HT9.out, ?_⟩
                          · first | rfl | (congr 1; omega)
                          · rw [fm_snoc]
                            exact HO9.out
                      · go_simp
                        go_at_call 18
                        refine (rnum_b 1 (by omega) HBD.out (Chg.refl _ _) HTD.out.rd HTD.out.k).mono ?_
                        rintro e w2 ⟨rfl, h2c, h2r, h2k⟩
                        obtain ⟨⟨y, s1⟩, hx⟩ : ∃ p, p = rU l 1 ri := ⟨_, rfl⟩
                        rw [← hx] at h2r h2k ⊢
                        have HYX := Lib.hid hx
                        have HT2 := Lib.hid (HTD.out.num h2r h2c h2k)
                        have HO2 := Lib.hid (HOD.out.chg h2c (fun i hi he => by have := ownK_ge HOD.out hi; have := HTD.out.fresh; have := HTD.out.old; omega))
                        clear hx h2c h2r h2k
                        dsimp only
                        refine hK.out _ _ trivial (fun hNew => ?_)
                        clear hK K hNew
                        try simp only [Act.put, List.setIfInBounds_toArray, List.set_cons_zero, List.set_cons_succ]
                        have z8 : w2.cell? ⟨gt, 7, none⟩ = some (.slice Xc j cc) := HT2.out.blk.cell 7
                        clear z7
                        refine Ra.two_on (i := 1) (j := 4) rfl rfl (by kernel_rfl) (by rfl) (by rfl) (fun K hK => ?_) (fun K hK => ?_)
                        · go_simp
                          refine hK.out _ _ trivial (fun hNew => ?_)
                          clear hK K hNew
                          try simp only [Act.put, List.setIfInBounds_toArray, List.set_cons_zero, List.set_cons_succ]
                          clear z8
                          refine Ro.one_on (i := 4) rfl (by kernel_rfl) (by rfl) (fun K hK => ?_)
                          go_simp
                          refine hK.out _ _ trivial (fun hNew => ?_)
                          clear hK K hNew
                          try simp only [Act.put, List.setIfInBounds_toArray, List.set_cons_zero, List.set_cons_succ]
                          have HT3 := Lib.hid (HT2.out.to ((Same.refl w2).alloc (.cells #[.int .i64 y] 3)))
                          have HO3 := Lib.hid (HO2.out.same ((Same.refl w2).alloc (.cells #[.int .i64 y] 3)))
                          have hrow3 := row_new w2 #[.int .i64 y] 3
                          refine Ro.one_on (i := 5) rfl (by kernel_rfl) (by rfl) (fun K hK => ?_)
                          refine Ra.oper_app (.tmp 173) (.tmp 176) 54 rfl gt 3 iN _ 1 8 Try.underlying54 hiN nN0 nN1 nN2 rfl (by omega) Xc j cc (xs.flatMap ints1) rfl HO3.out (some ⟨w2.heap.size, 0, none⟩) 1 1 [.int .i64 y] rfl rfl hrow3 ?_ (by omega) (by omega) ?_ (j + 1) rfl ?_
                          · intro u hu; simp only [List.mem_cons, List.not_mem_nil, or_false] at hu; subst hu; rfl
                          · have := HT3.out.blk.lt; omega
                          intro A8 c8 w8 ho8 hc8
                          have HT8 := Lib.hid (HT3.out.app HO3.out hc8 (by decide) (by decide))
                          have HO8 := Lib.hid ho8
                          clear ho8 hc8 hrow3
                          refine hK.out _ _ trivial (fun hNew => ?_)
                          clear hK K hNew
                          try simp only [Act.put, List.setIfInBounds_toArray, List.set_cons_zero, List.set_cons_succ]
                          have t8 : w8.cell? ⟨gt, 7, none⟩ = some (.slice Xc j cc) := HT8.out.blk.cell 7
                          have f8 := HT8.out.blk.thaw 7
                          refine Ro.take_on (i := 6) (v := ?_) rfl (by kernel_rfl) (by kernel_rfl) (by kernel_rfl) (fun _ _ _ h => h) (by rfl) trivial ?_ ?_
                          rotate_left
                          · intro wS hSw; (try dsimp only at hSw); go_simp; try with_reducible rfl
                          try simp only [Act.put, List.setIfInBounds_toArray, List.set_cons_zero, List.set_cons_succ]
                          refine Ro.one_on (i := 7) rfl (by kernel_rfl) (by rfl) (fun K hK => ?_)
                          go_simp
                          refine hK.out _ _ trivial (fun hNew => ?_)
                          clear hK K hNew
                          try simp only [Act.put, List.setIfInBounds_toArray, List.set_cons_zero, List.set_cons_succ]
                          refine wpAnyH_done (by kernel_rfl) ?_ _
                          have HT9 := Lib.hid (show TS wo (w8.setCell ⟨gt, 7, none⟩ (.slice A8 (j + 1) c8)) g gt A n c s1 56 #[.int .i64 x1, .int .i64 x2, .int .i64 x3, .int .i64 x4, .int .u32 x5, .slice none 0 0, .int .i64 x6, .slice A8 (j + 1) c8] by simpa using HT8.out.put 7 (.slice A8 (j + 1) c8))
                          have HO9 := Lib.hid (ownK_put (f := 7) (v := .slice A8 (j + 1) c8) HO8.out HT8.out.blk (by decide))
                          have HNX := Lib.hid (rL_succ (rU l 1) j r7 (show (xs, ri) = (rL (rU l 1) j r7) by rw [HRI.out, HXS.out]) HYX.out)
                          clear t8 f8 HT8 HO8 HT3 HO3 HT2 HO2
                          go_wp2_with fail
                          go_roundg GJ
                          case measure => omega
                          case rel =>
                            refine ⟨j + 1, A8, c8, xs ++ [y], s1, by omega, ?_, by rw [← HNX.out], by rw [← HNX.out], HT9.out, ?_⟩
                            · first | rfl | (congr 1; omega)
                            · rw [fm_snoc]
                              exact HO9.out
                        · go_simp
                          refine hK.out _ _ trivial (fun hNew => ?_)
                          clear hK K hNew
                          try simp only [Act.put, List.setIfInBounds_toArray, List.set_cons_zero, List.set_cons_succ]
                          clear z8
                          have HT3 := Lib.hid (HT2.out.to ((Same.refl w2).alloc (.cells #[.int .i64 y] 3)))
                          have HO3 := Lib.hid (HO2.out.same ((Same.refl w2).alloc (.cells #[.int .i64 y] 3)))
                          have hrow3 := row_new w2 #[.int .i64 y] 3
                          have z9 := HT3.out.blk.cell 7
                          simp only [List.getElem?_toArray, List.getElem?_cons_zero, List.getElem?_cons_succ] at z9
                          refine Ro.one_on (i := 1) rfl (by kernel_rfl) (by rfl) (fun K hK => ?_)
                          go_simp
                          refine hK.out _ _ trivial (fun hNew => ?_)
                          clear hK K hNew
                          try simp only [Act.put, List.setIfInBounds_toArray, List.set_cons_zero, List.set_cons_succ]
                          clear z9
                          refine Ro.one_on (i := 5) rfl (by kernel_rfl) (by rfl) (fun K hK => ?_)
                          refine Ra.oper_app (.tmp 173) (.tmp 176) 54 rfl gt 3 iN _ 1 8 Try.underlying54 hiN nN0 nN1 nN2 rfl (by omega) Xc j cc (xs.flatMap ints1) rfl HO3.out (some ⟨w2.heap.size, 0, none⟩) 1 1 [.int .i64 y] rfl rfl hrow3 ?_ (by omega) (by omega) ?_ (j + 1) rfl ?_
                          · intro u hu; simp only [List.mem_cons, List.not_mem_nil, or_false] at hu; subst hu; rfl
                          · have := HT3.out.blk.lt; omega
                          intro A8 c8 w8 ho8 hc8
                          have HT8 := Lib.hid (HT3.out.app HO3.out hc8 (by decide) (by decide))
                          have HO8 := Lib.hid ho8
                          clear ho8 hc8 hrow3
                          refine hK.out _ _ trivial (fun hNew => ?_)
                          clear hK K hNew
                          try simp only [Act.put, List.setIfInBounds_toArray, List.set_cons_zero, List.set_cons_succ]
                          have t8 : w8.cell? ⟨gt, 7, none⟩ = some (.slice Xc j cc) := HT8.out.blk.cell 7
                          have f8 := HT8.out.blk.thaw 7
                          refine Ro.take_on (i := 6) (v := ?_) rfl (by kernel_rfl) (by kernel_rfl) (by kernel_rfl) (fun _ _ _ h => h) (by rfl) trivial ?_ ?_
                          rotate_left
                          · intro wS hSw; (try dsimp only at hSw); go_simp; try with_reducible rfl
                          try simp only [Act.put, List.setIfInBounds_toArray, List.set_cons_zero, List.set_cons_succ]
                          refine Ro.one_on (i := 7) rfl (by kernel_rfl) (by rfl) (fun K hK => ?_)
                          go_simp
                          refine hK.out _ _ trivial (fun hNew => ?_)
                          clear hK K hNew
                          try simp only [Act.put, List.setIfInBounds_toArray, List.set_cons_zero, List.set_cons_succ]
                          refine wpAnyH_done (by kernel_rfl) ?_ _
                          have HT9 := Lib.hid (show TS wo (w8.setCell ⟨gt, 7, none⟩ (.slice A8 (j + 1) c8)) g gt A n c s1 56 #[.int .i64 x1, .int .i64 x2, .int .i64 x3, .int .i64 x4, .int .u32 x5, .slice none 0 0, .int .i64 x6, .slice A8 (j + 1) c8] by simpa using HT8.out.put 7 (.slice A8 (j + 1) c8))
                          have HO9 := Lib.hid (ownK_put (f := 7) (v := .slice A8 (j + 1) c8) HO8.out HT8.out.blk (by decide))
                          have HNX := Lib.hid (rL_succ (rU l 1) j r7 (show (xs, ri) = (rL (rU l 1) j r7) by rw [HRI.out, HXS.out]) HYX.out)
                          clear t8 f8 HT8 HO8 HT3 HO3 HT2 HO2
                          go_wp2_with fail
                          go_roundg GJ
                          case measure => omega
                          case rel =>
                            refine ⟨j + 1, A8, c8, xs ++ [y], s1, by omega, ?_, by rw [← HNX.out], by rw [← HNX.out], HT9.out, ?_⟩
                            · first | rfl | (congr 1; omega)
                            · rw [fm_snoc]
                              exact HO9.out
              case rest =>
                obtain ⟨Yc, yn, yc, rds, rr, hrr, hrd, hrl, hyn, hts, hyo⟩ := hcut
                have HRR := Lib.hid hrr
                have HRD := Lib.hid hrd
                have HRL := Lib.hid hrl
                have HYN := Lib.hid hyn
                have HTS := Lib.hid hts
                have HYO := Lib.hid hyo
                clear hrr hrd hrl hyn hts hyo HT7
                have HBI := Lib.hid (show Bas wc g A n l from ⟨HBS.out.len, HBS.out.short, HBS.out.byt, HBS.out.row.chg HTS.out.chg HBS.out.ne, HBS.out.ne⟩)
                go_wp2_with fail
                refine (rnum_b 1 (by omega) HBI.out (Chg.refl _ _) HTS.out.rd HTS.out.k).mono ?_
                rintro e w9 ⟨rfl, h9c, h9r, h9k⟩
                obtain ⟨⟨x9, r9⟩, hx⟩ : ∃ p, p = rU l 1 rr := ⟨_, rfl⟩
                rw [← hx] at h9r h9k ⊢
                have hxb := tld1_bd HBY.out rr
                have hxc : 0 ≤ x9 ∧ x9 < 256 := by have h1 := congrArg Prod.fst hx; simp only [rU] at h1; omega
                obtain ⟨M2, hM, hMb⟩ := nat_of hxc
                subst hM
                have EX9 := Lib.hid hx
                have HT9 := Lib.hid (HTS.out.num h9r h9c h9k)
                have HY9 := Lib.hid (HYO.out.chg h9c (fun i hi he => by have := ownK_ge HYO.out hi; have := HTS.out.fresh; have := HTS.out.old; omega))
                have HMB2 := Lib.hid hMb
                clear hx hxb hxc hMb h9c h9r h9k HYO
                dsimp only
                go_upto_block 8 with fail
                go_cut [16] from 181 to 199 (fun _ wx => ∃ (Xc : Option Addr) (jn cc : Nat) (xs : List Int) (r : Rs), r = (rL (rU l 4) M2 r9).2 ∧ (r.bad = false → xs = (rL (rU l 4) M2 r9).1) ∧ xs.length = jn ∧ jn ≤ 255 ∧ TS wo wx g gt A n c r 56 #[.int .i64 x1, .int .i64 x2, .int .i64 x3, .int .i64 x4, .int .u32 x5, .slice Xc jn cc, .int .i64 x6, .slice Yc yn yc] ∧ OwnK wx gt 50 1 Xc jn cc (xs.flatMap words1) ∧ OwnK wx gt 3 1 Yc yn yc (rds.flatMap ints1))
                case first =>
                  go_wp2_with fail
                  have hMb := HMB2.out
                  go_loopg [16] M2 (fun gk nv wx => ∃ (j : Nat) (Xc : Option Addr) (cc : Nat) (xs : List Int) (r : Rs), j + gk = M2 ∧ nv = .int .i64 gk ∧ r = (rL (rU l 4) j r9).2 ∧ xs = (rL (rU l 4) j r9).1 ∧ TS wo wx g gt A n c r 56 #[.int .i64 x1, .int .i64 x2, .int .i64 x3, .int .i64 x4, .int .u32 x5, .slice Xc j cc, .int .i64 x6, .slice Yc yn yc] ∧ OwnK wx gt 50 1 Xc j cc (xs.flatMap words1) ∧ OwnK wx gt 3 1 Yc yn yc (rds.flatMap ints1))
                  case atStart => exact ⟨0, none, 0, [], r9, by omega, rfl, rfl, rfl, HT9.out, OwnK.none _ _ _ _, HY9.out⟩
                  case round =>
                    obtain ⟨j, Xc, cc, xs, ri, hj, rfl, hri, hcd, htj, hoj, hyc⟩ := hrel
                    have HRI := Lib.hid hri
                    have HXS := Lib.hid hcd
                    have HTj := Lib.hid htj
                    have HOj := Lib.hid hoj
                    have HYj := Lib.hid hyc
                    clear hyc
                    have b2 : wr.cell? ⟨g, 2, none⟩ = some (.bool ri.bad) := HTj.out.rd.cell 2
                    clear hri hcd htj hoj
                    cases gk with
                    | zero =>
                      obtain rfl : j = M2 := by omega
                      go_wp2_with fail
                      go_meet
                      case rel => exact ⟨Xc, j, cc, xs, ri, HRI.out, fun _ => HXS.out, (by rw [HXS.out, rL_len]), HMB2.out, HTj.out, HOj.out, HYj.out⟩
                    | succ GJ =>
                      have hgt0 : ((GJ + 1 : Nat) : Int) > 0 := by omega
                      have hgt1 : (GJ : Int) + 1 > 0 := by omega
                      obtain ⟨rk, rbad⟩ := ri
                      cases rbad with
                      | true =>
                        have hst := stay_rest (f := rU l 4) (fun r h => by rw [stay_u h]) (show j ≤ M2 by omega) r9 (by rw [← HRI.out])
                        have HST := Lib.hid (show (⟨rk, true⟩ : Rs) = (rL (rU l 4) M2 r9).2 by rw [hst]; exact HRI.out)
                        clear hst
                        go_wp2_with fail
                        go_meet
                        case rel => exact ⟨Xc, j, cc, xs, _, HST.out, (fun h => by cases h), (by rw [HXS.out, rL_len]), by have := HMB2.out; omega, HTj.out, HOj.out, HYj.out⟩
                      | false =>
                        go_upto_region 48 with fail
                        obtain ⟨ri, hri⟩ : ∃ r : Rs, r = ⟨rk, false⟩ := ⟨_, rfl⟩
                        rw [← hri] at HRI HTj
                        clear hri b2
                        have z7 : wr.cell? ⟨gt, 5, none⟩ = some (.slice Xc j cc) := HTj.out.blk.cell 5
                        have HTD := Lib.hid (HTj.out.to (Same.refl _).drew)
                        have HOD := Lib.hid (HOj.out.same (Same.refl _).drew)
                        have HYD := Lib.hid (HYj.out.same (Same.refl _).drew)
                        have HBD := Lib.hid (show Bas wr.drew g A n l from ⟨HBS.out.len, HBS.out.short, HBS.out.byt, (HBS.out.row.chg HTj.out.chg HBS.out.ne).same (Same.refl _).drew, HBS.out.ne⟩)
                        refine wp_region_held_drew (S := fun _ => True) (by kernel_rfl) ?_ (fun hHeld => ?_)
                        · trivial
                        refine Ro.take_on (i := 0) (v := ?_) rfl (by kernel_rfl) (by kernel_rfl) (by kernel_rfl) (fun _ _ _ h => h) (by rfl) trivial ?_ ?_
                        rotate_left
                        · intro wS hSw; (try dsimp only at hSw); go_simp; try with_reducible rfl
                        try simp only [Act.put, List.setIfInBounds_toArray, List.set_cons_zero, List.set_cons_succ]
                        refine Ro.take_on (i := 2) (v := ?_) rfl (by kernel_rfl) (by kernel_rfl) (by kernel_rfl) (fun _ _ _ h => h) (by rfl) trivial ?_ ?_
                        rotate_left
                        · intro wS hSw; (try dsimp only at hSw); go_simp; try with_reducible rfl
                        try simp only [Act.put, List.setIfInBounds_toArray, List.set_cons_zero, List.set_cons_succ]
                        refine Ra.two_on (i := 1) (j := 3) rfl rfl (by kernel_rfl) (by rfl) (by rfl) (fun K hK => ?_) (fun K hK => ?_)
                        · go_simp
                          refine hK.out _ _ trivial (fun hNew => ?_)
                          clear hK K hNew
                          try simp only [Act.put, List.setIfInBounds_toArray, List.set_cons_zero, List.set_cons_succ]
                          refine Ro.one_on (i := 3) rfl (by kernel_rfl) (by rfl) (fun K hK => ?_)
                          go_simp
                          go_at_call 18
                          refine (rnum_b 4 (by omega) HBD.out (Chg.refl _ _) HTD.out.rd HTD.out.k).mono ?_
                          rintro e w2 ⟨rfl, h2c, h2r, h2k⟩
                          obtain ⟨⟨y, s1⟩, hx⟩ : ∃ p, p = rU l 4 ri := ⟨_, rfl⟩
                          rw [← hx] at h2r h2k ⊢
                          have hyb : 0 ≤ y ∧ y < 4294967296 := by have h1 := tld_bd HBY.out (n := 4) (by omega) ri; have h3 := congrArg Prod.fst hx; simp only [rU] at h3; omega
                          have HYX := Lib.hid hx
                          have HT2 := Lib.hid (HTD.out.num h2r h2c h2k)
                          have HO2 := Lib.hid (HOD.out.chg h2c (fun i hi he => by have := ownK_ge HOD.out hi; have := HTD.out.fresh; have := HTD.out.old; omega))
                          have HY2 := Lib.hid (HYD.out.chg h2c (fun i hi he => by have := ownK_ge HYD.out hi; have := HTD.out.fresh; have := HTD.out.old; omega))
                          clear hx h2c h2r h2k
                          dsimp only
                          refine hK.out _ _ trivial (fun hNew => ?_)
                          clear hK K hNew
                          try simp only [Act.put, List.setIfInBounds_toArray, List.set_cons_zero, List.set_cons_succ]
                          clear z7
                          refine Ro.take_on (i := 4) (v := ?_) rfl (by kernel_rfl) (by kernel_rfl) (by kernel_rfl) (fun _ _ _ h => h) (by rfl) trivial ?_ ?_
                          rotate_left
                          · intro wS hSw; (try dsimp only at hSw); go_simp; try with_reducible rfl
                          try simp only [Act.put, List.setIfInBounds_toArray, List.set_cons_zero, List.set_cons_succ]
                          rw [show IntKind.u32.wrap y = y by rw [IntKind.wrap_u32]; omega]
                          refine Ro.one_on (i := 5) rfl (by kernel_rfl) (by rfl) (fun K hK => ?_)
                          go_simp
                          refine hK.out _ _ trivial (fun hNew => ?_)
                          clear hK K hNew
                          try simp only [Act.put, List.setIfInBounds_toArray, List.set_cons_zero, List.set_cons_succ]
                          have HT3 := Lib.hid (HT2.out.to ((Same.refl w2).alloc (.cells #[.int .u32 y] 50)))
                          have HO3 := Lib.hid (HO2.out.same ((Same.refl w2).alloc (.cells #[.int .u32 y] 50)))
                          have HY3 := Lib.hid (HY2.out.same ((Same.refl w2).alloc (.cells #[.int .u32 y] 50)))
                          have hrow3 := row_new w2 #[.int .u32 y] 50
                          refine Ro.one_on (i := 6) rfl (by kernel_rfl) (by rfl) (fun K hK => ?_)
                          refine Ra.oper_app (.tmp 193) (.tmp 197) 53 rfl gt 50 iU _ 1 4 Try.underlying53 hiU uN0 uN1 uN2 rfl (by omega) Xc j cc (xs.flatMap words1) rfl HO3.out (some ⟨w2.heap.size, 0, none⟩) 1 1 [.int .u32 y] rfl rfl hrow3 ?_ (by omega) (by omega) ?_ (j + 1) rfl ?_
                          · intro u hu; simp only [List.mem_cons, List.not_mem_nil, or_false] at hu; subst hu; rfl
                          · have := HT3.out.blk.lt; omega
                          intro A8 c8 w8 ho8 hc8
                          have HT8 := Lib.hid (HT3.out.app HO3.out hc8 (by decide) (by decide))
                          have HY8 := Lib.hid (ownK_two HY3.out HO3.out hc8 (by decide))
                          have HO8 := Lib.hid ho8
                          clear ho8 hc8 hrow3
                          refine hK.out _ _ trivial (fun hNew => ?_)
                          clear hK K hNew
                          try simp only [Act.put, List.setIfInBounds_toArray, List.set_cons_zero, List.set_cons_succ]
                          have t8 : w8.cell? ⟨gt, 5, none⟩ = some (.slice Xc j cc) := HT8.out.blk.cell 5
                          have f8 := HT8.out.blk.thaw 5
                          refine Ro.take_on (i := 7) (v := ?_) rfl (by kernel_rfl) (by kernel_rfl) (by kernel_rfl) (fun _ _ _ h => h) (by rfl) trivial ?_ ?_
                          rotate_left
                          · intro wS hSw; (try dsimp only at hSw); go_simp; try with_reducible rfl
                          try simp only [Act.put, List.setIfInBounds_toArray, List.set_cons_zero, List.set_cons_succ]
                          refine Ro.one_on (i := 8) rfl (by kernel_rfl) (by rfl) (fun K hK => ?_)
                          go_simp
                          refine hK.out _ _ trivial (fun hNew => ?_)
                          clear hK K hNew
                          try simp only [Act.put, List.setIfInBounds_toArray, List.set_cons_zero, List.set_cons_succ]
                          refine wpAnyH_done (by kernel_rfl) ?_ _
                          have HT9 := Lib.hid (show TS wo (w8.setCell ⟨gt, 5, none⟩ (.slice A8 (j + 1) c8)) g gt A n c s1 56 #[.int .i64 x1, .int .i64 x2, .int .i64 x3, .int .i64 x4, .int .u32 x5, .slice A8 (j + 1) c8, .int .i64 x6, .slice Yc yn yc] by simpa using HT8.out.put 5 (.slice A8 (j + 1) c8))
                          have HO9 := Lib.hid (ownK_put (f := 5) (v := .slice A8 (j + 1) c8) HO8.out HT8.out.blk (by decide))
                          have HY9 := Lib.hid (ownK_put (f := 5) (v := .slice A8 (j + 1) c8) HY8.out HT8.out.blk (by decide))
                          have HNX := Lib.hid (rL_succ (rU l 4) j r9 (show (xs, ri) = (rL (rU l 4) j r9) by rw [HRI.out, HXS.out]) HYX.out)
                          clear t8 f8 HT8 HO8 HT3 HO3 HT2 HO2
                          go_wp2_with fail
                          go_roundg GJ
                          case measure => omega
                          case rel =>
                            refine ⟨j + 1, A8, c8, xs ++ [y], s1, by omega, ?_, by rw [← HNX.out], by rw [← HNX.out], HT9.out, ?_, HY9.out⟩
                            · first | rfl | (congr 1; omega)
                            · rw [fm_snoc]
                              exact HO9.out
                        · go_simp
                          go_at_call 18
                          refine (rnum_b 4 (by omega) HBD.out (Chg.refl _ _) HTD.out.rd HTD.out.k).mono ?_
                          rintro e w2 ⟨rfl, h2c, h2r, h2k⟩
                          obtain ⟨⟨y, s1⟩, hx⟩ : ∃ p, p = rU l 4 ri := ⟨_, rfl⟩
                          rw [← hx] at h2r h2k ⊢
                          have hyb : 0 ≤ y ∧ y < 4294967296 := by have h1 := tld_bd HBY.out (n := 4) (by omega) ri; have h3 := congrArg Prod.fst hx; simp only [rU] at h3; omega
                          have HYX := Lib.hid hx
                          have HT2 := Lib.hid (HTD.out.num h2r h2c h2k)
                          have HO2 := Lib.hid (HOD.out.chg h2c (fun i hi he => by have := ownK_ge HOD.out hi; have := HTD.out.fresh; have := HTD.out.old; omega))
                          have HY2 := Lib.hid (HYD.out.chg h2c (fun i hi he => by have := ownK_ge HYD.out hi; have := HTD.out.fresh; have := HTD.out.old; omega))
                          clear hx h2c h2r h2k
                          dsimp only
                          refine hK.out _ _ trivial (fun hNew => ?_)
                          clear hK K hNew
                          try simp only [Act.put, List.setIfInBounds_toArray, List.set_cons_zero, List.set_cons_succ]
                          have z8 : w2.cell? ⟨gt, 5, none⟩ = some (.slice Xc j cc) := HT2.out.blk.cell 5
                          clear z7
                          refine Ro.take_on (i := 4) (v := ?_) rfl (by kernel_rfl) (by kernel_rfl) (by kernel_rfl) (fun _ _ _ h => h) (by rfl) trivial ?_ ?_
                          rotate_left
                          · intro wS hSw; (try dsimp only at hSw); go_simp; try with_reducible rfl
                          try simp only [Act.put, List.setIfInBounds_toArray, List.set_cons_zero, List.set_cons_succ]
                          rw [show IntKind.u32.wrap y = y by rw [IntKind.wrap_u32]; omega]
                          refine Ra.two_on (i := 1) (j := 5) rfl rfl (by kernel_rfl) (by rfl) (by rfl) (fun K hK => ?_) (fun K hK => ?_)
                          · go_simp
                            refine hK.out _ _ trivial (fun hNew => ?_)
                            clear hK K hNew
                            try simp only [Act.put, List.setIfInBounds_toArray, List.set_cons_zero, List.set_cons_succ]
                            clear z8
                            refine Ro.one_on (i := 5) rfl (by kernel_rfl) (by rfl) (fun K hK => ?_)
                            go_simp
                            refine hK.out _ _ trivial (fun hNew => ?_)
                            clear hK K hNew
                            try simp only [Act.put, List.setIfInBounds_toArray, List.set_cons_zero, List.set_cons_succ]
                            have HT3 := Lib.hid (HT2.out.to ((Same.refl w2).alloc (.cells #[.int .u32 y] 50)))
                            have HO3 := Lib.hid (HO2.out.same ((Same.refl w2).alloc (.cells #[.int .u32 y] 50)))
                            have HY3 := Lib.hid (HY2.out.same ((Same.refl w2).alloc (.cells #[.int .u32 y] 50)))
                            have hrow3 := row_new w2 #[.int .u32 y] 50
                            refine Ro.one_on (i := 6) rfl (by kernel_rfl) (by rfl) (fun K hK => ?_)
                            refine Ra.oper_app (.tmp 193) (.tmp 197) 53 rfl gt 50 iU _ 1 4 Try.underlying53 hiU uN0 uN1 uN2 rfl (by omega) Xc j cc (xs.flatMap words1) rfl HO3.out (some ⟨w2.heap.size, 0, none⟩) 1 1 [.int .u32 y] rfl rfl hrow3 ?_ (by omega) (by omega) ?_ (j + 1) rfl ?_
                            · intro u hu; simp only [List.mem_cons, List.not_mem_nil, or_false] at hu; subst hu; rfl
                            · have := HT3.out.blk.lt; omega
                            intro A8 c8 w8 ho8 hc8
                            have HT8 := Lib.hid (HT3.out.app HO3.out hc8 (by decide) (by decide))
                            have HY8 := Lib.hid (ownK_two HY3.out HO3.out hc8 (by decide))
                            have HO8 := Lib.hid ho8
                            clear ho8 hc8 hrow3
                            refine hK.out _ _ trivial (fun hNew => ?_)
                            clear hK K hNew
                            try simp only [Act.put, List.setIfInBounds_toArray, List.set_cons_zero, List.set_cons_succ]
                            have t8 : w8.cell? ⟨gt, 5, none⟩ = some (.slice Xc j cc) := HT8.out.blk.cell 5
                            have f8 := HT8.out.blk.thaw 5
                            refine Ro.take_on (i := 7) (v := ?_) rfl (by kernel_rfl) (by kernel_rfl) (by kernel_rfl) (fun _ _ _ h => h) (by rfl) trivial ?_ ?_
                            rotate_left
                            · intro wS hSw; (try dsimp only at hSw); go_simp; try with_reducible rfl
                            try simp only [Act.put, List.setIfInBounds_toArray, List.set_cons_zero, List.set_cons_succ]
                            refine Ro.one_on (i := 8) rfl (by kernel_rfl) (by rfl) (fun K hK => ?_)
                            go_simp
                            refine hK.out _ _ trivial (fun hNew => ?_)
                            clear hK K hNew
                            try simp only [Act.put, List.setIfInBounds_toArray, List.set_cons_zero, List.set_cons_succ]
                            refine wpAnyH_done (by kernel_rfl) ?_ _
                            have HT9 := Lib.hid (show TS wo (w8.setCell ⟨gt, 5, none⟩ (.slice A8 (j + 1) c8)) g gt A n c s1 56 #[.int .i64 x1, .int .i64 x2, .int .i64 x3, .int .i64 x4, .int .u32 x5, .slice A8 (j + 1) c8, .int .i64 x6, .slice Yc yn yc] by simpa using HT8.out.put 5 (.slice A8 (j + 1) c8))
                            have HO9 := Lib.hid (ownK_put (f := 5) (v := .slice A8 (j + 1) c8) HO8.out HT8.out.blk (by decide))
                            have HY9 := Lib.hid (ownK_put (f := 5) (v := .slice A8 (j + 1) c8) HY8.out HT8.out.blk (by decide))
                            have HNX := Lib.hid (rL_succ (rU l 4) j r9 (show (xs, ri) = (rL (rU l 4) j r9) by rw [HRI.out, HXS.out]) HYX.out)
                            clear t8 f8 HT8 HO8 HT3 HO3 HT2 HO2
                            go_wp2_with fail
                            go_roundg GJ
                            case measure => omega
                            case rel =>
                              refine ⟨j + 1, A8, c8, xs ++ [y], s1, by omega, ?_, by rw [← HNX.out], by rw [← HNX.out], HT9.out, ?_, HY9.out⟩
                              · first | rfl | (congr 1; omega)
                              · rw [fm_snoc]
                                exact HO9.out
                          · go_simp
                            refine hK.out _ _ trivial (fun hNew => ?_)
                            clear hK K hNew
                            try simp only [Act.put, List.setIfInBounds_toArray, List.set_cons_zero, List.set_cons_succ]
                            clear z8
                            have HT3 := Lib.hid (HT2.out.to ((Same.refl w2).alloc (.cells #[.int .u32 y] 50)))
                            have HO3 := Lib.hid (HO2.out.same ((Same.refl w2).alloc (.cells #[.int .u32 y] 50)))
                            have HY3 := Lib.hid (HY2.out.same ((Same.refl w2).alloc (.cells #[.int .u32 y] 50)))
                            have hrow3 := row_new w2 #[.int .u32 y] 50
                            have z9 := HT3.out.blk.cell 5
                            simp only [List.getElem?_toArray, List.getElem?_cons_zero, List.getElem?_cons_succ] at z9
                            refine Ro.one_on (i := 1) rfl (by kernel_rfl) (by rfl) (fun K hK => ?_)
                            go_simp
                            refine hK.out _ _ trivial (fun hNew => ?_)
                            clear hK K hNew
                            try simp only [Act.put, List.setIfInBounds_toArray, List.set_cons_zero, List.set_cons_succ]
                            clear z9
                            refine Ro.one_on (i := 6) rfl (by kernel_rfl) (by rfl) (fun K hK => ?_)
                            refine Ra.oper_app (.tmp 193) (.tmp 197) 53 rfl gt 50 iU _ 1 4 Try.underlying53 hiU uN0 uN1 uN2 rfl (by omega) Xc j cc (xs.flatMap words1) rfl HO3.out (some ⟨w2.heap.size, 0, none⟩) 1 1 [.int .u32 y] rfl rfl hrow3 ?_ (by omega) (by omega) ?_ (j + 1) rfl ?_
                            · intro u hu; simp only [List.mem_cons, List.not_mem_nil, or_false] at hu; subst hu; rfl
                            · have := HT3.out.blk.lt; omega
                            intro A8 c8 w8 ho8 hc8
                            have HT8 := Lib.hid (HT3.out.app HO3.out hc8 (by decide) (by decide))
                            have HY8 := Lib.hid (ownK_two HY3.out HO3.out hc8 (by decide))
                            have HO8 := Lib.hid ho8
                            clear ho8 hc8 hrow3
                            refine hK.out _ _ trivial (fun hNew => ?_)
                            clear hK K hNew
                            try simp only [Act.put, List.setIfInBounds_toArray, List.set_cons_zero, List.set_cons_succ]
                            have t8 : w8.cell? ⟨gt, 5, none⟩ = some (.slice Xc j cc) := HT8.out.blk.cell 5
                            have f8 := HT8.out.blk.thaw 5
                            refine Ro.take_on (i := 7) (v := ?_) rfl (by kernel_rfl) (by kernel_rfl) (by kernel_rfl) (fun _ _ _ h => h) (by rfl) trivial ?_ ?_
                            rotate_left
                            · intro wS hSw; (try dsimp only at hSw); go_simp; try with_reducible rfl
                            try simp only [Act.put, List.setIfInBounds_toArray, List.set_cons_zero, List.set_cons_succ]
                            refine Ro.one_on (i := 8) rfl (by kernel_rfl) (by rfl) (fun K hK => ?_)
                            go_simp
                            refine hK.out _ _ trivial (fun hNew => ?_)
                            clear hK K hNew
                            try simp only [Act.put, List.setIfInBounds_toArray, List.set_cons_zero, List.set_cons_succ]
                            refine wpAnyH_done (by kernel_rfl) ?_ _
                            have HT9 := Lib.hid (show TS wo (w8.setCell ⟨gt, 5, none⟩ (.slice A8 (j + 1) c8)) g gt A n c s1 56 #[.int .i64 x1, .int .i64 x2, .int .i64 x3, .int .i64 x4, .int .u32 x5, .slice A8 (j + 1) c8, .int .i64 x6, .slice Yc yn yc] by simpa using HT8.out.put 5 (.slice A8 (j + 1) c8))
                            have HO9 := Lib.hid (ownK_put (f := 5) (v := .slice A8 (j + 1) c8) HO8.out HT8.out.blk (by decide))
                            have HY9 := Lib.hid (ownK_put (f := 5) (v := .slice A8 (j + 1) c8) HY8.out HT8.out.blk (by decide))
                            have HNX := Lib.hid (rL_succ (rU l 4) j r9 (show (xs, ri) = (rL (rU l 4) j r9) by rw [HRI.out, HXS.out]) HYX.out)
                            clear t8 f8 HT8 HO8 HT3 HO3 HT2 HO2
                            go_wp2_with fail
                            go_roundg GJ
                            case measure => omega
                            case rel =>
                              refine ⟨j + 1, A8, c8, xs ++ [y], s1, by omega, ?_, by rw [← HNX.out], by rw [← HNX.out], HT9.out, ?_, HY9.out⟩
                              · first | rfl | (congr 1; omega)
                              · rw [fm_snoc]
                                exact HO9.out
                case rest =>
                  obtain ⟨Xc, jn, cc, xs, r2, hr2, hxs, hxl, hjn, hts, hoc, hyo⟩ := hcut
                  have hd2 := HD.out.frame hts.chg hts.rd hts.k
                  have hge : gs ≤ gt := by have := HD.out.sys.lt; have := hts.fresh; omega
                  have hdk : DO.ok wc gs (⟨⟨x1, x2, x3, x4, x5, x6, rds, xs⟩, Xc, cc, Yc, yc⟩ : DO) := by
                    unfold DO.ok
                    simp only
                    rw [hxl, HRL.out]
                    exact ⟨OwnK.base hoc hge, OwnK.base hyo hge⟩
                  have hO : rO l r0 = (⟨x1, x2, x3, x4, x5, x6, (rL (rU l 1) M r7).1, (rL (rU l 4) M2 r9).1⟩, r2) := by
                    rw [hr2]
                    simp only [rO, ← EX1.out, ← EX2.out, ← EX3.out, ← EX4.out, ← EX5.out, ← EX6.out, ← EX7.out, Int.toNat_natCast, ← HRR.out, ← EX9.out]
                  have hr0 : (rL (rO l) k rt).2 = r0 := by rw [← HR.out, HR0.out]
                  have hnx : (rL (rO l) (k + 1) rt).2 = r2 := by
                    show (rO l (rL (rO l) k rt).2).2 = r2
                    rw [hr0, hO]
                  have hbr : r2.bad = false → rr.bad = false := fun hb => by
                    cases hc : rr.bad with
                    | false => rfl
                    | true =>
                      have h1 : r9 = rr := by have h := EX9.out; rw [stay_u hc] at h; injection h
                      have h2 := stay_l (f := rU l 4) (fun r h => by rw [stay_u h]) M2 r9 (by rw [h1]; exact hc)
                      rw [← hr2, h1] at h2
                      rw [h2, hc] at hb
                      cases hb
                  have hnl : r2.bad = false → (es ++ [(⟨⟨x1, x2, x3, x4, x5, x6, rds, xs⟩, Xc, cc, Yc, yc⟩ : DO)]).map (·.p) = (rL (rO l) (k + 1) rt).1 := fun hb => by
                    show _ = (rL (rO l) k rt).1 ++ [(rO l (rL (rO l) k rt).2).1]
                    rw [hr0, hO, List.map_append, HES.out (by trivial), hxs hb, HRD.out (hbr hb)]
                    rfl
                  obtain ⟨q0, q1, q2, q3, q4, q5, q6, q7⟩ := oc hts.blk
                  obtain ⟨z0, z1⟩ := (⟨hd2.sys.cell 0, hd2.sys.cell 1⟩ : _ ∧ _)
                  simp only [List.getElem?_toArray, List.getElem?_cons_zero, List.getElem?_cons_succ] at z0 z1
                  have hgsl := hd2.sys.lt
                  have HD2 := Lib.hid hd2
                  have HDK := Lib.hid hdk
                  have HNX := Lib.hid hnx
                  have HNL := Lib.hid hnl
                  have HCL := Lib.hid hxl
                  have HRL2 := Lib.hid HRL.out
                  clear hd2 hdk hO hr0 hnx hnl hbr hr2 hxs hxl hts hoc hyo hge HT9 HY9 HTS HRL
                  have hN2c := HN2b.out
                  generalize hcl2 : xs.length = cl at *
                  have hcl3 := HCL.out
                  subst hcl3
                  generalize hcl4 : rds.length = cl2 at *
                  have hcl5 := HRL2.out
                  subst hcl5
                  go_wp2_with (at_builtin; go_loud (refine wpList_appK rfl (.tmp 201) (.tmp 203) 25 rfl gs 56 iO _ 8 96 Try.underlying25 hiO oO0 oO1 oO2 rfl (by omega) B5 k d5 (es.flatMap DO.cells) rfl (HD2.out.or.same ((Same.refl _).alloc _)) _ 1 1 [.int .i64 x1, .int .i64 x2, .int .i64 x3, .int .i64 x4, .int .u32 x5, .slice Xc cl cc, .int .i64 x6, .slice Yc cl2 yc] rfl rfl (row_new _ _ _) ?c1 (by omega) (by omega) ?c2 ?_))
                  case c1 => first | exact ⟨rfl, rfl, rfl, rfl, rfl, rfl, rfl, rfl⟩ | (intro u hu; simp only [List.mem_cons, List.not_mem_nil, or_false] at hu; rcases hu with rfl | rfl | rfl | rfl | rfl | rfl | rfl | rfl <;> rfl)
                  case c2 => (first | omega | (simp; omega))
                  intro A8 c8 w8 ho8 hc8
                  obtain ⟨hd8, z8, f8⟩ := HD2.out.addO HDK.out ((Same.refl wc).alloc (.cells #[.int .i64 x1, .int .i64 x2, .int .i64 x3, .int .i64 x4, .int .u32 x5, .slice Xc cl cc, .int .i64 x6, .slice Yc cl2 yc] 56)) (by simp only [DO.cells, ocells, hcl2, hcl4]; exact ho8) hc8
                  have HD8 := Lib.hid hd8
                  have HB8 := Lib.hid (show Bas (w8.setCell ⟨gs, 1, none⟩ (.slice A8 (k + 1) c8)) g A n l from ⟨HBS.out.len, HBS.out.short, HBS.out.byt, HRW.out.same hd8.same, HBS.out.ne⟩)
                  clear ho8 hc8 hd8 q0 q1 q2 q3 q4 q5 q6 q7 z0 z1
                  go_wp2_with fail
                  go_roundg GK
                  case measure => omega
                  case rel => exact ⟨k + 1, A8, c8, _, r2, by omega, by go_num, HNX.out.symm, HNL.out, HB8.out, HD8.out⟩
      case rest =>
        obtain ⟨B5, m5, d5, es, r, hr, hes, hm5, hbs, hd⟩ := hcut
        rename World => wz
        have HPS := Lib.hid (show (⟨(rL (rT l) N1 rb).1, (rL (rO l) N2 rt).1⟩, r) = rS l (fst3 l) by simp only [rS, ← EX1.out, ← EX2.out, Int.toNat_natCast, ← HRT.out, ← hr])
        have HRR := Lib.hid hr
        have HES := Lib.hid hes
        have HM5 := Lib.hid hm5
        have HBS := Lib.hid hbs
        have HD := Lib.hid hd
        have b1 : wz.cell? ⟨g, 1, none⟩ = some (.int .i64 r.k) := hd.rd.cell 1
        clear hr hes hm5 hbs hd HD6' HB6'
        go_wp2_with fail
        refine (rnum_b 2 (by omega) HBS.out (Chg.refl _ _) HD.out.rd HD.out.k).mono ?_
        rintro e w2 ⟨rfl, h2c, h2r, h2k⟩
        obtain ⟨⟨z, r2⟩, hz⟩ : ∃ p, p = rU l 2 r := ⟨_, rfl⟩
        rw [← hz] at h2r h2k ⊢
        have HZ := Lib.hid hz
        have hd2 := HD.out.frame h2c h2r h2k
        have HD2 := Lib.hid hd2
        have hz2 : 0 ≤ z ∧ z < 4294967296 := by have h1 := tld_bd HBY.out (n := 2) (by omega) r; have h := congrArg Prod.fst hz; simp only [rU] at h; omega
        have hw2sz : w.heap.size < g := hd2.g1
        obtain ⟨k2, bad2⟩ := r2
        have c1 : w2.cell? ⟨g, 1, none⟩ = some (.int .i64 k2) := hd2.rd.cell 1
        have c2 : w2.cell? ⟨g, 2, none⟩ = some (.bool bad2) := hd2.rd.cell 2
        clear hz h2c h2r h2k hd2 b1
        dsimp only
        cases bad2 with
        | true =>
          obtain ⟨y0, y1⟩ := (⟨HD2.out.res.thaw 0, HD2.out.res.thaw 1⟩ : _ ∧ _)
          obtain ⟨z0, z1⟩ := (⟨HD2.out.res.cell 0, HD2.out.res.cell 1⟩ : _ ∧ _)
          simp only [List.getElem?_toArray, List.getElem?_cons_zero, List.getElem?_cons_succ] at z0 z1
          go_wp2_with fail
          obtain ⟨p1, p2⟩ := puts2 (v0 := .slice none 0 0) (v1 := .slice none 0 0) HD2.out.res
          refine bodyPost_ret (v := .tuple #[.agg #[.slice none 0 0, .slice none 0 0], .int .i64 (n), .int .i64 2]) (results_cell3 Try.results6 _ _ w.heap.size 27 #[.slice none 0 0, .slice none 0 0] (0, 0) _ rfl p1 Try.underlying27 rfl sys_size) rfl ?_
          exact decp_zero (by rw [dec_end HN65.out HN2.out HPS.out HZ.out rfl, HL.out]) (chg_new HD2.out.same p2 (Nat.le_refl _))
        | false =>
          obtain ⟨hg1, hg2, hg3⟩ := aft_good (l := l) (n := 2) (r := r) (by have h := congrArg (fun p => p.2.bad) HZ.out; simp only [rU] at h; exact h.symm)
          have hk2 : k2 = r.k + 2 := by have h := congrArg (fun p => p.2.k) HZ.out; simp only [rU] at h; omega
          have HG1 := Lib.hid hg1
          obtain ⟨b, o, hA⟩ : ∃ b o, A = some ⟨b, o, none⟩ := Row.addr HRW.out (by rw [by8_len]; omega)
          subst hA
          generalize hk : r.k = k at *
          have HK := Lib.hid hk
          clear hk hg1
          have f1 : (k : Int) ≤ c := by have := HL.out; omega
          have f2 : (0 : Int) ≤ k := by omega
          have HRK := Lib.hid (show Row w2 (some ⟨b, o, none⟩) (by8 (l.take k)) by rw [by8_take]; exact (HRW.out.same HD2.out.same).cut k)
          have HLK := Lib.hid (show (l.take k).length = k by rw [List.length_take]; omega)
          have HBK := Lib.hid (show By (l.take k) from fun y hy => HBY.out y (List.mem_of_mem_take hy))
          have HSB := Lib.hid (show sumB (l.take r.k) = sumB (l.take k) by rw [HK.out])
          have HK2 := Lib.hid hk2
          clear hk2 hg3
          go_wp2_with fail
          refine (rsum_any _ k _ (l.take k) _ HLK.out (by have := HL.out; omega) HBK.out HRK.out).mono ?_
          rintro e w10 ⟨rfl, hw10⟩
          obtain rfl : w2 = w10 := hw10.symm
          by_cases hsum : z = sumB (l.take k)
          · have HSM := Lib.hid (show z = sumB (l.take r.k) by rw [HSB.out]; exact hsum)
            have hs' : (z != sumB (l.take k)) = false := by simpa using hsum
            generalize sumB (l.take k) = sb at *
            clear hsum
            by_cases hmore : k2 < l.length
            · have g1 : (k2 : Int) < (n : Int) := by have := HL.out; omega
              have HMO := Lib.hid hmore
              clear hmore
              obtain ⟨y0, y1⟩ := (⟨HD2.out.res.thaw 0, HD2.out.res.thaw 1⟩ : _ ∧ _)
              obtain ⟨z0, z1⟩ := (⟨HD2.out.res.cell 0, HD2.out.res.cell 1⟩ : _ ∧ _)
              simp only [List.getElem?_toArray, List.getElem?_cons_zero, List.getElem?_cons_succ] at z0 z1
              go_upto_region 57 with fail
              have HBD := Lib.hid (show Blk w2.drew w.heap.size 27 #[.slice none 0 0, .slice none 0 0] from HD2.out.res)
              have C1D := Lib.hid (show w2.drew.cell? ⟨g, 1, none⟩ = some (.int .i64 k2) from c1)
              have HSD := Lib.hid (HD2.out.same.trans (Same.refl w2).drew)
              obtain ⟨p1, p2⟩ := puts2 (v0 := .slice none 0 0) (v1 := .slice none 0 0) HBD.out
              have P1 := Lib.hid p1
              have P2 := Lib.hid p2
              clear p1 p2
              refine wp_region_held_drew (S := fun w' => w'.cell? ⟨g, 1, none⟩ = some (.int .i64 k2)) (by kernel_rfl) ?_ (fun hHeld => ?_)
              · exact C1D.out
              refine Ro.take_on (i := 0) (v := ?_) rfl (by kernel_rfl) (by kernel_rfl) (by kernel_rfl) (fun _ _ _ h => h) (by rfl) (by assumption) ?_ ?_
              rotate_left
              · intro wS hSw; (try dsimp only at hSw); go_simp; try with_reducible rfl
              try simp only [Act.put, List.setIfInBounds_toArray, List.set_cons_zero, List.set_cons_succ]
              refine Ro.take_on (i := 1) (v := ?_) rfl (by kernel_rfl) (by kernel_rfl) (by kernel_rfl) (fun _ _ _ h => h) (by rfl) (by assumption) ?_ ?_
              rotate_left
              · intro wS hSw; (try dsimp only at hSw); go_simp; try with_reducible rfl
              try simp only [Act.put, List.setIfInBounds_toArray, List.set_cons_zero, List.set_cons_succ]
              refine Ro.take_on (i := 2) (v := ?_) rfl (by kernel_rfl) (by kernel_rfl) (by kernel_rfl) (fun _ _ _ h => h) (by rfl) (by assumption) ?_ ?_
              rotate_left
              · intro wS hSw; (try dsimp only at hSw); go_simp; try with_reducible rfl
              try simp only [Act.put, List.setIfInBounds_toArray, List.set_cons_zero, List.set_cons_succ]
              refine Ro.take_on (i := 3) (v := ?_) rfl (by kernel_rfl) (by kernel_rfl) (by kernel_rfl) (fun _ _ _ h => h) (by rfl) (by assumption) ?_ ?_
              rotate_left
              · intro wS hSw; (try dsimp only at hSw); go_simp; try with_reducible rfl
              try simp only [Act.put, List.setIfInBounds_toArray, List.set_cons_zero, List.set_cons_succ]
              refine Ro.take_on (i := 4) (v := ?_) rfl (by kernel_rfl) (by kernel_rfl) (by kernel_rfl) (fun _ _ _ h => h) (by rfl) (by assumption) ?_ ?_
              rotate_left
              · intro wS hSw; (try dsimp only at hSw); go_simp; try with_reducible rfl
              try simp only [Act.put, List.setIfInBounds_toArray, List.set_cons_zero, List.set_cons_succ]
              refine Ro.one_on (i := 5) rfl (by kernel_rfl) (by rfl) (fun K hK => ?_)
              go_simp
              refine hK.out _ _ ?_ (fun hNew => ?_)
              · exact Chg.cell P2.out C1D.out (fun h => by have h1 : g = w.heap.size := h; omega)
              clear hK K hHeld; have hHeld := hNew; clear hNew
              try simp only [Act.put, List.setIfInBounds_toArray, List.set_cons_zero, List.set_cons_succ]
              refine Ro.take_on (i := 6) (v := ?_) rfl (by kernel_rfl) (by kernel_rfl) (by kernel_rfl) (fun _ _ _ h => h) (by rfl) (by assumption) ?_ ?_
              rotate_left
              · intro wS hSw; (try dsimp only at hSw); go_simp; try with_reducible rfl
              try simp only [Act.put, List.setIfInBounds_toArray, List.set_cons_zero, List.set_cons_succ]
              refine Ro.take_on (i := 7) (v := ?_) rfl (by kernel_rfl) (by kernel_rfl) (by kernel_rfl) (fun _ _ _ h => h) (by rfl) (by assumption) ?_ ?_
              rotate_left
              · intro wS hSw; (try dsimp only at hSw); go_simp; try with_reducible rfl
              try simp only [Act.put, List.setIfInBounds_toArray, List.set_cons_zero, List.set_cons_succ]
              refine wpAnyH_done (by kernel_rfl) ?_ _
              go_wp2_with fail
              refine bodyPost_ret (v := .tuple #[.agg #[.slice none 0 0, .slice none 0 0], .int .i64 k2, .int .i64 3]) (results_cell3 Try.results6 _ _ w.heap.size 27 #[.slice none 0 0, .slice none 0 0] (0, 0) _ rfl P1.out Try.underlying27 rfl sys_size) rfl ?_
              exact decp_zero (by rw [dec_more HN65.out HN2.out HPS.out HZ.out rfl HSM.out HMO.out, HK2.out, HK.out]; simp) (chg_new HSD.out P2.out (Nat.le_refl _))
            · have g1 : ¬ (k2 : Int) < (n : Int) := by have := HL.out; omega
              have HMO := Lib.hid hmore
              clear hmore
              obtain ⟨q0, q1⟩ := (⟨HD2.out.sys.cell 0, HD2.out.sys.cell 1⟩ : _ ∧ _)
              simp only [List.getElem?_toArray, List.getElem?_cons_zero, List.getElem?_cons_succ] at q0 q1
              obtain ⟨y0, y1⟩ := (⟨HD2.out.res.thaw 0, HD2.out.res.thaw 1⟩ : _ ∧ _)
              obtain ⟨z0, z1⟩ := (⟨HD2.out.res.cell 0, HD2.out.res.cell 1⟩ : _ ∧ _)
              simp only [List.getElem?_toArray, List.getElem?_cons_zero, List.getElem?_cons_succ] at z0 z1
              go_wp2_with fail
              obtain ⟨p1, p2⟩ := puts2 (v0 := .slice A5 n5 c5) (v1 := .slice B5 m5 d5) HD2.out.res
              refine bodyPost_ret (v := .tuple #[.agg #[.slice A5 n5 c5, .slice B5 m5 d5], .int .i64 (0), .int .i64 0]) (results_cell3 Try.results6 _ _ w.heap.size 27 #[.slice A5 n5 c5, .slice B5 m5 d5] (0, 0) _ rfl p1 Try.underlying27 rfl sys_size) rfl ?_
              rw [dec_ok HN65.out HN2.out HPS.out HZ.out rfl HSM.out HMO.out]
              have hrt : rt.bad = false := by
                cases hc : rt.bad with
                | false => rfl
                | true =>
                  have h2 := stay_l (stay_o l) N2 rt hc
                  rw [← HRR.out] at h2
                  have h3 := HG1.out
                  rw [h2, hc] at h3
                  cases h3
              have hd3 := HD2.out
              have hsr : SysR w2 gs A5 n5 c5 B5 m5 d5 ⟨(rL (rT l) N1 rb).1, (rL (rO l) N2 rt).1⟩ ds es := ⟨HDS.out hrt, HES.out HG1.out, hd3.tr, hd3.or, hd3.tk, hd3.ok⟩
              have hwk : Wok (⟨(rL (rT l) N1 rb).1, (rL (rO l) N2 rt).1⟩ : PS) := by have h := rS_ok HBY.out (fst3 l); rw [← HPS.out] at h; exact h
              exact ⟨A5, n5, c5, B5, m5, d5, rfl, (hsr.keep p2 (fun i hi (he : i = w.heap.size) => by have := hd3.g1; have := hd3.g2; omega)).at_ hwk, ⟨HN5.out, HM5.out⟩, chg_new hd3.same p2 (Nat.le_refl _)⟩
          · have HSM := Lib.hid (show z ≠ sumB (l.take r.k) by rw [HSB.out]; exact hsum)
            have hs' : (z != sumB (l.take k)) = true := by simpa using hsum
            generalize sumB (l.take k) = sb at *
            clear hsum
            obtain ⟨y0, y1⟩ := (⟨HD2.out.res.thaw 0, HD2.out.res.thaw 1⟩ : _ ∧ _)
            obtain ⟨z0, z1⟩ := (⟨HD2.out.res.cell 0, HD2.out.res.cell 1⟩ : _ ∧ _)
            simp only [List.getElem?_toArray, List.getElem?_cons_zero, List.getElem?_cons_succ] at z0 z1
            go_wp2_with fail
            obtain ⟨p1, p2⟩ := puts2 (v0 := .slice none 0 0) (v1 := .slice none 0 0) HD2.out.res
            refine bodyPost_ret (v := .tuple #[.agg #[.slice none 0 0, .slice none 0 0], .int .i64 (k), .int .i64 4]) (results_cell3 Try.results6 _ _ w.heap.size 27 #[.slice none 0 0, .slice none 0 0] (0, 0) _ rfl p1 Try.underlying27 rfl sys_size) rfl ?_
            exact decp_zero (by rw [dec_sum HN65.out HN2.out HPS.out HZ.out rfl HSM.out, HK.out]) (chg_new HD2.out.same p2 (Nat.le_refl _))
end Go.Proofs.Ytfpefkpbiioofab.Im
