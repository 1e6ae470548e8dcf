/-

  Layer 32: what is wrong of a system first (system.Check).
-/
import Derived.Test.YtaclphhbdfoaeaaDoorSysRole
import Derived.Test.YtaclphhbdfoaeaaDoorObjIdx
import Derived.Test.YtaclphhbdfoaeaaDoorLayOf2
import Derived.Laws.Rows
import Derived.LoopN
set_option linter.unusedVariables false
set_option linter.unusedSimpArgs false
namespace Go.Proofs.YtaclphhbdfoaeaaDoor.Sy
open Go.ChangeShapes Go.WideShapes Go.ChangeAt Go.RowKit Ws
open Go.Proofs.YtaclphhbdfoaeaaDoor.Im (PT PO PS TsAt OsAt SysAt Code tcells ocells)
open Go.Proofs.YtaclphhbdfoaeaaDoor.Is (Tabs)
open Go.Proofs.YtaclphhbdfoaeaaDoor.Ly (three_same)

theorem res2 {P : Program} {fn : Func} {p t : Tmp} {ty : TypeId} (h : fn.results = #[.cell p ty, .tmp t]) (tmps : Array Value) (w : World) (g : Nat) (T : TypeId) (cs : Array Value) (fr : Nat × Nat) (d : TypeDesc)
    (hp : tmps.getD p undef = .pointer (some ⟨g, 0, none⟩)) (hg : w.heap[g]? = some (.cells cs T fr))
    (hu : P.underlying ty = some d) (hd : (match d with | .struct _ | .array _ _ => true | _ => false) = true) (hi : (P.info? ty).map (·.size) = some cs.size) :
    (results fn tmps).run P w = .ok (.tuple #[.agg cs, tmps.getD t undef]) w := by
  have hp' : tmps[p]?.getD undef = .pointer (some ⟨g, 0, none⟩) := by simpa using hp
  simp [results, h, hp', asAddr, run_loadVar_row w g T ty cs fr d hg hu hd hi]
theorem spot_size : (Tryd.prog.info? 43).map (·.size) = some 3 := by kernel_rfl
theorem b3put {w : World} {g : Nat} {T : TypeId} {a b c : Value} (h : Blk w g T #[a, b, c]) (u v x : Value) : Blk (((w.setCell ⟨g, 0, none⟩ u).setCell ⟨g, 1, none⟩ v).setCell ⟨g, 2, none⟩ x) g T #[u, v, x] :=
  ((h.put 0 u).put 1 v).put 2 x
/-- where a fault is: a task, an object, a place -/
abbrev Spt := Int × Int × Int
def nw : Spt := (-1, -1, -1)
def FltP (w : World) (r : Spt × Int) (e : Ending) (w' : World) : Prop := e = .returned (.tuple #[.agg #[.int .i64 r.1.1, .int .i64 r.1.2.1, .int .i64 r.1.2.2], .int .i64 r.2]) ∧ Same w w'
theorem flt_mk {w w' : World} {r : Spt × Int} {a b c e : Int} (h : r = ((a, b, c), e)) (hs : Same w w') : FltP w r (.returned (.tuple #[.agg #[.int .i64 a, .int .i64 b, .int .i64 c], .int .i64 e])) w' := by subst h; exact ⟨rfl, hs⟩
/-- the first of these that is something -/
def firstN {R : Type} (f : Nat → Option R) : Nat → Option R
  | 0 => none
  | n + 1 => (firstN f n).or (f n)
theorem firstN_none {R : Type} {f : Nat → Option R} {n : Nat} (h : ∀ j, j < n → f j = none) : firstN f n = none := by
  induction n with
  | zero => rfl
  | succ n ih =>
    show (firstN f n).or (f n) = none
    rw [ih (fun j hj => h j (by omega)), h n (by omega)]
    rfl
theorem firstN_hit {R : Type} {f : Nat → Option R} {n k : Nat} {r : R} (hk : k < n) (hn : ∀ j, j < k → f j = none) (h : f k = some r) : firstN f n = some r := by
  induction n with
  | zero => omega
  | succ n ih =>
    show (firstN f n).or (f n) = some r
    by_cases hkn : k = n
    · subst hkn
      rw [firstN_none hn, h]
      rfl
    · rw [ih (by omega)]
      rfl
theorem none_next {R : Type} {f : Nat → Option R} {k : Nat} (h : ∀ j, j < k → f j = none) (hk : f k = none) : ∀ j, j < k + 1 → f j = none := fun j hj => by
  by_cases h1 : j < k
  · exact h j h1
  · obtain rfl : j = k := by omega
    exact hk
set_option maxRecDepth 100000 in
theorem nowhere_any (w : World) : Calls Tryd.prog 28 #[] w fun e w' => e = .returned (.agg #[.int .i64 (-1), .int .i64 (-1), .int .i64 (-1)]) ∧ Same w w' := by
  have hb := Blk.new w 43 #[.int .i64 0, .int .i64 0, .int .i64 0]
  have hs := (Same.refl w).alloc (.cells #[.int .i64 0, .int .i64 0, .int .i64 0] 43)
  obtain ⟨k0, k1, k2⟩ := (⟨hb.thaw 0, hb.thaw 1, hb.thaw 2⟩ : _ ∧ _ ∧ _)
  obtain ⟨r0, r1, r2⟩ := (⟨hb.cell 0, hb.cell 1, hb.cell 2⟩ : _ ∧ _ ∧ _)
  simp only [List.getElem?_toArray, List.getElem?_cons_zero, List.getElem?_cons_succ] at r0 r1 r2
  have HB := Lib.hid hb
  have HS := Lib.hid hs
  clear hb hs
  go_enter Tryd.func28, Tryd.ntmps28
  go_wp2_with fail
  have hp := Blk.new w 43 #[.int .i64 (-1), .int .i64 (-1), .int .i64 (-1)]
  refine bodyPost_ret (v := .agg #[.int .i64 (-1), .int .i64 (-1), .int .i64 (-1)]) (results_cell_row Tryd.results28 _ _ w.heap.size 43 #[.int .i64 (-1), .int .i64 (-1), .int .i64 (-1)] (0, 0) _ rfl hp Tryd.underlying43 rfl spot_size) rfl ?_
  exact ⟨rfl, (Same.refl _).alloc _⟩
/-- the block of a fault function: the system, and the result -/
structure FB (w wx : World) (A : Option Addr) (n c : Nat) (B : Option Addr) (m d : Nat) : Prop where
  sys : Blk wx w.heap.size 25 #[.slice A n c, .slice B m d]
  res : Blk wx (w.heap.size + 1) 43 #[.int .i64 0, .int .i64 0, .int .i64 0]
  same : Same w wx
theorem fb_new (w : World) (A : Option Addr) (n c : Nat) (B : Option Addr) (m d : Nat) : FB w ((w.alloc (.cells #[.slice A n c, .slice B m d] 25)).alloc (.cells #[.int .i64 0, .int .i64 0, .int .i64 0] 43)) A n c B m d := by
  have h := Blk.new (w.alloc (.cells #[.slice A n c, .slice B m d] 25)) 43 #[.int .i64 0, .int .i64 0, .int .i64 0]
  rw [World.size_alloc] at h
  exact ⟨(Blk.new w _ _).same ((Same.refl _).alloc _), h, ((Same.refl w).alloc _).alloc _⟩
theorem FB.to {w wx wy : World} {A : Option Addr} {n c : Nat} {B : Option Addr} {m d : Nat} (h : FB w wx A n c B m d) (hs : Same wx wy) : FB w wy A n c B m d := ⟨h.sys.same hs, h.res.same hs, h.same.trans hs⟩
theorem FB.sc {w wx : World} {A : Option Addr} {n c : Nat} {B : Option Addr} {m d : Nat} (h : FB w wx A n c B m d) : wx.cell? ⟨w.heap.size, 0, none⟩ = some (.slice A n c) ∧ wx.cell? ⟨w.heap.size, 1, none⟩ = some (.slice B m d) := ⟨h.sys.cell 0, h.sys.cell 1⟩
theorem FB.rc {w wx : World} {A : Option Addr} {n c : Nat} {B : Option Addr} {m d : Nat} (h : FB w wx A n c B m d) : (wx.cell? ⟨w.heap.size + 1, 0, none⟩ = some (.int .i64 0) ∧ wx.cell? ⟨w.heap.size + 1, 1, none⟩ = some (.int .i64 0) ∧ wx.cell? ⟨w.heap.size + 1, 2, none⟩ = some (.int .i64 0)) ∧ wx.frozen? ⟨w.heap.size + 1, 0, none⟩ = false ∧ wx.frozen? ⟨w.heap.size + 1, 1, none⟩ = false ∧ wx.frozen? ⟨w.heap.size + 1, 2, none⟩ = false := ⟨⟨h.res.cell 0, h.res.cell 1, h.res.cell 2⟩, h.res.thaw 0, h.res.thaw 1, h.res.thaw 2⟩
def fNum (n m : Nat) : Spt × Int := if n = 0 ∨ 8 < n ∨ 8 < m then (nw, 1) else (nw, 0)
set_option maxRecDepth 100000 in
theorem numbers_any (A B : Option Addr) (n c m d : Nat) (w : World) : Calls Tryd.prog 22 #[.agg #[.slice A n c, .slice B m d]] w (FltP w (fNum n m)) := by
  have HF := Lib.hid (fb_new w A n c B m d)
  obtain ⟨a0, a1⟩ := HF.out.sc
  by_cases h0 : n = 0
  · have HE := Lib.hid (show fNum n m = (nw, 1) from if_pos (.inl h0))
    have b0 : ((n : Int) == 0) = true := by simp [h0]
    clear h0
    go_enter Tryd.func22, Tryd.ntmps22
    go_wp2_with fail
    refine (nowhere_any _).mono ?_
    rintro e wn ⟨rfl, sn⟩
    have HFN := Lib.hid (HF.out.to sn)
    clear sn
    obtain ⟨⟨r0, r1, r2⟩, k0, k1, k2⟩ := HFN.out.rc
    go_wp2_with fail
    refine bodyPost_ret (v := .tuple #[.agg #[.int .i64 (-1), .int .i64 (-1), .int .i64 (-1)], .int .i64 (1)]) (res2 Tryd.results22 _ _ (w.heap.size + 1) 43 #[.int .i64 (-1), .int .i64 (-1), .int .i64 (-1)] (0, 0) _ rfl (b3put HFN.out.res _ _ _) Tryd.underlying43 rfl spot_size) rfl ?_
    exact flt_mk (HE.out) (three_same HFN.out.same (by omega) _ _ _)
  · have b0 : ((n : Int) == 0) = false := by simp [h0]
    by_cases h1 : 8 < n
    · have HE := Lib.hid (show fNum n m = (nw, 1) from if_pos (.inr (.inl h1)))
      have h2 : (n : Int) > 8 := by omega
      clear h0 h1
      go_enter Tryd.func22, Tryd.ntmps22
      go_wp2_with fail
      refine (nowhere_any _).mono ?_
      rintro e wn ⟨rfl, sn⟩
      have HFN := Lib.hid (HF.out.to sn)
      clear sn
      obtain ⟨⟨r0, r1, r2⟩, k0, k1, k2⟩ := HFN.out.rc
      go_wp2_with fail
      refine bodyPost_ret (v := .tuple #[.agg #[.int .i64 (-1), .int .i64 (-1), .int .i64 (-1)], .int .i64 (1)]) (res2 Tryd.results22 _ _ (w.heap.size + 1) 43 #[.int .i64 (-1), .int .i64 (-1), .int .i64 (-1)] (0, 0) _ rfl (b3put HFN.out.res _ _ _) Tryd.underlying43 rfl spot_size) rfl ?_
      exact flt_mk (HE.out) (three_same HFN.out.same (by omega) _ _ _)
    · have h2 : ¬ (n : Int) > 8 := by omega
      by_cases h3 : 8 < m
      · have HE := Lib.hid (show fNum n m = (nw, 1) from if_pos (.inr (.inr h3)))
        have h4 : (m : Int) > 8 := by omega
        clear h0 h1 h3
        go_enter Tryd.func22, Tryd.ntmps22
        go_wp2_with fail
        refine (nowhere_any _).mono ?_
        rintro e wn ⟨rfl, sn⟩
        have HFN := Lib.hid (HF.out.to sn)
        clear sn
        obtain ⟨⟨r0, r1, r2⟩, k0, k1, k2⟩ := HFN.out.rc
        go_wp2_with fail
        refine bodyPost_ret (v := .tuple #[.agg #[.int .i64 (-1), .int .i64 (-1), .int .i64 (-1)], .int .i64 (1)]) (res2 Tryd.results22 _ _ (w.heap.size + 1) 43 #[.int .i64 (-1), .int .i64 (-1), .int .i64 (-1)] (0, 0) _ rfl (b3put HFN.out.res _ _ _) Tryd.underlying43 rfl spot_size) rfl ?_
        exact flt_mk (HE.out) (three_same HFN.out.same (by omega) _ _ _)
      · have HE := Lib.hid (show fNum n m = (nw, 0) from if_neg (by omega))
        have h4 : ¬ (m : Int) > 8 := by omega
        clear h0 h1 h3
        go_enter Tryd.func22, Tryd.ntmps22
        go_wp2_with fail
        refine (nowhere_any _).mono ?_
        rintro e wn ⟨rfl, sn⟩
        have HFN := Lib.hid (HF.out.to sn)
        clear sn
        obtain ⟨⟨r0, r1, r2⟩, k0, k1, k2⟩ := HFN.out.rc
        go_wp2_with fail
        refine bodyPost_ret (v := .tuple #[.agg #[.int .i64 (-1), .int .i64 (-1), .int .i64 (-1)], .int .i64 (0)]) (res2 Tryd.results22 _ _ (w.heap.size + 1) 43 #[.int .i64 (-1), .int .i64 (-1), .int .i64 (-1)] (0, 0) _ rfl (b3put HFN.out.res _ _ _) Tryd.underlying43 rfl spot_size) rfl ?_
        exact flt_mk (HE.out) (three_same HFN.out.same (by omega) _ _ _)
def toP (x : Im.Ins) : Fp.Ins := ⟨x.op, x.a, x.b, x.c, x.n⟩
theorem prg_of {w : World} {A : Option Addr} {l : List Im.Ins} (h : Im.Code w A l) : Fw.Prg w A (l.map toP) := by
  intro i x hx
  rw [List.getElem?_map] at hx
  cases hl : l[i]? with
  | none => rw [hl] at hx; cases hx
  | some y =>
    rw [hl] at hx
    injection hx with hx
    subst hx
    exact h i y hl
def tE (t : PT) : Int := Tp.fE t.kind t.prio t.per t.off t.dl t.own (t.code.map toP)
def tI (t : PT) : Int := Tp.fI t.kind t.prio t.per t.off t.dl t.own (t.code.map toP)
def tkf (ts : List PT) (i : Nat) : Option (Spt × Int) := match ts[i]? with
  | none => none
  | some t => if tE t = 0 then none else some (((i : Int), -1, tI t), tE t)
def fTasks (ts : List PT) : Spt × Int := (firstN (tkf ts) ts.length).getD (nw, 0)
set_option maxRecDepth 100000 in
set_option maxHeartbeats 1000000 in
theorem tasks_any (A B : Option Addr) (n c m d : Nat) (ts : List PT) (w : World) (hn : ts.length = n) (hnb : n ≤ 5000) (ht : TsAt w A ts) (hf : ∀ p ∈ ts, p.code.length ≤ 200) (hT : Tabs w) :
    Calls Tryd.prog 23 #[.agg #[.slice A n c, .slice B m d]] w (FltP w (fTasks ts)) := by
  have HF := Lib.hid (fb_new w A n c B m d)
  have HN := Lib.hid hn
  have HT := Lib.hid ht
  have HFW := Lib.hid hf
  have HTB := Lib.hid hT
  clear hn ht hf hT
  obtain ⟨a0, a1⟩ := HF.out.sc
  go_enter Tryd.func23, Tryd.ntmps23
  go_wp2_with fail
  clear a0 a1
  go_loopg [11] n (fun gk iv wx => ∃ k : Nat, k + gk = n ∧ iv = .int .i64 k ∧ Hid (∀ j, j < k → tkf ts j = none) ∧ FB w wx A n c B m d)
  case atStart => exact ⟨0, by omega, rfl, Lib.hid (fun j hj => by omega), HF.out⟩
  case round =>
    obtain ⟨k, hk, rfl, HQ, hfb⟩ := hrel
    have HFB := Lib.hid hfb
    clear hfb
    cases gk with
    | zero =>
      obtain rfl : n = k := by omega
      have hge : ¬ (n : Int) < (n : Int) := by omega
      have HE := Lib.hid (show fTasks ts = (nw, 0) by unfold fTasks; rw [firstN_none (by rw [HN.out]; exact HQ.out)]; rfl)
      go_wp2_with fail
      refine (nowhere_any _).mono ?_
      rintro e wn ⟨rfl, sn⟩
      have HFN := Lib.hid (HFB.out.to sn)
      clear sn
      obtain ⟨⟨r0, r1, r2⟩, k0, k1, k2⟩ := HFN.out.rc
      go_wp2_with fail
      refine bodyPost_ret (v := .tuple #[.agg #[.int .i64 (-1), .int .i64 (-1), .int .i64 (-1)], .int .i64 (0)]) (res2 Tryd.results23 _ _ (w.heap.size + 1) 43 #[.int .i64 (-1), .int .i64 (-1), .int .i64 (-1)] (0, 0) _ rfl (b3put HFN.out.res _ _ _) Tryd.underlying43 rfl spot_size) rfl ?_
      exact flt_mk (HE.out) (three_same HFN.out.same (by omega) _ _ _)
    | succ GK =>
      have hlt : (k : Int) < n := by omega
      have k0 : (0 : Int) ≤ k := by omega
      obtain ⟨x, hx⟩ : ∃ x, ts[k]? = some x := ⟨_, List.getElem?_eq_getElem (by have := HN.out; omega)⟩
      obtain ⟨b, o, rfl, X, cX, c0, c1, c2, c3, c4, c5, c6, hcode, _⟩ := (HT.out.same HFB.out.same).at_ hx
      have hcl := HFW.out x (List.mem_of_getElem? hx)
      have HTK := Lib.hid (show tkf ts k = if tE x = 0 then none else some (((k : Int), -1, tI x), tE x) by unfold tkf; rw [hx])
      clear hx
      obtain ⟨kind, prio, per, off, dl, own, code⟩ := x
      simp only at c0 c1 c2 c3 c4 c5 c6 hcode hcl
      have hs2 := (Same.refl wr).alloc (.cells #[.int .i64 kind, .int .i64 prio, .int .i64 per, .int .i64 off, .int .i64 dl, .int .i64 own, .slice X code.length cX] 32)
      have HF2 := Lib.hid (HFB.out.to hs2)
      obtain ⟨q0, q1, q2, q3, q4, q5, q6⟩ := tcs (Blk.new wr 32 #[.int .i64 kind, .int .i64 prio, .int .i64 per, .int .i64 off, .int .i64 dl, .int .i64 own, .slice X code.length cX])
      have FA := Lib.hid (Tp.fault_any kind prio per off dl own X code.length cX (code.map toP) _ (by rw [List.length_map]) hcl ((prg_of hcode).same hs2) ((HTB.out.same HFB.out.same).same hs2))
      have HEI := Lib.hid (show tE ⟨kind, prio, per, off, dl, own, code⟩ = Tp.fE kind prio per off dl own (code.map toP) ∧ tI ⟨kind, prio, per, off, dl, own, code⟩ = Tp.fI kind prio per off dl own (code.map toP) from ⟨rfl, rfl⟩)
      clear hs2 hcode hcl
      generalize Tp.fE kind prio per off dl own (code.map toP) = fe at *
      generalize Tp.fI kind prio per off dl own (code.map toP) = fi at *
      go_wp2_with fail
      refine FA.out.mono ?_
      rintro e w3 ⟨rfl, s3⟩
      have HF3 := Lib.hid (HF2.out.to s3)
      clear s3
      by_cases hz : fe = 0
      · have HTN := Lib.hid (show tkf ts k = none by rw [HTK.out, if_pos (by rw [HEI.out.1]; exact hz)])
        have hz' : (fe != 0) = false := by simpa using hz
        clear hz
        go_wp2_with fail
        go_roundg GK
        case rel => exact ⟨k + 1, by omega, by go_num, Lib.hid (none_next HQ.out HTN.out), HF3.out⟩
        case measure => omega
      · have HE := Lib.hid (show fTasks ts = (((k : Int), -1, fi), fe) by unfold fTasks; rw [firstN_hit (by have := HN.out; omega) HQ.out (by rw [HTK.out, HEI.out.1, HEI.out.2, if_neg hz])]; rfl)
        have hz' : (fe != 0) = true := by simpa using hz
        clear hz
        obtain ⟨⟨r0, r1, r2⟩, k0, k1, k2⟩ := HF3.out.rc
        go_wp2_with fail
        refine bodyPost_ret (v := .tuple #[.agg #[.int .i64 (k), .int .i64 (-1), .int .i64 (fi)], .int .i64 (fe)]) (res2 Tryd.results23 _ _ (w.heap.size + 1) 43 #[.int .i64 (k), .int .i64 (-1), .int .i64 (fi)] (0, 0) _ rfl (b3put HF3.out.res _ _ _) Tryd.underlying43 rfl spot_size) rfl ?_
        exact flt_mk (HE.out) (three_same HF3.out.same (by omega) _ _ _)
set_option maxRecDepth 100000 in
theorem objects0 (A B : Option Addr) (n c d : Nat) (w : World) : Calls Tryd.prog 24 #[.agg #[.slice A n c, .slice B 0 d]] w (FltP w (nw, 0)) := by
  have HF := Lib.hid (fb_new w A n c B 0 d)
  obtain ⟨a0, a1⟩ := HF.out.sc
  go_enter Tryd.func24, Tryd.ntmps24
  go_wp2_with fail
  refine wp_loop_rounds 1 ?_
  rw [rounds_succ]
  go_wp2_with fail
  refine (nowhere_any _).mono ?_
  rintro e wn ⟨rfl, sn⟩
  have HFN := Lib.hid (HF.out.to sn)
  clear sn
  obtain ⟨⟨r0, r1, r2⟩, k0, k1, k2⟩ := HFN.out.rc
  go_wp2_with fail
  refine bodyPost_ret (v := .tuple #[.agg #[.int .i64 (-1), .int .i64 (-1), .int .i64 (-1)], .int .i64 (0)]) (res2 Tryd.results24 _ _ (w.heap.size + 1) 43 #[.int .i64 (-1), .int .i64 (-1), .int .i64 (-1)] (0, 0) _ rfl (b3put HFN.out.res _ _ _) Tryd.underlying43 rfl spot_size) rfl ?_
  exact flt_mk (rfl) (three_same HFN.out.same (by omega) _ _ _)
set_option maxRecDepth 100000 in
theorem users0 (A B : Option Addr) (n c d : Nat) (w : World) : Calls Tryd.prog 25 #[.agg #[.slice A n c, .slice B 0 d]] w (FltP w (nw, 0)) := by
  have HF := Lib.hid (fb_new w A n c B 0 d)
  obtain ⟨a0, a1⟩ := HF.out.sc
  go_enter Tryd.func25, Tryd.ntmps25
  go_wp2_with fail
  refine wp_loop_rounds 1 ?_
  rw [rounds_succ]
  go_wp2_with fail
  refine (nowhere_any _).mono ?_
  rintro e wn ⟨rfl, sn⟩
  have HFN := Lib.hid (HF.out.to sn)
  clear sn
  obtain ⟨⟨r0, r1, r2⟩, k0, k1, k2⟩ := HFN.out.rc
  go_wp2_with fail
  refine bodyPost_ret (v := .tuple #[.agg #[.int .i64 (-1), .int .i64 (-1), .int .i64 (-1)], .int .i64 (0)]) (res2 Tryd.results25 _ _ (w.heap.size + 1) 43 #[.int .i64 (-1), .int .i64 (-1), .int .i64 (-1)] (0, 0) _ rfl (b3put HFN.out.res _ _ _) Tryd.underlying43 rfl spot_size) rfl ?_
  exact flt_mk (rfl) (three_same HFN.out.same (by omega) _ _ _)
def roomE (ts : List Tk.Task) (os : List Ly.Objt) : Int := match Ly.lensF ts os with
  | none => 1
  | some L => if Ly.sumL L ≤ 4096 then 0 else 6
theorem ofp_is {w : World} {n m : Nat} {ts : List Tk.Task} {os : List Ly.Objt} {e : Ending} {w' : World} (h : Ly.OfP w n m (Ly.lensF ts os) e w') : ∃ (A : Option Addr) (n1 c : Nat) (B : Option Addr) (m1 d : Nat) (z : Int), e = .returned (.tuple #[.agg #[.slice A n1 c, .slice B m1 d, .int .i64 z], .int .i64 (roomE ts os)]) ∧ Same w w' := by
  unfold roomE
  cases hl : Ly.lensF ts os with
  | none =>
    rw [hl] at h
    exact ⟨none, 0, 0, none, 0, 0, 0, h.1, h.2⟩
  | some L =>
    rw [hl] at h
    unfold Ly.OfP at h
    dsimp only at h
    by_cases hs : Ly.sumL L ≤ 4096
    · rw [if_pos hs] at h
      obtain ⟨A, c, B, d, h1, _, _, h2⟩ := h
      refine ⟨A, n, c, B, m, d, Ly.sumL L, ?_, h2⟩
      simp only [if_pos hs]
      exact h1
    · rw [if_neg hs] at h
      refine ⟨none, 0, 0, none, 0, 0, 0, ?_, h.2⟩
      simp only [if_neg hs]
      exact h.1
set_option maxRecDepth 100000 in
theorem room_any (A B : Option Addr) (n c m d : Nat) (ts : List Tk.Task) (os : List Ly.Objt) (w : World) (hn : ts.length = n) (hm : os.length = m) (hn5 : n ≤ 5000) (hm5 : m ≤ 5000) (ht : Tk.Tasks w A ts) (ho : Ly.Objs w B os) (hlen : ∀ L, Ly.lensF ts os = some L → L.length = n + m ∧ ∀ x ∈ L, 0 ≤ x ∧ x ≤ 1000000) :
    Calls Tryd.prog 27 #[.agg #[.slice A n c, .slice B m d]] w (FltP w (nw, roomE ts os)) := by
  have hf := fb_new w A n c B m d
  have HF := Lib.hid hf
  have OF := Lib.hid (Ly.of_any A B n c m d ts os _ hn hm hn5 hm5 (ht.same hf.same) (ho.same hf.same) hlen)
  clear hf hn hm ht ho hlen
  obtain ⟨a0, a1⟩ := HF.out.sc
  go_enter Tryd.func27, Tryd.ntmps27
  go_wp2_with fail
  refine OF.out.mono ?_
  intro e w1 hof
  obtain ⟨A1, n1, c1, B1, m1, d1, z, rfl, s1⟩ := ofp_is hof
  have HF1 := Lib.hid ((HF.out.to s1).to ((Same.refl _).alloc (.cells #[.slice A1 n1 c1, .slice B1 m1 d1, .int .i64 z] 67)))
  clear hof s1 a0 a1 OF HF
  generalize roomE ts os = re at *
  go_wp2_with fail
  refine (nowhere_any _).mono ?_
  rintro e wn ⟨rfl, sn⟩
  have HFN := Lib.hid (HF1.out.to sn)
  clear sn
  obtain ⟨⟨r0, r1, r2⟩, k0, k1, k2⟩ := HFN.out.rc
  go_wp2_with fail
  refine bodyPost_ret (v := .tuple #[.agg #[.int .i64 (-1), .int .i64 (-1), .int .i64 (-1)], .int .i64 (re)]) (res2 Tryd.results27 _ _ (w.heap.size + 1) 43 #[.int .i64 (-1), .int .i64 (-1), .int .i64 (-1)] (0, 0) _ rfl (b3put HFN.out.res _ _ _) Tryd.underlying43 rfl spot_size) rfl ?_
  exact flt_mk (rfl) (three_same HFN.out.same (by omega) _ _ _)
def chf (F : Nat → Spt × Int) (j : Nat) : Option (Spt × Int) := if (F j).2 = 0 then none else some (F j)
def chk (F : Nat → Spt × Int) : Spt × Int := (firstN (chf F) 6).getD (nw, 0)
theorem chf_none {F : Nat → Spt × Int} {j : Nat} (h : (F j).2 = 0) : chf F j = none := if_pos h
theorem chf_zero {F : Nat → Spt × Int} {j : Nat} (h : chf F j = none) : (F j).2 = 0 := by
  unfold chf at h
  by_cases hz : (F j).2 = 0
  · exact hz
  · rw [if_neg hz] at h; cases h
def fvs : Array Value := #[.func (.func 22) #[] #[], .func (.func 23) #[] #[], .func (.func 24) #[] #[], .func (.func 25) #[] #[], .func (.func 26) #[] #[], .func (.func 27) #[] #[]]
set_option maxRecDepth 100000 in
set_option maxHeartbeats 2000000 in
theorem check_of (A B : Option Addr) (n c m d : Nat) (F : Nat → Spt × Int) (w : World)
    (h0 : (∀ i, i < 0 → (F i).2 = 0) → ∀ W, Same w W → Calls Tryd.prog 22 #[.agg #[.slice A n c, .slice B m d]] W (FltP W (F 0)))
    (h1 : (∀ i, i < 1 → (F i).2 = 0) → ∀ W, Same w W → Calls Tryd.prog 23 #[.agg #[.slice A n c, .slice B m d]] W (FltP W (F 1)))
    (h2 : (∀ i, i < 2 → (F i).2 = 0) → ∀ W, Same w W → Calls Tryd.prog 24 #[.agg #[.slice A n c, .slice B m d]] W (FltP W (F 2)))
    (h3 : (∀ i, i < 3 → (F i).2 = 0) → ∀ W, Same w W → Calls Tryd.prog 25 #[.agg #[.slice A n c, .slice B m d]] W (FltP W (F 3)))
    (h4 : (∀ i, i < 4 → (F i).2 = 0) → ∀ W, Same w W → Calls Tryd.prog 26 #[.agg #[.slice A n c, .slice B m d]] W (FltP W (F 4)))
    (h5 : (∀ i, i < 5 → (F i).2 = 0) → ∀ W, Same w W → Calls Tryd.prog 27 #[.agg #[.slice A n c, .slice B m d]] W (FltP W (F 5))) :
    Calls Tryd.prog 11 #[.agg #[.slice A n c, .slice B m d]] w (FltP w (chk F)) := by
  have H0 := Lib.hid h0
  have H1 := Lib.hid h1
  have H2 := Lib.hid h2
  have H3 := Lib.hid h3
  have H4 := Lib.hid h4
  have H5 := Lib.hid h5
  have HF := Lib.hid (fb_new w A n c B m d)
  have hr := Blk.new ((w.alloc (.cells #[.slice A n c, .slice B m d] 25)).alloc (.cells #[.int .i64 0, .int .i64 0, .int .i64 0] 43)) 46 fvs
  rw [World.size_alloc, World.size_alloc] at hr
  have HR := Lib.hid hr
  have HF0 := Lib.hid ((fb_new w A n c B m d).to ((Same.refl _).alloc (.cells fvs 46)))
  unfold fvs at hr
  clear hr HF
  go_enter Tryd.func11, Tryd.ntmps11
  go_wp2_with fail
  go_loopg [10] 6 (fun gk iv wx => ∃ k : Nat, k + gk = 6 ∧ iv = .int .i64 k ∧ Hid (∀ j, j < k → chf F j = none) ∧ Hid (Blk wx (w.heap.size + 1 + 1) 46 fvs) ∧ FB w wx A n c B m d)
  case atStart => exact ⟨0, by omega, rfl, Lib.hid (fun j hj => by omega), HR, HF0.out⟩
  case round =>
    obtain ⟨k, hk, rfl, HQ, HB, hfb⟩ := hrel
    have HFB := Lib.hid hfb
    clear hfb
    cases gk with
    | zero =>
      obtain rfl : k = 6 := by omega
      have HE := Lib.hid (show chk F = (nw, 0) by unfold chk; rw [firstN_none HQ.out]; rfl)
      go_wp2_with fail
      refine (nowhere_any _).mono ?_
      rintro e wn ⟨rfl, sn⟩
      have HFN := Lib.hid (HFB.out.to sn)
      clear sn
      obtain ⟨⟨r0, r1, r2⟩, k0, k1, k2⟩ := HFN.out.rc
      go_wp2_with fail
      refine bodyPost_ret (v := .tuple #[.agg #[.int .i64 (-1), .int .i64 (-1), .int .i64 (-1)], .int .i64 (0)]) (res2 Tryd.results11 _ _ (w.heap.size + 1) 43 #[.int .i64 (-1), .int .i64 (-1), .int .i64 (-1)] (0, 0) _ rfl (b3put HFN.out.res _ _ _) Tryd.underlying43 rfl spot_size) rfl ?_
      exact flt_mk (HE.out) (three_same HFN.out.same (by omega) _ _ _)
    | succ GK =>
      rcases (show k = 0 ∨ k = 1 ∨ k = 2 ∨ k = 3 ∨ k = 4 ∨ k = 5 by omega) with rfl | rfl | rfl | rfl | rfl | rfl
      · have HG := Lib.hid (show GK = 5 by omega)
        have cf : wr.cell? ⟨w.heap.size + 1 + 1, 0, none⟩ = some (.func (.func 22) #[] #[]) := HB.out.cell 0
        have HJ := Lib.hid (H0.out (fun i hi => chf_zero (HQ.out i hi)) _ HFB.out.same)
        obtain ⟨a0, a1⟩ := HFB.out.sc
        have HX := Lib.hid (fun (h : chf F 0 = none) => none_next HQ.out h)
        have HY := Lib.hid (fun (r : Spt × Int) (h : chf F 0 = some r) => show chk F = r by unfold chk; rw [firstN_hit (by omega) HQ.out h]; rfl)
        have HC := Lib.hid (show chf F 0 = if (F 0).2 = 0 then none else some (F 0) from rfl)
        go_wp2_with fail
        refine HJ.out.mono ?_
        rintro e w3 ⟨rfl, s3⟩
        obtain ⟨⟨⟨ra, rb, rc⟩, re⟩, hre⟩ : ∃ r, r = F 0 := ⟨_, rfl⟩
        rw [← hre] at HC ⊢
        clear hre
        dsimp only at HC ⊢
        have hs4 := (Same.refl w3).alloc (.cells #[.int .i64 ra, .int .i64 rb, .int .i64 rc] 43)
        have HF3 := Lib.hid ((HFB.out.to s3).to hs4)
        have HB3 := Lib.hid ((HB.out.same s3).same hs4)
        obtain ⟨z0, z1, z2⟩ := (⟨(Blk.new w3 43 #[.int .i64 ra, .int .i64 rb, .int .i64 rc]).cell 0, (Blk.new w3 43 #[.int .i64 ra, .int .i64 rb, .int .i64 rc]).cell 1, (Blk.new w3 43 #[.int .i64 ra, .int .i64 rb, .int .i64 rc]).cell 2⟩ : _ ∧ _ ∧ _)
        simp only [List.getElem?_toArray, List.getElem?_cons_zero, List.getElem?_cons_succ] at z0 z1 z2
        clear s3 hs4 cf a0 a1 HJ
        by_cases hz : re = 0
        · have hz' : (re != 0) = false := by simpa using hz
          have HN := Lib.hid (HX.out (by rw [HC.out, if_pos hz]))
          clear hz HX HY HC
          go_wp2_with fail
          go_roundg GK
          case rel => exact ⟨1, by omega, by go_num, HN, HB3, HF3.out⟩
          case measure => omega
        · have hz' : (re != 0) = true := by simpa using hz
          have HE := Lib.hid (HY.out _ (by rw [HC.out, if_neg hz]))
          clear hz HX HY HC
          obtain ⟨⟨r0, r1, r2⟩, k0, k1, k2⟩ := HF3.out.rc
          go_wp2_with fail
          refine bodyPost_ret (v := .tuple #[.agg #[.int .i64 (ra), .int .i64 (rb), .int .i64 (rc)], .int .i64 (re)]) (res2 Tryd.results11 _ _ (w.heap.size + 1) 43 #[.int .i64 (ra), .int .i64 (rb), .int .i64 (rc)] (0, 0) _ rfl (b3put HF3.out.res _ _ _) Tryd.underlying43 rfl spot_size) rfl ?_
          exact flt_mk (HE.out) (three_same HF3.out.same (by omega) _ _ _)
      · have HG := Lib.hid (show GK = 4 by omega)
        have cf : wr.cell? ⟨w.heap.size + 1 + 1, 1, none⟩ = some (.func (.func 23) #[] #[]) := HB.out.cell 1
        have HJ := Lib.hid (H1.out (fun i hi => chf_zero (HQ.out i hi)) _ HFB.out.same)
        obtain ⟨a0, a1⟩ := HFB.out.sc
        have HX := Lib.hid (fun (h : chf F 1 = none) => none_next HQ.out h)
        have HY := Lib.hid (fun (r : Spt × Int) (h : chf F 1 = some r) => show chk F = r by unfold chk; rw [firstN_hit (by omega) HQ.out h]; rfl)
        have HC := Lib.hid (show chf F 1 = if (F 1).2 = 0 then none else some (F 1) from rfl)
        go_wp2_with fail
        refine HJ.out.mono ?_
        rintro e w3 ⟨rfl, s3⟩
        obtain ⟨⟨⟨ra, rb, rc⟩, re⟩, hre⟩ : ∃ r, r = F 1 := ⟨_, rfl⟩
        rw [← hre] at HC ⊢
        clear hre
        dsimp only at HC ⊢
        have hs4 := (Same.refl w3).alloc (.cells #[.int .i64 ra, .int .i64 rb, .int .i64 rc] 43)
        have HF3 := Lib.hid ((HFB.out.to s3).to hs4)
        have HB3 := Lib.hid ((HB.out.same s3).same hs4)
        obtain ⟨z0, z1, z2⟩ := (⟨(Blk.new w3 43 #[.int .i64 ra, .int .i64 rb, .int .i64 rc]).cell 0, (Blk.new w3 43 #[.int .i64 ra, .int .i64 rb, .int .i64 rc]).cell 1, (Blk.new w3 43 #[.int .i64 ra, .int .i64 rb, .int .i64 rc]).cell 2⟩ : _ ∧ _ ∧ _)
        simp only [List.getElem?_toArray, List.getElem?_cons_zero, List.getElem?_cons_succ] at z0 z1 z2
        clear s3 hs4 cf a0 a1 HJ
        by_cases hz : re = 0
        · have hz' : (re != 0) = false := by simpa using hz
          have HN := Lib.hid (HX.out (by rw [HC.out, if_pos hz]))
          clear hz HX HY HC
          go_wp2_with fail
          go_roundg GK
          case rel => exact ⟨2, by omega, by go_num, HN, HB3, HF3.out⟩
          case measure => omega
        · have hz' : (re != 0) = true := by simpa using hz
          have HE := Lib.hid (HY.out _ (by rw [HC.out, if_neg hz]))
          clear hz HX HY HC
          obtain ⟨⟨r0, r1, r2⟩, k0, k1, k2⟩ := HF3.out.rc
          go_wp2_with fail
          refine bodyPost_ret (v := .tuple #[.agg #[.int .i64 (ra), .int .i64 (rb), .int .i64 (rc)], .int .i64 (re)]) (res2 Tryd.results11 _ _ (w.heap.size + 1) 43 #[.int .i64 (ra), .int .i64 (rb), .int .i64 (rc)] (0, 0) _ rfl (b3put HF3.out.res _ _ _) Tryd.underlying43 rfl spot_size) rfl ?_
          exact flt_mk (HE.out) (three_same HF3.out.same (by omega) _ _ _)
      · have HG := Lib.hid (show GK = 3 by omega)
        have cf : wr.cell? ⟨w.heap.size + 1 + 1, 2, none⟩ = some (.func (.func 24) #[] #[]) := HB.out.cell 2
        have HJ := Lib.hid (H2.out (fun i hi => chf_zero (HQ.out i hi)) _ HFB.out.same)
        obtain ⟨a0, a1⟩ := HFB.out.sc
        have HX := Lib.hid (fun (h : chf F 2 = none) => none_next HQ.out h)
        have HY := Lib.hid (fun (r : Spt × Int) (h : chf F 2 = some r) => show chk F = r by unfold chk; rw [firstN_hit (by omega) HQ.out h]; rfl)
        have HC := Lib.hid (show chf F 2 = if (F 2).2 = 0 then none else some (F 2) from rfl)
        go_wp2_with fail
        refine HJ.out.mono ?_
        rintro e w3 ⟨rfl, s3⟩
        obtain ⟨⟨⟨ra, rb, rc⟩, re⟩, hre⟩ : ∃ r, r = F 2 := ⟨_, rfl⟩
        rw [← hre] at HC ⊢
        clear hre
        dsimp only at HC ⊢
        have hs4 := (Same.refl w3).alloc (.cells #[.int .i64 ra, .int .i64 rb, .int .i64 rc] 43)
        have HF3 := Lib.hid ((HFB.out.to s3).to hs4)
        have HB3 := Lib.hid ((HB.out.same s3).same hs4)
        obtain ⟨z0, z1, z2⟩ := (⟨(Blk.new w3 43 #[.int .i64 ra, .int .i64 rb, .int .i64 rc]).cell 0, (Blk.new w3 43 #[.int .i64 ra, .int .i64 rb, .int .i64 rc]).cell 1, (Blk.new w3 43 #[.int .i64 ra, .int .i64 rb, .int .i64 rc]).cell 2⟩ : _ ∧ _ ∧ _)
        simp only [List.getElem?_toArray, List.getElem?_cons_zero, List.getElem?_cons_succ] at z0 z1 z2
        clear s3 hs4 cf a0 a1 HJ
        by_cases hz : re = 0
        · have hz' : (re != 0) = false := by simpa using hz
          have HN := Lib.hid (HX.out (by rw [HC.out, if_pos hz]))
          clear hz HX HY HC
          go_wp2_with fail
          go_roundg GK
          case rel => exact ⟨3, by omega, by go_num, HN, HB3, HF3.out⟩
          case measure => omega
        · have hz' : (re != 0) = true := by simpa using hz
          have HE := Lib.hid (HY.out _ (by rw [HC.out, if_neg hz]))
          clear hz HX HY HC
          obtain ⟨⟨r0, r1, r2⟩, k0, k1, k2⟩ := HF3.out.rc
          go_wp2_with fail
          refine bodyPost_ret (v := .tuple #[.agg #[.int .i64 (ra), .int .i64 (rb), .int .i64 (rc)], .int .i64 (re)]) (res2 Tryd.results11 _ _ (w.heap.size + 1) 43 #[.int .i64 (ra), .int .i64 (rb), .int .i64 (rc)] (0, 0) _ rfl (b3put HF3.out.res _ _ _) Tryd.underlying43 rfl spot_size) rfl ?_
          exact flt_mk (HE.out) (three_same HF3.out.same (by omega) _ _ _)
      · have HG := Lib.hid (show GK = 2 by omega)
        have cf : wr.cell? ⟨w.heap.size + 1 + 1, 3, none⟩ = some (.func (.func 25) #[] #[]) := HB.out.cell 3
        have HJ := Lib.hid (H3.out (fun i hi => chf_zero (HQ.out i hi)) _ HFB.out.same)
        obtain ⟨a0, a1⟩ := HFB.out.sc
        have HX := Lib.hid (fun (h : chf F 3 = none) => none_next HQ.out h)
        have HY := Lib.hid (fun (r : Spt × Int) (h : chf F 3 = some r) => show chk F = r by unfold chk; rw [firstN_hit (by omega) HQ.out h]; rfl)
        have HC := Lib.hid (show chf F 3 = if (F 3).2 = 0 then none else some (F 3) from rfl)
        go_wp2_with fail
        refine HJ.out.mono ?_
        rintro e w3 ⟨rfl, s3⟩
        obtain ⟨⟨⟨ra, rb, rc⟩, re⟩, hre⟩ : ∃ r, r = F 3 := ⟨_, rfl⟩
        rw [← hre] at HC ⊢
        clear hre
        dsimp only at HC ⊢
        have hs4 := (Same.refl w3).alloc (.cells #[.int .i64 ra, .int .i64 rb, .int .i64 rc] 43)
        have HF3 := Lib.hid ((HFB.out.to s3).to hs4)
        have HB3 := Lib.hid ((HB.out.same s3).same hs4)
        obtain ⟨z0, z1, z2⟩ := (⟨(Blk.new w3 43 #[.int .i64 ra, .int .i64 rb, .int .i64 rc]).cell 0, (Blk.new w3 43 #[.int .i64 ra, .int .i64 rb, .int .i64 rc]).cell 1, (Blk.new w3 43 #[.int .i64 ra, .int .i64 rb, .int .i64 rc]).cell 2⟩ : _ ∧ _ ∧ _)
        simp only [List.getElem?_toArray, List.getElem?_cons_zero, List.getElem?_cons_succ] at z0 z1 z2
        clear s3 hs4 cf a0 a1 HJ
        by_cases hz : re = 0
        · have hz' : (re != 0) = false := by simpa using hz
          have HN := Lib.hid (HX.out (by rw [HC.out, if_pos hz]))
          clear hz HX HY HC
          go_wp2_with fail
          go_roundg GK
          case rel => exact ⟨4, by omega, by go_num, HN, HB3, HF3.out⟩
          case measure => omega
        · have hz' : (re != 0) = true := by simpa using hz
          have HE := Lib.hid (HY.out _ (by rw [HC.out, if_neg hz]))
          clear hz HX HY HC
          obtain ⟨⟨r0, r1, r2⟩, k0, k1, k2⟩ := HF3.out.rc
          go_wp2_with fail
          refine bodyPost_ret (v := .tuple #[.agg #[.int .i64 (ra), .int .i64 (rb), .int .i64 (rc)], .int .i64 (re)]) (res2 Tryd.results11 _ _ (w.heap.size + 1) 43 #[.int .i64 (ra), .int .i64 (rb), .int .i64 (rc)] (0, 0) _ rfl (b3put HF3.out.res _ _ _) Tryd.underlying43 rfl spot_size) rfl ?_
          exact flt_mk (HE.out) (three_same HF3.out.same (by omega) _ _ _)
      · have HG := Lib.hid (show GK = 1 by omega)
        have cf : wr.cell? ⟨w.heap.size + 1 + 1, 4, none⟩ = some (.func (.func 26) #[] #[]) := HB.out.cell 4
        have HJ := Lib.hid (H4.out (fun i hi => chf_zero (HQ.out i hi)) _ HFB.out.same)
        obtain ⟨a0, a1⟩ := HFB.out.sc
        have HX := Lib.hid (fun (h : chf F 4 = none) => none_next HQ.out h)
        have HY := Lib.hid (fun (r : Spt × Int) (h : chf F 4 = some r) => show chk F = r by unfold chk; rw [firstN_hit (by omega) HQ.out h]; rfl)
        have HC := Lib.hid (show chf F 4 = if (F 4).2 = 0 then none else some (F 4) from rfl)
        go_wp2_with fail
        refine HJ.out.mono ?_
        rintro e w3 ⟨rfl, s3⟩
        obtain ⟨⟨⟨ra, rb, rc⟩, re⟩, hre⟩ : ∃ r, r = F 4 := ⟨_, rfl⟩
        rw [← hre] at HC ⊢
        clear hre
        dsimp only at HC ⊢
        have hs4 := (Same.refl w3).alloc (.cells #[.int .i64 ra, .int .i64 rb, .int .i64 rc] 43)
        have HF3 := Lib.hid ((HFB.out.to s3).to hs4)
        have HB3 := Lib.hid ((HB.out.same s3).same hs4)
        obtain ⟨z0, z1, z2⟩ := (⟨(Blk.new w3 43 #[.int .i64 ra, .int .i64 rb, .int .i64 rc]).cell 0, (Blk.new w3 43 #[.int .i64 ra, .int .i64 rb, .int .i64 rc]).cell 1, (Blk.new w3 43 #[.int .i64 ra, .int .i64 rb, .int .i64 rc]).cell 2⟩ : _ ∧ _ ∧ _)
        simp only [List.getElem?_toArray, List.getElem?_cons_zero, List.getElem?_cons_succ] at z0 z1 z2
        clear s3 hs4 cf a0 a1 HJ
        by_cases hz : re = 0
        · have hz' : (re != 0) = false := by simpa using hz
          have HN := Lib.hid (HX.out (by rw [HC.out, if_pos hz]))
          clear hz HX HY HC
          go_wp2_with fail
          go_roundg GK
          case rel => exact ⟨5, by omega, by go_num, HN, HB3, HF3.out⟩
          case measure => omega
        · have hz' : (re != 0) = true := by simpa using hz
          have HE := Lib.hid (HY.out _ (by rw [HC.out, if_neg hz]))
          clear hz HX HY HC
          obtain ⟨⟨r0, r1, r2⟩, k0, k1, k2⟩ := HF3.out.rc
          go_wp2_with fail
          refine bodyPost_ret (v := .tuple #[.agg #[.int .i64 (ra), .int .i64 (rb), .int .i64 (rc)], .int .i64 (re)]) (res2 Tryd.results11 _ _ (w.heap.size + 1) 43 #[.int .i64 (ra), .int .i64 (rb), .int .i64 (rc)] (0, 0) _ rfl (b3put HF3.out.res _ _ _) Tryd.underlying43 rfl spot_size) rfl ?_
          exact flt_mk (HE.out) (three_same HF3.out.same (by omega) _ _ _)
      · have HG := Lib.hid (show GK = 0 by omega)
        have cf : wr.cell? ⟨w.heap.size + 1 + 1, 5, none⟩ = some (.func (.func 27) #[] #[]) := HB.out.cell 5
        have HJ := Lib.hid (H5.out (fun i hi => chf_zero (HQ.out i hi)) _ HFB.out.same)
        obtain ⟨a0, a1⟩ := HFB.out.sc
        have HX := Lib.hid (fun (h : chf F 5 = none) => none_next HQ.out h)
        have HY := Lib.hid (fun (r : Spt × Int) (h : chf F 5 = some r) => show chk F = r by unfold chk; rw [firstN_hit (by omega) HQ.out h]; rfl)
        have HC := Lib.hid (show chf F 5 = if (F 5).2 = 0 then none else some (F 5) from rfl)
        go_wp2_with fail
        refine HJ.out.mono ?_
        rintro e w3 ⟨rfl, s3⟩
        obtain ⟨⟨⟨ra, rb, rc⟩, re⟩, hre⟩ : ∃ r, r = F 5 := ⟨_, rfl⟩
        rw [← hre] at HC ⊢
        clear hre
        dsimp only at HC ⊢
        have hs4 := (Same.refl w3).alloc (.cells #[.int .i64 ra, .int .i64 rb, .int .i64 rc] 43)
        have HF3 := Lib.hid ((HFB.out.to s3).to hs4)
        have HB3 := Lib.hid ((HB.out.same s3).same hs4)
        obtain ⟨z0, z1, z2⟩ := (⟨(Blk.new w3 43 #[.int .i64 ra, .int .i64 rb, .int .i64 rc]).cell 0, (Blk.new w3 43 #[.int .i64 ra, .int .i64 rb, .int .i64 rc]).cell 1, (Blk.new w3 43 #[.int .i64 ra, .int .i64 rb, .int .i64 rc]).cell 2⟩ : _ ∧ _ ∧ _)
        simp only [List.getElem?_toArray, List.getElem?_cons_zero, List.getElem?_cons_succ] at z0 z1 z2
        clear s3 hs4 cf a0 a1 HJ
        by_cases hz : re = 0
        · have hz' : (re != 0) = false := by simpa using hz
          have HN := Lib.hid (HX.out (by rw [HC.out, if_pos hz]))
          clear hz HX HY HC
          go_wp2_with fail
          go_roundg GK
          case rel => exact ⟨6, by omega, by go_num, HN, HB3, HF3.out⟩
          case measure => omega
        · have hz' : (re != 0) = true := by simpa using hz
          have HE := Lib.hid (HY.out _ (by rw [HC.out, if_neg hz]))
          clear hz HX HY HC
          obtain ⟨⟨r0, r1, r2⟩, k0, k1, k2⟩ := HF3.out.rc
          go_wp2_with fail
          refine bodyPost_ret (v := .tuple #[.agg #[.int .i64 (ra), .int .i64 (rb), .int .i64 (rc)], .int .i64 (re)]) (res2 Tryd.results11 _ _ (w.heap.size + 1) 43 #[.int .i64 (ra), .int .i64 (rb), .int .i64 (rc)] (0, 0) _ rfl (b3put HF3.out.res _ _ _) Tryd.underlying43 rfl spot_size) rfl ?_
          exact flt_mk (HE.out) (three_same HF3.out.same (by omega) _ _ _)
end Go.Proofs.YtaclphhbdfoaeaaDoor.Sy
