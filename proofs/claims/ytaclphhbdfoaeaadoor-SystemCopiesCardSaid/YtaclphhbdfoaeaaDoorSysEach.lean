/-

  each of the tasks: copies, each with a program of its own
-/
import Derived.Test.YtaclphhbdfoaeaaDoorTaskCode
import Derived.Test.YtaclphhbdfoaeaaDoorImgSys
import Derived.Test.YtaclphhbdfoaeaaDoorImgSysEq
section
set_option linter.unusedVariables false
set_option linter.unusedSimpArgs false
namespace Go.Proofs.YtaclphhbdfoaeaaDoor.Tk
open Go.ChangeShapes Go.WideShapes Go.ChangeAt Go.RowKit Ws
open Go.Proofs.YtaclphhbdfoaeaaDoor.Wd (ret_bool ret_int)
open Go.Proofs.YtaclphhbdfoaeaaDoor.Fp (Ins)

theorem wpList_app0 {P : Program} {w : World} {ops : Array Oper} {rest : List Oper} {o : Oper} {a : Act} {Q : Exit → Act → World → Prop} (hgd : o.guard = none) (s x : Operand) (t : TypeId)
    (ho : o.op = .call { callee := .builtin .append, args := #[s, x], argTypes := #[t, t] })
    (e : TypeId) (i : TypeInfo) (ht : P.underlying t = some (.slice e)) (hi : P.info? e = some i) (d : Nat)
    (hs : a.eval s = .slice none 0 0) (hx : a.eval x = .slice none 0 d)
    (h : wpList P ops Q rest (a.put o.dst (.slice none 0 0)) w) :
    wpList P ops Q (o :: rest) a w := by
  refine wpList_plain hgd fun K hK => ?_
  have hr : (Builtin.append_ #[t, t] o.type #[.slice none 0 0, .slice none 0 d]).run P w = .ok (.slice none 0 0) w := by
    simp [Builtin.append_, run_underlying ht, sizeOf, typeInfo, hi, Builtin.lenOf, Builtin.firstCells]
  unfold Oper.wp execOp
  simp only [ho, resolve, invoke, builtin, Sem.run_bind, Sem.run_pure, Result.andThen_ok, List.map_toArray, List.map_cons, List.map_nil, hs, hx, hr]
  exact hK _ _ h

theorem task_size : (Tryd.prog.info? 32).map (·.size) = some 7 := by kernel_rfl
theorem task_cells {w : World} {g : Nat} {v0 v1 v2 v3 v4 v5 v6 : Value} (hb : Blk w g 32 #[v0, v1, v2, v3, v4, v5, v6]) :
    w.cell? ⟨g, 0, none⟩ = some v0 ∧ w.cell? ⟨g, 1, none⟩ = some v1 ∧ w.cell? ⟨g, 2, none⟩ = some v2 ∧ w.cell? ⟨g, 3, none⟩ = some v3 ∧ w.cell? ⟨g, 4, none⟩ = some v4 ∧ w.cell? ⟨g, 5, none⟩ = some v5 ∧ w.cell? ⟨g, 6, none⟩ = some v6 :=
  ⟨hb.cell 0, hb.cell 1, hb.cell 2, hb.cell 3, hb.cell 4, hb.cell 5, hb.cell 6⟩

set_option maxRecDepth 100000 in
theorem copy_any (t : Task) (p : List Ins) (w : World) (hn : p.length = t.len) (hx : Prg w t.A p) (b1 : t.len ≤ 5000) :
    Calls Tryd.prog 13 #[.agg #[.int .i64 t.kind, .int .i64 t.prio, .int .i64 t.per, .int .i64 t.off, .int .i64 t.dl, .int .i64 t.own, .slice t.A t.len t.cap]] w (Copied w t p) := by
  obtain ⟨i0, hi, hz0, hz1, hz2⟩ := info_parts ins_info
  obtain ⟨kind, prio, per, off, dl, own, A, len, cap⟩ := t
  have HN := Lib.hid hn
  have HX := Lib.hid hx
  simp only at HN HX b1
  clear hn hx
  cases A with
  | none =>
    have hp : p = [] := by
      cases p with
      | nil => rfl
      | cons x p =>
        obtain ⟨b, o, h, _⟩ := HX.out 0 x rfl
        cases h
    subst hp
    have hl : len = 0 := HN.out.symm
    subst hl
    go_enter Tryd.func13, Tryd.ntmps13
    go_wp2_with (at_builtin; go_loud (refine wpList_app0 rfl _ (.tmp 4) 30 rfl 35 i0 Tryd.underlying30 hi _ rfl rfl ?_))
    have hbz : Blk ((w.alloc (.cells #[.int .i64 kind, .int .i64 prio, .int .i64 per, .int .i64 off, .int .i64 dl, .int .i64 own, .slice none 0 0] 32)).alloc (.cells #[.int .i64 kind, .int .i64 prio, .int .i64 per, .int .i64 off, .int .i64 dl, .int .i64 own, .slice none 0 0] 32)) (w.heap.size + 1) 32 #[.int .i64 kind, .int .i64 prio, .int .i64 per, .int .i64 off, .int .i64 dl, .int .i64 own, .slice none 0 0] := by
      have h := Blk.new (w.alloc (.cells #[.int .i64 kind, .int .i64 prio, .int .i64 per, .int .i64 off, .int .i64 dl, .int .i64 own, .slice none 0 0] 32)) 32 #[.int .i64 kind, .int .i64 prio, .int .i64 per, .int .i64 off, .int .i64 dl, .int .i64 own, .slice none 0 0]
      simpa using h
    refine bodyPost_ret (v := .agg #[.int .i64 kind, .int .i64 prio, .int .i64 per, .int .i64 off, .int .i64 dl, .int .i64 own, .slice none 0 0]) (results_cell_row Tryd.results13 _ _ (w.heap.size + 1) 32 #[.int .i64 kind, .int .i64 prio, .int .i64 per, .int .i64 off, .int .i64 dl, .int .i64 own, .slice none 0 0] (0, 0) _ rfl hbz Tryd.underlying32 rfl task_size) rfl ?_
    exact copied_mk (t := ⟨kind, prio, per, off, dl, own, none, 0, cap⟩) (OwnK.none _ _ _ _) (((Same.refl _).alloc _).alloc _)
  | some ad =>
    have hb0 := (Blk.new w 32 #[.int .i64 kind, .int .i64 prio, .int .i64 per, .int .i64 off, .int .i64 dl, .int .i64 own, .slice (some ad) len cap]).same ((Same.refl _).alloc (.cells #[.int .i64 0, .int .i64 0, .int .i64 0, .int .i64 0, .int .i64 0, .int .i64 0, .slice none 0 0] 32))
    have hb1 : Blk ((w.alloc (.cells #[.int .i64 kind, .int .i64 prio, .int .i64 per, .int .i64 off, .int .i64 dl, .int .i64 own, .slice (some ad) len cap] 32)).alloc (.cells #[.int .i64 0, .int .i64 0, .int .i64 0, .int .i64 0, .int .i64 0, .int .i64 0, .slice none 0 0] 32)) (w.heap.size + 1) 32 #[.int .i64 0, .int .i64 0, .int .i64 0, .int .i64 0, .int .i64 0, .int .i64 0, .slice none 0 0] := by
      have h := Blk.new (w.alloc (.cells #[.int .i64 kind, .int .i64 prio, .int .i64 per, .int .i64 off, .int .i64 dl, .int .i64 own, .slice (some ad) len cap] 32)) 32 #[.int .i64 0, .int .i64 0, .int .i64 0, .int .i64 0, .int .i64 0, .int .i64 0, .slice none 0 0]
      simpa using h
    have HB0 := Lib.hid hb0
    have HB1 := Lib.hid hb1
    have HSW := Lib.hid (((Same.refl w).alloc (.cells #[.int .i64 kind, .int .i64 prio, .int .i64 per, .int .i64 off, .int .i64 dl, .int .i64 own, .slice (some ad) len cap] 32)).alloc (.cells #[.int .i64 0, .int .i64 0, .int .i64 0, .int .i64 0, .int .i64 0, .int .i64 0, .slice none 0 0] 32))
    clear hb0 hb1
    go_enter Tryd.func13, Tryd.ntmps13
    go_wp2_with (at_builtin; go_loud (refine wpList_appK rfl _ (.tmp 4) 30 rfl w.heap.size 35 i0 _ 5 40 Tryd.underlying30 hi hz0 hz1 hz2 rfl (by omega) none 0 0 [] rfl (OwnK.none _ _ _ _) ad len cap (pflat p) rfl ?c1 ?c2 (pflat_one p) (by omega) (by omega) ?c4 ?_))
    case c1 => rw [pflat_len, HN.out]
    case c2 => exact (row_prg HX.out).same HSW.out
    case c4 => exact HSW.out.size
    intro A2 c2 w2 ho2 hc2
    have s2 : Same _ w2 := hc2.weak (fun g _ h => by cases h)
    have HO2 := Lib.hid ho2
    have HB0' := Lib.hid (HB0.out.same s2)
    have HB1' := Lib.hid (HB1.out.same s2)
    have HS2 := Lib.hid (HSW.out.trans s2)
    clear s2 ho2 hc2 HB0 HB1 HSW
    generalize hq : w.heap.size = q at *
    obtain ⟨a0, a1, a2, a3, a4, a5, a6⟩ := task_cells HB0'.out
    obtain ⟨z0, z1, z2, z3, z4, z5, z6⟩ := task_cells HB1'.out
    have t0 := HB0'.out.thaw 6
    obtain ⟨y0, y1, y2, y3, y4, y5, y6⟩ := (⟨HB1'.out.thaw 0, HB1'.out.thaw 1, HB1'.out.thaw 2, HB1'.out.thaw 3, HB1'.out.thaw 4, HB1'.out.thaw 5, HB1'.out.thaw 6⟩ : _ ∧ _ ∧ _ ∧ _ ∧ _ ∧ _ ∧ _)
    go_wp2_with fail
    have hq2 : ¬ q + 1 = q := by omega
    have h := ((((((((HB1'.out.chg (S := fun g => g = q) ((Chg.refl (fun g => g = q) w2).set (p := ⟨q, 6, none⟩) (.inl rfl) (.slice A2 len c2)) hq2).put 0 (.int .i64 kind)).put 1 (.int .i64 prio)).put 2 (.int .i64 per)).put 3 (.int .i64 off)).put 4 (.int .i64 dl)).put 5 (.int .i64 own)).put 6 (.slice A2 len c2))
    have hs : Same w (((((((((w2.setCell ⟨q, 6, none⟩ (.slice A2 len c2)).setCell ⟨q + 1, 0, none⟩ (.int .i64 kind)).setCell ⟨q + 1, 1, none⟩ (.int .i64 prio)).setCell ⟨q + 1, 2, none⟩ (.int .i64 per)).setCell ⟨q + 1, 3, none⟩ (.int .i64 off)).setCell ⟨q + 1, 4, none⟩ (.int .i64 dl)).setCell ⟨q + 1, 5, none⟩ (.int .i64 own)).setCell ⟨q + 1, 6, none⟩ (.slice A2 len c2))) :=
      (((((((HS2.out.set (p := ⟨q, 6, none⟩) (.inr (by simp; omega)) _).set (p := ⟨q + 1, 0, none⟩) (.inr (by simp; omega)) _).set (p := ⟨q + 1, 1, none⟩) (.inr (by simp; omega)) _).set (p := ⟨q + 1, 2, none⟩) (.inr (by simp; omega)) _).set (p := ⟨q + 1, 3, none⟩) (.inr (by simp; omega)) _).set (p := ⟨q + 1, 4, none⟩) (.inr (by simp; omega)) _).set (p := ⟨q + 1, 5, none⟩) (.inr (by simp; omega)) _).set (p := ⟨q + 1, 6, none⟩) (.inr (by simp; omega)) _
    have n0 : ∀ g, A2 = some ⟨g, 0, none⟩ → ¬ (g = q ∨ g = q + 1) := by
      intro g hg hh
      rcases hh with rfl | rfl
      · exact HO2.out.ne HB0'.out (by decide) _ hg rfl
      · exact HO2.out.ne HB1'.out (by decide) _ hg rfl
    have hc : Chg (fun g => g = q ∨ g = q + 1) w2 (((((((((w2.setCell ⟨q, 6, none⟩ (.slice A2 len c2)).setCell ⟨q + 1, 0, none⟩ (.int .i64 kind)).setCell ⟨q + 1, 1, none⟩ (.int .i64 prio)).setCell ⟨q + 1, 2, none⟩ (.int .i64 per)).setCell ⟨q + 1, 3, none⟩ (.int .i64 off)).setCell ⟨q + 1, 4, none⟩ (.int .i64 dl)).setCell ⟨q + 1, 5, none⟩ (.int .i64 own)).setCell ⟨q + 1, 6, none⟩ (.slice A2 len c2))) :=
      ((((((((Chg.refl (fun g => g = q ∨ g = q + 1) w2).set (p := ⟨q, 6, none⟩) (.inl (.inl rfl)) _).set (p := ⟨q + 1, 0, none⟩) (.inl (.inr rfl)) _).set (p := ⟨q + 1, 1, none⟩) (.inl (.inr rfl)) _).set (p := ⟨q + 1, 2, none⟩) (.inl (.inr rfl)) _).set (p := ⟨q + 1, 3, none⟩) (.inl (.inr rfl)) _).set (p := ⟨q + 1, 4, none⟩) (.inl (.inr rfl)) _).set (p := ⟨q + 1, 5, none⟩) (.inl (.inr rfl)) _).set (p := ⟨q + 1, 6, none⟩) (.inl (.inr rfl)) _
    refine bodyPost_ret (v := .agg #[.int .i64 kind, .int .i64 prio, .int .i64 per, .int .i64 off, .int .i64 dl, .int .i64 own, .slice A2 len c2]) (results_cell_row Tryd.results13 _ _ (q + 1) 32 #[.int .i64 kind, .int .i64 prio, .int .i64 per, .int .i64 off, .int .i64 dl, .int .i64 own, .slice A2 len c2] (0, 0) _ rfl h Tryd.underlying32 rfl task_size) rfl ?_
    have ho := HO2.out.chg hc n0
    subst hq
    exact copied_mk (t := ⟨kind, prio, per, off, dl, own, some ad, len, cap⟩) ho hs

end Go.Proofs.YtaclphhbdfoaeaaDoor.Tk
end
section
set_option linter.unusedVariables false
set_option linter.unusedSimpArgs false
namespace Go.Proofs.YtaclphhbdfoaeaaDoor.Im
open Go.ChangeShapes Go.WideShapes Go.ChangeAt Go.RowKit Ws

def fpI (x : Ins) : Fp.Ins := ⟨x.op, x.a, x.b, x.c, x.n⟩
theorem fp_flat (l : List Ins) : Tk.pflat (l.map fpI) = l.flatMap icells := by
  unfold Tk.pflat
  rw [List.flatMap_map]
  rfl
theorem prg_of {w : World} {A : Option Addr} {l : List Ins} (h : Code w A l) : Tk.Prg w A (l.map fpI) := by
  intro i x hx
  rw [List.getElem?_map] at hx
  obtain ⟨y, hy, rfl⟩ := Option.map_eq_some_iff.1 hx
  exact (h i y hy).2
/-- two tasks whose programs lie in blocks of their own -/
def Apt (a b : DT) : Prop := ∀ g, a.X = some ⟨g, 0, none⟩ → b.X = some ⟨g, 0, none⟩ → False
def EachT (w : World) (s : List PT) (n : Nat) (e : Ending) (w' : World) : Prop := ∃ (A' : Option Addr) (c' : Nat) (ds : List DT), e = .returned (.slice A' n c') ∧ ds.map (·.p) = s ∧ OwnK w' w.heap.size 32 7 A' n c' (ds.flatMap DT.cells) ∧ (∀ d ∈ ds, d.ok w' w.heap.size) ∧ ds.Pairwise Apt ∧ Same w w'
theorem eachT_mk {w w' : World} {s : List PT} {n : Nat} {A' : Option Addr} {c' : Nat} {ds : List DT} (h1 : ds.map (·.p) = s) (h2 : OwnK w' w.heap.size 32 7 A' n c' (ds.flatMap DT.cells)) (h3 : ∀ d ∈ ds, d.ok w' w.heap.size) (h4 : ds.Pairwise Apt) (h5 : Same w w') : EachT w s n (.returned (.slice A' n c')) w' := ⟨A', c', ds, rfl, h1, h2, h3, h4, h5⟩
set_option maxRecDepth 100000 in
set_option maxHeartbeats 2000000 in
theorem eachT_any (A : Option Addr) (n c : Nat) (s : List PT) (w : World) (hn : s.length = n) (hs : TsAt w A s) (hf : ∀ p ∈ s, p.code.length ≤ 200) (hnb : n ≤ 60) :
    Calls Tryd.prog 12 #[.slice A n c, .func (.func 13) #[] #[]] w (EachT w s n) := by
  obtain ⟨i0, hi, hz0, hz1, hz2⟩ := info_parts tk_info
  have HN := Lib.hid hn
  have HT := Lib.hid hs
  have HF := Lib.hid hf
  clear hn hs hf
  go_enter Tryd.func12, Tryd.ntmps12
  go_wp2_with fail
  go_loopg [10, 5] n (fun gk iv sv wx => ∃ (k : Nat) (A' : Option Addr) (c' : Nat) (ds : List DT), k + gk = n ∧ iv = .int .i64 k ∧ sv = .slice A' k c' ∧ ds.map (·.p) = s.take k ∧ OwnK wx w.heap.size 32 7 A' k c' (ds.flatMap DT.cells) ∧ (∀ d ∈ ds, d.ok wx w.heap.size) ∧ ds.Pairwise Apt ∧ Same w wx)
  case atStart => exact ⟨0, none, 0, [], by omega, rfl, rfl, rfl, OwnK.none _ _ _ _, fun d hd => by simp at hd, List.Pairwise.nil, Same.refl _⟩
  case round =>
    obtain ⟨k, A', c', ds, hk, rfl, rfl, hd, ho, hok, hpw, hc⟩ := hrel
    have HD := Lib.hid hd
    have HO := Lib.hid ho
    have HOK := Lib.hid hok
    have HPW := Lib.hid hpw
    have HC := Lib.hid hc
    clear hd ho hok hpw hc
    cases gk with
    | zero =>
      obtain rfl : k = n := by omega
      have hge : ¬ (k : Int) < (k : Int) := by omega
      go_wp2_with fail
      go_ret
      refine eachT_mk ?_ HO.out HOK.out HPW.out HC.out
      rw [HD.out, List.take_of_length_le (by have := HN.out; omega)]
    | succ GK =>
      have hlt : (k : Int) < n := by omega
      have k0 : (0 : Int) ≤ k := by omega
      obtain ⟨x, hx⟩ : ∃ x, s[k]? = some x := ⟨_, List.getElem?_eq_getElem (by have := HN.out; omega)⟩
      obtain ⟨b, o, rfl, X, cX, e0, e1, e2, e3, e4, e5, e6, hcx, hlx⟩ := (HT.out.same HC.out).at_ hx
      have HGX := Lib.hid (take_get hx)
      have HLX := Lib.hid (HF.out x (List.mem_of_getElem? hx))
      have hs1 := (Same.refl wr).alloc (.cells #[.int .i64 x.kind, .int .i64 x.prio, .int .i64 x.per, .int .i64 x.off, .int .i64 x.dl, .int .i64 x.own, .slice X x.code.length cX] 32)
      have hb1 := Blk.new wr 32 #[.int .i64 x.kind, .int .i64 x.prio, .int .i64 x.per, .int .i64 x.off, .int .i64 x.dl, .int .i64 x.own, .slice X x.code.length cX]
      have CP := Lib.hid (Tk.copy_any ⟨x.kind, x.prio, x.per, x.off, x.dl, x.own, X, x.code.length, cX⟩ (x.code.map fpI) (wr.alloc (.cells #[.int .i64 x.kind, .int .i64 x.prio, .int .i64 x.per, .int .i64 x.off, .int .i64 x.dl, .int .i64 x.own, .slice X x.code.length cX] 32)) (List.length_map _) (prg_of (hcx.same hs1)) (by show x.code.length ≤ 5000; have := HLX.out; omega))
      have z0 := hb1.cell 0
      have z1 := hb1.cell 1
      have z2 := hb1.cell 2
      have z3 := hb1.cell 3
      have z4 := hb1.cell 4
      have z5 := hb1.cell 5
      have z6 := hb1.cell 6
      simp only [List.getElem?_toArray, List.getElem?_cons_zero, List.getElem?_cons_succ] at z0 z1 z2 z3 z4 z5 z6
      have HS1 := Lib.hid hs1
      have hsz1 := hs1.size
      have HSZ1 := Lib.hid hsz1
      clear hx hcx hs1 hb1 hsz1
      go_wp2_with fail
      refine CP.out.mono ?_
      rintro e w1 ⟨X2, cX2, rfl, hco, s1⟩
      dsimp only
      rw [fp_flat] at hco
      have HCO := Lib.hid hco
      have HW1 := Lib.hid (HS1.out.trans s1)
      have HC1 := Lib.hid (HC.out.trans HW1.out)
      have HO1 := Lib.hid (HO.out.same HW1.out)
      have HOK1 := Lib.hid (fun d hd => (HOK.out d hd).keep HW1.out (fun _ _ f => f))
      have hbw : w.heap.size ≤ wr.heap.size := HC.out.size
      have HNEW := Lib.hid (show ∀ d ∈ ds, Apt d ⟨x, X2, cX2⟩ from fun d hd g h1 h2 => by
        have g1 : d.X = some ⟨g, 0, none⟩ := h1
        have g2 : X2 = some ⟨g, 0, none⟩ := h2
        have h3 := HOK.out d hd
        unfold DT.ok at h3
        rw [g1] at h3
        have h4 := ownK_ge HCO.out g2
        have h5 := h3.lt.2.1
        have := HSZ1.out
        omega)
      have HDK := Lib.hid (show DT.ok w1 w.heap.size ⟨x, X2, cX2⟩ from OwnK.base HCO.out (by have := HSZ1.out; omega))
      have hsw := HC1.out.size
      clear hco s1 z0 z1 z2 z3 z4 z5 z6 e0 e1 e2 e3 e4 e5 e6 HCO HOK HO
      go_wp2_with (at_builtin; go_loud (refine wpList_appK rfl (.tmp 14) (.tmp 18) 22 rfl w.heap.size 32 i0 _ 7 72 Tryd.underlying22 hi hz0 hz1 hz2 rfl (by omega) A' k c' (ds.flatMap DT.cells) rfl (HO1.out.same ((Same.refl _).alloc _)) _ 1 1 [.int .i64 x.kind, .int .i64 x.prio, .int .i64 x.per, .int .i64 x.off, .int .i64 x.dl, .int .i64 x.own, .slice X2 x.code.length cX2] rfl rfl (row_new _ _ _) ?c1 (by omega) (by omega) ?c2 ?_))
      case c1 => (first | exact ⟨rfl, rfl, rfl, rfl, rfl, rfl, rfl⟩ | (intro u hu; simp only [List.mem_cons, List.not_mem_nil, or_false] at hu; rcases hu with rfl | rfl | rfl | rfl | rfl | rfl | rfl <;> rfl))
      case c2 => (first | omega | (simp; omega))
      intro A2 c2 w2 ho2 hc2
      have HA := Lib.hid (fun i (hi : A' = some ⟨i, 0, none⟩) => ownK_ge HO1.out hi)
      have HC2 := Lib.hid (chg_up (HC1.out.alloc _) hc2 HA.out)
      have HO2 := Lib.hid ho2
      have HOK2 := Lib.hid (fun d hd => ((HOK1.out d hd).keep ((Same.refl _).alloc _) (fun _ _ f => f)).row (HO1.out.same ((Same.refl _).alloc _)) hc2 (by decide))
      have HDK2 := Lib.hid ((HDK.out.keep ((Same.refl _).alloc _) (fun _ _ f => f)).row (HO1.out.same ((Same.refl _).alloc _)) hc2 (by decide))
      clear ho2 hc2 HC1 HO1 HA HOK1 HDK
      go_wp2_with fail
      go_roundg GK
      case measure => omega
      case rel =>
        refine ⟨k + 1, A2, c2, ds ++ [⟨x, X2, cX2⟩], by omega, by go_num, rfl, ?_, ?_, ?_, ?_, HC2.out⟩
        · rw [HGX.out, List.map_append, HD.out]
          rfl
        · rw [fm_snoc]
          exact HO2.out
        · intro d hd
          rcases List.mem_append.1 hd with hd | hd
          · exact HOK2.out d hd
          · rw [List.mem_singleton] at hd
            subst hd
            exact HDK2.out
        · rw [List.pairwise_append]
          refine ⟨HPW.out, List.pairwise_singleton _ _, fun a ha b hb => ?_⟩
          rw [List.mem_singleton] at hb
          subst hb
          exact HNEW.out a ha
end Go.Proofs.YtaclphhbdfoaeaaDoor.Im
end
