/-

  A task's copy: its program in a row of its own.
-/
import Derived.Test.YtejajmdmfipplabTaskCode
set_option linter.unusedVariables false
set_option linter.unusedSimpArgs false
namespace Go.Proofs.Ytejajmdmfipplab.Tk
open Go.ChangeShapes Go.WideShapes Go.ChangeAt Go.RowKit Ws
open Go.Proofs.Ytejajmdmfipplab.Wd (ret_bool ret_int)
open Go.Proofs.Ytejajmdmfipplab.Fp (Ins)

theorem wpList_app0 {P : Program} {w : World} {ops : Array Oper} {rest : List Oper} {o : Oper} {a : Act} {Q : Exit → Act → World → Prop} (hgd : o.guard = none) (s x : Operand) (t : TypeId)
    (ho : o.op = .call { callee := .builtin .append, args := #[s, x], argTypes := #[t, t] })
    (e : TypeId) (i : TypeInfo) (ht : P.underlying t = some (.slice e)) (hi : P.info? e = some i) (d : Nat)
    (hs : a.eval s = .slice none 0 0) (hx : a.eval x = .slice none 0 d)
    (h : wpList P ops Q rest (a.put o.dst (.slice none 0 0)) w) :
    wpList P ops Q (o :: rest) a w := by
  refine wpList_plain hgd fun K hK => ?_
  have hr : (Builtin.append_ #[t, t] o.type #[.slice none 0 0, .slice none 0 d]).run P w = .ok (.slice none 0 0) w := by
    simp [Builtin.append_, run_underlying ht, sizeOf, typeInfo, hi, Builtin.lenOf, Builtin.firstCells]
  unfold Oper.wp execOp
  simp only [ho, resolve, invoke, builtin, Sem.run_bind, Sem.run_pure, Result.andThen_ok, List.map_toArray, List.map_cons, List.map_nil, hs, hx, hr]
  exact hK _ _ h

theorem task_size : (Try.prog.info? 49).map (·.size) = some 7 := by kernel_rfl
theorem task_cells {w : World} {g : Nat} {v0 v1 v2 v3 v4 v5 v6 : Value} (hb : Blk w g 49 #[v0, v1, v2, v3, v4, v5, v6]) :
    w.cell? ⟨g, 0, none⟩ = some v0 ∧ w.cell? ⟨g, 1, none⟩ = some v1 ∧ w.cell? ⟨g, 2, none⟩ = some v2 ∧ w.cell? ⟨g, 3, none⟩ = some v3 ∧ w.cell? ⟨g, 4, none⟩ = some v4 ∧ w.cell? ⟨g, 5, none⟩ = some v5 ∧ w.cell? ⟨g, 6, none⟩ = some v6 :=
  ⟨hb.cell 0, hb.cell 1, hb.cell 2, hb.cell 3, hb.cell 4, hb.cell 5, hb.cell 6⟩

set_option maxRecDepth 100000 in
theorem copy_any (t : Task) (p : List Ins) (w : World) (hn : p.length = t.len) (hx : Prg w t.A p) (b1 : t.len ≤ 5000) :
    Calls Try.prog 20 #[.agg #[.int .i64 t.kind, .int .i64 t.prio, .int .i64 t.per, .int .i64 t.off, .int .i64 t.dl, .int .i64 t.own, .slice t.A t.len t.cap]] w (Copied w t p) := by
  obtain ⟨i0, hi, hz0, hz1, hz2⟩ := info_parts ins_info
  obtain ⟨kind, prio, per, off, dl, own, A, len, cap⟩ := t
  have HN := Lib.hid hn
  have HX := Lib.hid hx
  simp only at HN HX b1
  clear hn hx
  cases A with
  | none =>
    have hp : p = [] := by
      cases p with
      | nil => rfl
      | cons x p =>
        obtain ⟨b, o, h, _⟩ := HX.out 0 x rfl
        cases h
    subst hp
    have hl : len = 0 := HN.out.symm
    subst hl
    go_enter Try.func20, Try.ntmps20
    go_wp2_with (at_builtin; go_loud (refine wpList_app0 rfl _ (.tmp 4) 47 rfl 53 i0 Try.underlying47 hi _ rfl rfl ?_))
    have hbz : Blk ((w.alloc (.cells #[.int .i64 kind, .int .i64 prio, .int .i64 per, .int .i64 off, .int .i64 dl, .int .i64 own, .slice none 0 0] 49)).alloc (.cells #[.int .i64 kind, .int .i64 prio, .int .i64 per, .int .i64 off, .int .i64 dl, .int .i64 own, .slice none 0 0] 49)) (w.heap.size + 1) 49 #[.int .i64 kind, .int .i64 prio, .int .i64 per, .int .i64 off, .int .i64 dl, .int .i64 own, .slice none 0 0] := by
      have h := Blk.new (w.alloc (.cells #[.int .i64 kind, .int .i64 prio, .int .i64 per, .int .i64 off, .int .i64 dl, .int .i64 own, .slice none 0 0] 49)) 49 #[.int .i64 kind, .int .i64 prio, .int .i64 per, .int .i64 off, .int .i64 dl, .int .i64 own, .slice none 0 0]
      simpa using h
    refine bodyPost_ret (v := .agg #[.int .i64 kind, .int .i64 prio, .int .i64 per, .int .i64 off, .int .i64 dl, .int .i64 own, .slice none 0 0]) (results_cell_row Try.results20 _ _ (w.heap.size + 1) 49 #[.int .i64 kind, .int .i64 prio, .int .i64 per, .int .i64 off, .int .i64 dl, .int .i64 own, .slice none 0 0] (0, 0) _ rfl hbz Try.underlying49 rfl task_size) rfl ?_
    exact copied_mk (t := ⟨kind, prio, per, off, dl, own, none, 0, cap⟩) (OwnK.none _ _ _ _) (((Same.refl _).alloc _).alloc _)
  | some ad =>
    have hb0 := (Blk.new w 49 #[.int .i64 kind, .int .i64 prio, .int .i64 per, .int .i64 off, .int .i64 dl, .int .i64 own, .slice (some ad) len cap]).same ((Same.refl _).alloc (.cells #[.int .i64 0, .int .i64 0, .int .i64 0, .int .i64 0, .int .i64 0, .int .i64 0, .slice none 0 0] 49))
    have hb1 : Blk ((w.alloc (.cells #[.int .i64 kind, .int .i64 prio, .int .i64 per, .int .i64 off, .int .i64 dl, .int .i64 own, .slice (some ad) len cap] 49)).alloc (.cells #[.int .i64 0, .int .i64 0, .int .i64 0, .int .i64 0, .int .i64 0, .int .i64 0, .slice none 0 0] 49)) (w.heap.size + 1) 49 #[.int .i64 0, .int .i64 0, .int .i64 0, .int .i64 0, .int .i64 0, .int .i64 0, .slice none 0 0] := by
      have h := Blk.new (w.alloc (.cells #[.int .i64 kind, .int .i64 prio, .int .i64 per, .int .i64 off, .int .i64 dl, .int .i64 own, .slice (some ad) len cap] 49)) 49 #[.int .i64 0, .int .i64 0, .int .i64 0, .int .i64 0, .int .i64 0, .int .i64 0, .slice none 0 0]
      simpa using h
    have HB0 := Lib.hid hb0
    have HB1 := Lib.hid hb1
    have HSW := Lib.hid (((Same.refl w).alloc (.cells #[.int .i64 kind, .int .i64 prio, .int .i64 per, .int .i64 off, .int .i64 dl, .int .i64 own, .slice (some ad) len cap] 49)).alloc (.cells #[.int .i64 0, .int .i64 0, .int .i64 0, .int .i64 0, .int .i64 0, .int .i64 0, .slice none 0 0] 49))
    clear hb0 hb1
    go_enter Try.func20, Try.ntmps20
    go_wp2_with (at_builtin; go_loud (refine wpList_appK rfl _ (.tmp 4) 47 rfl w.heap.size 53 i0 _ 5 40 Try.underlying47 hi hz0 hz1 hz2 rfl (by omega) none 0 0 [] rfl (OwnK.none _ _ _ _) ad len cap (pflat p) rfl ?c1 ?c2 (pflat_one p) (by omega) (by omega) ?c4 ?_))
    case c1 => rw [pflat_len, HN.out]
    case c2 => exact (row_prg HX.out).same HSW.out
    case c4 => exact HSW.out.size
    intro A2 c2 w2 ho2 hc2
    have s2 : Same _ w2 := hc2.weak (fun g _ h => by cases h)
    have HO2 := Lib.hid ho2
    have HB0' := Lib.hid (HB0.out.same s2)
    have HB1' := Lib.hid (HB1.out.same s2)
    have HS2 := Lib.hid (HSW.out.trans s2)
    clear s2 ho2 hc2 HB0 HB1 HSW
    generalize hq : w.heap.size = q at *
    obtain ⟨a0, a1, a2, a3, a4, a5, a6⟩ := task_cells HB0'.out
    obtain ⟨z0, z1, z2, z3, z4, z5, z6⟩ := task_cells HB1'.out
    have t0 := HB0'.out.thaw 6
    obtain ⟨y0, y1, y2, y3, y4, y5, y6⟩ := (⟨HB1'.out.thaw 0, HB1'.out.thaw 1, HB1'.out.thaw 2, HB1'.out.thaw 3, HB1'.out.thaw 4, HB1'.out.thaw 5, HB1'.out.thaw 6⟩ : _ ∧ _ ∧ _ ∧ _ ∧ _ ∧ _ ∧ _)
    go_wp2_with fail
    have hq2 : ¬ q + 1 = q := by omega
    have h := ((((((((HB1'.out.chg (S := fun g => g = q) ((Chg.refl (fun g => g = q) w2).set (p := ⟨q, 6, none⟩) (.inl rfl) (.slice A2 len c2)) hq2).put 0 (.int .i64 kind)).put 1 (.int .i64 prio)).put 2 (.int .i64 per)).put 3 (.int .i64 off)).put 4 (.int .i64 dl)).put 5 (.int .i64 own)).put 6 (.slice A2 len c2))
    have hs : Same w (((((((((w2.setCell ⟨q, 6, none⟩ (.slice A2 len c2)).setCell ⟨q + 1, 0, none⟩ (.int .i64 kind)).setCell ⟨q + 1, 1, none⟩ (.int .i64 prio)).setCell ⟨q + 1, 2, none⟩ (.int .i64 per)).setCell ⟨q + 1, 3, none⟩ (.int .i64 off)).setCell ⟨q + 1, 4, none⟩ (.int .i64 dl)).setCell ⟨q + 1, 5, none⟩ (.int .i64 own)).setCell ⟨q + 1, 6, none⟩ (.slice A2 len c2))) :=
      (((((((HS2.out.set (p := ⟨q, 6, none⟩) (.inr (by simp; omega)) _).set (p := ⟨q + 1, 0, none⟩) (.inr (by simp; omega)) _).set (p := ⟨q + 1, 1, none⟩) (.inr (by simp; omega)) _).set (p := ⟨q + 1, 2, none⟩) (.inr (by simp; omega)) _).set (p := ⟨q + 1, 3, none⟩) (.inr (by simp; omega)) _).set (p := ⟨q + 1, 4, none⟩) (.inr (by simp; omega)) _).set (p := ⟨q + 1, 5, none⟩) (.inr (by simp; omega)) _).set (p := ⟨q + 1, 6, none⟩) (.inr (by simp; omega)) _
    have n0 : ∀ g, A2 = some ⟨g, 0, none⟩ → ¬ (g = q ∨ g = q + 1) := by
      intro g hg hh
      rcases hh with rfl | rfl
      · exact HO2.out.ne HB0'.out (by decide) _ hg rfl
      · exact HO2.out.ne HB1'.out (by decide) _ hg rfl
    have hc : Chg (fun g => g = q ∨ g = q + 1) w2 (((((((((w2.setCell ⟨q, 6, none⟩ (.slice A2 len c2)).setCell ⟨q + 1, 0, none⟩ (.int .i64 kind)).setCell ⟨q + 1, 1, none⟩ (.int .i64 prio)).setCell ⟨q + 1, 2, none⟩ (.int .i64 per)).setCell ⟨q + 1, 3, none⟩ (.int .i64 off)).setCell ⟨q + 1, 4, none⟩ (.int .i64 dl)).setCell ⟨q + 1, 5, none⟩ (.int .i64 own)).setCell ⟨q + 1, 6, none⟩ (.slice A2 len c2))) :=
      ((((((((Chg.refl (fun g => g = q ∨ g = q + 1) w2).set (p := ⟨q, 6, none⟩) (.inl (.inl rfl)) _).set (p := ⟨q + 1, 0, none⟩) (.inl (.inr rfl)) _).set (p := ⟨q + 1, 1, none⟩) (.inl (.inr rfl)) _).set (p := ⟨q + 1, 2, none⟩) (.inl (.inr rfl)) _).set (p := ⟨q + 1, 3, none⟩) (.inl (.inr rfl)) _).set (p := ⟨q + 1, 4, none⟩) (.inl (.inr rfl)) _).set (p := ⟨q + 1, 5, none⟩) (.inl (.inr rfl)) _).set (p := ⟨q + 1, 6, none⟩) (.inl (.inr rfl)) _
    refine bodyPost_ret (v := .agg #[.int .i64 kind, .int .i64 prio, .int .i64 per, .int .i64 off, .int .i64 dl, .int .i64 own, .slice A2 len c2]) (results_cell_row Try.results20 _ _ (q + 1) 49 #[.int .i64 kind, .int .i64 prio, .int .i64 per, .int .i64 off, .int .i64 dl, .int .i64 own, .slice A2 len c2] (0, 0) _ rfl h Try.underlying49 rfl task_size) rfl ?_
    have ho := HO2.out.chg hc n0
    subst hq
    exact copied_mk (t := ⟨kind, prio, per, off, dl, own, some ad, len, cap⟩) ho hs

end Go.Proofs.Ytejajmdmfipplab.Tk
