/-

  Layer 13: a step of a frame, apart (frame.Step): how the work begins, and how its frame is told.
-/
import Derived.Test.YtiipdeionmndcaaDoorFrmMay
import Derived.Test.YtiipdeionmndcaaDoorOperApp
import Derived.Deep.CutBlock
import Derived.Deep.LoopGhost
set_option linter.unusedVariables false
set_option linter.unusedSimpArgs false
namespace Go.Proofs.YtiipdeionmndcaaDoor.Fr
open Go.ChangeShapes Go.WideShapes Go.ChangeAt Go.RowKit Ws
open Go.Proofs.YtiipdeionmndcaaDoor.Fp (Ins at_ Fine at_some)
open Go.Proofs.YtiipdeionmndcaaDoor.Fw (Prg okB ckE check_any okB_fine rightI)
open Go.Proofs.YtiipdeionmndcaaDoor.Is (Tabs)

theorem puts14 {w : World} {b : Nat} {T : TypeId} {z0 z1 z2 z3 z4 z5 z6 z7 z8 z9 z10 z11 z12 z13 v0 v1 v2 v3 v4 v5 v6 v7 v8 v9 v10 v11 v12 v13 : Value} (h : Blk w b T #[z0, z1, z2, z3, z4, z5, z6, z7, z8, z9, z10, z11, z12, z13]) : Blk ((((((((((((((w.setCell ⟨b, 0, none⟩ v0).setCell ⟨b, 1, none⟩ v1).setCell ⟨b, 2, none⟩ v2).setCell ⟨b, 3, none⟩ v3).setCell ⟨b, 4, none⟩ v4).setCell ⟨b, 5, none⟩ v5).setCell ⟨b, 6, none⟩ v6).setCell ⟨b, 7, none⟩ v7).setCell ⟨b, 8, none⟩ v8).setCell ⟨b, 9, none⟩ v9).setCell ⟨b, 10, none⟩ v10).setCell ⟨b, 11, none⟩ v11).setCell ⟨b, 12, none⟩ v12).setCell ⟨b, 13, none⟩ v13) b T #[v0, v1, v2, v3, v4, v5, v6, v7, v8, v9, v10, v11, v12, v13] ∧ Chg (fun i => i = b) w ((((((((((((((w.setCell ⟨b, 0, none⟩ v0).setCell ⟨b, 1, none⟩ v1).setCell ⟨b, 2, none⟩ v2).setCell ⟨b, 3, none⟩ v3).setCell ⟨b, 4, none⟩ v4).setCell ⟨b, 5, none⟩ v5).setCell ⟨b, 6, none⟩ v6).setCell ⟨b, 7, none⟩ v7).setCell ⟨b, 8, none⟩ v8).setCell ⟨b, 9, none⟩ v9).setCell ⟨b, 10, none⟩ v10).setCell ⟨b, 11, none⟩ v11).setCell ⟨b, 12, none⟩ v12).setCell ⟨b, 13, none⟩ v13) :=
  ⟨by simpa using ((((((((((((((h.put 0 v0).put 1 v1).put 2 v2).put 3 v3).put 4 v4).put 5 v5).put 6 v6).put 7 v7).put 8 v8).put 9 v9).put 10 v10).put 11 v11).put 12 v12).put 13 v13), (((((((((((((((Chg.refl (fun i => i = b) w).set (p := ⟨b, 0, none⟩) (.inl rfl) v0).set (p := ⟨b, 1, none⟩) (.inl rfl) v1).set (p := ⟨b, 2, none⟩) (.inl rfl) v2).set (p := ⟨b, 3, none⟩) (.inl rfl) v3).set (p := ⟨b, 4, none⟩) (.inl rfl) v4).set (p := ⟨b, 5, none⟩) (.inl rfl) v5).set (p := ⟨b, 6, none⟩) (.inl rfl) v6).set (p := ⟨b, 7, none⟩) (.inl rfl) v7).set (p := ⟨b, 8, none⟩) (.inl rfl) v8).set (p := ⟨b, 9, none⟩) (.inl rfl) v9).set (p := ⟨b, 10, none⟩) (.inl rfl) v10).set (p := ⟨b, 11, none⟩) (.inl rfl) v11).set (p := ⟨b, 12, none⟩) (.inl rfl) v12).set (p := ⟨b, 13, none⟩) (.inl rfl) v13)⟩
theorem results_cell_tmp {P : Program} {fn : Func} {p t : Tmp} {ty : TypeId} (h : fn.results = #[.cell p ty, .tmp t]) (tmps : Array Value) (w : World) (g : Nat) (T : TypeId) (cs : Array Value) (fr : Nat × Nat) (d : TypeDesc)
    (hp : tmps.getD p undef = .pointer (some ⟨g, 0, none⟩)) (hg : w.heap[g]? = some (.cells cs T fr))
    (hu : P.underlying ty = some d) (hd : (match d with | .struct _ | .array _ _ => true | _ => false) = true) (hi : (P.info? ty).map (·.size) = some cs.size) :
    (results fn tmps).run P w = .ok (.tuple #[.agg cs, tmps.getD t undef]) w := by
  have hp' : tmps[p]?.getD undef = .pointer (some ⟨g, 0, none⟩) := by simpa using hp
  simp [results, h, hp', asAddr, run_loadVar_row w g T ty cs fr d hg hu hd hi]
theorem results_cell3 {P : Program} {fn : Func} {p t u : Tmp} {ty : TypeId} (h : fn.results = #[.cell p ty, .tmp t, .tmp u]) (tmps : Array Value) (w : World) (g : Nat) (T : TypeId) (cs : Array Value) (fr : Nat × Nat) (d : TypeDesc)
    (hp : tmps.getD p undef = .pointer (some ⟨g, 0, none⟩)) (hg : w.heap[g]? = some (.cells cs T fr))
    (hu : P.underlying ty = some d) (hd : (match d with | .struct _ | .array _ _ => true | _ => false) = true) (hi : (P.info? ty).map (·.size) = some cs.size) :
    (results fn tmps).run P w = .ok (.tuple #[.agg cs, tmps.getD t undef, tmps.getD u undef]) w := by
  have hp' : tmps[p]?.getD undef = .pointer (some ⟨g, 0, none⟩) := by simpa using hp
  simp [results, h, hp', asAddr, run_loadVar_row w g T ty cs fr d hg hu hd hi]
theorem own_ge1 {w : World} {B : Nat} {e : TypeId} {T' : Option Addr} {c' : Nat} {l : List Value} (ho : Own w B e T' c' l) : ∀ i, T' = some ⟨i, 0, none⟩ → B ≤ i := fun i hi => by
  rcases ho.2 with ⟨hz, _⟩ | ⟨g2, cap, cur, hv, hB, hg, _⟩
  · rw [hi] at hz; cases hz
  · rw [hi] at hv
    injection hv with hv
    injection hv with hv
    injection hv with hv
    exact hv ▸ hB
/-- the work begun -/
theorem mk13 {w0 w w4 : World} {R : Nat → Prop} {gm gx : Nat} {f : FS} {T' : Option Addr} {nT c' : Nat} {A : Option Addr} {m cA : Nat} {oa ol : Int} {ws : List Nat} {st : Int}
    (hb : Blk w4 gx 97 #[.int .i64 0, .int .u32 0, .int .u32 0, .int .u32 0, .int .u32 0, .int .u32 0, .int .u32 0, .int .u32 0, .int .u32 0, .slice none 0 0, .slice none 0 0, .pointer none, .int .i64 0, .int .i64 0]) (ho : Own w4 w.heap.size 3 T' c' (f.tn.map (Value.int .i64))) (hn : f.tn.length = nT) (hm : Mm.Mem w R gm (cst ws) st) (hs : Same w w4) (h0 : Same w0 w) (hR : ∀ i, R i → w0.heap.size ≤ i ∧ i < w.heap.size) (hgx : w.heap.size ≤ gx) :
    ∀ w5, w5 = ((((((((((((((w4.setCell ⟨gx, 0, none⟩ (.int .i64 f.pc)).setCell ⟨gx, 1, none⟩ (.int .u32 (rk f 0))).setCell ⟨gx, 2, none⟩ (.int .u32 (rk f 1))).setCell ⟨gx, 3, none⟩ (.int .u32 (rk f 2))).setCell ⟨gx, 4, none⟩ (.int .u32 (rk f 3))).setCell ⟨gx, 5, none⟩ (.int .u32 (rk f 4))).setCell ⟨gx, 6, none⟩ (.int .u32 (rk f 5))).setCell ⟨gx, 7, none⟩ (.int .u32 (rk f 6))).setCell ⟨gx, 8, none⟩ (.int .u32 (rk f 7))).setCell ⟨gx, 9, none⟩ (.slice T' nT c')).setCell ⟨gx, 10, none⟩ (.slice A m cA)).setCell ⟨gx, 11, none⟩ (.pointer (some ⟨gm, 0, none⟩))).setCell ⟨gx, 12, none⟩ (.int .i64 oa)).setCell ⟨gx, 13, none⟩ (.int .i64 ol)) → W13 w0 w5 R gx gm ⟨f, ws, st⟩ T' nT c' A m cA oa ol ∧ Same w w5 := by
  intro w5 h5
  obtain ⟨p1, p2⟩ := puts14 (v0 := .int .i64 f.pc) (v1 := .int .u32 (rk f 0)) (v2 := .int .u32 (rk f 1)) (v3 := .int .u32 (rk f 2)) (v4 := .int .u32 (rk f 3)) (v5 := .int .u32 (rk f 4)) (v6 := .int .u32 (rk f 5)) (v7 := .int .u32 (rk f 6)) (v8 := .int .u32 (rk f 7)) (v9 := .slice T' nT c') (v10 := .slice A m cA) (v11 := .pointer (some ⟨gm, 0, none⟩)) (v12 := .int .i64 oa) (v13 := .int .i64 ol) hb
  rw [← h5] at p1 p2
  have hs5 : Same w w5 := chg_nw hs p2 hgx
  have htb : ∀ i, T' = some ⟨i, 0, none⟩ → w.heap.size ≤ i := fun i hi => by
    rcases ho.2 with ⟨hz, _⟩ | ⟨g2, cap, cur, hv, hB, hg, _⟩
    · rw [hi] at hz; cases hz
    · rw [hi] at hv
      injection hv with hv
      injection hv with hv
      injection hv with hv
      exact hv ▸ hB
  have hle := h0.size
  exact ⟨⟨p1, (ho.chg p2 (fun g hg he => ho.ne hb (by decide) g hg he)).base hle, hn, hm.same hs5, fun hr => by have := (hR _ hr).2; omega, fun i hi hr => by have := (hR _ hr).2; have := htb i hi; omega, h0.trans hs5, by omega, fun i hi => (hR i hi).1⟩, hs5⟩
/-- behind frame.Step and frame.Run: a frame apart, and the memory as it became -/
def RunP (w : World) (R : Nat → Prop) (gm : Nat) (s' : SS) (nT : Nat) (vs : List Value) (e : Ending) (w' : World) : Prop := ∃ T' c', e = .returned (.tuple (#[.agg #[.int .i64 s'.f.pc, .int .u32 (rk s'.f 0), .int .u32 (rk s'.f 1), .int .u32 (rk s'.f 2), .int .u32 (rk s'.f 3), .int .u32 (rk s'.f 4), .int .u32 (rk s'.f 5), .int .u32 (rk s'.f 6), .int .u32 (rk s'.f 7), .slice T' nT c']] ++ vs.toArray)) ∧ Own w' w.heap.size 3 T' c' (s'.f.tn.map (Value.int .i64)) ∧ Mm.Mem w' R gm (cst s'.ws) s'.st ∧ Chg R w w'
theorem run_p {w0 w w' : World} {R : Nat → Prop} {gx gm : Nat} {s' : SS} {T' : Option Addr} {nT c' : Nat} {A : Option Addr} {m cA : Nat} {oa ol : Int} (h : W13 w0 w' R gx gm s' T' nT c' A m cA oa ol) (hT : ∀ i, T' = some ⟨i, 0, none⟩ → w.heap.size ≤ i) : Own w' w.heap.size 3 T' c' (s'.f.tn.map (Value.int .i64)) := by
  refine ⟨h.tn.1, ?_⟩
  rcases h.tn.2 with hz | ⟨g2, cap, cur, hv, hB, hr⟩
  · exact .inl hz
  · refine .inr ⟨g2, cap, cur, hv, ?_, hr⟩
    injection hv with hv
    exact hT g2 hv
theorem chg_R {w w4 w' : World} {R : Nat → Prop} {gx : Nat} {T' : Option Addr} (h : Same w w4) (h2 : Chg (S13 R gx T') w4 w') (hg : w.heap.size ≤ gx) (hT : ∀ i, T' = some ⟨i, 0, none⟩ → w.heap.size ≤ i) : Chg R w w' :=
  ⟨h2.os.trans h.os, h2.tape.trans h.tape, h2.output.trans h.output, Nat.le_trans h.size h2.size, fun i hi hn =>
    (h2.block i (Nat.lt_of_lt_of_le hi h.size) (fun hS => by
      rcases hS with hS | hS | hS
      · omega
      · have := hT i hS; omega
      · exact hn hS)).trans (h.block i hi id)⟩
end Go.Proofs.YtiipdeionmndcaaDoor.Fr
