/-

  Layer 13: where a jump, a zero or a back leads (work.lead).
-/
import Derived.Test.YtiipdeionmndcaaDoorFrmRight
import Derived.Test.YtiipdeionmndcaaDoorMemFn
import Derived.StillTailTactics
import Derived.Deep.QuietTactic
import Derived.BigQuiet
import Derived.Test.YtiipdeionmndcaaDoorRegionOff
section
section
set_option linter.unusedVariables false
set_option linter.unusedSimpArgs false
namespace Go.Proofs.YtiipdeionmndcaaDoor.Fr
open Go.ChangeShapes Go.WideShapes Go.ChangeAt Go.RowKit Ws
open Go.Proofs.YtiipdeionmndcaaDoor.Fp (Ins at_ Fine at_some)
open Go.Proofs.YtiipdeionmndcaaDoor.Fw (Prg okB ckE check_any okB_fine rightI)
open Go.Proofs.YtiipdeionmndcaaDoor.Is (Tabs)

theorem wk_reg {g : Nat} {f : FS} {T : Option Addr} {nT cT : Nat} {A : Option Addr} {m cA : Nat} {M : Option Addr} {oa ol : Int} {w : World} {t : TypeId} (h : Blk w g t #[.int .i64 f.pc, .int .u32 (rk f 0), .int .u32 (rk f 1), .int .u32 (rk f 2), .int .u32 (rk f 3), .int .u32 (rk f 4), .int .u32 (rk f 5), .int .u32 (rk f 6), .int .u32 (rk f 7), .slice T nT cT, .slice A m cA, .pointer M, .int .i64 oa, .int .i64 ol]) {k : Nat} (hk : k < 8) : w.cell? ⟨g, 1 + k, none⟩ = some (.int .u32 (rk f k)) := by
  have h2 := h.cell (1 + k)
  rw [h2]
  rcases (show k = 0 ∨ k = 1 ∨ k = 2 ∨ k = 3 ∨ k = 4 ∨ k = 5 ∨ k = 6 ∨ k = 7 by omega) with rfl | rfl | rfl | rfl | rfl | rfl | rfl | rfl <;> rfl
/-- the block with one register turned -/
theorem wk_set {g : Nat} {f : FS} {T : Option Addr} {nT cT : Nat} {A : Option Addr} {m cA : Nat} {M : Option Addr} {oa ol : Int} {w : World} {t : TypeId} (h : Blk w g t #[.int .i64 f.pc, .int .u32 (rk f 0), .int .u32 (rk f 1), .int .u32 (rk f 2), .int .u32 (rk f 3), .int .u32 (rk f 4), .int .u32 (rk f 5), .int .u32 (rk f 6), .int .u32 (rk f 7), .slice T nT cT, .slice A m cA, .pointer M, .int .i64 oa, .int .i64 ol]) (h8 : f.rg.length = 8) {k : Nat} (hk : k < 8) (v : Nat) : Blk (w.setCell ⟨g, 1 + k, none⟩ (.int .u32 (v : Int))) g t #[.int .i64 { f with rg := f.rg.set k v }.pc, .int .u32 (rk { f with rg := f.rg.set k v } 0), .int .u32 (rk { f with rg := f.rg.set k v } 1), .int .u32 (rk { f with rg := f.rg.set k v } 2), .int .u32 (rk { f with rg := f.rg.set k v } 3), .int .u32 (rk { f with rg := f.rg.set k v } 4), .int .u32 (rk { f with rg := f.rg.set k v } 5), .int .u32 (rk { f with rg := f.rg.set k v } 6), .int .u32 (rk { f with rg := f.rg.set k v } 7), .slice T nT cT, .slice A m cA, .pointer M, .int .i64 oa, .int .i64 ol] := by
  have h2 := h.put (1 + k) (.int .u32 (v : Int))
  have h3 : ∀ j : Nat, rk { f with rg := f.rg.set k v } j = if j = k then (v : Int) else rk f j := fun j => by
    unfold rk
    simp only [List.getD_eq_getElem?_getD, List.getElem?_set]
    by_cases hj : j = k
    · subst hj; simp [h8, hk]
    · rw [if_neg (Ne.symm hj), if_neg hj]
  simp only [h3]
  rcases (show k = 0 ∨ k = 1 ∨ k = 2 ∨ k = 3 ∨ k = 4 ∨ k = 5 ∨ k = 6 ∨ k = 7 by omega) with rfl | rfl | rfl | rfl | rfl | rfl | rfl | rfl <;> simpa using h2
theorem place_any (g : Nat) (f : FS) (T : Option Addr) (nT cT : Nat) (A : Option Addr) (m cA : Nat) (M : Option Addr) (oa ol : Int) (v : Nat) (w : World) (h : Blk w g 97 #[.int .i64 f.pc, .int .u32 (rk f 0), .int .u32 (rk f 1), .int .u32 (rk f 2), .int .u32 (rk f 3), .int .u32 (rk f 4), .int .u32 (rk f 5), .int .u32 (rk f 6), .int .u32 (rk f 7), .slice T nT cT, .slice A m cA, .pointer M, .int .i64 oa, .int .i64 ol]) (ho : 0 ≤ oa ∧ oa ≤ 4096) (hl : 0 < ol ∧ ol ≤ 4096) (hv : v < 4294967296) :
    Calls Tryd.prog 98 #[.pointer (some ⟨g, 0, none⟩), .int .u32 (v : Int)] w fun e w' => e = .returned (.int .i64 (oa + (v : Int) % ol)) ∧ ∃ n, w' = w.drewN n := by
  have z12 := h.cell 12
  have z13 := h.cell 13
  simp only [List.getElem?_toArray, List.getElem?_cons_zero, List.getElem?_cons_succ] at z12 z13
  clear h
  obtain ⟨x, hx⟩ : ∃ x : Int, x = (v : Int) := ⟨_, rfl⟩
  rw [← hx]
  have hx0 : 0 ≤ x := by omega
  have hx1 : x < 4294967296 := by omega
  clear hx hv
  obtain ⟨h1, h2⟩ := hl
  obtain ⟨h3, h4⟩ := ho
  have h5 : ¬ ol = 0 := by omega
  have h6 : IntKind.u32.wrap ol = ol := Go.IntWalk.u32_in _ (by omega)
  have h7 : 0 ≤ x % ol := Int.emod_nonneg _ h5
  have h8 : x % ol < ol := Int.emod_lt_of_pos _ h1
  have h9 : x.tmod ol = x % ol := Int.tmod_eq_emod_of_nonneg hx0
  have h10 : IntKind.i64.wrap (oa + x % ol) = oa + x % ol := Go.IntWalk.i64_in _ (by omega)
  go_enter Tryd.func98, Tryd.ntmps98
  go_wp2_with fail
  go_quiet (fail)
  go_wp2
  go_ret
  exact ⟨rfl, _, rfl⟩

def cst (l : List Nat) : List Int := l.map fun (x : Nat) => ((x : Nat) : Int)
/-- what the work on a frame turns: its block, the turns, the memory -/
def S13 (R : Nat → Prop) (g : Nat) (T : Option Addr) : Nat → Prop := fun i => i = g ∨ T = some ⟨i, 0, none⟩ ∨ R i
/-- the work on a frame: its block, its turns, the memory; w0 is a world ahead of all of these -/
structure W13 (w0 w : World) (R : Nat → Prop) (g gm : Nat) (s : SS) (T : Option Addr) (nT cT : Nat) (A : Option Addr) (m cA : Nat) (oa ol : Int) : Prop where
  wk : Blk w g 97 #[.int .i64 s.f.pc, .int .u32 (rk s.f 0), .int .u32 (rk s.f 1), .int .u32 (rk s.f 2), .int .u32 (rk s.f 3), .int .u32 (rk s.f 4), .int .u32 (rk s.f 5), .int .u32 (rk s.f 6), .int .u32 (rk s.f 7), .slice T nT cT, .slice A m cA, .pointer (some ⟨gm, 0, none⟩), .int .i64 oa, .int .i64 ol]
  tn : Own w w0.heap.size 3 T cT (s.f.tn.map (Value.int .i64))
  len : s.f.tn.length = nT
  mem : Mm.Mem w R gm (cst s.ws) s.st
  rg : ¬ R g
  rt : ∀ i, T = some ⟨i, 0, none⟩ → ¬ R i
  base : Same w0 w
  gb : w0.heap.size ≤ g
  rb : ∀ i, R i → w0.heap.size ≤ i
section
variable {w0 w w' : World} {R : Nat → Prop} {g gm : Nat} {s : SS} {T : Option Addr} {nT cT : Nat} {A : Option Addr} {m cA : Nat} {oa ol : Int}
theorem W13.tne (h : W13 w0 w R g gm s T nT cT A m cA oa ol) : ∀ i, T = some ⟨i, 0, none⟩ → i ≠ g := fun i hi => h.tn.ne h.wk (by decide) i hi
theorem W13.of_same (h : W13 w0 w R g gm s T nT cT A m cA oa ol) (hs : Same w w') : W13 w0 w' R g gm s T nT cT A m cA oa ol :=
  ⟨h.wk.same hs, h.tn.same hs, h.len, h.mem.same hs, h.rg, h.rt, h.base.trans hs, h.gb, h.rb⟩
theorem W13.setg (h : W13 w0 w R g gm s T nT cT A m cA oa ol) {f' : FS} {i : Nat} {v : Value} (hb : Blk (w.setCell ⟨g, i, none⟩ v) g 97 #[.int .i64 f'.pc, .int .u32 (rk f' 0), .int .u32 (rk f' 1), .int .u32 (rk f' 2), .int .u32 (rk f' 3), .int .u32 (rk f' 4), .int .u32 (rk f' 5), .int .u32 (rk f' 6), .int .u32 (rk f' 7), .slice T nT cT, .slice A m cA, .pointer (some ⟨gm, 0, none⟩), .int .i64 oa, .int .i64 ol]) (ht : f'.tn = s.f.tn) : W13 w0 (w.setCell ⟨g, i, none⟩ v) R g gm ⟨f', s.ws, s.st⟩ T nT cT A m cA oa ol ∧ Chg (S13 R g T) w (w.setCell ⟨g, i, none⟩ v) := by
  have hc : Chg (fun i => i = g) w (w.setCell ⟨g, i, none⟩ v) := (Chg.refl (fun i => i = g) w).set (p := ⟨g, i, none⟩) (.inl rfl) _
  refine ⟨⟨hb, ?_, ?_, h.mem.chg hc (fun i hi he => h.rg (he ▸ hi)), h.rg, h.rt, Same.more h.base hc (fun i hi => by rw [hi]; exact h.gb), h.gb, h.rb⟩, hc.weak fun i _ hi => .inl hi⟩
  · show Own _ _ _ T cT (f'.tn.map _)
    rw [ht]
    exact h.tn.chg hc fun i hi he => h.tne i hi he
  · show f'.tn.length = nT
    rw [ht]
    exact h.len
theorem W13.set_rg (h : W13 w0 w R g gm s T nT cT A m cA oa ol) (h8 : s.f.rg.length = 8) {k : Nat} (hk : k < 8) (v : Nat) :
    W13 w0 (w.setCell ⟨g, 1 + k, none⟩ (.int .u32 (v : Int))) R g gm ⟨{ s.f with rg := s.f.rg.set k v }, s.ws, s.st⟩ T nT cT A m cA oa ol ∧ Chg (S13 R g T) w (w.setCell ⟨g, 1 + k, none⟩ (.int .u32 (v : Int))) :=
  h.setg (f' := { s.f with rg := s.f.rg.set k v }) (wk_set h.wk h8 hk v) rfl
theorem W13.set_pc (h : W13 w0 w R g gm s T nT cT A m cA oa ol) (v : Int) :
    W13 w0 (w.setCell ⟨g, 0, none⟩ (.int .i64 v)) R g gm ⟨{ s.f with pc := v }, s.ws, s.st⟩ T nT cT A m cA oa ol ∧ Chg (S13 R g T) w (w.setCell ⟨g, 0, none⟩ (.int .i64 v)) :=
  h.setg (f' := { s.f with pc := v }) (by have h2 := h.wk.put 0 (.int .i64 v); simpa [rk] using h2) rfl
theorem W13.set_tn (h : W13 w0 w R g gm s T nT cT A m cA oa ol) {gt : Nat} (hT : T = some ⟨gt, 0, none⟩) (k : Nat) (v : Int) :
    W13 w0 (w.setCell ⟨gt, k, none⟩ (.int .i64 v)) R g gm ⟨{ s.f with tn := s.f.tn.set k v }, s.ws, s.st⟩ T nT cT A m cA oa ol ∧ Chg (S13 R g T) w (w.setCell ⟨gt, k, none⟩ (.int .i64 v)) := by
  have hc : Chg (fun i => i = gt) w (w.setCell ⟨gt, k, none⟩ (.int .i64 v)) := (Chg.refl (fun i => i = gt) w).set (p := ⟨gt, k, none⟩) (.inl rfl) _
  have hgt : w0.heap.size ≤ gt := by
    rcases h.tn.2 with ⟨hz, _⟩ | ⟨g2, cap, cur, hv, hB, _⟩
    · rw [hT] at hz; cases hz
    · rw [hT] at hv
      injection hv with hv
      injection hv with hv
      injection hv with hv
      exact hv ▸ hB
  refine ⟨⟨h.wk.chg hc (fun he => h.tne gt hT he.symm), ?_, by simpa using h.len, h.mem.chg hc (fun i hi he => h.rt gt hT (he ▸ hi)), h.rg, h.rt, Same.more h.base hc (fun i hi => by rw [hi]; exact hgt), h.gb, h.rb⟩, hc.weak fun i _ hi => .inr (.inl (by rw [hi]; exact hT))⟩
  have h2 := h.tn
  rw [hT] at h2 ⊢
  have h3 := Own.put h2 k (.int .i64 v)
  rw [← List.map_set] at h3
  exact h3
theorem W13.set_mem (h : W13 w0 w R g gm s T nT cT A m cA oa ol) {ws : List Nat} {st : Int} (hm : Mm.Mem w' R gm (cst ws) st) (hc : Chg R w w') :
    W13 w0 w' R g gm ⟨s.f, ws, st⟩ T nT cT A m cA oa ol ∧ Chg (S13 R g T) w w' :=
  ⟨⟨h.wk.chg hc h.rg, h.tn.chg hc h.rt, h.len, hm, h.rg, h.rt, Same.more h.base hc h.rb, h.gb, h.rb⟩, hc.weak fun i _ hi => .inr (.inr hi)⟩
theorem W13.cs (h : W13 w0 w R g gm s T nT cT A m cA oa ol) : w.cell? ⟨g, 0, none⟩ = some (.int .i64 s.f.pc) ∧ w.cell? ⟨g, 9, none⟩ = some (.slice T nT cT) ∧ w.cell? ⟨g, 10, none⟩ = some (.slice A m cA) ∧ w.cell? ⟨g, 11, none⟩ = some (.pointer (some ⟨gm, 0, none⟩)) ∧ w.cell? ⟨g, 12, none⟩ = some (.int .i64 oa) ∧ w.cell? ⟨g, 13, none⟩ = some (.int .i64 ol) :=
  ⟨h.wk.cell 0, h.wk.cell 9, h.wk.cell 10, h.wk.cell 11, h.wk.cell 12, h.wk.cell 13⟩
theorem W13.fz (h : W13 w0 w R g gm s T nT cT A m cA oa ol) (i : Nat) : w.frozen? ⟨g, i, none⟩ = false := h.wk.thaw i
theorem W13.reg (h : W13 w0 w R g gm s T nT cT A m cA oa ol) {k : Nat} (hk : k < 8) : w.cell? ⟨g, 1 + k, none⟩ = some (.int .u32 ((s.f.rg.getD k 0 : Nat) : Int)) := wk_reg h.wk hk
end
end Go.Proofs.YtiipdeionmndcaaDoor.Fr
end
section
set_option linter.unusedVariables false
set_option linter.unusedSimpArgs false
namespace Go.Proofs.YtiipdeionmndcaaDoor.Fr
open Go.ChangeShapes Go.WideShapes Go.ChangeAt Go.RowKit Ws
open Go.Proofs.YtiipdeionmndcaaDoor.Fp (Ins at_ Fine at_some)
open Go.Proofs.YtiipdeionmndcaaDoor.Fw (Prg okB ckE check_any okB_fine rightI)
open Go.Proofs.YtiipdeionmndcaaDoor.Is (Tabs)

/-- behind a call of the work -/
def Post13 (w0 w : World) (R : Nat → Prop) (g gm : Nat) (s' : SS) (T : Option Addr) (nT cT : Nat) (A : Option Addr) (m cA : Nat) (oa ol : Int) (v : Value) (e : Ending) (w' : World) : Prop :=
  e = .returned v ∧ W13 w0 w' R g gm s' T nT cT A m cA oa ol ∧ Chg (S13 R g T) w w'
section
variable {w0 w : World} {R : Nat → Prop} {g gm : Nat} {s : SS} {T : Option Addr} {nT cT : Nat} {A : Option Addr} {m cA : Nat} {oa ol : Int}
theorem W13.turn (h : W13 w0 w R g gm s T nT cT A m cA oa ol) {k : Nat} (hk : k < nT) : ∃ gt, T = some ⟨gt, 0, none⟩ ∧ w.cell? ⟨gt, k, none⟩ = some (.int .i64 (s.f.tn.getD k 0)) ∧ w.frozen? ⟨gt, k, none⟩ = false := by
  have hl : k < s.f.tn.length := by have := h.len; omega
  obtain ⟨gt, hT, _, _, hf⟩ := h.tn.thaw (by simp; omega)
  obtain ⟨b, o, hA, hc⟩ := h.tn.row k (.int .i64 (s.f.tn.getD k 0)) (by rw [List.getElem?_map, List.getElem?_eq_getElem hl, List.getD_eq_getElem?_getD, List.getElem?_eq_getElem hl]; rfl)
  have h2 := World.ownsRow.cells (show w.ownsRow w0.heap.size 3 1 (.slice (some ⟨gt, 0, none⟩) _ cT) _ _ from hT ▸ h.tn) (g := gt) rfl k (.int .i64 (s.f.tn.getD k 0)) (by rw [List.getElem?_map, List.getElem?_eq_getElem hl, List.getD_eq_getElem?_getD, List.getElem?_eq_getElem hl]; rfl)
  refine ⟨gt, hT, ?_, hf k⟩
  cases k with
  | zero => simpa [Addr.add] using h2
  | succ k => simpa [Addr.add] using h2
set_option maxRecDepth 100000 in
set_option maxHeartbeats 1000000 in
theorem turned_any (x : Ins) (h : W13 w0 w R g gm s T nT cT A m cA oa ol) (hk : 0 ≤ s.f.pc ∧ s.f.pc < nT) (hn : nT ≤ 5000) (hb : 0 ≤ tnv s.f ∧ tnv s.f ≤ 4611686018427387904) :
    Calls Tryd.prog 97 #[.pointer (some ⟨g, 0, none⟩), .agg #[.int .i64 x.op, .int .i64 x.a, .int .i64 x.b, .int .i64 x.c, .int .u32 x.n]] w
      (Post13 w0 w R g gm ⟨{ s.f with tn := if backB x s.f then s.f.tn.set s.f.pc.toNat (tnv s.f + 1) else s.f.tn.set s.f.pc.toNat 0 }, s.ws, s.st⟩ T nT cT A m cA oa ol (.bool (backB x s.f))) := by
  obtain ⟨w1, hw1⟩ : ∃ w1, w1 = w.alloc (.cells #[.int .i64 x.op, .int .i64 x.a, .int .i64 x.b, .int .i64 x.c, .int .u32 x.n] 67) := ⟨_, rfl⟩
  have hs1 : Same w w1 := hw1 ▸ (Same.refl w).alloc _
  have hb1 : Blk w1 w.heap.size 67 #[.int .i64 x.op, .int .i64 x.a, .int .i64 x.b, .int .i64 x.c, .int .u32 x.n] := hw1 ▸ Blk.new w _ _
  obtain ⟨k, hkk⟩ : ∃ k : Nat, s.f.pc = (k : Int) := ⟨s.f.pc.toNat, by omega⟩
  have hkn : k < nT := by omega
  have htn : s.f.pc.toNat = k := by omega
  have H1 := Lib.hid (h.of_same hs1)
  obtain ⟨gt, hT, ct, ft⟩ := H1.out.turn hkn
  have htv : tnv s.f = s.f.tn.getD k 0 := by unfold tnv; rw [htn]
  rw [← htv] at ct
  rw [htn]
  have y3 := hb1.cell 3
  have z0 := H1.out.wk.cell 0
  have z9 := H1.out.wk.cell 9
  simp only [List.getElem?_toArray, List.getElem?_cons_zero, List.getElem?_cons_succ] at y3 z0 z9
  rw [hkk] at z0
  subst hT
  have HS1 := Lib.hid hs1
  have E1 := Lib.hid hw1
  have HB := Lib.hid (show backB x s.f = decide (tnv s.f < x.c) from rfl)
  have HYES := Lib.hid (fun w' (hs : Same w1 w') => (H1.out.of_same hs).set_tn (gt := gt) rfl k (tnv s.f + 1))
  have HNO := Lib.hid (fun w' (hs : Same w1 w') => (H1.out.of_same hs).set_tn (gt := gt) rfl k 0)
  have i0 : (0 : Int) ≤ k := by omega
  have i1 : (k : Int) < nT := by omega
  have HK := Lib.hid hkk
  clear hs1 hw1 hb1 htv htn hkk hk h
  obtain ⟨hb0, hb2⟩ := hb
  generalize hvv : tnv s.f = v at *
  have HV := Lib.hid hvv
  clear hvv
  by_cases hlt : v < x.c
  · have hB : backB x s.f = true := by rw [HB.out]; exact decide_eq_true hlt
    rw [hB, if_pos rfl]
    clear HB hB HNO
    have hb3 : IntKind.i64.wrap (v + 1) = v + 1 := Go.IntWalk.i64_in _ (by omega)
    go_enter Tryd.func97, Tryd.ntmps97
    go_wp2_with fail
    rw [← E1.out]
    go_quiet (fail)
    have s2 : Same w1 (w1.drewN nq) := (Same.refl w1).drewN nq
    have S2 := Lib.hid s2
    have h2 := H1.out.of_same s2
    obtain ⟨y0, y9, _⟩ := h2.cs
    rw [HK.out] at y0
    have ct2 : (w1.drewN nq).cell? ⟨gt, k, none⟩ = some (.int .i64 v) := s2.cell ct
    have ft2 : (w1.drewN nq).frozen? ⟨gt, k, none⟩ = false := ft
    clear s2 h2 z0 z9 ct ft y3
    generalize w1.drewN nq = w2 at *
    go_wp2_with fail
    go_still_tail 14, (by kernel_rfl)
    change wpList _ _ _ _ _ w2.drew
    obtain ⟨h1, c1⟩ := HYES.out _ (S2.out.drew)
    have HH := Lib.hid h1
    have HC := Lib.hid ((HS1.out.chg _).trans (((S2.out.drew).chg _).trans c1))
    have ct3 : w2.drew.cell? ⟨gt, k, none⟩ = some (.int .i64 v) := ct2
    have ft3 : w2.drew.frozen? ⟨gt, k, none⟩ = false := ft2
    clear h1 c1 ct2 ft2 y0 y9
    go_wp2_with fail
    go_ret
    exact ⟨rfl, HH.out, HC.out⟩
  · have hB : backB x s.f = false := by rw [HB.out]; exact decide_eq_false hlt
    rw [hB, if_neg (by decide)]
    clear HB hB HYES
    go_enter Tryd.func97, Tryd.ntmps97
    go_wp2_with fail
    rw [← E1.out]
    go_quiet (fail)
    have s2 : Same w1 (w1.drewN nq) := (Same.refl w1).drewN nq
    have S2 := Lib.hid s2
    have h2 := H1.out.of_same s2
    obtain ⟨y0, y9, _⟩ := h2.cs
    rw [HK.out] at y0
    have ct2 : (w1.drewN nq).cell? ⟨gt, k, none⟩ = some (.int .i64 v) := s2.cell ct
    have ft2 : (w1.drewN nq).frozen? ⟨gt, k, none⟩ = false := ft
    clear s2 h2 z0 z9 ct ft y3
    generalize w1.drewN nq = w2 at *
    go_wp2_with fail
    go_still_tail 11, (by kernel_rfl)
    change wpList _ _ _ _ _ w2.drew
    obtain ⟨h1, c1⟩ := HNO.out _ (S2.out.drew)
    have HH := Lib.hid h1
    have HC := Lib.hid ((HS1.out.chg _).trans (((S2.out.drew).chg _).trans c1))
    have ct3 : w2.drew.cell? ⟨gt, k, none⟩ = some (.int .i64 v) := ct2
    have ft3 : w2.drew.frozen? ⟨gt, k, none⟩ = false := ft2
    clear h1 c1 ct2 ft2 y0 y9
    go_wp2_with fail
    go_ret
    exact ⟨rfl, HH.out, HC.out⟩
theorem mem_get (ws : List Nat) (j : Nat) (hj : j < (cst ws).length) : (cst ws)[j] = ((ws.getD j 0 : Nat) : Int) := by
  have h2 : j < ws.length := by simpa [cst] using hj
  simp [cst, h2]
theorem cst_set (ws : List Nat) (j v : Nat) : (cst ws).set j (v : Int) = cst (ws.set j v) := by unfold cst; rw [List.map_set]
theorem swap_any (j was now : Nat) (h : W13 w0 w R g gm s T nT cT A m cA oa ol) (hj : j < s.ws.length) (hst : 0 ≤ s.st ∧ s.st ≤ 4611686018427387904) :
    Calls Tryd.prog 100 #[.pointer (some ⟨g, 0, none⟩), .int .i64 (j : Int), .int .u32 (was : Int), .int .u32 (now : Int)] w
      (Post13 w0 w R g gm ⟨s.f, if s.ws.getD j 0 = was then s.ws.set j now else s.ws, s.st + 1⟩ T nT cT A m cA oa ol (.int .u32 (if s.ws.getD j 0 = was then 1 else 0))) := by
  have H := Lib.hid h
  have z11 := h.wk.cell 11
  simp only [List.getElem?_toArray, List.getElem?_cons_zero, List.getElem?_cons_succ] at z11
  have hjl : j < (cst s.ws).length := by unfold cst; simpa using hj
  have hw : wrap64 (s.st + 1) = s.st + 1 := Go.IntWalk.wrap64_in _ (by omega)
  by_cases he : s.ws.getD j 0 = was
  · rw [if_pos he, if_pos he]
    have CY := Lib.hid (Mm.cas_yes w h.mem j hjl (was : Int) (now : Int) (by rw [mem_get, he]; simp))
    rw [hw] at CY
    rw [cst_set] at CY
    clear he h hw hjl
    go_enter Tryd.func100, Tryd.ntmps100
    go_wp2_with fail
    refine CY.out.mono ?_
    rintro e w1 ⟨rfl, hm, hc⟩
    obtain ⟨h1, c1⟩ := H.out.set_mem hm hc
    have HH := Lib.hid h1
    have HC := Lib.hid c1
    clear hm hc h1 c1
    go_wp2_with fail
    go_ret
    exact ⟨rfl, HH.out, HC.out⟩
  · rw [if_neg he, if_neg he]
    have CN := Lib.hid (Mm.cas_no w h.mem j hjl (was : Int) (now : Int) (by rw [mem_get, bne_iff_ne]; intro h; exact he (by omega)))
    rw [hw] at CN
    clear he h hw hjl
    go_enter Tryd.func100, Tryd.ntmps100
    go_wp2_with fail
    refine CN.out.mono ?_
    rintro e w1 ⟨rfl, hm, hc⟩
    obtain ⟨h1, c1⟩ := H.out.set_mem hm hc
    have HH := Lib.hid h1
    have HC := Lib.hid c1
    clear hm hc h1 c1
    go_wp2_with fail
    go_ret
    exact ⟨rfl, HH.out, HC.out⟩
end
end Go.Proofs.YtiipdeionmndcaaDoor.Fr
end
end
section
set_option linter.unusedVariables false
set_option linter.unusedSimpArgs false
namespace Go.Proofs.YtiipdeionmndcaaDoor.Fr
open Go.ChangeShapes Go.WideShapes Go.ChangeAt Go.RowKit Ws
open Go.Proofs.YtiipdeionmndcaaDoor.Fp (Ins at_ Fine at_some)
open Go.Proofs.YtiipdeionmndcaaDoor.Fw (Prg okB ckE check_any okB_fine rightI)
open Go.Proofs.YtiipdeionmndcaaDoor.Is (Tabs)
section
variable {w0 w : World} {R : Nat → Prop} {g gm : Nat} {s : SS} {T : Option Addr} {nT cT : Nat} {A : Option Addr} {m cA : Nat} {oa ol : Int}

theorem lead_14 (xa xb xc xn : Int) (h : W13 w0 w R g gm s T nT cT A m cA oa ol) (hx : 0 ≤ xn ∧ xn < 4294967296) (hpc : 0 ≤ s.f.pc ∧ s.f.pc ≤ 5000) :
    Calls Tryd.prog 76 #[.pointer (some ⟨g, 0, none⟩), .agg #[.int .i64 14, .int .i64 xa, .int .i64 xb, .int .i64 xc, .int .u32 xn]] w (Post13 w0 w R g gm ⟨{ s.f with pc := xn }, s.ws, s.st⟩ T nT cT A m cA oa ol (.tuple #[])) := by
  obtain ⟨w1, hw1⟩ : ∃ w1, w1 = w.alloc (.cells #[.int .i64 14, .int .i64 xa, .int .i64 xb, .int .i64 xc, .int .u32 xn] 67) := ⟨_, rfl⟩
  have hs1 : Same w w1 := hw1 ▸ (Same.refl w).alloc _
  have hb1 : Blk w1 w.heap.size 67 #[.int .i64 14, .int .i64 xa, .int .i64 xb, .int .i64 xc, .int .u32 xn] := hw1 ▸ Blk.new w _ _
  have H1 := Lib.hid (h.of_same hs1)
  have HS1 := Lib.hid hs1
  have E1 := Lib.hid hw1
  have HB1 := Lib.hid hb1
  have HQ := Lib.hid (show g < w.heap.size from h.wk.lt)
  obtain ⟨y0, y1, y2, y3, y4⟩ := (⟨hb1.cell 0, hb1.cell 1, hb1.cell 2, hb1.cell 3, hb1.cell 4⟩ : _ ∧ _ ∧ _ ∧ _ ∧ _)
  simp only [List.getElem?_toArray, List.getElem?_cons_zero, List.getElem?_cons_succ] at y0 y1 y2 y3 y4
  clear hs1 hw1 hb1 h
  obtain ⟨hx0, hx1⟩ := hx
  go_enter Tryd.func76, Tryd.ntmps76
  go_wp2_with fail
  rw [← E1.out]
  clear E1
  go_quiet (fail)
  have s2 : Same w1 (w1.drewN nq) := (Same.refl w1).drewN nq
  have H2 := Lib.hid (H1.out.of_same s2)
  have C2 := Lib.hid ((HS1.out.trans s2).chg (S13 R g T))
  have y4' := s2.cell y4
  clear s2 y0 y1 y2 y3 y4
  generalize w1.drewN nq = w2 at *
  obtain ⟨z0, z9, z10, z11, z12, z13⟩ := H2.out.cs
  have fz := H2.out.fz 0
  obtain ⟨h1, c1⟩ := H2.out.set_pc (xn)
  have HH := Lib.hid h1
  have HC := Lib.hid (C2.out.trans c1)
  clear h1 c1
  go_wp2_with fail
  go_end0
  exact ⟨rfl, HH.out, HC.out⟩
theorem lead_15 (xb xc xn : Int) (a : Nat) (ha : a < 8) (h : W13 w0 w R g gm s T nT cT A m cA oa ol) (hx : 0 ≤ xn ∧ xn < 4294967296) (hpc : 0 ≤ s.f.pc ∧ s.f.pc ≤ 5000) :
    Calls Tryd.prog 76 #[.pointer (some ⟨g, 0, none⟩), .agg #[.int .i64 15, .int .i64 (a : Int), .int .i64 xb, .int .i64 xc, .int .u32 xn]] w (Post13 w0 w R g gm ⟨{ s.f with pc := if s.f.rg.getD a 0 = 0 then xn else s.f.pc + 1 }, s.ws, s.st⟩ T nT cT A m cA oa ol (.tuple #[])) := by
  obtain ⟨w1, hw1⟩ : ∃ w1, w1 = w.alloc (.cells #[.int .i64 15, .int .i64 (a : Int), .int .i64 xb, .int .i64 xc, .int .u32 xn] 67) := ⟨_, rfl⟩
  have hs1 : Same w w1 := hw1 ▸ (Same.refl w).alloc _
  have hb1 : Blk w1 w.heap.size 67 #[.int .i64 15, .int .i64 (a : Int), .int .i64 xb, .int .i64 xc, .int .u32 xn] := hw1 ▸ Blk.new w _ _
  have H1 := Lib.hid (h.of_same hs1)
  have HS1 := Lib.hid hs1
  have E1 := Lib.hid hw1
  have HB1 := Lib.hid hb1
  have HQ := Lib.hid (show g < w.heap.size from h.wk.lt)
  obtain ⟨y0, y1, y2, y3, y4⟩ := (⟨hb1.cell 0, hb1.cell 1, hb1.cell 2, hb1.cell 3, hb1.cell 4⟩ : _ ∧ _ ∧ _ ∧ _ ∧ _)
  simp only [List.getElem?_toArray, List.getElem?_cons_zero, List.getElem?_cons_succ] at y0 y1 y2 y3 y4
  clear hs1 hw1 hb1 h
  have hr := H1.out.reg ha
  have a0 : (0 : Int) ≤ (a : Int) := by omega
  have a8 : (a : Int) < 8 := by omega
  obtain ⟨hx0, hx1⟩ := hx
  have hpc1 : wrap64 (s.f.pc + 1) = s.f.pc + 1 := Go.IntWalk.wrap64_in _ (by omega)
  obtain ⟨v, hv⟩ : ∃ v, v = s.f.rg.getD a 0 := ⟨_, rfl⟩
  rw [← hv] at hr ⊢
  clear hv
  by_cases h0 : v = 0
  · subst h0
    rw [if_pos rfl]
    go_enter Tryd.func76, Tryd.ntmps76
    go_wp2_with fail
    rw [← E1.out]
    clear E1
    go_quiet (fail)
    have s2 : Same w1 (w1.drewN nq) := (Same.refl w1).drewN nq
    have H2 := Lib.hid (H1.out.of_same s2)
    have C2 := Lib.hid ((HS1.out.trans s2).chg (S13 R g T))
    have y4' := s2.cell y4
    clear s2 y0 y1 y2 y3 y4
    generalize w1.drewN nq = w2 at *
    obtain ⟨z0, z9, z10, z11, z12, z13⟩ := H2.out.cs
    have fz := H2.out.fz 0
    obtain ⟨h1, c1⟩ := H2.out.set_pc (xn)
    have HH := Lib.hid h1
    have HC := Lib.hid (C2.out.trans c1)
    clear h1 c1
    go_wp2_with fail
    go_end0
    exact ⟨rfl, HH.out, HC.out⟩
  · rw [if_neg h0]
    have e3 : ((v : Int) != 0) = true := by rw [bne_iff_ne]; omega
    clear h0
    go_enter Tryd.func76, Tryd.ntmps76
    go_wp2_with fail
    rw [← E1.out]
    clear E1
    go_quiet (fail)
    have s2 : Same w1 (w1.drewN nq) := (Same.refl w1).drewN nq
    have H2 := Lib.hid (H1.out.of_same s2)
    have C2 := Lib.hid ((HS1.out.trans s2).chg (S13 R g T))
    have y4' := s2.cell y4
    clear s2 y0 y1 y2 y3 y4
    generalize w1.drewN nq = w2 at *
    obtain ⟨z0, z9, z10, z11, z12, z13⟩ := H2.out.cs
    have fz := H2.out.fz 0
    obtain ⟨h1, c1⟩ := H2.out.set_pc (s.f.pc + 1)
    have HH := Lib.hid h1
    have HC := Lib.hid (C2.out.trans c1)
    clear h1 c1
    go_wp2_with fail
    go_end0
    exact ⟨rfl, HH.out, HC.out⟩
theorem h13_lt (h : W13 w0 w R g gm s T nT cT A m cA oa ol) (hR : ∀ i, R i → i < w.heap.size) : ¬ S13 R g T w.heap.size := by
  intro hS
  rcases hS with h2 | h2 | h2
  · have := h.wk.lt; omega
  · rcases h.tn.2 with ⟨hz, _⟩ | ⟨g2, cap, cur, hv, hB, hg, _⟩
    · rw [h2] at hz; cases hz
    · rw [h2] at hv
      injection hv with hv
      injection hv with hv
      injection hv with hv
      have hl := Blk.lt (t := 3) hg
      omega
  · exact absurd (hR _ h2) (Nat.lt_irrefl _)
set_option maxHeartbeats 1000000 in
theorem lead_16y (xa xb xc xn : Int) (h : W13 w0 w R g gm s T nT cT A m cA oa ol) (hR : ∀ i, R i → i < w.heap.size) (hx : 0 ≤ xn ∧ xn < 4294967296) (hpc : 0 ≤ s.f.pc ∧ s.f.pc < nT) (hn : nT ≤ 5000) (hb : 0 ≤ tnv s.f ∧ tnv s.f ≤ 4611686018427387904) (hbk : backB ⟨16, xa, xb, xc, xn⟩ s.f = true) :
    Calls Tryd.prog 76 #[.pointer (some ⟨g, 0, none⟩), .agg #[.int .i64 16, .int .i64 xa, .int .i64 xb, .int .i64 xc, .int .u32 xn]] w (Post13 w0 w R g gm ⟨⟨xn, s.f.rg, s.f.tn.set s.f.pc.toNat (tnv s.f + 1)⟩, s.ws, s.st⟩ T nT cT A m cA oa ol (.tuple #[])) := by
  have TA := Lib.hid (fun (w' : World) (h' : W13 w0 w' R g gm s T nT cT A m cA oa ol) => by
    have h2 := turned_any ⟨16, xa, xb, xc, xn⟩ h' hpc hn hb
    rw [hbk] at h2
    exact h2)
  have HNE := Lib.hid (h13_lt h hR)
  clear hbk
  obtain ⟨w1, hw1⟩ : ∃ w1, w1 = w.alloc (.cells #[.int .i64 16, .int .i64 xa, .int .i64 xb, .int .i64 xc, .int .u32 xn] 67) := ⟨_, rfl⟩
  have hs1 : Same w w1 := hw1 ▸ (Same.refl w).alloc _
  have hb1 : Blk w1 w.heap.size 67 #[.int .i64 16, .int .i64 xa, .int .i64 xb, .int .i64 xc, .int .u32 xn] := hw1 ▸ Blk.new w _ _
  have H1 := Lib.hid (h.of_same hs1)
  have HS1 := Lib.hid hs1
  have E1 := Lib.hid hw1
  have HB1 := Lib.hid hb1
  have HQ := Lib.hid (show g < w.heap.size from h.wk.lt)
  obtain ⟨y0, y1, y2, y3, y4⟩ := (⟨hb1.cell 0, hb1.cell 1, hb1.cell 2, hb1.cell 3, hb1.cell 4⟩ : _ ∧ _ ∧ _ ∧ _ ∧ _)
  simp only [List.getElem?_toArray, List.getElem?_cons_zero, List.getElem?_cons_succ] at y0 y1 y2 y3 y4
  clear hs1 hw1 hb1 h
  obtain ⟨hx0, hx1⟩ := hx
  have hpc1 : wrap64 (s.f.pc + 1) = s.f.pc + 1 := Go.IntWalk.wrap64_in _ (by omega)
  go_enter Tryd.func76, Tryd.ntmps76
  go_wp2_with fail
  rw [← E1.out]
  clear E1
  generalize w.heap.size = q at *
  refine wp_region_held_drew (S := (fun w' => w'.cell? ⟨q, 0, none⟩ = some (.int .i64 16) ∧ w'.cell? ⟨q, 1, none⟩ = some (.int .i64 xa) ∧ w'.cell? ⟨q, 2, none⟩ = some (.int .i64 xb) ∧ w'.cell? ⟨q, 3, none⟩ = some (.int .i64 xc) ∧ w'.cell? ⟨q, 4, none⟩ = some (.int .u32 xn))) (by kernel_rfl) ?_ (fun hHeld => ?_)
  · exact ⟨y0, y1, y2, y3, y4⟩
  first
    | (refine Ro.take_off (i := 0) rfl (by kernel_rfl) (by kernel_rfl) (by kernel_rfl) (fun _ _ _ h => h) (by rfl) (by assumption) ?_)
    | (refine Ro.take_on (i := 0) (v := ?_) rfl (by kernel_rfl) (by kernel_rfl) (by kernel_rfl) (fun _ _ _ h => h) (by rfl) (by assumption) ?_ ?_; rotate_left; · (intro wS hSw; (try dsimp only at hSw); go_simp; try with_reducible rfl))
  try simp only [Act.put, List.setIfInBounds_toArray, List.set_cons_zero, List.set_cons_succ]
  first
    | (refine Ro.take_off (i := 1) rfl (by kernel_rfl) (by kernel_rfl) (by kernel_rfl) (fun _ _ _ h => h) (by rfl) (by assumption) ?_)
    | (refine Ro.take_on (i := 1) (v := ?_) rfl (by kernel_rfl) (by kernel_rfl) (by kernel_rfl) (fun _ _ _ h => h) (by rfl) (by assumption) ?_ ?_; rotate_left; · (intro wS hSw; (try dsimp only at hSw); go_simp; try with_reducible rfl))
  try simp only [Act.put, List.setIfInBounds_toArray, List.set_cons_zero, List.set_cons_succ]
  first
    | (refine Ro.take_off (i := 2) rfl (by kernel_rfl) (by kernel_rfl) (by kernel_rfl) (fun _ _ _ h => h) (by rfl) (by assumption) ?_)
    | (refine Ro.take_on (i := 2) (v := ?_) rfl (by kernel_rfl) (by kernel_rfl) (by kernel_rfl) (fun _ _ _ h => h) (by rfl) (by assumption) ?_ ?_; rotate_left; · (intro wS hSw; (try dsimp only at hSw); go_simp; try with_reducible rfl))
  try simp only [Act.put, List.setIfInBounds_toArray, List.set_cons_zero, List.set_cons_succ]
  first
    | (refine Ro.take_off (i := 3) rfl (by kernel_rfl) (by kernel_rfl) (by kernel_rfl) (fun _ _ _ h => h) (by rfl) (by assumption) ?_)
    | (refine Ro.take_on (i := 3) (v := ?_) rfl (by kernel_rfl) (by kernel_rfl) (by kernel_rfl) (fun _ _ _ h => h) (by rfl) (by assumption) ?_ ?_; rotate_left; · (intro wS hSw; (try dsimp only at hSw); go_simp; try with_reducible rfl))
  try simp only [Act.put, List.setIfInBounds_toArray, List.set_cons_zero, List.set_cons_succ]
  first
    | (refine Ro.take_off (i := 4) rfl (by kernel_rfl) (by kernel_rfl) (by kernel_rfl) (fun _ _ _ h => h) (by rfl) (by assumption) ?_)
    | (refine Ro.take_on (i := 4) (v := ?_) rfl (by kernel_rfl) (by kernel_rfl) (by kernel_rfl) (fun _ _ _ h => h) (by rfl) (by assumption) ?_ ?_; rotate_left; · (intro wS hSw; (try dsimp only at hSw); go_simp; try with_reducible rfl))
  try simp only [Act.put, List.setIfInBounds_toArray, List.set_cons_zero, List.set_cons_succ]
  first
    | (refine Ro.take_off (i := 5) rfl (by kernel_rfl) (by kernel_rfl) (by kernel_rfl) (fun _ _ _ h => h) (by rfl) (by assumption) ?_)
    | (refine Ro.take_on (i := 5) (v := ?_) rfl (by kernel_rfl) (by kernel_rfl) (by kernel_rfl) (fun _ _ _ h => h) (by rfl) (by assumption) ?_ ?_; rotate_left; · (intro wS hSw; (try dsimp only at hSw); go_simp; try with_reducible rfl))
  try simp only [Act.put, List.setIfInBounds_toArray, List.set_cons_zero, List.set_cons_succ]
  first
    | (refine Ro.take_off (i := 6) rfl (by kernel_rfl) (by kernel_rfl) (by kernel_rfl) (fun _ _ _ h => h) (by rfl) (by assumption) ?_)
    | (refine Ro.take_on (i := 6) (v := ?_) rfl (by kernel_rfl) (by kernel_rfl) (by kernel_rfl) (fun _ _ _ h => h) (by rfl) (by assumption) ?_ ?_; rotate_left; · (intro wS hSw; (try dsimp only at hSw); go_simp; try with_reducible rfl))
  try simp only [Act.put, List.setIfInBounds_toArray, List.set_cons_zero, List.set_cons_succ]
  first
    | (refine Ro.take_off (i := 7) rfl (by kernel_rfl) (by kernel_rfl) (by kernel_rfl) (fun _ _ _ h => h) (by rfl) (by assumption) ?_)
    | (refine Ro.take_on (i := 7) (v := ?_) rfl (by kernel_rfl) (by kernel_rfl) (by kernel_rfl) (fun _ _ _ h => h) (by rfl) (by assumption) ?_ ?_; rotate_left; · (intro wS hSw; (try dsimp only at hSw); go_simp; try with_reducible rfl))
  try simp only [Act.put, List.setIfInBounds_toArray, List.set_cons_zero, List.set_cons_succ]
  first
    | (refine Ro.take_off (i := 8) rfl (by kernel_rfl) (by kernel_rfl) (by kernel_rfl) (fun _ _ _ h => h) (by rfl) (by assumption) ?_)
    | (refine Ro.take_on (i := 8) (v := ?_) rfl (by kernel_rfl) (by kernel_rfl) (by kernel_rfl) (fun _ _ _ h => h) (by rfl) (by assumption) ?_ ?_; rotate_left; · (intro wS hSw; (try dsimp only at hSw); go_simp; try with_reducible rfl))
  try simp only [Act.put, List.setIfInBounds_toArray, List.set_cons_zero, List.set_cons_succ]
  first
    | (refine Ro.take_off (i := 9) rfl (by kernel_rfl) (by kernel_rfl) (by kernel_rfl) (fun _ _ _ h => h) (by rfl) (by assumption) ?_)
    | (refine Ro.take_on (i := 9) (v := ?_) rfl (by kernel_rfl) (by kernel_rfl) (by kernel_rfl) (fun _ _ _ h => h) (by rfl) (by assumption) ?_ ?_; rotate_left; · (intro wS hSw; (try dsimp only at hSw); go_simp; try with_reducible rfl))
  try simp only [Act.put, List.setIfInBounds_toArray, List.set_cons_zero, List.set_cons_succ]
  first
    | (refine Ro.take_off (i := 10) rfl (by kernel_rfl) (by kernel_rfl) (by kernel_rfl) (fun _ _ _ h => h) (by rfl) (by assumption) ?_)
    | (refine Ro.take_on (i := 10) (v := ?_) rfl (by kernel_rfl) (by kernel_rfl) (by kernel_rfl) (fun _ _ _ h => h) (by rfl) (by assumption) ?_ ?_; rotate_left; · (intro wS hSw; (try dsimp only at hSw); go_simp; try with_reducible rfl))
  try simp only [Act.put, List.setIfInBounds_toArray, List.set_cons_zero, List.set_cons_succ]
  first
    | (refine Ro.take_off (i := 11) rfl (by kernel_rfl) (by kernel_rfl) (by kernel_rfl) (fun _ _ _ h => h) (by rfl) (by assumption) ?_)
    | (refine Ro.take_on (i := 11) (v := ?_) rfl (by kernel_rfl) (by kernel_rfl) (by kernel_rfl) (fun _ _ _ h => h) (by rfl) (by assumption) ?_ ?_; rotate_left; · (intro wS hSw; (try dsimp only at hSw); go_simp; try with_reducible rfl))
  try simp only [Act.put, List.setIfInBounds_toArray, List.set_cons_zero, List.set_cons_succ]
  first
    | (refine Ro.take_off (i := 12) rfl (by kernel_rfl) (by kernel_rfl) (by kernel_rfl) (fun _ _ _ h => h) (by rfl) (by assumption) ?_)
    | (refine Ro.take_on (i := 12) (v := ?_) rfl (by kernel_rfl) (by kernel_rfl) (by kernel_rfl) (fun _ _ _ h => h) (by rfl) (by assumption) ?_ ?_; rotate_left; · (intro wS hSw; (try dsimp only at hSw); go_simp; try with_reducible rfl))
  try simp only [Act.put, List.setIfInBounds_toArray, List.set_cons_zero, List.set_cons_succ]
  first
    | (refine Ro.take_off (i := 13) rfl (by kernel_rfl) (by kernel_rfl) (by kernel_rfl) (fun _ _ _ h => h) (by rfl) (by assumption) ?_)
    | (refine Ro.take_on (i := 13) (v := ?_) rfl (by kernel_rfl) (by kernel_rfl) (by kernel_rfl) (fun _ _ _ h => h) (by rfl) (by assumption) ?_ ?_; rotate_left; · (intro wS hSw; (try dsimp only at hSw); go_simp; try with_reducible rfl))
  try simp only [Act.put, List.setIfInBounds_toArray, List.set_cons_zero, List.set_cons_succ]
  first
    | (refine Ro.take_off (i := 14) rfl (by kernel_rfl) (by kernel_rfl) (by kernel_rfl) (fun _ _ _ h => h) (by rfl) (by assumption) ?_)
    | (refine Ro.take_on (i := 14) (v := ?_) rfl (by kernel_rfl) (by kernel_rfl) (by kernel_rfl) (fun _ _ _ h => h) (by rfl) (by assumption) ?_ ?_; rotate_left; · (intro wS hSw; (try dsimp only at hSw); go_simp; try with_reducible rfl))
  try simp only [Act.put, List.setIfInBounds_toArray, List.set_cons_zero, List.set_cons_succ]
  first
    | (refine Ro.take_off (i := 15) rfl (by kernel_rfl) (by kernel_rfl) (by kernel_rfl) (fun _ _ _ h => h) (by rfl) (by assumption) ?_)
    | (refine Ro.take_on (i := 15) (v := ?_) rfl (by kernel_rfl) (by kernel_rfl) (by kernel_rfl) (fun _ _ _ h => h) (by rfl) (by assumption) ?_ ?_; rotate_left; · (intro wS hSw; (try dsimp only at hSw); go_simp; try with_reducible rfl))
  try simp only [Act.put, List.setIfInBounds_toArray, List.set_cons_zero, List.set_cons_succ]
  first
    | (refine Ro.take_off (i := 16) rfl (by kernel_rfl) (by kernel_rfl) (by kernel_rfl) (fun _ _ _ h => h) (by rfl) (by assumption) ?_)
    | (refine Ro.take_on (i := 16) (v := ?_) rfl (by kernel_rfl) (by kernel_rfl) (by kernel_rfl) (fun _ _ _ h => h) (by rfl) (by assumption) ?_ ?_; rotate_left; · (intro wS hSw; (try dsimp only at hSw); go_simp; try with_reducible rfl))
  try simp only [Act.put, List.setIfInBounds_toArray, List.set_cons_zero, List.set_cons_succ]
  first
    | (refine Ro.take_off (i := 17) rfl (by kernel_rfl) (by kernel_rfl) (by kernel_rfl) (fun _ _ _ h => h) (by rfl) (by assumption) ?_)
    | (refine Ro.take_on (i := 17) (v := ?_) rfl (by kernel_rfl) (by kernel_rfl) (by kernel_rfl) (fun _ _ _ h => h) (by rfl) (by assumption) ?_ ?_; rotate_left; · (intro wS hSw; (try dsimp only at hSw); go_simp; try with_reducible rfl))
  try simp only [Act.put, List.setIfInBounds_toArray, List.set_cons_zero, List.set_cons_succ]
  first
    | (refine Ro.take_off (i := 18) rfl (by kernel_rfl) (by kernel_rfl) (by kernel_rfl) (fun _ _ _ h => h) (by rfl) (by assumption) ?_)
    | (refine Ro.take_on (i := 18) (v := ?_) rfl (by kernel_rfl) (by kernel_rfl) (by kernel_rfl) (fun _ _ _ h => h) (by rfl) (by assumption) ?_ ?_; rotate_left; · (intro wS hSw; (try dsimp only at hSw); go_simp; try with_reducible rfl))
  try simp only [Act.put, List.setIfInBounds_toArray, List.set_cons_zero, List.set_cons_succ]
  first
    | (refine Ro.take_off (i := 19) rfl (by kernel_rfl) (by kernel_rfl) (by kernel_rfl) (fun _ _ _ h => h) (by rfl) (by assumption) ?_)
    | (refine Ro.take_on (i := 19) (v := ?_) rfl (by kernel_rfl) (by kernel_rfl) (by kernel_rfl) (fun _ _ _ h => h) (by rfl) (by assumption) ?_ ?_; rotate_left; · (intro wS hSw; (try dsimp only at hSw); go_simp; try with_reducible rfl))
  try simp only [Act.put, List.setIfInBounds_toArray, List.set_cons_zero, List.set_cons_succ]
  first
    | (refine Ro.take_off (i := 20) rfl (by kernel_rfl) (by kernel_rfl) (by kernel_rfl) (fun _ _ _ h => h) (by rfl) (by assumption) ?_)
    | (refine Ro.take_on (i := 20) (v := ?_) rfl (by kernel_rfl) (by kernel_rfl) (by kernel_rfl) (fun _ _ _ h => h) (by rfl) (by assumption) ?_ ?_; rotate_left; · (intro wS hSw; (try dsimp only at hSw); go_simp; try with_reducible rfl))
  try simp only [Act.put, List.setIfInBounds_toArray, List.set_cons_zero, List.set_cons_succ]
  first
    | (refine Ro.take_off (i := 21) rfl (by kernel_rfl) (by kernel_rfl) (by kernel_rfl) (fun _ _ _ h => h) (by rfl) (by assumption) ?_)
    | (refine Ro.one_on (i := 21) rfl (by kernel_rfl) (by rfl) (fun K hK => ?_); go_simp; go_at_call 97; (refine (TA.out _ (H1.out.of_same ((Same.refl w1).drew))).mono ?_; rintro e w3 ⟨rfl, h3, c3⟩); (first | refine hK.out _ _ ?_ (fun hNew => ?_) | (go_wp2_with fail; refine hK.out _ _ ?_ (fun hNew => ?_))); (· (exact ⟨c3.cell hHeld.1 HNE.out, c3.cell hHeld.2.1 HNE.out, c3.cell hHeld.2.2.1 HNE.out, c3.cell hHeld.2.2.2.1 HNE.out, c3.cell hHeld.2.2.2.2 HNE.out⟩)); clear hK K hHeld; have hHeld := hNew; clear hNew)
  try simp only [Act.put, List.setIfInBounds_toArray, List.set_cons_zero, List.set_cons_succ]
  first
    | (refine Ro.take_off (i := 22) rfl (by kernel_rfl) (by kernel_rfl) (by kernel_rfl) (fun _ _ _ h => h) (by rfl) (by assumption) ?_)
    | (refine Ro.take_on (i := 22) (v := ?_) rfl (by kernel_rfl) (by kernel_rfl) (by kernel_rfl) (fun _ _ _ h => h) (by rfl) (by assumption) ?_ ?_; rotate_left; · (intro wS hSw; (try dsimp only at hSw); go_simp; try with_reducible rfl))
  try simp only [Act.put, List.setIfInBounds_toArray, List.set_cons_zero, List.set_cons_succ]
  first
    | (refine Ro.take_off (i := 23) rfl (by kernel_rfl) (by kernel_rfl) (by kernel_rfl) (fun _ _ _ h => h) (by rfl) (by assumption) ?_)
    | (refine Ro.take_on (i := 23) (v := ?_) rfl (by kernel_rfl) (by kernel_rfl) (by kernel_rfl) (fun _ _ _ h => h) (by rfl) (by assumption) ?_ ?_; rotate_left; · (intro wS hSw; (try dsimp only at hSw); go_simp; try with_reducible rfl))
  try simp only [Act.put, List.setIfInBounds_toArray, List.set_cons_zero, List.set_cons_succ]
  first
    | (refine Ro.take_off (i := 24) rfl (by kernel_rfl) (by kernel_rfl) (by kernel_rfl) (fun _ _ _ h => h) (by rfl) (by assumption) ?_)
    | (refine Ro.take_on (i := 24) (v := ?_) rfl (by kernel_rfl) (by kernel_rfl) (by kernel_rfl) (fun _ _ _ h => h) (by rfl) (by assumption) ?_ ?_; rotate_left; · (intro wS hSw; (try dsimp only at hSw); go_simp; try with_reducible rfl))
  try simp only [Act.put, List.setIfInBounds_toArray, List.set_cons_zero, List.set_cons_succ]
  refine wpAnyH_done (by kernel_rfl) ?_ _
  obtain ⟨z0, z9, z10, z11, z12, z13⟩ := h3.cs
  have fz := h3.fz 0
  obtain ⟨_, _, _, _, y4'⟩ := hHeld
  have H2 := Lib.hid h3
  have C2 := Lib.hid (((HS1.out.trans ((Same.refl w1).drew)).chg (S13 R g T)).trans c3)
  clear h3 c3
  obtain ⟨h1, c1⟩ := H2.out.set_pc (xn)
  have HH := Lib.hid h1
  have HC := Lib.hid (C2.out.trans c1)
  clear h1 c1
  go_wp2_with fail
  go_end0
  exact ⟨rfl, HH.out, HC.out⟩
set_option maxHeartbeats 1000000 in
theorem lead_16n (xa xb xc xn : Int) (h : W13 w0 w R g gm s T nT cT A m cA oa ol) (hR : ∀ i, R i → i < w.heap.size) (hx : 0 ≤ xn ∧ xn < 4294967296) (hpc : 0 ≤ s.f.pc ∧ s.f.pc < nT) (hn : nT ≤ 5000) (hb : 0 ≤ tnv s.f ∧ tnv s.f ≤ 4611686018427387904) (hbk : backB ⟨16, xa, xb, xc, xn⟩ s.f = false) :
    Calls Tryd.prog 76 #[.pointer (some ⟨g, 0, none⟩), .agg #[.int .i64 16, .int .i64 xa, .int .i64 xb, .int .i64 xc, .int .u32 xn]] w (Post13 w0 w R g gm ⟨⟨s.f.pc + 1, s.f.rg, s.f.tn.set s.f.pc.toNat 0⟩, s.ws, s.st⟩ T nT cT A m cA oa ol (.tuple #[])) := by
  have TA := Lib.hid (fun (w' : World) (h' : W13 w0 w' R g gm s T nT cT A m cA oa ol) => by
    have h2 := turned_any ⟨16, xa, xb, xc, xn⟩ h' hpc hn hb
    rw [hbk] at h2
    exact h2)
  have HNE := Lib.hid (h13_lt h hR)
  clear hbk
  obtain ⟨w1, hw1⟩ : ∃ w1, w1 = w.alloc (.cells #[.int .i64 16, .int .i64 xa, .int .i64 xb, .int .i64 xc, .int .u32 xn] 67) := ⟨_, rfl⟩
  have hs1 : Same w w1 := hw1 ▸ (Same.refl w).alloc _
  have hb1 : Blk w1 w.heap.size 67 #[.int .i64 16, .int .i64 xa, .int .i64 xb, .int .i64 xc, .int .u32 xn] := hw1 ▸ Blk.new w _ _
  have H1 := Lib.hid (h.of_same hs1)
  have HS1 := Lib.hid hs1
  have E1 := Lib.hid hw1
  have HB1 := Lib.hid hb1
  have HQ := Lib.hid (show g < w.heap.size from h.wk.lt)
  obtain ⟨y0, y1, y2, y3, y4⟩ := (⟨hb1.cell 0, hb1.cell 1, hb1.cell 2, hb1.cell 3, hb1.cell 4⟩ : _ ∧ _ ∧ _ ∧ _ ∧ _)
  simp only [List.getElem?_toArray, List.getElem?_cons_zero, List.getElem?_cons_succ] at y0 y1 y2 y3 y4
  clear hs1 hw1 hb1 h
  obtain ⟨hx0, hx1⟩ := hx
  have hpc1 : wrap64 (s.f.pc + 1) = s.f.pc + 1 := Go.IntWalk.wrap64_in _ (by omega)
  go_enter Tryd.func76, Tryd.ntmps76
  go_wp2_with fail
  rw [← E1.out]
  clear E1
  generalize w.heap.size = q at *
  refine wp_region_held_drew (S := (fun w' => w'.cell? ⟨q, 0, none⟩ = some (.int .i64 16) ∧ w'.cell? ⟨q, 1, none⟩ = some (.int .i64 xa) ∧ w'.cell? ⟨q, 2, none⟩ = some (.int .i64 xb) ∧ w'.cell? ⟨q, 3, none⟩ = some (.int .i64 xc) ∧ w'.cell? ⟨q, 4, none⟩ = some (.int .u32 xn))) (by kernel_rfl) ?_ (fun hHeld => ?_)
  · exact ⟨y0, y1, y2, y3, y4⟩
  first
    | (refine Ro.take_off (i := 0) rfl (by kernel_rfl) (by kernel_rfl) (by kernel_rfl) (fun _ _ _ h => h) (by rfl) (by assumption) ?_)
    | (refine Ro.take_on (i := 0) (v := ?_) rfl (by kernel_rfl) (by kernel_rfl) (by kernel_rfl) (fun _ _ _ h => h) (by rfl) (by assumption) ?_ ?_; rotate_left; · (intro wS hSw; (try dsimp only at hSw); go_simp; try with_reducible rfl))
  try simp only [Act.put, List.setIfInBounds_toArray, List.set_cons_zero, List.set_cons_succ]
  first
    | (refine Ro.take_off (i := 1) rfl (by kernel_rfl) (by kernel_rfl) (by kernel_rfl) (fun _ _ _ h => h) (by rfl) (by assumption) ?_)
    | (refine Ro.take_on (i := 1) (v := ?_) rfl (by kernel_rfl) (by kernel_rfl) (by kernel_rfl) (fun _ _ _ h => h) (by rfl) (by assumption) ?_ ?_; rotate_left; · (intro wS hSw; (try dsimp only at hSw); go_simp; try with_reducible rfl))
  try simp only [Act.put, List.setIfInBounds_toArray, List.set_cons_zero, List.set_cons_succ]
  first
    | (refine Ro.take_off (i := 2) rfl (by kernel_rfl) (by kernel_rfl) (by kernel_rfl) (fun _ _ _ h => h) (by rfl) (by assumption) ?_)
    | (refine Ro.take_on (i := 2) (v := ?_) rfl (by kernel_rfl) (by kernel_rfl) (by kernel_rfl) (fun _ _ _ h => h) (by rfl) (by assumption) ?_ ?_; rotate_left; · (intro wS hSw; (try dsimp only at hSw); go_simp; try with_reducible rfl))
  try simp only [Act.put, List.setIfInBounds_toArray, List.set_cons_zero, List.set_cons_succ]
  first
    | (refine Ro.take_off (i := 3) rfl (by kernel_rfl) (by kernel_rfl) (by kernel_rfl) (fun _ _ _ h => h) (by rfl) (by assumption) ?_)
    | (refine Ro.take_on (i := 3) (v := ?_) rfl (by kernel_rfl) (by kernel_rfl) (by kernel_rfl) (fun _ _ _ h => h) (by rfl) (by assumption) ?_ ?_; rotate_left; · (intro wS hSw; (try dsimp only at hSw); go_simp; try with_reducible rfl))
  try simp only [Act.put, List.setIfInBounds_toArray, List.set_cons_zero, List.set_cons_succ]
  first
    | (refine Ro.take_off (i := 4) rfl (by kernel_rfl) (by kernel_rfl) (by kernel_rfl) (fun _ _ _ h => h) (by rfl) (by assumption) ?_)
    | (refine Ro.take_on (i := 4) (v := ?_) rfl (by kernel_rfl) (by kernel_rfl) (by kernel_rfl) (fun _ _ _ h => h) (by rfl) (by assumption) ?_ ?_; rotate_left; · (intro wS hSw; (try dsimp only at hSw); go_simp; try with_reducible rfl))
  try simp only [Act.put, List.setIfInBounds_toArray, List.set_cons_zero, List.set_cons_succ]
  first
    | (refine Ro.take_off (i := 5) rfl (by kernel_rfl) (by kernel_rfl) (by kernel_rfl) (fun _ _ _ h => h) (by rfl) (by assumption) ?_)
    | (refine Ro.take_on (i := 5) (v := ?_) rfl (by kernel_rfl) (by kernel_rfl) (by kernel_rfl) (fun _ _ _ h => h) (by rfl) (by assumption) ?_ ?_; rotate_left; · (intro wS hSw; (try dsimp only at hSw); go_simp; try with_reducible rfl))
  try simp only [Act.put, List.setIfInBounds_toArray, List.set_cons_zero, List.set_cons_succ]
  first
    | (refine Ro.take_off (i := 6) rfl (by kernel_rfl) (by kernel_rfl) (by kernel_rfl) (fun _ _ _ h => h) (by rfl) (by assumption) ?_)
    | (refine Ro.take_on (i := 6) (v := ?_) rfl (by kernel_rfl) (by kernel_rfl) (by kernel_rfl) (fun _ _ _ h => h) (by rfl) (by assumption) ?_ ?_; rotate_left; · (intro wS hSw; (try dsimp only at hSw); go_simp; try with_reducible rfl))
  try simp only [Act.put, List.setIfInBounds_toArray, List.set_cons_zero, List.set_cons_succ]
  first
    | (refine Ro.take_off (i := 7) rfl (by kernel_rfl) (by kernel_rfl) (by kernel_rfl) (fun _ _ _ h => h) (by rfl) (by assumption) ?_)
    | (refine Ro.take_on (i := 7) (v := ?_) rfl (by kernel_rfl) (by kernel_rfl) (by kernel_rfl) (fun _ _ _ h => h) (by rfl) (by assumption) ?_ ?_; rotate_left; · (intro wS hSw; (try dsimp only at hSw); go_simp; try with_reducible rfl))
  try simp only [Act.put, List.setIfInBounds_toArray, List.set_cons_zero, List.set_cons_succ]
  first
    | (refine Ro.take_off (i := 8) rfl (by kernel_rfl) (by kernel_rfl) (by kernel_rfl) (fun _ _ _ h => h) (by rfl) (by assumption) ?_)
    | (refine Ro.take_on (i := 8) (v := ?_) rfl (by kernel_rfl) (by kernel_rfl) (by kernel_rfl) (fun _ _ _ h => h) (by rfl) (by assumption) ?_ ?_; rotate_left; · (intro wS hSw; (try dsimp only at hSw); go_simp; try with_reducible rfl))
  try simp only [Act.put, List.setIfInBounds_toArray, List.set_cons_zero, List.set_cons_succ]
  first
    | (refine Ro.take_off (i := 9) rfl (by kernel_rfl) (by kernel_rfl) (by kernel_rfl) (fun _ _ _ h => h) (by rfl) (by assumption) ?_)
    | (refine Ro.take_on (i := 9) (v := ?_) rfl (by kernel_rfl) (by kernel_rfl) (by kernel_rfl) (fun _ _ _ h => h) (by rfl) (by assumption) ?_ ?_; rotate_left; · (intro wS hSw; (try dsimp only at hSw); go_simp; try with_reducible rfl))
  try simp only [Act.put, List.setIfInBounds_toArray, List.set_cons_zero, List.set_cons_succ]
  first
    | (refine Ro.take_off (i := 10) rfl (by kernel_rfl) (by kernel_rfl) (by kernel_rfl) (fun _ _ _ h => h) (by rfl) (by assumption) ?_)
    | (refine Ro.take_on (i := 10) (v := ?_) rfl (by kernel_rfl) (by kernel_rfl) (by kernel_rfl) (fun _ _ _ h => h) (by rfl) (by assumption) ?_ ?_; rotate_left; · (intro wS hSw; (try dsimp only at hSw); go_simp; try with_reducible rfl))
  try simp only [Act.put, List.setIfInBounds_toArray, List.set_cons_zero, List.set_cons_succ]
  first
    | (refine Ro.take_off (i := 11) rfl (by kernel_rfl) (by kernel_rfl) (by kernel_rfl) (fun _ _ _ h => h) (by rfl) (by assumption) ?_)
    | (refine Ro.take_on (i := 11) (v := ?_) rfl (by kernel_rfl) (by kernel_rfl) (by kernel_rfl) (fun _ _ _ h => h) (by rfl) (by assumption) ?_ ?_; rotate_left; · (intro wS hSw; (try dsimp only at hSw); go_simp; try with_reducible rfl))
  try simp only [Act.put, List.setIfInBounds_toArray, List.set_cons_zero, List.set_cons_succ]
  first
    | (refine Ro.take_off (i := 12) rfl (by kernel_rfl) (by kernel_rfl) (by kernel_rfl) (fun _ _ _ h => h) (by rfl) (by assumption) ?_)
    | (refine Ro.take_on (i := 12) (v := ?_) rfl (by kernel_rfl) (by kernel_rfl) (by kernel_rfl) (fun _ _ _ h => h) (by rfl) (by assumption) ?_ ?_; rotate_left; · (intro wS hSw; (try dsimp only at hSw); go_simp; try with_reducible rfl))
  try simp only [Act.put, List.setIfInBounds_toArray, List.set_cons_zero, List.set_cons_succ]
  first
    | (refine Ro.take_off (i := 13) rfl (by kernel_rfl) (by kernel_rfl) (by kernel_rfl) (fun _ _ _ h => h) (by rfl) (by assumption) ?_)
    | (refine Ro.take_on (i := 13) (v := ?_) rfl (by kernel_rfl) (by kernel_rfl) (by kernel_rfl) (fun _ _ _ h => h) (by rfl) (by assumption) ?_ ?_; rotate_left; · (intro wS hSw; (try dsimp only at hSw); go_simp; try with_reducible rfl))
  try simp only [Act.put, List.setIfInBounds_toArray, List.set_cons_zero, List.set_cons_succ]
  first
    | (refine Ro.take_off (i := 14) rfl (by kernel_rfl) (by kernel_rfl) (by kernel_rfl) (fun _ _ _ h => h) (by rfl) (by assumption) ?_)
    | (refine Ro.take_on (i := 14) (v := ?_) rfl (by kernel_rfl) (by kernel_rfl) (by kernel_rfl) (fun _ _ _ h => h) (by rfl) (by assumption) ?_ ?_; rotate_left; · (intro wS hSw; (try dsimp only at hSw); go_simp; try with_reducible rfl))
  try simp only [Act.put, List.setIfInBounds_toArray, List.set_cons_zero, List.set_cons_succ]
  first
    | (refine Ro.take_off (i := 15) rfl (by kernel_rfl) (by kernel_rfl) (by kernel_rfl) (fun _ _ _ h => h) (by rfl) (by assumption) ?_)
    | (refine Ro.take_on (i := 15) (v := ?_) rfl (by kernel_rfl) (by kernel_rfl) (by kernel_rfl) (fun _ _ _ h => h) (by rfl) (by assumption) ?_ ?_; rotate_left; · (intro wS hSw; (try dsimp only at hSw); go_simp; try with_reducible rfl))
  try simp only [Act.put, List.setIfInBounds_toArray, List.set_cons_zero, List.set_cons_succ]
  first
    | (refine Ro.take_off (i := 16) rfl (by kernel_rfl) (by kernel_rfl) (by kernel_rfl) (fun _ _ _ h => h) (by rfl) (by assumption) ?_)
    | (refine Ro.take_on (i := 16) (v := ?_) rfl (by kernel_rfl) (by kernel_rfl) (by kernel_rfl) (fun _ _ _ h => h) (by rfl) (by assumption) ?_ ?_; rotate_left; · (intro wS hSw; (try dsimp only at hSw); go_simp; try with_reducible rfl))
  try simp only [Act.put, List.setIfInBounds_toArray, List.set_cons_zero, List.set_cons_succ]
  first
    | (refine Ro.take_off (i := 17) rfl (by kernel_rfl) (by kernel_rfl) (by kernel_rfl) (fun _ _ _ h => h) (by rfl) (by assumption) ?_)
    | (refine Ro.take_on (i := 17) (v := ?_) rfl (by kernel_rfl) (by kernel_rfl) (by kernel_rfl) (fun _ _ _ h => h) (by rfl) (by assumption) ?_ ?_; rotate_left; · (intro wS hSw; (try dsimp only at hSw); go_simp; try with_reducible rfl))
  try simp only [Act.put, List.setIfInBounds_toArray, List.set_cons_zero, List.set_cons_succ]
  first
    | (refine Ro.take_off (i := 18) rfl (by kernel_rfl) (by kernel_rfl) (by kernel_rfl) (fun _ _ _ h => h) (by rfl) (by assumption) ?_)
    | (refine Ro.take_on (i := 18) (v := ?_) rfl (by kernel_rfl) (by kernel_rfl) (by kernel_rfl) (fun _ _ _ h => h) (by rfl) (by assumption) ?_ ?_; rotate_left; · (intro wS hSw; (try dsimp only at hSw); go_simp; try with_reducible rfl))
  try simp only [Act.put, List.setIfInBounds_toArray, List.set_cons_zero, List.set_cons_succ]
  first
    | (refine Ro.take_off (i := 19) rfl (by kernel_rfl) (by kernel_rfl) (by kernel_rfl) (fun _ _ _ h => h) (by rfl) (by assumption) ?_)
    | (refine Ro.take_on (i := 19) (v := ?_) rfl (by kernel_rfl) (by kernel_rfl) (by kernel_rfl) (fun _ _ _ h => h) (by rfl) (by assumption) ?_ ?_; rotate_left; · (intro wS hSw; (try dsimp only at hSw); go_simp; try with_reducible rfl))
  try simp only [Act.put, List.setIfInBounds_toArray, List.set_cons_zero, List.set_cons_succ]
  first
    | (refine Ro.take_off (i := 20) rfl (by kernel_rfl) (by kernel_rfl) (by kernel_rfl) (fun _ _ _ h => h) (by rfl) (by assumption) ?_)
    | (refine Ro.take_on (i := 20) (v := ?_) rfl (by kernel_rfl) (by kernel_rfl) (by kernel_rfl) (fun _ _ _ h => h) (by rfl) (by assumption) ?_ ?_; rotate_left; · (intro wS hSw; (try dsimp only at hSw); go_simp; try with_reducible rfl))
  try simp only [Act.put, List.setIfInBounds_toArray, List.set_cons_zero, List.set_cons_succ]
  first
    | (refine Ro.take_off (i := 21) rfl (by kernel_rfl) (by kernel_rfl) (by kernel_rfl) (fun _ _ _ h => h) (by rfl) (by assumption) ?_)
    | (refine Ro.one_on (i := 21) rfl (by kernel_rfl) (by rfl) (fun K hK => ?_); go_simp; go_at_call 97; (refine (TA.out _ (H1.out.of_same ((Same.refl w1).drew))).mono ?_; rintro e w3 ⟨rfl, h3, c3⟩); (first | refine hK.out _ _ ?_ (fun hNew => ?_) | (go_wp2_with fail; refine hK.out _ _ ?_ (fun hNew => ?_))); (· (exact ⟨c3.cell hHeld.1 HNE.out, c3.cell hHeld.2.1 HNE.out, c3.cell hHeld.2.2.1 HNE.out, c3.cell hHeld.2.2.2.1 HNE.out, c3.cell hHeld.2.2.2.2 HNE.out⟩)); clear hK K hHeld; have hHeld := hNew; clear hNew)
  try simp only [Act.put, List.setIfInBounds_toArray, List.set_cons_zero, List.set_cons_succ]
  first
    | (refine Ro.take_off (i := 22) rfl (by kernel_rfl) (by kernel_rfl) (by kernel_rfl) (fun _ _ _ h => h) (by rfl) (by assumption) ?_)
    | (refine Ro.take_on (i := 22) (v := ?_) rfl (by kernel_rfl) (by kernel_rfl) (by kernel_rfl) (fun _ _ _ h => h) (by rfl) (by assumption) ?_ ?_; rotate_left; · (intro wS hSw; (try dsimp only at hSw); go_simp; try with_reducible rfl))
  try simp only [Act.put, List.setIfInBounds_toArray, List.set_cons_zero, List.set_cons_succ]
  first
    | (refine Ro.take_off (i := 23) rfl (by kernel_rfl) (by kernel_rfl) (by kernel_rfl) (fun _ _ _ h => h) (by rfl) (by assumption) ?_)
    | (refine Ro.take_on (i := 23) (v := ?_) rfl (by kernel_rfl) (by kernel_rfl) (by kernel_rfl) (fun _ _ _ h => h) (by rfl) (by assumption) ?_ ?_; rotate_left; · (intro wS hSw; (try dsimp only at hSw); go_simp; try with_reducible rfl))
  try simp only [Act.put, List.setIfInBounds_toArray, List.set_cons_zero, List.set_cons_succ]
  first
    | (refine Ro.take_off (i := 24) rfl (by kernel_rfl) (by kernel_rfl) (by kernel_rfl) (fun _ _ _ h => h) (by rfl) (by assumption) ?_)
    | (refine Ro.take_on (i := 24) (v := ?_) rfl (by kernel_rfl) (by kernel_rfl) (by kernel_rfl) (fun _ _ _ h => h) (by rfl) (by assumption) ?_ ?_; rotate_left; · (intro wS hSw; (try dsimp only at hSw); go_simp; try with_reducible rfl))
  try simp only [Act.put, List.setIfInBounds_toArray, List.set_cons_zero, List.set_cons_succ]
  refine wpAnyH_done (by kernel_rfl) ?_ _
  obtain ⟨z0, z9, z10, z11, z12, z13⟩ := h3.cs
  have fz := h3.fz 0
  obtain ⟨_, _, _, _, y4'⟩ := hHeld
  have H2 := Lib.hid h3
  have C2 := Lib.hid (((HS1.out.trans ((Same.refl w1).drew)).chg (S13 R g T)).trans c3)
  clear h3 c3
  obtain ⟨h1, c1⟩ := H2.out.set_pc (s.f.pc + 1)
  have HH := Lib.hid h1
  have HC := Lib.hid (C2.out.trans c1)
  clear h1 c1
  go_wp2_with fail
  go_end0
  exact ⟨rfl, HH.out, HC.out⟩
end
end Go.Proofs.YtiipdeionmndcaaDoor.Fr
end
