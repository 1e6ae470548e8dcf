/-

  Layer 13: the work on a frame: how its block stands, and its small parts.
-/
import Derived.Test.YtgimelpjklnjmabDoorFrmRight
import Derived.Test.YtgimelpjklnjmabDoorMemFn
import Derived.StillTailTactics
import Derived.Deep.QuietTactic
import Derived.BigQuiet
set_option linter.unusedVariables false
set_option linter.unusedSimpArgs false
namespace Go.Proofs.YtgimelpjklnjmabDoor.Fr
open Go.ChangeShapes Go.WideShapes Go.ChangeAt Go.RowKit Ws
open Go.Proofs.YtgimelpjklnjmabDoor.Fp (Ins at_ Fine at_some)
open Go.Proofs.YtgimelpjklnjmabDoor.Fw (Prg okB ckE check_any okB_fine rightI)
open Go.Proofs.YtgimelpjklnjmabDoor.Is (Tabs)

theorem wk_reg {g : Nat} {f : FS} {T : Option Addr} {nT cT : Nat} {A : Option Addr} {m cA : Nat} {M : Option Addr} {oa ol : Int} {w : World} {t : TypeId} (h : Blk w g t #[.int .i64 f.pc, .int .u32 (rk f 0), .int .u32 (rk f 1), .int .u32 (rk f 2), .int .u32 (rk f 3), .int .u32 (rk f 4), .int .u32 (rk f 5), .int .u32 (rk f 6), .int .u32 (rk f 7), .slice T nT cT, .slice A m cA, .pointer M, .int .i64 oa, .int .i64 ol]) {k : Nat} (hk : k < 8) : w.cell? ⟨g, 1 + k, none⟩ = some (.int .u32 (rk f k)) := by
  have h2 := h.cell (1 + k)
  rw [h2]
  rcases (show k = 0 ∨ k = 1 ∨ k = 2 ∨ k = 3 ∨ k = 4 ∨ k = 5 ∨ k = 6 ∨ k = 7 by omega) with rfl | rfl | rfl | rfl | rfl | rfl | rfl | rfl <;> rfl
/-- the block with one register turned -/
theorem wk_set {g : Nat} {f : FS} {T : Option Addr} {nT cT : Nat} {A : Option Addr} {m cA : Nat} {M : Option Addr} {oa ol : Int} {w : World} {t : TypeId} (h : Blk w g t #[.int .i64 f.pc, .int .u32 (rk f 0), .int .u32 (rk f 1), .int .u32 (rk f 2), .int .u32 (rk f 3), .int .u32 (rk f 4), .int .u32 (rk f 5), .int .u32 (rk f 6), .int .u32 (rk f 7), .slice T nT cT, .slice A m cA, .pointer M, .int .i64 oa, .int .i64 ol]) (h8 : f.rg.length = 8) {k : Nat} (hk : k < 8) (v : Nat) : Blk (w.setCell ⟨g, 1 + k, none⟩ (.int .u32 (v : Int))) g t #[.int .i64 { f with rg := f.rg.set k v }.pc, .int .u32 (rk { f with rg := f.rg.set k v } 0), .int .u32 (rk { f with rg := f.rg.set k v } 1), .int .u32 (rk { f with rg := f.rg.set k v } 2), .int .u32 (rk { f with rg := f.rg.set k v } 3), .int .u32 (rk { f with rg := f.rg.set k v } 4), .int .u32 (rk { f with rg := f.rg.set k v } 5), .int .u32 (rk { f with rg := f.rg.set k v } 6), .int .u32 (rk { f with rg := f.rg.set k v } 7), .slice T nT cT, .slice A m cA, .pointer M, .int .i64 oa, .int .i64 ol] := by
  have h2 := h.put (1 + k) (.int .u32 (v : Int))
  have h3 : ∀ j : Nat, rk { f with rg := f.rg.set k v } j = if j = k then (v : Int) else rk f j := fun j => by
    unfold rk
    simp only [List.getD_eq_getElem?_getD, List.getElem?_set]
    by_cases hj : j = k
    · subst hj; simp [h8, hk]
    · rw [if_neg (Ne.symm hj), if_neg hj]
  simp only [h3]
  rcases (show k = 0 ∨ k = 1 ∨ k = 2 ∨ k = 3 ∨ k = 4 ∨ k = 5 ∨ k = 6 ∨ k = 7 by omega) with rfl | rfl | rfl | rfl | rfl | rfl | rfl | rfl <;> simpa using h2
theorem place_any (g : Nat) (f : FS) (T : Option Addr) (nT cT : Nat) (A : Option Addr) (m cA : Nat) (M : Option Addr) (oa ol : Int) (v : Nat) (w : World) (h : Blk w g 67 #[.int .i64 f.pc, .int .u32 (rk f 0), .int .u32 (rk f 1), .int .u32 (rk f 2), .int .u32 (rk f 3), .int .u32 (rk f 4), .int .u32 (rk f 5), .int .u32 (rk f 6), .int .u32 (rk f 7), .slice T nT cT, .slice A m cA, .pointer M, .int .i64 oa, .int .i64 ol]) (ho : 0 ≤ oa ∧ oa ≤ 4096) (hl : 0 < ol ∧ ol ≤ 4096) (hv : v < 4294967296) :
    Calls Tryd.prog 79 #[.pointer (some ⟨g, 0, none⟩), .int .u32 (v : Int)] w fun e w' => e = .returned (.int .i64 (oa + (v : Int) % ol)) ∧ ∃ n, w' = w.drewN n := by
  have z12 := h.cell 12
  have z13 := h.cell 13
  simp only [List.getElem?_toArray, List.getElem?_cons_zero, List.getElem?_cons_succ] at z12 z13
  clear h
  obtain ⟨x, hx⟩ : ∃ x : Int, x = (v : Int) := ⟨_, rfl⟩
  rw [← hx]
  have hx0 : 0 ≤ x := by omega
  have hx1 : x < 4294967296 := by omega
  clear hx hv
  obtain ⟨h1, h2⟩ := hl
  obtain ⟨h3, h4⟩ := ho
  have h5 : ¬ ol = 0 := by omega
  have h6 : IntKind.u32.wrap ol = ol := Go.IntWalk.u32_in _ (by omega)
  have h7 : 0 ≤ x % ol := Int.emod_nonneg _ h5
  have h8 : x % ol < ol := Int.emod_lt_of_pos _ h1
  have h9 : x.tmod ol = x % ol := Int.tmod_eq_emod_of_nonneg hx0
  have h10 : IntKind.i64.wrap (oa + x % ol) = oa + x % ol := Go.IntWalk.i64_in _ (by omega)
  go_enter Tryd.func79, Tryd.ntmps79
  go_wp2_with fail
  go_quiet (fail)
  go_wp2
  go_ret
  exact ⟨rfl, _, rfl⟩

def cst (l : List Nat) : List Int := l.map fun (x : Nat) => ((x : Nat) : Int)
/-- what the work on a frame turns: its block, the turns, the memory -/
def S13 (R : Nat → Prop) (g : Nat) (T : Option Addr) : Nat → Prop := fun i => i = g ∨ T = some ⟨i, 0, none⟩ ∨ R i
/-- the work on a frame: its block, its turns, the memory; w0 is a world ahead of all of these -/
structure W13 (w0 w : World) (R : Nat → Prop) (g gm : Nat) (s : SS) (T : Option Addr) (nT cT : Nat) (A : Option Addr) (m cA : Nat) (oa ol : Int) : Prop where
  wk : Blk w g 67 #[.int .i64 s.f.pc, .int .u32 (rk s.f 0), .int .u32 (rk s.f 1), .int .u32 (rk s.f 2), .int .u32 (rk s.f 3), .int .u32 (rk s.f 4), .int .u32 (rk s.f 5), .int .u32 (rk s.f 6), .int .u32 (rk s.f 7), .slice T nT cT, .slice A m cA, .pointer (some ⟨gm, 0, none⟩), .int .i64 oa, .int .i64 ol]
  tn : Own w w0.heap.size 3 T cT (s.f.tn.map (Value.int .i64))
  len : s.f.tn.length = nT
  mem : Mm.Mem w R gm (cst s.ws) s.st
  rg : ¬ R g
  rt : ∀ i, T = some ⟨i, 0, none⟩ → ¬ R i
  base : Same w0 w
  gb : w0.heap.size ≤ g
  rb : ∀ i, R i → w0.heap.size ≤ i
section
variable {w0 w w' : World} {R : Nat → Prop} {g gm : Nat} {s : SS} {T : Option Addr} {nT cT : Nat} {A : Option Addr} {m cA : Nat} {oa ol : Int}
theorem W13.tne (h : W13 w0 w R g gm s T nT cT A m cA oa ol) : ∀ i, T = some ⟨i, 0, none⟩ → i ≠ g := fun i hi => h.tn.ne h.wk (by decide) i hi
theorem W13.of_same (h : W13 w0 w R g gm s T nT cT A m cA oa ol) (hs : Same w w') : W13 w0 w' R g gm s T nT cT A m cA oa ol :=
  ⟨h.wk.same hs, h.tn.same hs, h.len, h.mem.same hs, h.rg, h.rt, h.base.trans hs, h.gb, h.rb⟩
theorem W13.setg (h : W13 w0 w R g gm s T nT cT A m cA oa ol) {f' : FS} {i : Nat} {v : Value} (hb : Blk (w.setCell ⟨g, i, none⟩ v) g 67 #[.int .i64 f'.pc, .int .u32 (rk f' 0), .int .u32 (rk f' 1), .int .u32 (rk f' 2), .int .u32 (rk f' 3), .int .u32 (rk f' 4), .int .u32 (rk f' 5), .int .u32 (rk f' 6), .int .u32 (rk f' 7), .slice T nT cT, .slice A m cA, .pointer (some ⟨gm, 0, none⟩), .int .i64 oa, .int .i64 ol]) (ht : f'.tn = s.f.tn) : W13 w0 (w.setCell ⟨g, i, none⟩ v) R g gm ⟨f', s.ws, s.st⟩ T nT cT A m cA oa ol ∧ Chg (S13 R g T) w (w.setCell ⟨g, i, none⟩ v) := by
  have hc : Chg (fun i => i = g) w (w.setCell ⟨g, i, none⟩ v) := (Chg.refl (fun i => i = g) w).set (p := ⟨g, i, none⟩) (.inl rfl) _
  refine ⟨⟨hb, ?_, ?_, h.mem.chg hc (fun i hi he => h.rg (he ▸ hi)), h.rg, h.rt, Same.more h.base hc (fun i hi => by rw [hi]; exact h.gb), h.gb, h.rb⟩, hc.weak fun i _ hi => .inl hi⟩
  · show Own _ _ _ T cT (f'.tn.map _)
    rw [ht]
    exact h.tn.chg hc fun i hi he => h.tne i hi he
  · show f'.tn.length = nT
    rw [ht]
    exact h.len
theorem W13.set_rg (h : W13 w0 w R g gm s T nT cT A m cA oa ol) (h8 : s.f.rg.length = 8) {k : Nat} (hk : k < 8) (v : Nat) :
    W13 w0 (w.setCell ⟨g, 1 + k, none⟩ (.int .u32 (v : Int))) R g gm ⟨{ s.f with rg := s.f.rg.set k v }, s.ws, s.st⟩ T nT cT A m cA oa ol ∧ Chg (S13 R g T) w (w.setCell ⟨g, 1 + k, none⟩ (.int .u32 (v : Int))) :=
  h.setg (f' := { s.f with rg := s.f.rg.set k v }) (wk_set h.wk h8 hk v) rfl
theorem W13.set_pc (h : W13 w0 w R g gm s T nT cT A m cA oa ol) (v : Int) :
    W13 w0 (w.setCell ⟨g, 0, none⟩ (.int .i64 v)) R g gm ⟨{ s.f with pc := v }, s.ws, s.st⟩ T nT cT A m cA oa ol ∧ Chg (S13 R g T) w (w.setCell ⟨g, 0, none⟩ (.int .i64 v)) :=
  h.setg (f' := { s.f with pc := v }) (by have h2 := h.wk.put 0 (.int .i64 v); simpa [rk] using h2) rfl
theorem W13.set_tn (h : W13 w0 w R g gm s T nT cT A m cA oa ol) {gt : Nat} (hT : T = some ⟨gt, 0, none⟩) (k : Nat) (v : Int) :
    W13 w0 (w.setCell ⟨gt, k, none⟩ (.int .i64 v)) R g gm ⟨{ s.f with tn := s.f.tn.set k v }, s.ws, s.st⟩ T nT cT A m cA oa ol ∧ Chg (S13 R g T) w (w.setCell ⟨gt, k, none⟩ (.int .i64 v)) := by
  have hc : Chg (fun i => i = gt) w (w.setCell ⟨gt, k, none⟩ (.int .i64 v)) := (Chg.refl (fun i => i = gt) w).set (p := ⟨gt, k, none⟩) (.inl rfl) _
  have hgt : w0.heap.size ≤ gt := by
    rcases h.tn.2 with ⟨hz, _⟩ | ⟨g2, cap, cur, hv, hB, _⟩
    · rw [hT] at hz; cases hz
    · rw [hT] at hv
      injection hv with hv
      injection hv with hv
      injection hv with hv
      exact hv ▸ hB
  refine ⟨⟨h.wk.chg hc (fun he => h.tne gt hT he.symm), ?_, by simpa using h.len, h.mem.chg hc (fun i hi he => h.rt gt hT (he ▸ hi)), h.rg, h.rt, Same.more h.base hc (fun i hi => by rw [hi]; exact hgt), h.gb, h.rb⟩, hc.weak fun i _ hi => .inr (.inl (by rw [hi]; exact hT))⟩
  have h2 := h.tn
  rw [hT] at h2 ⊢
  have h3 := Own.put h2 k (.int .i64 v)
  rw [← List.map_set] at h3
  exact h3
theorem W13.set_mem (h : W13 w0 w R g gm s T nT cT A m cA oa ol) {ws : List Nat} {st : Int} (hm : Mm.Mem w' R gm (cst ws) st) (hc : Chg R w w') :
    W13 w0 w' R g gm ⟨s.f, ws, st⟩ T nT cT A m cA oa ol ∧ Chg (S13 R g T) w w' :=
  ⟨⟨h.wk.chg hc h.rg, h.tn.chg hc h.rt, h.len, hm, h.rg, h.rt, Same.more h.base hc h.rb, h.gb, h.rb⟩, hc.weak fun i _ hi => .inr (.inr hi)⟩
theorem W13.cs (h : W13 w0 w R g gm s T nT cT A m cA oa ol) : w.cell? ⟨g, 0, none⟩ = some (.int .i64 s.f.pc) ∧ w.cell? ⟨g, 9, none⟩ = some (.slice T nT cT) ∧ w.cell? ⟨g, 10, none⟩ = some (.slice A m cA) ∧ w.cell? ⟨g, 11, none⟩ = some (.pointer (some ⟨gm, 0, none⟩)) ∧ w.cell? ⟨g, 12, none⟩ = some (.int .i64 oa) ∧ w.cell? ⟨g, 13, none⟩ = some (.int .i64 ol) :=
  ⟨h.wk.cell 0, h.wk.cell 9, h.wk.cell 10, h.wk.cell 11, h.wk.cell 12, h.wk.cell 13⟩
theorem W13.fz (h : W13 w0 w R g gm s T nT cT A m cA oa ol) (i : Nat) : w.frozen? ⟨g, i, none⟩ = false := h.wk.thaw i
theorem W13.reg (h : W13 w0 w R g gm s T nT cT A m cA oa ol) {k : Nat} (hk : k < 8) : w.cell? ⟨g, 1 + k, none⟩ = some (.int .u32 ((s.f.rg.getD k 0 : Nat) : Int)) := wk_reg h.wk hk
end
end Go.Proofs.YtgimelpjklnjmabDoor.Fr
