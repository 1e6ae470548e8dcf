/-

  Layer 13: the document's Step where there is no step.
-/
import Derived.Test.YtgimelpjklnjmabDoorFrmRef
import Derived.Deep.CutBlock
section
set_option linter.unusedVariables false
set_option linter.unusedSimpArgs false
namespace Go.Proofs.YtgimelpjklnjmabDoor.Fr
open Go.ChangeShapes Go.WideShapes Go.ChangeAt Go.RowKit Ws
open Go.Proofs.YtgimelpjklnjmabDoor.Fp (Ins at_ Fine at_some)
open Go.Proofs.YtgimelpjklnjmabDoor.Fw (Prg okB ckE check_any okB_fine rightI)
open Go.Proofs.YtgimelpjklnjmabDoor.Is (Tabs)

/-- how the document's work stands: its frame, its turns, the words -/
structure D13 (w0 w : World) (bf : Nat) (s : SS) (T : Option Addr) (nT cT : Nat) (C : Option Addr) (n dC : Nat) : Prop where
  fr : Blk w bf 26 #[.int .i64 s.f.pc, .int .u32 (rk s.f 0), .int .u32 (rk s.f 1), .int .u32 (rk s.f 2), .int .u32 (rk s.f 3), .int .u32 (rk s.f 4), .int .u32 (rk s.f 5), .int .u32 (rk s.f 6), .int .u32 (rk s.f 7), .slice T nT cT]
  tn : Own w w0.heap.size 3 T cT (s.f.tn.map (Value.int .i64))
  len : s.f.tn.length = nT
  ws : Own w 0 22 C dC ((cst s.ws).map (Value.int .u32))
  wlen : s.ws.length = n
  base : Chg (fun i => C = some ⟨i, 0, none⟩) w0 w
  fb : w0.heap.size ≤ bf
section
variable {w0 w w' : World} {bf : Nat} {s : SS} {T : Option Addr} {nT cT : Nat} {C : Option Addr} {n dC : Nat}
theorem frm_reg {t : TypeId} (h : Blk w bf t #[.int .i64 s.f.pc, .int .u32 (rk s.f 0), .int .u32 (rk s.f 1), .int .u32 (rk s.f 2), .int .u32 (rk s.f 3), .int .u32 (rk s.f 4), .int .u32 (rk s.f 5), .int .u32 (rk s.f 6), .int .u32 (rk s.f 7), .slice T nT cT]) {k : Nat} (hk : k < 8) : w.cell? ⟨bf, 1 + k, none⟩ = some (.int .u32 ((s.f.rg.getD k 0 : Nat) : Int)) := by
  have h2 := h.cell (1 + k)
  rw [h2]
  rcases (show k = 0 ∨ k = 1 ∨ k = 2 ∨ k = 3 ∨ k = 4 ∨ k = 5 ∨ k = 6 ∨ k = 7 by omega) with rfl | rfl | rfl | rfl | rfl | rfl | rfl | rfl <;> rfl
theorem D13.same (h : D13 w0 w bf s T nT cT C n dC) (hs : Same w w') : D13 w0 w' bf s T nT cT C n dC :=
  ⟨h.fr.same hs, h.tn.same hs, h.len, h.ws.same hs, h.wlen, h.base.trans (hs.chg _), h.fb⟩
theorem D13.tne (h : D13 w0 w bf s T nT cT C n dC) : ∀ i, T = some ⟨i, 0, none⟩ → i ≠ bf := fun i hi => h.tn.ne h.fr (by decide) i hi
theorem D13.cne (h : D13 w0 w bf s T nT cT C n dC) : ∀ i, C = some ⟨i, 0, none⟩ → i ≠ bf := fun i hi => h.ws.ne h.fr (by decide) i hi
theorem D13.tc (h : D13 w0 w bf s T nT cT C n dC) {gt : Nat} (hT : T = some ⟨gt, 0, none⟩) : ∀ i, C = some ⟨i, 0, none⟩ → i ≠ gt := fun i hi => by
  rcases h.tn.2 with ⟨hz, _⟩ | ⟨g2, cap, cur, hv, hB, hg, _⟩
  · rw [hT] at hz; cases hz
  · rw [hT] at hv
    injection hv with hv
    injection hv with hv
    injection hv with hv
    subst hv
    exact h.ws.ne (t := 3) hg (by decide) i hi
theorem D13.setf (h : D13 w0 w bf s T nT cT C n dC) {f' : FS} {i : Nat} {v : Value} (hb : Blk (w.setCell ⟨bf, i, none⟩ v) bf 26 #[.int .i64 f'.pc, .int .u32 (rk f' 0), .int .u32 (rk f' 1), .int .u32 (rk f' 2), .int .u32 (rk f' 3), .int .u32 (rk f' 4), .int .u32 (rk f' 5), .int .u32 (rk f' 6), .int .u32 (rk f' 7), .slice T nT cT]) (ht : f'.tn = s.f.tn) : D13 w0 (w.setCell ⟨bf, i, none⟩ v) bf ⟨f', s.ws, s.st⟩ T nT cT C n dC := by
  have hc : Chg (fun i => i = bf) w (w.setCell ⟨bf, i, none⟩ v) := (Chg.refl (fun i => i = bf) w).set (p := ⟨bf, i, none⟩) (.inl rfl) _
  refine ⟨hb, ?_, ?_, h.ws.chg hc (fun i hi he => h.cne i hi he), h.wlen, chg_nw h.base hc h.fb, h.fb⟩
  · show Own _ _ _ T cT (f'.tn.map _)
    rw [ht]
    exact h.tn.chg hc fun i hi he => h.tne i hi he
  · show f'.tn.length = nT
    rw [ht]
    exact h.len
theorem D13.set_rg (h : D13 w0 w bf s T nT cT C n dC) (h8 : s.f.rg.length = 8) {k : Nat} (hk : k < 8) (v : Nat) : D13 w0 (w.setCell ⟨bf, 1 + k, none⟩ (.int .u32 (v : Int))) bf ⟨{ s.f with rg := s.f.rg.set k v }, s.ws, s.st⟩ T nT cT C n dC := by
  refine h.setf (f' := { s.f with rg := s.f.rg.set k v }) ?_ rfl
  have h2 := h.fr.put (1 + k) (.int .u32 (v : Int))
  have h3 : ∀ j : Nat, rk { s.f with rg := s.f.rg.set k v } j = if j = k then (v : Int) else rk s.f j := fun j => by
    unfold rk
    simp only [List.getD_eq_getElem?_getD, List.getElem?_set]
    by_cases hj : j = k
    · subst hj; simp [h8, hk]
    · rw [if_neg (Ne.symm hj), if_neg hj]
  simp only [h3]
  rcases (show k = 0 ∨ k = 1 ∨ k = 2 ∨ k = 3 ∨ k = 4 ∨ k = 5 ∨ k = 6 ∨ k = 7 by omega) with rfl | rfl | rfl | rfl | rfl | rfl | rfl | rfl <;> simpa using h2
theorem D13.set_pc (h : D13 w0 w bf s T nT cT C n dC) (v : Int) : D13 w0 (w.setCell ⟨bf, 0, none⟩ (.int .i64 v)) bf ⟨{ s.f with pc := v }, s.ws, s.st⟩ T nT cT C n dC :=
  h.setf (f' := { s.f with pc := v }) (by have h2 := h.fr.put 0 (.int .i64 v); simpa [rk] using h2) rfl
theorem D13.set_tn (h : D13 w0 w bf s T nT cT C n dC) {gt : Nat} (hT : T = some ⟨gt, 0, none⟩) (k : Nat) (v : Int) : D13 w0 (w.setCell ⟨gt, k, none⟩ (.int .i64 v)) bf ⟨{ s.f with tn := s.f.tn.set k v }, s.ws, s.st⟩ T nT cT C n dC := by
  have hc : Chg (fun i => i = gt) w (w.setCell ⟨gt, k, none⟩ (.int .i64 v)) := (Chg.refl (fun i => i = gt) w).set (p := ⟨gt, k, none⟩) (.inl rfl) _
  refine ⟨h.fr.chg hc (fun he => h.tne gt hT he.symm), ?_, by simpa using h.len, h.ws.chg hc (fun i hi he => h.tc hT i hi he), h.wlen, chg_nw h.base hc (own_ge1 h.tn gt hT), h.fb⟩
  have h2 := h.tn
  rw [hT] at h2 ⊢
  have h3 := Own.put h2 k (.int .i64 v)
  rw [← List.map_set] at h3
  exact h3
theorem D13.set_ws (h : D13 w0 w bf s T nT cT C n dC) {gc : Nat} (hC : C = some ⟨gc, 0, none⟩) (k v : Nat) : D13 w0 (w.setCell ⟨gc, k, none⟩ (.int .u32 (v : Int))) bf ⟨s.f, s.ws.set k v, s.st⟩ T nT cT C n dC := by
  have hc : Chg (fun i => i = gc) w (w.setCell ⟨gc, k, none⟩ (.int .u32 (v : Int))) := (Chg.refl (fun i => i = gc) w).set (p := ⟨gc, k, none⟩) (.inl rfl) _
  refine ⟨h.fr.chg hc (fun he => h.cne gc hC he.symm), h.tn.chg hc (fun i hi he => h.tc hi gc hC he.symm), h.len, ?_, by simpa using h.wlen, h.base.trans (hc.weak fun i _ hi => by rw [hi]; exact hC), h.fb⟩
  have h2 := h.ws
  rw [hC] at h2 ⊢
  have h3 := Own.put h2 k (.int .u32 (v : Int))
  rw [← List.map_set, cst_set] at h3
  exact h3
theorem D13.turn (h : D13 w0 w bf s T nT cT C n dC) {k : Nat} (hk : k < nT) : ∃ gt, T = some ⟨gt, 0, none⟩ ∧ w.cell? ⟨gt, k, none⟩ = some (.int .i64 (s.f.tn.getD k 0)) ∧ w.frozen? ⟨gt, k, none⟩ = false := by
  have hl : k < s.f.tn.length := by have := h.len; omega
  obtain ⟨gt, hT, _, _, hf⟩ := h.tn.thaw (by simp; omega)
  have h2 := World.ownsRow.cells (show w.ownsRow w0.heap.size 3 1 (.slice (some ⟨gt, 0, none⟩) _ cT) _ _ from hT ▸ h.tn) (g := gt) rfl k (.int .i64 (s.f.tn.getD k 0)) (by rw [List.getElem?_map, List.getElem?_eq_getElem hl, List.getD_eq_getElem?_getD, List.getElem?_eq_getElem hl]; rfl)
  refine ⟨gt, hT, ?_, hf k⟩
  cases k with
  | zero => simpa [Addr.add] using h2
  | succ k => simpa [Addr.add] using h2
theorem D13.word (h : D13 w0 w bf s T nT cT C n dC) {k : Nat} (hk : k < n) : ∃ gc, C = some ⟨gc, 0, none⟩ ∧ w.cell? ⟨gc, k, none⟩ = some (.int .u32 ((s.ws.getD k 0 : Nat) : Int)) ∧ w.frozen? ⟨gc, k, none⟩ = false := by
  have hl : k < s.ws.length := by have := h.wlen; omega
  obtain ⟨gc, hC, _, _, hf⟩ := h.ws.thaw (by simp [cst]; omega)
  have h2 := World.ownsRow.cells (show w.ownsRow 0 22 1 (.slice (some ⟨gc, 0, none⟩) _ dC) _ _ from hC ▸ h.ws) (g := gc) rfl k (.int .u32 ((s.ws.getD k 0 : Nat) : Int)) (by
    unfold cst
    rw [List.getElem?_map, List.getElem?_map, List.getElem?_eq_getElem hl, List.getD_eq_getElem?_getD, List.getElem?_eq_getElem hl]; rfl)
  refine ⟨gc, hC, ?_, hf k⟩
  cases k with
  | zero => simpa [Addr.add] using h2
  | succ k => simpa [Addr.add] using h2
/-- behind the document's Step -/
def RefP (w0 : World) (s' : SS) (nT : Nat) (C : Option Addr) (n dC : Nat) (kd st : Int) (e : Ending) (w' : World) : Prop := ∃ T' c', e = .returned (.tuple #[.agg #[.int .i64 s'.f.pc, .int .u32 (rk s'.f 0), .int .u32 (rk s'.f 1), .int .u32 (rk s'.f 2), .int .u32 (rk s'.f 3), .int .u32 (rk s'.f 4), .int .u32 (rk s'.f 5), .int .u32 (rk s'.f 6), .int .u32 (rk s'.f 7), .slice T' nT c'], .int .i64 kd, .int .i64 st]) ∧ Own w' w0.heap.size 3 T' c' (s'.f.tn.map (Value.int .i64)) ∧ Own w' 0 22 C dC ((cst s'.ws).map (Value.int .u32)) ∧ Chg (fun i => C = some ⟨i, 0, none⟩) w0 w'
/-- how its three variables stand at the beginning -/
structure V13 (w0 w : World) (b1 : Nat) (oa ol : Int) : Prop where
  rg : Blk w b1 30 #[.int .i64 oa, .int .i64 ol]
  rs : Blk w (b1 + 1) 26 #[.int .i64 0, .int .u32 0, .int .u32 0, .int .u32 0, .int .u32 0, .int .u32 0, .int .u32 0, .int .u32 0, .int .u32 0, .slice none 0 0]
theorem ref_end (h : D13 w0 w bf s T nT cT C n dC) {bz : Nat} (hz : Blk w bz 26 #[.int .i64 0, .int .u32 0, .int .u32 0, .int .u32 0, .int .u32 0, .int .u32 0, .int .u32 0, .int .u32 0, .int .u32 0, .slice none 0 0]) (hzb : w0.heap.size ≤ bz) (kd st : Int) :
    ∀ w5, w5 = ((((((((((w.setCell ⟨bz, 0, none⟩ (.int .i64 s.f.pc)).setCell ⟨bz, 1, none⟩ (.int .u32 (rk s.f 0))).setCell ⟨bz, 2, none⟩ (.int .u32 (rk s.f 1))).setCell ⟨bz, 3, none⟩ (.int .u32 (rk s.f 2))).setCell ⟨bz, 4, none⟩ (.int .u32 (rk s.f 3))).setCell ⟨bz, 5, none⟩ (.int .u32 (rk s.f 4))).setCell ⟨bz, 6, none⟩ (.int .u32 (rk s.f 5))).setCell ⟨bz, 7, none⟩ (.int .u32 (rk s.f 6))).setCell ⟨bz, 8, none⟩ (.int .u32 (rk s.f 7))).setCell ⟨bz, 9, none⟩ (.slice T nT cT)) → Blk w5 bz 26 #[.int .i64 s.f.pc, .int .u32 (rk s.f 0), .int .u32 (rk s.f 1), .int .u32 (rk s.f 2), .int .u32 (rk s.f 3), .int .u32 (rk s.f 4), .int .u32 (rk s.f 5), .int .u32 (rk s.f 6), .int .u32 (rk s.f 7), .slice T nT cT] ∧ RefP w0 s nT C n dC kd st (.returned (.tuple #[.agg #[.int .i64 s.f.pc, .int .u32 (rk s.f 0), .int .u32 (rk s.f 1), .int .u32 (rk s.f 2), .int .u32 (rk s.f 3), .int .u32 (rk s.f 4), .int .u32 (rk s.f 5), .int .u32 (rk s.f 6), .int .u32 (rk s.f 7), .slice T nT cT], .int .i64 kd, .int .i64 st])) w5 := by
  intro w5 h5
  obtain ⟨p1, p2⟩ := puts10 (v0 := .int .i64 s.f.pc) (v1 := .int .u32 (rk s.f 0)) (v2 := .int .u32 (rk s.f 1)) (v3 := .int .u32 (rk s.f 2)) (v4 := .int .u32 (rk s.f 3)) (v5 := .int .u32 (rk s.f 4)) (v6 := .int .u32 (rk s.f 5)) (v7 := .int .u32 (rk s.f 6)) (v8 := .int .u32 (rk s.f 7)) (v9 := .slice T nT cT) hz
  rw [← h5] at p1 p2
  exact ⟨p1, T, cT, rfl, h.tn.chg p2 (fun i hi he => h.tn.ne hz (by decide) i hi he), h.ws.chg p2 (fun i hi he => h.ws.ne hz (by decide) i hi he), chg_nw h.base p2 hzb⟩
end
end Go.Proofs.YtgimelpjklnjmabDoor.Fr
end
section
set_option linter.unusedVariables false
set_option linter.unusedSimpArgs false
namespace Go.Proofs.YtgimelpjklnjmabDoor.Fr
open Go.ChangeShapes Go.WideShapes Go.ChangeAt Go.RowKit Ws
open Go.Proofs.YtgimelpjklnjmabDoor.Fp (Ins at_ Fine at_some)
open Go.Proofs.YtgimelpjklnjmabDoor.Fw (Prg okB ckE check_any okB_fine rightI)
open Go.Proofs.YtgimelpjklnjmabDoor.Is (Tabs)

set_option maxRecDepth 100000 in
set_option maxHeartbeats 8000000 in
theorem rstep_off (f : FS) (ws : List Nat) (st : Int) (T : Option Addr) (nT cT : Nat) (A : Option Addr) (m cA : Nat) (C : Option Addr) (n dC : Nat) (oa ol : Int) (p : List Ins) (w : World) (hT : Row w T (f.tn.map (Value.int .i64))) (hn : f.tn.length = nT) (hb : nT ≤ 5000) (hp : Prg w A p) (hl : p.length = m) (hm : m ≤ 5000) (hc : Own w 0 22 C dC ((cst ws).map (Value.int .u32))) (hcn : ws.length = n) (hcb : n ≤ 4096) (hmb : mayB p ⟨f, ws, st⟩ oa ol = false) :
    Calls Tryd.prog 16 #[.agg #[.int .i64 f.pc, .int .u32 (rk f 0), .int .u32 (rk f 1), .int .u32 (rk f 2), .int .u32 (rk f 3), .int .u32 (rk f 4), .int .u32 (rk f 5), .int .u32 (rk f 6), .int .u32 (rk f 7), .slice T nT cT], .slice A m cA, .slice C n dC, .agg #[.int .i64 oa, .int .i64 ol]] w (RefP w ⟨f, ws, st⟩ nT C n dC 3 0) := by
  obtain ⟨w1, hw1⟩ : ∃ w1, w1 = ((w.alloc (.cells #[.int .i64 f.pc, .int .u32 (rk f 0), .int .u32 (rk f 1), .int .u32 (rk f 2), .int .u32 (rk f 3), .int .u32 (rk f 4), .int .u32 (rk f 5), .int .u32 (rk f 6), .int .u32 (rk f 7), .slice T nT cT] 26)).alloc (.cells #[.int .i64 oa, .int .i64 ol] 30)).alloc (.cells #[.int .i64 0, .int .u32 0, .int .u32 0, .int .u32 0, .int .u32 0, .int .u32 0, .int .u32 0, .int .u32 0, .int .u32 0, .slice none 0 0] 26) := ⟨_, rfl⟩
  have hs1 : Same w w1 := hw1 ▸ (((Same.refl w).alloc _).alloc _).alloc _
  have hbb : Blk w1 w.heap.size 26 #[.int .i64 f.pc, .int .u32 (rk f 0), .int .u32 (rk f 1), .int .u32 (rk f 2), .int .u32 (rk f 3), .int .u32 (rk f 4), .int .u32 (rk f 5), .int .u32 (rk f 6), .int .u32 (rk f 7), .slice T nT cT] := hw1 ▸ ((Blk.new w _ _).same ((Same.refl _).alloc _)).same ((Same.refl _).alloc _)
  have hbr : Blk w1 (w.heap.size + 1) 30 #[.int .i64 oa, .int .i64 ol] := by
    have h := (Blk.new (w.alloc (.cells #[.int .i64 f.pc, .int .u32 (rk f 0), .int .u32 (rk f 1), .int .u32 (rk f 2), .int .u32 (rk f 3), .int .u32 (rk f 4), .int .u32 (rk f 5), .int .u32 (rk f 6), .int .u32 (rk f 7), .slice T nT cT] 26)) 30 #[.int .i64 oa, .int .i64 ol]).same ((Same.refl _).alloc (.cells #[.int .i64 0, .int .u32 0, .int .u32 0, .int .u32 0, .int .u32 0, .int .u32 0, .int .u32 0, .int .u32 0, .int .u32 0, .slice none 0 0] 26))
    rw [hw1]
    simpa using h
  have hbz : Blk w1 (w.heap.size + 1 + 1) 26 #[.int .i64 0, .int .u32 0, .int .u32 0, .int .u32 0, .int .u32 0, .int .u32 0, .int .u32 0, .int .u32 0, .int .u32 0, .slice none 0 0] := by
    have h := Blk.new ((w.alloc (.cells #[.int .i64 f.pc, .int .u32 (rk f 0), .int .u32 (rk f 1), .int .u32 (rk f 2), .int .u32 (rk f 3), .int .u32 (rk f 4), .int .u32 (rk f 5), .int .u32 (rk f 6), .int .u32 (rk f 7), .slice T nT cT] 26)).alloc (.cells #[.int .i64 oa, .int .i64 ol] 30)) 26 #[.int .i64 0, .int .u32 0, .int .u32 0, .int .u32 0, .int .u32 0, .int .u32 0, .int .u32 0, .int .u32 0, .int .u32 0, .slice none 0 0]
    rw [hw1]
    simpa using h
  have E1 := Lib.hid hw1
  have HS1 := Lib.hid hs1
  have HBB := Lib.hid hbb
  have HBR := Lib.hid hbr
  have HBZ := Lib.hid hbz
  have HN := Lib.hid hn
  have CP := Lib.hid (rcopy_any f T nT cT w1 (hT.same hs1) hn hb)
  have HP := Lib.hid hp
  have HL := Lib.hid hl
  have HC := Lib.hid hc
  have HCN := Lib.hid hcn
  obtain ⟨x0, x1, x2, x3, x4, x5, x6, x7, x8, x9⟩ := (⟨hbb.cell 0, hbb.cell 1, hbb.cell 2, hbb.cell 3, hbb.cell 4, hbb.cell 5, hbb.cell 6, hbb.cell 7, hbb.cell 8, hbb.cell 9⟩ : _ ∧ _ ∧ _ ∧ _ ∧ _ ∧ _ ∧ _ ∧ _ ∧ _ ∧ _)
  simp only [List.getElem?_toArray, List.getElem?_cons_zero, List.getElem?_cons_succ] at x0 x1 x2 x3 x4 x5 x6 x7 x8 x9
  clear hw1 hs1 hbb hbr hbz hT hn hp hl hc hcn
  go_enter Tryd.func16, Tryd.ntmps16
  go_upto_region 1 with fail
  rw [← E1.out]
  clear E1
  generalize hq0 : w.heap.size + 1 = b1 at *
  have HQ0 := Lib.hid hq0
  clear hq0
  generalize hq1 : w.heap.size = b0 at *
  have HQ1 := Lib.hid hq1
  clear hq1
  go_wp2_with fail
  refine CP.out.mono ?_
  rintro e w2 ⟨T', c', rfl, ho, s2⟩
  have HO := Lib.hid (ho.base (B' := w.heap.size) (by have := HS1.out.size; exact this))
  have HB2 := Lib.hid (HBB.out.same s2)
  have HS2 := Lib.hid (HS1.out.trans s2)
  have HBR2 := Lib.hid (HBR.out.same s2)
  have HBZ2 := Lib.hid (HBZ.out.same s2)
  clear ho s2 x0 x1 x2 x3 x4 x5 x6 x7 x8 x9 CP
  obtain ⟨y0, y1, y2, y3, y4, y5, y6, y7, y8, y9⟩ := (⟨HB2.out.cell 0, HB2.out.cell 1, HB2.out.cell 2, HB2.out.cell 3, HB2.out.cell 4, HB2.out.cell 5, HB2.out.cell 6, HB2.out.cell 7, HB2.out.cell 8, HB2.out.cell 9⟩ : _ ∧ _ ∧ _ ∧ _ ∧ _ ∧ _ ∧ _ ∧ _ ∧ _ ∧ _)
  simp only [List.getElem?_toArray, List.getElem?_cons_zero, List.getElem?_cons_succ] at y0 y1 y2 y3 y4 y5 y6 y7 y8 y9
  obtain ⟨u0, u1, u2, u3, u4, u5, u6, u7, u8, u9⟩ := (⟨HB2.out.thaw 0, HB2.out.thaw 1, HB2.out.thaw 2, HB2.out.thaw 3, HB2.out.thaw 4, HB2.out.thaw 5, HB2.out.thaw 6, HB2.out.thaw 7, HB2.out.thaw 8, HB2.out.thaw 9⟩ : _ ∧ _ ∧ _ ∧ _ ∧ _ ∧ _ ∧ _ ∧ _ ∧ _ ∧ _)
  obtain ⟨w3, hw3⟩ : ∃ w3, w3 = ((((((((((w2.setCell ⟨b0, 0, none⟩ (.int .i64 f.pc)).setCell ⟨b0, 1, none⟩ (.int .u32 (rk f 0))).setCell ⟨b0, 2, none⟩ (.int .u32 (rk f 1))).setCell ⟨b0, 3, none⟩ (.int .u32 (rk f 2))).setCell ⟨b0, 4, none⟩ (.int .u32 (rk f 3))).setCell ⟨b0, 5, none⟩ (.int .u32 (rk f 4))).setCell ⟨b0, 6, none⟩ (.int .u32 (rk f 5))).setCell ⟨b0, 7, none⟩ (.int .u32 (rk f 6))).setCell ⟨b0, 8, none⟩ (.int .u32 (rk f 7))).setCell ⟨b0, 9, none⟩ (.slice T' nT c')) := ⟨_, rfl⟩
  obtain ⟨p1, p2⟩ := puts10 (v0 := .int .i64 f.pc) (v1 := .int .u32 (rk f 0)) (v2 := .int .u32 (rk f 1)) (v3 := .int .u32 (rk f 2)) (v4 := .int .u32 (rk f 3)) (v5 := .int .u32 (rk f 4)) (v6 := .int .u32 (rk f 5)) (v7 := .int .u32 (rk f 6)) (v8 := .int .u32 (rk f 7)) (v9 := .slice T' nT c') HB2.out
  rw [← hw3] at p1 p2
  have E3 := Lib.hid hw3
  have H3 := Lib.hid (show D13 w w3 b0 ⟨f, ws, st⟩ T' nT c' C n dC from ⟨p1, HO.out.chg p2 (fun g hg he => HO.out.ne HB2.out (by decide) g hg he), HN.out, (HC.out.same HS2.out).chg p2 (fun g hg he => (HC.out.same HS2.out).ne HB2.out (by decide) g hg he), HCN.out, (chg_nw (HS2.out.chg _) p2 (by have := HQ1.out; omega)), by have := HQ1.out; omega⟩)
  have HV3 := Lib.hid (show V13 w w3 b1 oa ol from ⟨HBR2.out.chg p2 (fun he => by have := HQ0.out; omega), HBZ2.out.chg p2 (fun he => by have := HQ0.out; omega)⟩)
  have HS3 := Lib.hid (show Same w w3 from chg_nw HS2.out p2 (by have := HQ1.out; omega))
  clear hw3 p1 p2 HO HB2 HS2 HBR2 HBZ2
  go_upto_region 2 with fail
  rw [← E3.out]
  clear E3 y0 y1 y2 y3 y4 y5 y6 y7 y8 y9 u0 u1 u2 u3 u4 u5 u6 u7 u8 u9
  obtain ⟨z0, z1, z2, z3, z4, z5, z6, z7, z8, z9⟩ := (⟨H3.out.fr.cell 0, H3.out.fr.cell 1, H3.out.fr.cell 2, H3.out.fr.cell 3, H3.out.fr.cell 4, H3.out.fr.cell 5, H3.out.fr.cell 6, H3.out.fr.cell 7, H3.out.fr.cell 8, H3.out.fr.cell 9⟩ : _ ∧ _ ∧ _ ∧ _ ∧ _ ∧ _ ∧ _ ∧ _ ∧ _ ∧ _)
  simp only [List.getElem?_toArray, List.getElem?_cons_zero, List.getElem?_cons_succ] at z0 z1 z2 z3 z4 z5 z6 z7 z8 z9
  obtain ⟨r0, r1⟩ := (⟨HV3.out.rg.cell 0, HV3.out.rg.cell 1⟩ : _ ∧ _)
  simp only [List.getElem?_toArray, List.getElem?_cons_zero, List.getElem?_cons_succ] at r0 r1
  have RR := Lib.hid (rright_any f T' nT c' A m cA p w3 HL.out hm (HP.out.same HS3.out) H3.out.tn.row HN.out hb)
  have HMB : mayB p ⟨f, ws, st⟩ oa ol = (rightF (okB p) p f && (decide (0 < ol) && Mm.inB ws.length oa ol)) := rfl
  rw [HCN.out] at HMB
  have HMB := Lib.hid HMB
  have RI := Lib.hid (fun (w' : World) => rinside_any (n : Int) oa ol (by omega) w')

  rw [hmb] at HMB
  clear hmb
  cases hr : rightF (okB p) p f with
  | false =>
    rw [hr] at RR
    clear hr
    go_wp2_with fail
    refine RR.out.mono ?_
    rintro e w4 ⟨rfl, s4⟩
    have H4 := Lib.hid (H3.out.same s4)
    have HZ4 := Lib.hid (HV3.out.rs.same s4)
    clear s4 z0 z1 z2 z3 z4 z5 z6 z7 z8 z9 r0 r1
    obtain ⟨x0, x1, x2, x3, x4, x5, x6, x7, x8, x9⟩ := (⟨H4.out.fr.cell 0, H4.out.fr.cell 1, H4.out.fr.cell 2, H4.out.fr.cell 3, H4.out.fr.cell 4, H4.out.fr.cell 5, H4.out.fr.cell 6, H4.out.fr.cell 7, H4.out.fr.cell 8, H4.out.fr.cell 9⟩ : _ ∧ _ ∧ _ ∧ _ ∧ _ ∧ _ ∧ _ ∧ _ ∧ _ ∧ _)
    simp only [List.getElem?_toArray, List.getElem?_cons_zero, List.getElem?_cons_succ] at x0 x1 x2 x3 x4 x5 x6 x7 x8 x9
    obtain ⟨y0, y1, y2, y3, y4, y5, y6, y7, y8, y9⟩ := (⟨HZ4.out.cell 0, HZ4.out.cell 1, HZ4.out.cell 2, HZ4.out.cell 3, HZ4.out.cell 4, HZ4.out.cell 5, HZ4.out.cell 6, HZ4.out.cell 7, HZ4.out.cell 8, HZ4.out.cell 9⟩ : _ ∧ _ ∧ _ ∧ _ ∧ _ ∧ _ ∧ _ ∧ _ ∧ _ ∧ _)
    simp only [List.getElem?_toArray, List.getElem?_cons_zero, List.getElem?_cons_succ] at y0 y1 y2 y3 y4 y5 y6 y7 y8 y9
    obtain ⟨u0, u1, u2, u3, u4, u5, u6, u7, u8, u9⟩ := (⟨HZ4.out.thaw 0, HZ4.out.thaw 1, HZ4.out.thaw 2, HZ4.out.thaw 3, HZ4.out.thaw 4, HZ4.out.thaw 5, HZ4.out.thaw 6, HZ4.out.thaw 7, HZ4.out.thaw 8, HZ4.out.thaw 9⟩ : _ ∧ _ ∧ _ ∧ _ ∧ _ ∧ _ ∧ _ ∧ _ ∧ _ ∧ _)
    obtain ⟨w9, hw9⟩ : ∃ w9, w9 = ((((((((((w4.setCell ⟨b1 + 1, 0, none⟩ (.int .i64 f.pc)).setCell ⟨b1 + 1, 1, none⟩ (.int .u32 (rk f 0))).setCell ⟨b1 + 1, 2, none⟩ (.int .u32 (rk f 1))).setCell ⟨b1 + 1, 3, none⟩ (.int .u32 (rk f 2))).setCell ⟨b1 + 1, 4, none⟩ (.int .u32 (rk f 3))).setCell ⟨b1 + 1, 5, none⟩ (.int .u32 (rk f 4))).setCell ⟨b1 + 1, 6, none⟩ (.int .u32 (rk f 5))).setCell ⟨b1 + 1, 7, none⟩ (.int .u32 (rk f 6))).setCell ⟨b1 + 1, 8, none⟩ (.int .u32 (rk f 7))).setCell ⟨b1 + 1, 9, none⟩ (.slice T' nT c')) := ⟨_, rfl⟩
    obtain ⟨p1, p2⟩ := ref_end H4.out HZ4.out (by have := HQ0.out; have := HQ1.out; omega) (3) (0) w9 hw9
    have P1 := Lib.hid p1
    have P2 := Lib.hid p2
    have E9 := Lib.hid hw9
    clear p1 p2 hw9
    go_wp2_with fail
    rw [← E9.out]
    exact bodyPost_ret (v := .tuple #[.agg #[.int .i64 f.pc, .int .u32 (rk f 0), .int .u32 (rk f 1), .int .u32 (rk f 2), .int .u32 (rk f 3), .int .u32 (rk f 4), .int .u32 (rk f 5), .int .u32 (rk f 6), .int .u32 (rk f 7), .slice T' nT c'], .int .i64 (3), .int .i64 (0)]) (results_cell3 Tryd.results16 _ _ (b1 + 1) 26 #[.int .i64 f.pc, .int .u32 (rk f 0), .int .u32 (rk f 1), .int .u32 (rk f 2), .int .u32 (rk f 3), .int .u32 (rk f 4), .int .u32 (rk f 5), .int .u32 (rk f 6), .int .u32 (rk f 7), .slice T' nT c'] (0, 0) _ rfl P1.out Tryd.underlying26 rfl frm_size) rfl P2.out
  | true =>
    rw [hr] at RR HMB
    clear hr
    by_cases h0 : ol < 1
    · go_wp2_with fail
      refine RR.out.mono ?_
      rintro e w4 ⟨rfl, s4⟩
      have H4 := Lib.hid (H3.out.same s4)
      have HZ4 := Lib.hid (HV3.out.rs.same s4)
      have r1' := s4.cell r1
      clear s4 z0 z1 z2 z3 z4 z5 z6 z7 z8 z9 r0 r1
      obtain ⟨x0, x1, x2, x3, x4, x5, x6, x7, x8, x9⟩ := (⟨H4.out.fr.cell 0, H4.out.fr.cell 1, H4.out.fr.cell 2, H4.out.fr.cell 3, H4.out.fr.cell 4, H4.out.fr.cell 5, H4.out.fr.cell 6, H4.out.fr.cell 7, H4.out.fr.cell 8, H4.out.fr.cell 9⟩ : _ ∧ _ ∧ _ ∧ _ ∧ _ ∧ _ ∧ _ ∧ _ ∧ _ ∧ _)
      simp only [List.getElem?_toArray, List.getElem?_cons_zero, List.getElem?_cons_succ] at x0 x1 x2 x3 x4 x5 x6 x7 x8 x9
      obtain ⟨y0, y1, y2, y3, y4, y5, y6, y7, y8, y9⟩ := (⟨HZ4.out.cell 0, HZ4.out.cell 1, HZ4.out.cell 2, HZ4.out.cell 3, HZ4.out.cell 4, HZ4.out.cell 5, HZ4.out.cell 6, HZ4.out.cell 7, HZ4.out.cell 8, HZ4.out.cell 9⟩ : _ ∧ _ ∧ _ ∧ _ ∧ _ ∧ _ ∧ _ ∧ _ ∧ _ ∧ _)
      simp only [List.getElem?_toArray, List.getElem?_cons_zero, List.getElem?_cons_succ] at y0 y1 y2 y3 y4 y5 y6 y7 y8 y9
      obtain ⟨u0, u1, u2, u3, u4, u5, u6, u7, u8, u9⟩ := (⟨HZ4.out.thaw 0, HZ4.out.thaw 1, HZ4.out.thaw 2, HZ4.out.thaw 3, HZ4.out.thaw 4, HZ4.out.thaw 5, HZ4.out.thaw 6, HZ4.out.thaw 7, HZ4.out.thaw 8, HZ4.out.thaw 9⟩ : _ ∧ _ ∧ _ ∧ _ ∧ _ ∧ _ ∧ _ ∧ _ ∧ _ ∧ _)
      obtain ⟨w9, hw9⟩ : ∃ w9, w9 = ((((((((((w4.setCell ⟨b1 + 1, 0, none⟩ (.int .i64 f.pc)).setCell ⟨b1 + 1, 1, none⟩ (.int .u32 (rk f 0))).setCell ⟨b1 + 1, 2, none⟩ (.int .u32 (rk f 1))).setCell ⟨b1 + 1, 3, none⟩ (.int .u32 (rk f 2))).setCell ⟨b1 + 1, 4, none⟩ (.int .u32 (rk f 3))).setCell ⟨b1 + 1, 5, none⟩ (.int .u32 (rk f 4))).setCell ⟨b1 + 1, 6, none⟩ (.int .u32 (rk f 5))).setCell ⟨b1 + 1, 7, none⟩ (.int .u32 (rk f 6))).setCell ⟨b1 + 1, 8, none⟩ (.int .u32 (rk f 7))).setCell ⟨b1 + 1, 9, none⟩ (.slice T' nT c')) := ⟨_, rfl⟩
      obtain ⟨p1, p2⟩ := ref_end H4.out HZ4.out (by have := HQ0.out; have := HQ1.out; omega) (3) (0) w9 hw9
      have P1 := Lib.hid p1
      have P2 := Lib.hid p2
      have E9 := Lib.hid hw9
      clear p1 p2 hw9
      go_wp2_with fail
      rw [← E9.out]
      exact bodyPost_ret (v := .tuple #[.agg #[.int .i64 f.pc, .int .u32 (rk f 0), .int .u32 (rk f 1), .int .u32 (rk f 2), .int .u32 (rk f 3), .int .u32 (rk f 4), .int .u32 (rk f 5), .int .u32 (rk f 6), .int .u32 (rk f 7), .slice T' nT c'], .int .i64 (3), .int .i64 (0)]) (results_cell3 Tryd.results16 _ _ (b1 + 1) 26 #[.int .i64 f.pc, .int .u32 (rk f 0), .int .u32 (rk f 1), .int .u32 (rk f 2), .int .u32 (rk f 3), .int .u32 (rk f 4), .int .u32 (rk f 5), .int .u32 (rk f 6), .int .u32 (rk f 7), .slice T' nT c'] (0, 0) _ rfl P1.out Tryd.underlying26 rfl frm_size) rfl P2.out
    · have HI := Lib.hid (show Mm.inB n oa ol = false by have h := HMB.out; rw [decide_eq_true (show 0 < ol by omega)] at h; simpa using h.symm)
      rw [HI.out] at RI
      go_wp2_with fail
      refine RR.out.mono ?_
      rintro e w4 ⟨rfl, s4⟩
      have r0' := s4.cell r0
      have r1' := s4.cell r1
      have H4' := Lib.hid (H3.out.same s4)
      have HZ4' := Lib.hid (HV3.out.rs.same s4)
      clear s4 z0 z1 z2 z3 z4 z5 z6 z7 z8 z9 r0 r1
      go_wp2_with fail
      refine (RI.out _).mono ?_
      rintro e w5 ⟨rfl, s5⟩
      have H5 := Lib.hid (H4'.out.same s5)
      have HZ5 := Lib.hid (HZ4'.out.same s5)
      clear s5 r0' r1'
      obtain ⟨x0, x1, x2, x3, x4, x5, x6, x7, x8, x9⟩ := (⟨H5.out.fr.cell 0, H5.out.fr.cell 1, H5.out.fr.cell 2, H5.out.fr.cell 3, H5.out.fr.cell 4, H5.out.fr.cell 5, H5.out.fr.cell 6, H5.out.fr.cell 7, H5.out.fr.cell 8, H5.out.fr.cell 9⟩ : _ ∧ _ ∧ _ ∧ _ ∧ _ ∧ _ ∧ _ ∧ _ ∧ _ ∧ _)
      simp only [List.getElem?_toArray, List.getElem?_cons_zero, List.getElem?_cons_succ] at x0 x1 x2 x3 x4 x5 x6 x7 x8 x9
      obtain ⟨y0, y1, y2, y3, y4, y5, y6, y7, y8, y9⟩ := (⟨HZ5.out.cell 0, HZ5.out.cell 1, HZ5.out.cell 2, HZ5.out.cell 3, HZ5.out.cell 4, HZ5.out.cell 5, HZ5.out.cell 6, HZ5.out.cell 7, HZ5.out.cell 8, HZ5.out.cell 9⟩ : _ ∧ _ ∧ _ ∧ _ ∧ _ ∧ _ ∧ _ ∧ _ ∧ _ ∧ _)
      simp only [List.getElem?_toArray, List.getElem?_cons_zero, List.getElem?_cons_succ] at y0 y1 y2 y3 y4 y5 y6 y7 y8 y9
      obtain ⟨u0, u1, u2, u3, u4, u5, u6, u7, u8, u9⟩ := (⟨HZ5.out.thaw 0, HZ5.out.thaw 1, HZ5.out.thaw 2, HZ5.out.thaw 3, HZ5.out.thaw 4, HZ5.out.thaw 5, HZ5.out.thaw 6, HZ5.out.thaw 7, HZ5.out.thaw 8, HZ5.out.thaw 9⟩ : _ ∧ _ ∧ _ ∧ _ ∧ _ ∧ _ ∧ _ ∧ _ ∧ _ ∧ _)
      obtain ⟨w9, hw9⟩ : ∃ w9, w9 = ((((((((((w5.setCell ⟨b1 + 1, 0, none⟩ (.int .i64 f.pc)).setCell ⟨b1 + 1, 1, none⟩ (.int .u32 (rk f 0))).setCell ⟨b1 + 1, 2, none⟩ (.int .u32 (rk f 1))).setCell ⟨b1 + 1, 3, none⟩ (.int .u32 (rk f 2))).setCell ⟨b1 + 1, 4, none⟩ (.int .u32 (rk f 3))).setCell ⟨b1 + 1, 5, none⟩ (.int .u32 (rk f 4))).setCell ⟨b1 + 1, 6, none⟩ (.int .u32 (rk f 5))).setCell ⟨b1 + 1, 7, none⟩ (.int .u32 (rk f 6))).setCell ⟨b1 + 1, 8, none⟩ (.int .u32 (rk f 7))).setCell ⟨b1 + 1, 9, none⟩ (.slice T' nT c')) := ⟨_, rfl⟩
      obtain ⟨p1, p2⟩ := ref_end H5.out HZ5.out (by have := HQ0.out; have := HQ1.out; omega) (3) (0) w9 hw9
      have P1 := Lib.hid p1
      have P2 := Lib.hid p2
      have E9 := Lib.hid hw9
      clear p1 p2 hw9
      go_wp2_with fail
      rw [← E9.out]
      exact bodyPost_ret (v := .tuple #[.agg #[.int .i64 f.pc, .int .u32 (rk f 0), .int .u32 (rk f 1), .int .u32 (rk f 2), .int .u32 (rk f 3), .int .u32 (rk f 4), .int .u32 (rk f 5), .int .u32 (rk f 6), .int .u32 (rk f 7), .slice T' nT c'], .int .i64 (3), .int .i64 (0)]) (results_cell3 Tryd.results16 _ _ (b1 + 1) 26 #[.int .i64 f.pc, .int .u32 (rk f 0), .int .u32 (rk f 1), .int .u32 (rk f 2), .int .u32 (rk f 3), .int .u32 (rk f 4), .int .u32 (rk f 5), .int .u32 (rk f 6), .int .u32 (rk f 7), .slice T' nT c'] (0, 0) _ rfl P1.out Tryd.underlying26 rfl frm_size) rfl P2.out
end Go.Proofs.YtgimelpjklnjmabDoor.Fr
end
