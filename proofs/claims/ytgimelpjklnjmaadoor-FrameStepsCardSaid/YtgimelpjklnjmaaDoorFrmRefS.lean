/-

  Layer 13: the document's Step: its front; and where there is no step.
-/
import Derived.Test.YtgimelpjklnjmaaDoorFrmRef
import Derived.Deep.CutBlock
set_option linter.unusedVariables false
set_option linter.unusedSimpArgs false
namespace Go.Proofs.YtgimelpjklnjmaaDoor.Fr
open Go.ChangeShapes Go.WideShapes Go.ChangeAt Go.RowKit Ws
open Go.Proofs.YtgimelpjklnjmaaDoor.Fp (Ins at_ Fine at_some)
open Go.Proofs.YtgimelpjklnjmaaDoor.Fw (Prg okB ckE check_any okB_fine rightI)
open Go.Proofs.YtgimelpjklnjmaaDoor.Is (Tabs)

/-- how the document's work stands: its frame, its turns, the words -/
structure D13 (w0 w : World) (bf : Nat) (s : SS) (T : Option Addr) (nT cT : Nat) (C : Option Addr) (n dC : Nat) : Prop where
  fr : Blk w bf 53 #[.int .i64 s.f.pc, .int .u32 (rk s.f 0), .int .u32 (rk s.f 1), .int .u32 (rk s.f 2), .int .u32 (rk s.f 3), .int .u32 (rk s.f 4), .int .u32 (rk s.f 5), .int .u32 (rk s.f 6), .int .u32 (rk s.f 7), .slice T nT cT]
  tn : Own w w0.heap.size 3 T cT (s.f.tn.map (Value.int .i64))
  len : s.f.tn.length = nT
  ws : Own w 0 50 C dC ((cst s.ws).map (Value.int .u32))
  wlen : s.ws.length = n
  base : Chg (fun i => C = some ⟨i, 0, none⟩) w0 w
  fb : w0.heap.size ≤ bf
section
variable {w0 w w' : World} {bf : Nat} {s : SS} {T : Option Addr} {nT cT : Nat} {C : Option Addr} {n dC : Nat}
theorem frm_reg {t : TypeId} (h : Blk w bf t #[.int .i64 s.f.pc, .int .u32 (rk s.f 0), .int .u32 (rk s.f 1), .int .u32 (rk s.f 2), .int .u32 (rk s.f 3), .int .u32 (rk s.f 4), .int .u32 (rk s.f 5), .int .u32 (rk s.f 6), .int .u32 (rk s.f 7), .slice T nT cT]) {k : Nat} (hk : k < 8) : w.cell? ⟨bf, 1 + k, none⟩ = some (.int .u32 ((s.f.rg.getD k 0 : Nat) : Int)) := by
  have h2 := h.cell (1 + k)
  rw [h2]
  rcases (show k = 0 ∨ k = 1 ∨ k = 2 ∨ k = 3 ∨ k = 4 ∨ k = 5 ∨ k = 6 ∨ k = 7 by omega) with rfl | rfl | rfl | rfl | rfl | rfl | rfl | rfl <;> rfl
theorem D13.same (h : D13 w0 w bf s T nT cT C n dC) (hs : Same w w') : D13 w0 w' bf s T nT cT C n dC :=
  ⟨h.fr.same hs, h.tn.same hs, h.len, h.ws.same hs, h.wlen, h.base.trans (hs.chg _), h.fb⟩
theorem D13.tne (h : D13 w0 w bf s T nT cT C n dC) : ∀ i, T = some ⟨i, 0, none⟩ → i ≠ bf := fun i hi => h.tn.ne h.fr (by decide) i hi
theorem D13.cne (h : D13 w0 w bf s T nT cT C n dC) : ∀ i, C = some ⟨i, 0, none⟩ → i ≠ bf := fun i hi => h.ws.ne h.fr (by decide) i hi
theorem D13.tc (h : D13 w0 w bf s T nT cT C n dC) {gt : Nat} (hT : T = some ⟨gt, 0, none⟩) : ∀ i, C = some ⟨i, 0, none⟩ → i ≠ gt := fun i hi => by
  rcases h.tn.2 with ⟨hz, _⟩ | ⟨g2, cap, cur, hv, hB, hg, _⟩
  · rw [hT] at hz; cases hz
  · rw [hT] at hv
    injection hv with hv
    injection hv with hv
    injection hv with hv
    subst hv
    exact h.ws.ne (t := 3) hg (by decide) i hi
theorem D13.setf (h : D13 w0 w bf s T nT cT C n dC) {f' : FS} {i : Nat} {v : Value} (hb : Blk (w.setCell ⟨bf, i, none⟩ v) bf 53 #[.int .i64 f'.pc, .int .u32 (rk f' 0), .int .u32 (rk f' 1), .int .u32 (rk f' 2), .int .u32 (rk f' 3), .int .u32 (rk f' 4), .int .u32 (rk f' 5), .int .u32 (rk f' 6), .int .u32 (rk f' 7), .slice T nT cT]) (ht : f'.tn = s.f.tn) : D13 w0 (w.setCell ⟨bf, i, none⟩ v) bf ⟨f', s.ws, s.st⟩ T nT cT C n dC := by
  have hc : Chg (fun i => i = bf) w (w.setCell ⟨bf, i, none⟩ v) := (Chg.refl (fun i => i = bf) w).set (p := ⟨bf, i, none⟩) (.inl rfl) _
  refine ⟨hb, ?_, ?_, h.ws.chg hc (fun i hi he => h.cne i hi he), h.wlen, chg_nw h.base hc h.fb, h.fb⟩
  · show Own _ _ _ T cT (f'.tn.map _)
    rw [ht]
    exact h.tn.chg hc fun i hi he => h.tne i hi he
  · show f'.tn.length = nT
    rw [ht]
    exact h.len
theorem D13.set_rg (h : D13 w0 w bf s T nT cT C n dC) (h8 : s.f.rg.length = 8) {k : Nat} (hk : k < 8) (v : Nat) : D13 w0 (w.setCell ⟨bf, 1 + k, none⟩ (.int .u32 (v : Int))) bf ⟨{ s.f with rg := s.f.rg.set k v }, s.ws, s.st⟩ T nT cT C n dC := by
  refine h.setf (f' := { s.f with rg := s.f.rg.set k v }) ?_ rfl
  have h2 := h.fr.put (1 + k) (.int .u32 (v : Int))
  have h3 : ∀ j : Nat, rk { s.f with rg := s.f.rg.set k v } j = if j = k then (v : Int) else rk s.f j := fun j => by
    unfold rk
    simp only [List.getD_eq_getElem?_getD, List.getElem?_set]
    by_cases hj : j = k
    · subst hj; simp [h8, hk]
    · rw [if_neg (Ne.symm hj), if_neg hj]
  simp only [h3]
  rcases (show k = 0 ∨ k = 1 ∨ k = 2 ∨ k = 3 ∨ k = 4 ∨ k = 5 ∨ k = 6 ∨ k = 7 by omega) with rfl | rfl | rfl | rfl | rfl | rfl | rfl | rfl <;> simpa using h2
theorem D13.set_pc (h : D13 w0 w bf s T nT cT C n dC) (v : Int) : D13 w0 (w.setCell ⟨bf, 0, none⟩ (.int .i64 v)) bf ⟨{ s.f with pc := v }, s.ws, s.st⟩ T nT cT C n dC :=
  h.setf (f' := { s.f with pc := v }) (by have h2 := h.fr.put 0 (.int .i64 v); simpa [rk] using h2) rfl
theorem D13.set_tn (h : D13 w0 w bf s T nT cT C n dC) {gt : Nat} (hT : T = some ⟨gt, 0, none⟩) (k : Nat) (v : Int) : D13 w0 (w.setCell ⟨gt, k, none⟩ (.int .i64 v)) bf ⟨{ s.f with tn := s.f.tn.set k v }, s.ws, s.st⟩ T nT cT C n dC := by
  have hc : Chg (fun i => i = gt) w (w.setCell ⟨gt, k, none⟩ (.int .i64 v)) := (Chg.refl (fun i => i = gt) w).set (p := ⟨gt, k, none⟩) (.inl rfl) _
  refine ⟨h.fr.chg hc (fun he => h.tne gt hT he.symm), ?_, by simpa using h.len, h.ws.chg hc (fun i hi he => h.tc hT i hi he), h.wlen, chg_nw h.base hc (own_ge1 h.tn gt hT), h.fb⟩
  have h2 := h.tn
  rw [hT] at h2 ⊢
  have h3 := Own.put h2 k (.int .i64 v)
  rw [← List.map_set] at h3
  exact h3
theorem D13.set_ws (h : D13 w0 w bf s T nT cT C n dC) {gc : Nat} (hC : C = some ⟨gc, 0, none⟩) (k v : Nat) : D13 w0 (w.setCell ⟨gc, k, none⟩ (.int .u32 (v : Int))) bf ⟨s.f, s.ws.set k v, s.st⟩ T nT cT C n dC := by
  have hc : Chg (fun i => i = gc) w (w.setCell ⟨gc, k, none⟩ (.int .u32 (v : Int))) := (Chg.refl (fun i => i = gc) w).set (p := ⟨gc, k, none⟩) (.inl rfl) _
  refine ⟨h.fr.chg hc (fun he => h.cne gc hC he.symm), h.tn.chg hc (fun i hi he => h.tc hi gc hC he.symm), h.len, ?_, by simpa using h.wlen, h.base.trans (hc.weak fun i _ hi => by rw [hi]; exact hC), h.fb⟩
  have h2 := h.ws
  rw [hC] at h2 ⊢
  have h3 := Own.put h2 k (.int .u32 (v : Int))
  rw [← List.map_set, cst_set] at h3
  exact h3
theorem D13.turn (h : D13 w0 w bf s T nT cT C n dC) {k : Nat} (hk : k < nT) : ∃ gt, T = some ⟨gt, 0, none⟩ ∧ w.cell? ⟨gt, k, none⟩ = some (.int .i64 (s.f.tn.getD k 0)) ∧ w.frozen? ⟨gt, k, none⟩ = false := by
  have hl : k < s.f.tn.length := by have := h.len; omega
  obtain ⟨gt, hT, _, _, hf⟩ := h.tn.thaw (by simp; omega)
  have h2 := World.ownsRow.cells (show w.ownsRow w0.heap.size 3 1 (.slice (some ⟨gt, 0, none⟩) _ cT) _ _ from hT ▸ h.tn) (g := gt) rfl k (.int .i64 (s.f.tn.getD k 0)) (by rw [List.getElem?_map, List.getElem?_eq_getElem hl, List.getD_eq_getElem?_getD, List.getElem?_eq_getElem hl]; rfl)
  refine ⟨gt, hT, ?_, hf k⟩
  cases k with
  | zero => simpa [Addr.add] using h2
  | succ k => simpa [Addr.add] using h2
theorem D13.word (h : D13 w0 w bf s T nT cT C n dC) {k : Nat} (hk : k < n) : ∃ gc, C = some ⟨gc, 0, none⟩ ∧ w.cell? ⟨gc, k, none⟩ = some (.int .u32 ((s.ws.getD k 0 : Nat) : Int)) ∧ w.frozen? ⟨gc, k, none⟩ = false := by
  have hl : k < s.ws.length := by have := h.wlen; omega
  obtain ⟨gc, hC, _, _, hf⟩ := h.ws.thaw (by simp [cst]; omega)
  have h2 := World.ownsRow.cells (show w.ownsRow 0 50 1 (.slice (some ⟨gc, 0, none⟩) _ dC) _ _ from hC ▸ h.ws) (g := gc) rfl k (.int .u32 ((s.ws.getD k 0 : Nat) : Int)) (by
    unfold cst
    rw [List.getElem?_map, List.getElem?_map, List.getElem?_eq_getElem hl, List.getD_eq_getElem?_getD, List.getElem?_eq_getElem hl]; rfl)
  refine ⟨gc, hC, ?_, hf k⟩
  cases k with
  | zero => simpa [Addr.add] using h2
  | succ k => simpa [Addr.add] using h2
/-- behind the document's Step -/
def RefP (w0 : World) (s' : SS) (nT : Nat) (C : Option Addr) (n dC : Nat) (kd st : Int) (e : Ending) (w' : World) : Prop := ∃ T' c', e = .returned (.tuple #[.agg #[.int .i64 s'.f.pc, .int .u32 (rk s'.f 0), .int .u32 (rk s'.f 1), .int .u32 (rk s'.f 2), .int .u32 (rk s'.f 3), .int .u32 (rk s'.f 4), .int .u32 (rk s'.f 5), .int .u32 (rk s'.f 6), .int .u32 (rk s'.f 7), .slice T' nT c'], .int .i64 kd, .int .i64 st]) ∧ Own w' w0.heap.size 3 T' c' (s'.f.tn.map (Value.int .i64)) ∧ Own w' 0 50 C dC ((cst s'.ws).map (Value.int .u32)) ∧ Chg (fun i => C = some ⟨i, 0, none⟩) w0 w'
/-- how its three variables stand at the beginning -/
structure V13 (w0 w : World) (b1 : Nat) (oa ol : Int) : Prop where
  rg : Blk w b1 55 #[.int .i64 oa, .int .i64 ol]
  rs : Blk w (b1 + 1) 53 #[.int .i64 0, .int .u32 0, .int .u32 0, .int .u32 0, .int .u32 0, .int .u32 0, .int .u32 0, .int .u32 0, .int .u32 0, .slice none 0 0]
theorem ref_end (h : D13 w0 w bf s T nT cT C n dC) {bz : Nat} (hz : Blk w bz 53 #[.int .i64 0, .int .u32 0, .int .u32 0, .int .u32 0, .int .u32 0, .int .u32 0, .int .u32 0, .int .u32 0, .int .u32 0, .slice none 0 0]) (hzb : w0.heap.size ≤ bz) (kd st : Int) :
    ∀ w5, w5 = ((((((((((w.setCell ⟨bz, 0, none⟩ (.int .i64 s.f.pc)).setCell ⟨bz, 1, none⟩ (.int .u32 (rk s.f 0))).setCell ⟨bz, 2, none⟩ (.int .u32 (rk s.f 1))).setCell ⟨bz, 3, none⟩ (.int .u32 (rk s.f 2))).setCell ⟨bz, 4, none⟩ (.int .u32 (rk s.f 3))).setCell ⟨bz, 5, none⟩ (.int .u32 (rk s.f 4))).setCell ⟨bz, 6, none⟩ (.int .u32 (rk s.f 5))).setCell ⟨bz, 7, none⟩ (.int .u32 (rk s.f 6))).setCell ⟨bz, 8, none⟩ (.int .u32 (rk s.f 7))).setCell ⟨bz, 9, none⟩ (.slice T nT cT)) → Blk w5 bz 53 #[.int .i64 s.f.pc, .int .u32 (rk s.f 0), .int .u32 (rk s.f 1), .int .u32 (rk s.f 2), .int .u32 (rk s.f 3), .int .u32 (rk s.f 4), .int .u32 (rk s.f 5), .int .u32 (rk s.f 6), .int .u32 (rk s.f 7), .slice T nT cT] ∧ RefP w0 s nT C n dC kd st (.returned (.tuple #[.agg #[.int .i64 s.f.pc, .int .u32 (rk s.f 0), .int .u32 (rk s.f 1), .int .u32 (rk s.f 2), .int .u32 (rk s.f 3), .int .u32 (rk s.f 4), .int .u32 (rk s.f 5), .int .u32 (rk s.f 6), .int .u32 (rk s.f 7), .slice T nT cT], .int .i64 kd, .int .i64 st])) w5 := by
  intro w5 h5
  obtain ⟨p1, p2⟩ := puts10 (v0 := .int .i64 s.f.pc) (v1 := .int .u32 (rk s.f 0)) (v2 := .int .u32 (rk s.f 1)) (v3 := .int .u32 (rk s.f 2)) (v4 := .int .u32 (rk s.f 3)) (v5 := .int .u32 (rk s.f 4)) (v6 := .int .u32 (rk s.f 5)) (v7 := .int .u32 (rk s.f 6)) (v8 := .int .u32 (rk s.f 7)) (v9 := .slice T nT cT) hz
  rw [← h5] at p1 p2
  exact ⟨p1, T, cT, rfl, h.tn.chg p2 (fun i hi he => h.tn.ne hz (by decide) i hi he), h.ws.chg p2 (fun i hi he => h.ws.ne hz (by decide) i hi he), chg_nw h.base p2 hzb⟩
end
end Go.Proofs.YtgimelpjklnjmaaDoor.Fr
