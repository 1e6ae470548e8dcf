/-
  Layer 33: whether a number may be laid (image.out's takes).
-/
import Derived.Test.YtfpefkpbiioofabImgOut
import Derived.Test.YtfpefkpbiioofabRegionOff
set_option linter.unusedVariables false
set_option linter.unusedSimpArgs false
namespace Go.Proofs.Ytfpefkpbiioofab.Im
open Go.ChangeShapes Go.WideShapes Go.ChangeAt Go.RowKit Ws Cd

def may (s : St) (p : Item) : Prop := s.bad = false ∧ fit p = true ∧ s.bs.length + p.2 + 2 ≤ 65536
theorem lay1_yes {s : St} {p : Item} (h : may s p) : lay1 s p = ⟨s.bs ++ lo p.1 p.2, false⟩ := if_pos h
theorem lay1_no {s : St} {p : Item} (h : ¬ may s p) : lay1 s p = ⟨s.bs, true⟩ := if_neg h
theorem put_bad {w : World} {H g : Nat} {A : Option Addr} {c : Nat} {s : St} (h : Out w H g A c s) : Out (w.setCell ⟨g, 1, none⟩ (.bool true)) H g A c ⟨s.bs, true⟩ ∧ Lain w H g (w.setCell ⟨g, 1, none⟩ (.bool true)) := by
  have hch : Chg (fun i => i = g) w (w.setCell ⟨g, 1, none⟩ (.bool true)) := (Chg.refl (fun i => i = g) w).set (p := ⟨g, 1, none⟩) (.inl rfl) _
  refine ⟨⟨by simpa using h.blk.put 1 (.bool true), h.own.chg hch fun i hi => ?_, h.len, h.low⟩, hch.weak fun i _ hi => ⟨hi ▸ h.low, .inl hi⟩⟩
  exact h.own.ne h.blk (by decide) i hi
set_option maxRecDepth 100000 in
set_option maxHeartbeats 1000000 in
theorem takes1 {H g : Nat} {A : Option Addr} {c : Nat} {s : St} (n : Int) (w : World) (h : Out w H g A c s) :
    Calls Try.prog 41 #[.pointer (some ⟨g, 0, none⟩), .int .i64 n, .int .i64 1] w fun e w' =>
      (may s (n, 1) ∧ e = .returned (.bool true) ∧ w' = w) ∨ (¬ may s (n, 1) ∧ e = .returned (.bool false) ∧ Out w' H g A c ⟨s.bs, true⟩ ∧ Lain w H g w') := by
  have a0 : w.cell? ⟨g, 0, none⟩ = some (.slice A s.bs.length c) := h.blk.cell 0
  have a1 : w.cell? ⟨g, 1, none⟩ = some (.bool s.bad) := h.blk.cell 1
  have f1 : w.frozen? ⟨g, 1, none⟩ = false := h.blk.thaw 1
  have hlen := h.len
  have HO := Lib.hid h
  clear h
  obtain ⟨bs, bad⟩ := s
  simp only at a0 a1 hlen
  have hmay : may ⟨bs, bad⟩ (n, 1) ↔ bad = false ∧ ¬ n < 0 ∧ ¬ n ≥ 256 ∧ ¬ (bs.length : Int) + 1 + 2 > 65536 := by
    unfold may fit
    simp only [decide_eq_true_eq]
    constructor
    · rintro ⟨h1, h2, h3⟩
      refine ⟨h1, by omega, by omega, by omega⟩
    · rintro ⟨h1, h2, h3, h4⟩
      exact ⟨h1, by omega, by omega⟩
  have HM := Lib.hid hmay
  clear hmay
  generalize hm : bs.length = m at *
  have HL := Lib.hid hm
  clear hm
  go_enter Try.func41, Try.ntmps41
  by_cases h0 : n < 0
  · have HNO := Lib.hid (show ¬ may ⟨bs, bad⟩ (n, 1) from fun h => (HM.out.1 h).2.1 h0)
    go_wp2_with fail
    go_ret
    exact .inr ⟨HNO.out, rfl, (put_bad HO.out).1, (put_bad HO.out).2⟩
  by_cases h1 : n ≥ 256
  · have HNO := Lib.hid (show ¬ may ⟨bs, bad⟩ (n, 1) from fun h => (HM.out.1 h).2.2.1 h1)
    go_wp2_with fail
    go_ret
    exact .inr ⟨HNO.out, rfl, (put_bad HO.out).1, (put_bad HO.out).2⟩
  by_cases h2 : (m : Int) + 1 + 2 > 65536
  · have HNO := Lib.hid (show ¬ may ⟨bs, bad⟩ (n, 1) from fun h => (HM.out.1 h).2.2.2 h2)
    go_wp2_with fail
    go_ret
    exact .inr ⟨HNO.out, rfl, (put_bad HO.out).1, (put_bad HO.out).2⟩
  cases bad with
  | false =>
    have HYES := Lib.hid (HM.out.2 ⟨rfl, h0, h1, h2⟩)
    go_wp2_with fail
    go_ret
    exact .inl ⟨HYES.out, rfl, rfl⟩
  | true =>
    have HNO := Lib.hid (show ¬ may ⟨bs, true⟩ (n, 1) from fun h => by cases (HM.out.1 h).1)
    go_wp2_with fail
    go_ret
    exact .inr ⟨HNO.out, rfl, HO.out, Lain.refl _ _ _⟩
set_option maxRecDepth 100000 in
set_option maxHeartbeats 1000000 in
theorem takes4 {H g : Nat} {A : Option Addr} {c : Nat} {s : St} (n : Int) (w : World) (h : Out w H g A c s) :
    Calls Try.prog 41 #[.pointer (some ⟨g, 0, none⟩), .int .i64 n, .int .i64 4] w fun e w' =>
      (may s (n, 4) ∧ e = .returned (.bool true) ∧ w' = w) ∨ (¬ may s (n, 4) ∧ e = .returned (.bool false) ∧ Out w' H g A c ⟨s.bs, true⟩ ∧ Lain w H g w') := by
  have a0 : w.cell? ⟨g, 0, none⟩ = some (.slice A s.bs.length c) := h.blk.cell 0
  have a1 : w.cell? ⟨g, 1, none⟩ = some (.bool s.bad) := h.blk.cell 1
  have f1 : w.frozen? ⟨g, 1, none⟩ = false := h.blk.thaw 1
  have hlen := h.len
  have HO := Lib.hid h
  clear h
  obtain ⟨bs, bad⟩ := s
  simp only at a0 a1 hlen
  have hmay : may ⟨bs, bad⟩ (n, 4) ↔ bad = false ∧ ¬ n < 0 ∧ ¬ n ≥ 4294967296 ∧ ¬ (bs.length : Int) + 4 + 2 > 65536 := by
    unfold may fit
    simp only [decide_eq_true_eq]
    constructor
    · rintro ⟨h1, h2, h3⟩
      refine ⟨h1, by omega, by omega, by omega⟩
    · rintro ⟨h1, h2, h3, h4⟩
      exact ⟨h1, by omega, by omega⟩
  have HM := Lib.hid hmay
  clear hmay
  generalize hm : bs.length = m at *
  have HL := Lib.hid hm
  clear hm
  go_enter Try.func41, Try.ntmps41
  by_cases h0 : n < 0
  · have HNO := Lib.hid (show ¬ may ⟨bs, bad⟩ (n, 4) from fun h => (HM.out.1 h).2.1 h0)
    go_wp2_with fail
    go_ret
    exact .inr ⟨HNO.out, rfl, (put_bad HO.out).1, (put_bad HO.out).2⟩
  by_cases h1 : n ≥ 4294967296
  · have HNO := Lib.hid (show ¬ may ⟨bs, bad⟩ (n, 4) from fun h => (HM.out.1 h).2.2.1 h1)
    go_wp2_with fail
    go_ret
    exact .inr ⟨HNO.out, rfl, (put_bad HO.out).1, (put_bad HO.out).2⟩
  by_cases h2 : (m : Int) + 4 + 2 > 65536
  · have HNO := Lib.hid (show ¬ may ⟨bs, bad⟩ (n, 4) from fun h => (HM.out.1 h).2.2.2 h2)
    go_wp2_with fail
    go_ret
    exact .inr ⟨HNO.out, rfl, (put_bad HO.out).1, (put_bad HO.out).2⟩
  cases bad with
  | false =>
    have HYES := Lib.hid (HM.out.2 ⟨rfl, h0, h1, h2⟩)
    go_wp2_with fail
    go_ret
    exact .inl ⟨HYES.out, rfl, rfl⟩
  | true =>
    have HNO := Lib.hid (show ¬ may ⟨bs, true⟩ (n, 4) from fun h => by cases (HM.out.1 h).1)
    go_wp2_with fail
    go_ret
    exact .inr ⟨HNO.out, rfl, HO.out, Lain.refl _ _ _⟩
end Go.Proofs.Ytfpefkpbiioofab.Im
