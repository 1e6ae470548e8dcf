/-

  Layer 13: an instruction of whatever kind (work.plain, work.lead), and a step (work.step).
-/
import Derived.Test.YtgimelpjklnjmabDoorFrmCas
set_option linter.unusedVariables false
set_option linter.unusedSimpArgs false
namespace Go.Proofs.YtgimelpjklnjmabDoor.Fr
open Go.ChangeShapes Go.WideShapes Go.ChangeAt Go.RowKit Ws
open Go.Proofs.YtgimelpjklnjmabDoor.Fp (Ins at_ Fine at_some)
open Go.Proofs.YtgimelpjklnjmabDoor.Fw (Prg okB ckE check_any okB_fine rightI)
open Go.Proofs.YtgimelpjklnjmabDoor.Is (Tabs)

theorem regs_ok {x : Ins} (hr : rightI x = true) : (0 ≤ x.op ∧ x.op < 22) ∧ (x.op ≤ 13 → (0 ≤ x.a ∧ x.a < 8) ∧ (0 ≤ x.b ∧ x.b < 8) ∧ (0 ≤ x.c ∧ x.c < 8)) ∧ (x.op = 15 ∨ 17 ≤ x.op → 0 ≤ x.a ∧ x.a < 8) ∧ (x.op = 16 → x.c ≤ 4294967295) := by
  unfold rightI Is.rightB at hr
  simp only [Bool.and_eq_true, decide_eq_true_eq] at hr
  obtain ⟨ho, h1, h2, h3, _⟩ := hr
  obtain ⟨o, hoe⟩ : ∃ o : Nat, x.op = o := ⟨x.op.toNat, by omega⟩
  have hoe2 : x.op.toNat = o := by omega
  rw [hoe2] at h1 h2 h3
  unfold Is.fitB at h1 h2 h3
  simp only [decide_eq_true_eq] at h1 h2 h3
  have hall : ((List.range 22).all fun o => decide ((o ≤ 13 → Is.hiL.getD (Is.hasC o 0) 0 ≤ 7 ∧ Is.hiL.getD (Is.hasC o 1) 0 ≤ 7 ∧ Is.hiL.getD (Is.hasC o 2) 0 ≤ 7) ∧ (o = 15 ∨ 17 ≤ o → Is.hiL.getD (Is.hasC o 0) 0 ≤ 7))) = true := by decide
  have ho2 := of_decide_eq_true (List.all_eq_true.1 hall o (List.mem_range.2 (by omega)))
  have hb := (Is.bound_le (Is.hasC o 2)).2
  refine ⟨ho, fun h => ?_, fun h => ?_, fun h => by omega⟩
  · obtain ⟨q1, q2, q3⟩ := ho2.1 (by omega)
    omega
  · have q1 := ho2.2 (by omega)
    omega
section
variable {w0 w : World} {R : Nat → Prop} {g gm : Nat} {s : SS} {T : Option Addr} {nT cT : Nat} {A : Option Addr} {m cA : Nat} {oa ol : Int}

def plainS (oa ol : Int) (x : Ins) (s : SS) : SS := ⟨⟨s.f.pc, rgI oa ol x s, s.f.tn⟩, wsI oa ol x s, if isMem x then s.st + 1 else s.st⟩
theorem plain_any (x : Ins) (h : W13 w0 w R g gm s T nT cT A m cA oa ol) (hR : ∀ i, R i → i < w.heap.size) (hx : x.ok) (hop : 0 ≤ x.op ∧ x.op ≤ 13) (hr : (0 ≤ x.a ∧ x.a < 8) ∧ (0 ≤ x.b ∧ x.b < 8) ∧ (0 ≤ x.c ∧ x.c < 8)) (hw : Wide s) (ho : 0 ≤ oa ∧ oa ≤ 4096) (hl : 0 < ol ∧ ol ≤ 4096) (hin : oa + ol ≤ s.ws.length) (hst : 0 ≤ s.st ∧ s.st ≤ 4611686018427387904) :
    Calls Tryd.prog 57 #[.pointer (some ⟨g, 0, none⟩), .agg #[.int .i64 x.op, .int .i64 x.a, .int .i64 x.b, .int .i64 x.c, .int .u32 x.n]] w (Post13 w0 w R g gm (plainS oa ol x s) T nT cT A m cA oa ol (.tuple #[])) := by
  obtain ⟨o, a, b, c, n⟩ := x
  simp only at hop hr
  obtain ⟨⟨a0, a8⟩, ⟨b0, b8⟩, ⟨c0, c8⟩⟩ := hr
  obtain ⟨n0, n1⟩ := hx
  simp only at n0 n1
  obtain ⟨ka, rfl⟩ : ∃ k : Nat, a = k := ⟨a.toNat, by omega⟩
  obtain ⟨kb, rfl⟩ : ∃ k : Nat, b = k := ⟨b.toNat, by omega⟩
  obtain ⟨kc, rfl⟩ : ∃ k : Nat, c = k := ⟨c.toNat, by omega⟩
  obtain ⟨xn, rfl⟩ : ∃ k : Nat, n = k := ⟨n.toNat, by omega⟩
  have hr : ∀ k, s.f.rg.getD k 0 < 4294967296 := fun k => getD_lt hw.rb
  have hat : ∀ o : Int, atN oa ol ⟨o, ka, kb, kc, xn⟩ s.f < s.ws.length := fun o => by
    unfold atN offN
    have h1 : 0 < ol.toNat := by omega
    have := Nat.mod_lt ((rgv s.f kb + xn) % 4294967296) h1
    simp only [Int.toNat_natCast]
    omega
  rcases (show o = 0 ∨ o = 1 ∨ o = 2 ∨ o = 3 ∨ o = 4 ∨ o = 5 ∨ o = 6 ∨ o = 7 ∨ o = 8 ∨ o = 9 ∨ o = 10 ∨ o = 11 ∨ o = 12 ∨ o = 13 by omega) with rfl | rfl | rfl | rfl | rfl | rfl | rfl | rfl | rfl | rfl | rfl | rfl | rfl | rfl
  · exact plain_0 xn ka kb kc _ _ _ rfl rfl rfl h hR (by omega) (by omega) (by omega) (by omega) ho hl hr hw.r8
  · exact plain_1 xn ka kb kc _ _ _ rfl rfl rfl h hR (by omega) (by omega) (by omega) (by omega) ho hl hr hw.r8
  · exact plain_2 xn ka kb kc _ _ _ rfl rfl rfl h hR (by omega) (by omega) (by omega) (by omega) ho hl hr hw.r8
  · exact plain_3 xn ka kb kc _ _ _ rfl rfl rfl h hR (by omega) (by omega) (by omega) (by omega) ho hl hr hw.r8
  · exact plain_4 xn ka kb kc _ _ _ rfl rfl rfl h hR (by omega) (by omega) (by omega) (by omega) ho hl hr hw.r8
  · exact plain_5 xn ka kb kc _ _ _ rfl rfl rfl h hR (by omega) (by omega) (by omega) (by omega) ho hl hr hw.r8
  · exact plain_6 xn ka kb kc _ _ _ rfl rfl rfl h hR (by omega) (by omega) (by omega) (by omega) ho hl hr hw.r8
  · exact plain_7 xn ka kb kc _ _ _ rfl rfl rfl h hR (by omega) (by omega) (by omega) (by omega) ho hl hr hw.r8
  · exact plain_8 xn ka kb kc _ _ _ rfl rfl rfl h hR (by omega) (by omega) (by omega) (by omega) ho hl hr hw.r8
  · exact plain_9 xn ka kb kc _ _ _ rfl rfl rfl h hR (by omega) (by omega) (by omega) (by omega) ho hl hr hw.r8
  · exact plain_10 xn ka kb kc _ _ _ rfl rfl rfl h hR (by omega) (by omega) (by omega) (by omega) ho hl hr hw.r8
  · exact plain_11 xn ka kb kc _ _ _ rfl rfl rfl h hR (by omega) (by omega) (by omega) (by omega) ho hl hr hw.r8 _ rfl (hat 11) hst
  · exact plain_12 xn ka kb kc _ _ _ rfl rfl rfl h hR (by omega) (by omega) (by omega) (by omega) ho hl hr hw.r8 (hat 12) hst
  · exact plain_13 xn ka kb kc _ _ _ rfl rfl rfl h hR (by omega) (by omega) (by omega) (by omega) ho hl hr hw.r8 _ rfl _ rfl (hat 13) hst
def leadS (x : Ins) (s : SS) : SS := ⟨⟨pcI x s.f, s.f.rg, tnI x s.f⟩, s.ws, s.st⟩
theorem lead_any (x : Ins) (h : W13 w0 w R g gm s T nT cT A m cA oa ol) (hR : ∀ i, R i → i < w.heap.size) (hx : x.ok) (hop : x.op = 14 ∨ x.op = 15 ∨ x.op = 16) (hr : x.op = 15 → 0 ≤ x.a ∧ x.a < 8) (hpc : 0 ≤ s.f.pc ∧ s.f.pc < nT) (hn : nT ≤ 5000) (hb : 0 ≤ tnv s.f ∧ tnv s.f ≤ 4611686018427387904) :
    Calls Tryd.prog 56 #[.pointer (some ⟨g, 0, none⟩), .agg #[.int .i64 x.op, .int .i64 x.a, .int .i64 x.b, .int .i64 x.c, .int .u32 x.n]] w (Post13 w0 w R g gm (leadS x s) T nT cT A m cA oa ol (.tuple #[])) := by
  obtain ⟨o, a, b, c, n⟩ := x
  simp only at hop hr
  rcases hop with rfl | rfl | rfl
  · exact lead_14 a b c n h hx (by omega)
  · obtain ⟨a0, a8⟩ := hr rfl
    obtain ⟨ka, rfl⟩ : ∃ k : Nat, a = k := ⟨a.toNat, by omega⟩
    exact lead_15 b c n ka (by omega) h hx (by omega)
  · cases hk : backB ⟨16, a, b, c, n⟩ s.f
    · have h2 := lead_16n a b c n h hR hx hpc hn hb hk
      unfold leadS pcI tnI
      rw [hk]
      exact h2
    · have h2 := lead_16y a b c n h hR hx hpc hn hb hk
      unfold leadS pcI tnI
      rw [hk]
      exact h2
end
end Go.Proofs.YtgimelpjklnjmabDoor.Fr
