/-
  Layer 33, plain: a system that is laid is read again, and bytes that are read are laid so.
-/
import Derived.Test.YtfpefkpbiioofabImgTrip
set_option linter.unusedVariables false
set_option linter.unusedSimpArgs false
namespace Go.Proofs.Ytfpefkpbiioofab.Im

theorem rl_len {α : Type} (f : Rdr α) : ∀ (n : Nat) (r : Rs), (rL f n r).1.length = n
  | 0, _ => rfl
  | n + 1, r => by
    show ((rL f n r).1 ++ [_]).length = n + 1
    rw [List.length_append, rl_len f n r]
    rfl
theorem fit_nat {x : Int} {n : Nat} (h : [(x, n)].all fit = true) : ((x.toNat : Nat) : Int) = x := by
  simp only [List.all_cons, List.all_nil, Bool.and_true, fit, decide_eq_true_eq] at h
  omega
theorem itO_eq (k wd sl cp sa ow : Int) (rd ini : List Int) : itO ⟨k, wd, sl, cp, sa, ow, rd, ini⟩ = ((((((((([(k, 1)] ++ [(wd, 1)]) ++ [(sl, 1)]) ++ [(cp, 1)]) ++ [(sa, 4)]) ++ [(ow, 1)]) ++ [((rd.length : Int), 1)]) ++ rd.flatMap fun x => [(x, 1)]) ++ [((ini.length : Int), 1)]) ++ ini.flatMap fun x => [(x, 4)]) := by
  have e1 : ∀ l : List Int, sm l = l.flatMap fun x => [(x, 1)] := fun l => by
    induction l with
    | nil => rfl
    | cons x l ih => rw [List.flatMap_cons, ← ih]; rfl
  have e2 : ∀ l : List Int, lg l = l.flatMap fun x => [(x, 4)] := fun l => by
    induction l with
    | nil => rfl
    | cons x l ih => rw [List.flatMap_cons, ← ih]; rfl
  unfold itO itO0
  rw [e1, e2]
  simp
theorem itT_eq (kind prio per off dl own : Int) (code : List Ins) : itT ⟨kind, prio, per, off, dl, own, code⟩ = (((((([(kind, 1)] ++ [(prio, 1)]) ++ [(per, 4)]) ++ [(off, 4)]) ++ [(dl, 4)]) ++ [(own, 1)]) ++ [((code.length : Int), 1)]) ++ code.flatMap itI := rfl
theorem itI_eq (a b c d e : Int) : itI ⟨a, b, c, d, e⟩ = ((([(a, 1)] ++ [(b, 1)]) ++ [(c, 1)]) ++ [(d, 1)]) ++ [(e, 4)] := rfl
theorem itS_eq (ts : List PT) (os : List PO) : itS ⟨ts, os⟩ = (([((ts.length : Int), 1)] ++ [((os.length : Int), 1)]) ++ ts.flatMap itT) ++ os.flatMap itO := by
  unfold itS
  simp
theorem par_i {l : List Int} (hb : Byt l) : Par l (rI l) itI := by
  have key : ∀ r, ∃ x1 r1 x2 r2 x3 r3 x4 r4 x5 r5, (x1, r1) = rU l 1 r ∧ (x2, r2) = rU l 1 r1 ∧ (x3, r3) = rU l 1 r2 ∧ (x4, r4) = rU l 1 r3 ∧ (x5, r5) = rU l 4 r4 ∧ rI l r = (⟨x1, x2, x3, x4, x5⟩, r5) := by
    intro r
    obtain ⟨⟨x1, r1⟩, e1⟩ : ∃ p, p = rU l 1 r := ⟨_, rfl⟩
    obtain ⟨⟨x2, r2⟩, e2⟩ : ∃ p, p = rU l 1 r1 := ⟨_, rfl⟩
    obtain ⟨⟨x3, r3⟩, e3⟩ : ∃ p, p = rU l 1 r2 := ⟨_, rfl⟩
    obtain ⟨⟨x4, r4⟩, e4⟩ : ∃ p, p = rU l 1 r3 := ⟨_, rfl⟩
    obtain ⟨⟨x5, r5⟩, e5⟩ : ∃ p, p = rU l 4 r4 := ⟨_, rfl⟩
    exact ⟨x1, r1, x2, r2, x3, r3, x4, r4, x5, r5, e1, e2, e3, e4, e5, by simp only [rI, ← e1, ← e2, ← e3, ← e4, ← e5]⟩
  refine ⟨fun r hk => ?_, fun r hk h => ?_, fun r x m hr hs hf => ?_⟩
  · obtain ⟨x1, r1, x2, r2, x3, r3, x4, r4, x5, r5, e1, e2, e3, e4, e5, hI⟩ := key r
    have b1 : r1.k ≤ l.length := by have := (par_u hb 1).le r hk; rw [← e1] at this; exact this
    have b2 : r2.k ≤ l.length := by have := (par_u hb 1).le r1 b1; rw [← e2] at this; exact this
    have b3 : r3.k ≤ l.length := by have := (par_u hb 1).le r2 b2; rw [← e3] at this; exact this
    have b4 : r4.k ≤ l.length := by have := (par_u hb 1).le r3 b3; rw [← e4] at this; exact this
    have b5 : r5.k ≤ l.length := by have := (par_u hb 4).le r4 b4; rw [← e5] at this; exact this
    rw [hI]
    exact b5
  · obtain ⟨x1, r1, x2, r2, x3, r3, x4, r4, x5, r5, e1, e2, e3, e4, e5, hI⟩ := key r
    have b1 : r1.k ≤ l.length := by have := (par_u hb 1).le r hk; rw [← e1] at this; exact this
    have b2 : r2.k ≤ l.length := by have := (par_u hb 1).le r1 b1; rw [← e2] at this; exact this
    have b3 : r3.k ≤ l.length := by have := (par_u hb 1).le r2 b2; rw [← e3] at this; exact this
    have b4 : r4.k ≤ l.length := by have := (par_u hb 1).le r3 b3; rw [← e4] at this; exact this
    have b5 : r5.k ≤ l.length := by have := (par_u hb 4).le r4 b4; rw [← e5] at this; exact this
    rw [hI] at h ⊢
    simp only at h ⊢
    have k5 := (par_u hb 4).fwd r4 b4 (by rw [← e5]; exact h)
    rw [← e5] at k5
    obtain ⟨g5, s5, f5⟩ := k5
    simp only at s5 f5
    have k4 := (par_u hb 1).fwd r3 b3 (by rw [← e4]; exact g5)
    rw [← e4] at k4
    obtain ⟨g4, s4, f4⟩ := k4
    simp only at s4 f4
    have k3 := (par_u hb 1).fwd r2 b2 (by rw [← e3]; exact g4)
    rw [← e3] at k3
    obtain ⟨g3, s3, f3⟩ := k3
    simp only at s3 f3
    have k2 := (par_u hb 1).fwd r1 b1 (by rw [← e2]; exact g3)
    rw [← e2] at k2
    obtain ⟨g2, s2, f2⟩ := k2
    simp only at s2 f2
    have k1 := (par_u hb 1).fwd r hk (by rw [← e1]; exact g2)
    rw [← e1] at k1
    obtain ⟨g1, s1, f1⟩ := k1
    simp only at s1 f1
    rw [itI_eq]
    refine ⟨g1, ?_, ?_⟩
    · simp only [enc_app]
      exact ((((s1.app s2).app s3).app s4).app s5)
    · simp only [all_app]
      exact ⟨⟨⟨⟨f1, f2⟩, f3⟩, f4⟩, f5⟩
  · obtain ⟨x1, x2, x3, x4, x5⟩ := x
    rw [itI_eq] at hs hf
    simp only [enc_app] at hs
    simp only [all_app] at hf
    obtain ⟨⟨⟨⟨f1, f2⟩, f3⟩, f4⟩, f5⟩ := hf
    obtain ⟨t4, s5⟩ := hs.split
    obtain ⟨t3, s4⟩ := t4.split
    obtain ⟨t2, s3⟩ := t3.split
    obtain ⟨t1, s2⟩ := t2.split
    have s1 := t1
    have e1 := (par_u hb 1).bwd r x1 _ hr s1 f1
    have e2 := (par_u hb 1).bwd ⟨_, false⟩ x2 _ rfl s2 f2
    have e3 := (par_u hb 1).bwd ⟨_, false⟩ x3 _ rfl s3 f3
    have e4 := (par_u hb 1).bwd ⟨_, false⟩ x4 _ rfl s4 f4
    have e5 := (par_u hb 4).bwd ⟨_, false⟩ x5 _ rfl s5 f5
    simp only [rI, e1, e2, e3, e4, e5, Int.toNat_natCast]
theorem par_t {l : List Int} (hb : Byt l) : Par l (rT l) itT := by
  have key : ∀ r, ∃ x1 r1 x2 r2 x3 r3 x4 r4 x5 r5 x6 r6 n r7 xs r8, (x1, r1) = rU l 1 r ∧ (x2, r2) = rU l 1 r1 ∧ (x3, r3) = rU l 4 r2 ∧ (x4, r4) = rU l 4 r3 ∧ (x5, r5) = rU l 4 r4 ∧ (x6, r6) = rU l 1 r5 ∧ (n, r7) = rU l 1 r6 ∧ (xs, r8) = rL (rI l) n.toNat r7 ∧ rT l r = (⟨x1, x2, x3, x4, x5, x6, xs⟩, r8) := by
    intro r
    obtain ⟨⟨x1, r1⟩, e1⟩ : ∃ p, p = rU l 1 r := ⟨_, rfl⟩
    obtain ⟨⟨x2, r2⟩, e2⟩ : ∃ p, p = rU l 1 r1 := ⟨_, rfl⟩
    obtain ⟨⟨x3, r3⟩, e3⟩ : ∃ p, p = rU l 4 r2 := ⟨_, rfl⟩
    obtain ⟨⟨x4, r4⟩, e4⟩ : ∃ p, p = rU l 4 r3 := ⟨_, rfl⟩
    obtain ⟨⟨x5, r5⟩, e5⟩ : ∃ p, p = rU l 4 r4 := ⟨_, rfl⟩
    obtain ⟨⟨x6, r6⟩, e6⟩ : ∃ p, p = rU l 1 r5 := ⟨_, rfl⟩
    obtain ⟨⟨n, r7⟩, e7⟩ : ∃ p, p = rU l 1 r6 := ⟨_, rfl⟩
    obtain ⟨⟨xs, r8⟩, e8⟩ : ∃ p, p = rL (rI l) n.toNat r7 := ⟨_, rfl⟩
    exact ⟨x1, r1, x2, r2, x3, r3, x4, r4, x5, r5, x6, r6, n, r7, xs, r8, e1, e2, e3, e4, e5, e6, e7, e8, by simp only [rT, ← e1, ← e2, ← e3, ← e4, ← e5, ← e6, ← e7, ← e8]⟩
  refine ⟨fun r hk => ?_, fun r hk h => ?_, fun r x m hr hs hf => ?_⟩
  · obtain ⟨x1, r1, x2, r2, x3, r3, x4, r4, x5, r5, x6, r6, n, r7, xs, r8, e1, e2, e3, e4, e5, e6, e7, e8, hI⟩ := key r
    have b1 : r1.k ≤ l.length := by have := (par_u hb 1).le r hk; rw [← e1] at this; exact this
    have b2 : r2.k ≤ l.length := by have := (par_u hb 1).le r1 b1; rw [← e2] at this; exact this
    have b3 : r3.k ≤ l.length := by have := (par_u hb 4).le r2 b2; rw [← e3] at this; exact this
    have b4 : r4.k ≤ l.length := by have := (par_u hb 4).le r3 b3; rw [← e4] at this; exact this
    have b5 : r5.k ≤ l.length := by have := (par_u hb 4).le r4 b4; rw [← e5] at this; exact this
    have b6 : r6.k ≤ l.length := by have := (par_u hb 1).le r5 b5; rw [← e6] at this; exact this
    have b7 : r7.k ≤ l.length := by have := (par_u hb 1).le r6 b6; rw [← e7] at this; exact this
    have b8 : r8.k ≤ l.length := by have := (par_l (par_i hb) n.toNat).1 r7 b7; rw [← e8] at this; exact this
    rw [hI]
    exact b8
  · obtain ⟨x1, r1, x2, r2, x3, r3, x4, r4, x5, r5, x6, r6, n, r7, xs, r8, e1, e2, e3, e4, e5, e6, e7, e8, hI⟩ := key r
    have b1 : r1.k ≤ l.length := by have := (par_u hb 1).le r hk; rw [← e1] at this; exact this
    have b2 : r2.k ≤ l.length := by have := (par_u hb 1).le r1 b1; rw [← e2] at this; exact this
    have b3 : r3.k ≤ l.length := by have := (par_u hb 4).le r2 b2; rw [← e3] at this; exact this
    have b4 : r4.k ≤ l.length := by have := (par_u hb 4).le r3 b3; rw [← e4] at this; exact this
    have b5 : r5.k ≤ l.length := by have := (par_u hb 4).le r4 b4; rw [← e5] at this; exact this
    have b6 : r6.k ≤ l.length := by have := (par_u hb 1).le r5 b5; rw [← e6] at this; exact this
    have b7 : r7.k ≤ l.length := by have := (par_u hb 1).le r6 b6; rw [← e7] at this; exact this
    have b8 : r8.k ≤ l.length := by have := (par_l (par_i hb) n.toNat).1 r7 b7; rw [← e8] at this; exact this
    rw [hI] at h ⊢
    simp only at h ⊢
    have k8 := (par_l (par_i hb) n.toNat).2.1 r7 b7 (by rw [← e8]; exact h)
    rw [← e8] at k8
    obtain ⟨g8, s8, f8⟩ := k8
    simp only at s8 f8
    have k7 := (par_u hb 1).fwd r6 b6 (by rw [← e7]; exact g8)
    rw [← e7] at k7
    obtain ⟨g7, s7, f7⟩ := k7
    simp only at s7 f7
    have k6 := (par_u hb 1).fwd r5 b5 (by rw [← e6]; exact g7)
    rw [← e6] at k6
    obtain ⟨g6, s6, f6⟩ := k6
    simp only at s6 f6
    have k5 := (par_u hb 4).fwd r4 b4 (by rw [← e5]; exact g6)
    rw [← e5] at k5
    obtain ⟨g5, s5, f5⟩ := k5
    simp only at s5 f5
    have k4 := (par_u hb 4).fwd r3 b3 (by rw [← e4]; exact g5)
    rw [← e4] at k4
    obtain ⟨g4, s4, f4⟩ := k4
    simp only at s4 f4
    have k3 := (par_u hb 4).fwd r2 b2 (by rw [← e3]; exact g4)
    rw [← e3] at k3
    obtain ⟨g3, s3, f3⟩ := k3
    simp only at s3 f3
    have k2 := (par_u hb 1).fwd r1 b1 (by rw [← e2]; exact g3)
    rw [← e2] at k2
    obtain ⟨g2, s2, f2⟩ := k2
    simp only at s2 f2
    have k1 := (par_u hb 1).fwd r hk (by rw [← e1]; exact g2)
    rw [← e1] at k1
    obtain ⟨g1, s1, f1⟩ := k1
    simp only at s1 f1
    have l8 : xs.length = n.toNat := by have h := congrArg (fun p => p.1.length) e8; simp only [rl_len] at h; exact h
    have c8 := fit_nat f7
    rw [← c8, ← l8] at s7 f7
    rw [itT_eq]
    refine ⟨g1, ?_, ?_⟩
    · simp only [enc_app]
      exact (((((((s1.app s2).app s3).app s4).app s5).app s6).app s7).app s8)
    · simp only [all_app]
      exact ⟨⟨⟨⟨⟨⟨⟨f1, f2⟩, f3⟩, f4⟩, f5⟩, f6⟩, f7⟩, f8⟩
  · obtain ⟨x1, x2, x3, x4, x5, x6, xs⟩ := x
    rw [itT_eq] at hs hf
    simp only [enc_app] at hs
    simp only [all_app] at hf
    obtain ⟨⟨⟨⟨⟨⟨⟨f1, f2⟩, f3⟩, f4⟩, f5⟩, f6⟩, f7⟩, f8⟩ := hf
    obtain ⟨t7, s8⟩ := hs.split
    obtain ⟨t6, s7⟩ := t7.split
    obtain ⟨t5, s6⟩ := t6.split
    obtain ⟨t4, s5⟩ := t5.split
    obtain ⟨t3, s4⟩ := t4.split
    obtain ⟨t2, s3⟩ := t3.split
    obtain ⟨t1, s2⟩ := t2.split
    have s1 := t1
    have e1 := (par_u hb 1).bwd r x1 _ hr s1 f1
    have e2 := (par_u hb 1).bwd ⟨_, false⟩ x2 _ rfl s2 f2
    have e3 := (par_u hb 4).bwd ⟨_, false⟩ x3 _ rfl s3 f3
    have e4 := (par_u hb 4).bwd ⟨_, false⟩ x4 _ rfl s4 f4
    have e5 := (par_u hb 4).bwd ⟨_, false⟩ x5 _ rfl s5 f5
    have e6 := (par_u hb 1).bwd ⟨_, false⟩ x6 _ rfl s6 f6
    have e7 := (par_u hb 1).bwd ⟨_, false⟩ (xs.length : Int) _ rfl s7 f7
    have e8 := (par_l (par_i hb) xs.length).2.2 ⟨_, false⟩ xs _ rfl rfl s8 f8
    simp only [rT, e1, e2, e3, e4, e5, e6, e7, e8, Int.toNat_natCast]
theorem par_o {l : List Int} (hb : Byt l) : Par l (rO l) itO := by
  have key : ∀ r, ∃ x1 r1 x2 r2 x3 r3 x4 r4 x5 r5 x6 r6 n r7 xs r8 m r9 ys r10, (x1, r1) = rU l 1 r ∧ (x2, r2) = rU l 1 r1 ∧ (x3, r3) = rU l 1 r2 ∧ (x4, r4) = rU l 1 r3 ∧ (x5, r5) = rU l 4 r4 ∧ (x6, r6) = rU l 1 r5 ∧ (n, r7) = rU l 1 r6 ∧ (xs, r8) = rL (rU l 1) n.toNat r7 ∧ (m, r9) = rU l 1 r8 ∧ (ys, r10) = rL (rU l 4) m.toNat r9 ∧ rO l r = (⟨x1, x2, x3, x4, x5, x6, xs, ys⟩, r10) := by
    intro r
    obtain ⟨⟨x1, r1⟩, e1⟩ : ∃ p, p = rU l 1 r := ⟨_, rfl⟩
    obtain ⟨⟨x2, r2⟩, e2⟩ : ∃ p, p = rU l 1 r1 := ⟨_, rfl⟩
    obtain ⟨⟨x3, r3⟩, e3⟩ : ∃ p, p = rU l 1 r2 := ⟨_, rfl⟩
    obtain ⟨⟨x4, r4⟩, e4⟩ : ∃ p, p = rU l 1 r3 := ⟨_, rfl⟩
    obtain ⟨⟨x5, r5⟩, e5⟩ : ∃ p, p = rU l 4 r4 := ⟨_, rfl⟩
    obtain ⟨⟨x6, r6⟩, e6⟩ : ∃ p, p = rU l 1 r5 := ⟨_, rfl⟩
    obtain ⟨⟨n, r7⟩, e7⟩ : ∃ p, p = rU l 1 r6 := ⟨_, rfl⟩
    obtain ⟨⟨xs, r8⟩, e8⟩ : ∃ p, p = rL (rU l 1) n.toNat r7 := ⟨_, rfl⟩
    obtain ⟨⟨m, r9⟩, e9⟩ : ∃ p, p = rU l 1 r8 := ⟨_, rfl⟩
    obtain ⟨⟨ys, r10⟩, e10⟩ : ∃ p, p = rL (rU l 4) m.toNat r9 := ⟨_, rfl⟩
    exact ⟨x1, r1, x2, r2, x3, r3, x4, r4, x5, r5, x6, r6, n, r7, xs, r8, m, r9, ys, r10, e1, e2, e3, e4, e5, e6, e7, e8, e9, e10, by simp only [rO, ← e1, ← e2, ← e3, ← e4, ← e5, ← e6, ← e7, ← e8, ← e9, ← e10]⟩
  refine ⟨fun r hk => ?_, fun r hk h => ?_, fun r x m hr hs hf => ?_⟩
  · obtain ⟨x1, r1, x2, r2, x3, r3, x4, r4, x5, r5, x6, r6, n, r7, xs, r8, m, r9, ys, r10, e1, e2, e3, e4, e5, e6, e7, e8, e9, e10, hI⟩ := key r
    have b1 : r1.k ≤ l.length := by have := (par_u hb 1).le r hk; rw [← e1] at this; exact this
    have b2 : r2.k ≤ l.length := by have := (par_u hb 1).le r1 b1; rw [← e2] at this; exact this
    have b3 : r3.k ≤ l.length := by have := (par_u hb 1).le r2 b2; rw [← e3] at this; exact this
    have b4 : r4.k ≤ l.length := by have := (par_u hb 1).le r3 b3; rw [← e4] at this; exact this
    have b5 : r5.k ≤ l.length := by have := (par_u hb 4).le r4 b4; rw [← e5] at this; exact this
    have b6 : r6.k ≤ l.length := by have := (par_u hb 1).le r5 b5; rw [← e6] at this; exact this
    have b7 : r7.k ≤ l.length := by have := (par_u hb 1).le r6 b6; rw [← e7] at this; exact this
    have b8 : r8.k ≤ l.length := by have := (par_l (par_u hb 1) n.toNat).1 r7 b7; rw [← e8] at this; exact this
    have b9 : r9.k ≤ l.length := by have := (par_u hb 1).le r8 b8; rw [← e9] at this; exact this
    have b10 : r10.k ≤ l.length := by have := (par_l (par_u hb 4) m.toNat).1 r9 b9; rw [← e10] at this; exact this
    rw [hI]
    exact b10
  · obtain ⟨x1, r1, x2, r2, x3, r3, x4, r4, x5, r5, x6, r6, n, r7, xs, r8, m, r9, ys, r10, e1, e2, e3, e4, e5, e6, e7, e8, e9, e10, hI⟩ := key r
    have b1 : r1.k ≤ l.length := by have := (par_u hb 1).le r hk; rw [← e1] at this; exact this
    have b2 : r2.k ≤ l.length := by have := (par_u hb 1).le r1 b1; rw [← e2] at this; exact this
    have b3 : r3.k ≤ l.length := by have := (par_u hb 1).le r2 b2; rw [← e3] at this; exact this
    have b4 : r4.k ≤ l.length := by have := (par_u hb 1).le r3 b3; rw [← e4] at this; exact this
    have b5 : r5.k ≤ l.length := by have := (par_u hb 4).le r4 b4; rw [← e5] at this; exact this
    have b6 : r6.k ≤ l.length := by have := (par_u hb 1).le r5 b5; rw [← e6] at this; exact this
    have b7 : r7.k ≤ l.length := by have := (par_u hb 1).le r6 b6; rw [← e7] at this; exact this
    have b8 : r8.k ≤ l.length := by have := (par_l (par_u hb 1) n.toNat).1 r7 b7; rw [← e8] at this; exact this
    have b9 : r9.k ≤ l.length := by have := (par_u hb 1).le r8 b8; rw [← e9] at this; exact this
    have b10 : r10.k ≤ l.length := by have := (par_l (par_u hb 4) m.toNat).1 r9 b9; rw [← e10] at this; exact this
    rw [hI] at h ⊢
    simp only at h ⊢
    have k10 := (par_l (par_u hb 4) m.toNat).2.1 r9 b9 (by rw [← e10]; exact h)
    rw [← e10] at k10
    obtain ⟨g10, s10, f10⟩ := k10
    simp only at s10 f10
    have k9 := (par_u hb 1).fwd r8 b8 (by rw [← e9]; exact g10)
    rw [← e9] at k9
    obtain ⟨g9, s9, f9⟩ := k9
    simp only at s9 f9
    have k8 := (par_l (par_u hb 1) n.toNat).2.1 r7 b7 (by rw [← e8]; exact g9)
    rw [← e8] at k8
    obtain ⟨g8, s8, f8⟩ := k8
    simp only at s8 f8
    have k7 := (par_u hb 1).fwd r6 b6 (by rw [← e7]; exact g8)
    rw [← e7] at k7
    obtain ⟨g7, s7, f7⟩ := k7
    simp only at s7 f7
    have k6 := (par_u hb 1).fwd r5 b5 (by rw [← e6]; exact g7)
    rw [← e6] at k6
    obtain ⟨g6, s6, f6⟩ := k6
    simp only at s6 f6
    have k5 := (par_u hb 4).fwd r4 b4 (by rw [← e5]; exact g6)
    rw [← e5] at k5
    obtain ⟨g5, s5, f5⟩ := k5
    simp only at s5 f5
    have k4 := (par_u hb 1).fwd r3 b3 (by rw [← e4]; exact g5)
    rw [← e4] at k4
    obtain ⟨g4, s4, f4⟩ := k4
    simp only at s4 f4
    have k3 := (par_u hb 1).fwd r2 b2 (by rw [← e3]; exact g4)
    rw [← e3] at k3
    obtain ⟨g3, s3, f3⟩ := k3
    simp only at s3 f3
    have k2 := (par_u hb 1).fwd r1 b1 (by rw [← e2]; exact g3)
    rw [← e2] at k2
    obtain ⟨g2, s2, f2⟩ := k2
    simp only at s2 f2
    have k1 := (par_u hb 1).fwd r hk (by rw [← e1]; exact g2)
    rw [← e1] at k1
    obtain ⟨g1, s1, f1⟩ := k1
    simp only at s1 f1
    have l8 : xs.length = n.toNat := by have h := congrArg (fun p => p.1.length) e8; simp only [rl_len] at h; exact h
    have c8 := fit_nat f7
    rw [← c8, ← l8] at s7 f7
    have l10 : ys.length = m.toNat := by have h := congrArg (fun p => p.1.length) e10; simp only [rl_len] at h; exact h
    have c10 := fit_nat f9
    rw [← c10, ← l10] at s9 f9
    rw [itO_eq]
    refine ⟨g1, ?_, ?_⟩
    · simp only [enc_app]
      exact (((((((((s1.app s2).app s3).app s4).app s5).app s6).app s7).app s8).app s9).app s10)
    · simp only [all_app]
      exact ⟨⟨⟨⟨⟨⟨⟨⟨⟨f1, f2⟩, f3⟩, f4⟩, f5⟩, f6⟩, f7⟩, f8⟩, f9⟩, f10⟩
  · obtain ⟨x1, x2, x3, x4, x5, x6, xs, ys⟩ := x
    rw [itO_eq] at hs hf
    simp only [enc_app] at hs
    simp only [all_app] at hf
    obtain ⟨⟨⟨⟨⟨⟨⟨⟨⟨f1, f2⟩, f3⟩, f4⟩, f5⟩, f6⟩, f7⟩, f8⟩, f9⟩, f10⟩ := hf
    obtain ⟨t9, s10⟩ := hs.split
    obtain ⟨t8, s9⟩ := t9.split
    obtain ⟨t7, s8⟩ := t8.split
    obtain ⟨t6, s7⟩ := t7.split
    obtain ⟨t5, s6⟩ := t6.split
    obtain ⟨t4, s5⟩ := t5.split
    obtain ⟨t3, s4⟩ := t4.split
    obtain ⟨t2, s3⟩ := t3.split
    obtain ⟨t1, s2⟩ := t2.split
    have s1 := t1
    have e1 := (par_u hb 1).bwd r x1 _ hr s1 f1
    have e2 := (par_u hb 1).bwd ⟨_, false⟩ x2 _ rfl s2 f2
    have e3 := (par_u hb 1).bwd ⟨_, false⟩ x3 _ rfl s3 f3
    have e4 := (par_u hb 1).bwd ⟨_, false⟩ x4 _ rfl s4 f4
    have e5 := (par_u hb 4).bwd ⟨_, false⟩ x5 _ rfl s5 f5
    have e6 := (par_u hb 1).bwd ⟨_, false⟩ x6 _ rfl s6 f6
    have e7 := (par_u hb 1).bwd ⟨_, false⟩ (xs.length : Int) _ rfl s7 f7
    have e8 := (par_l (par_u hb 1) xs.length).2.2 ⟨_, false⟩ xs _ rfl rfl s8 f8
    have e9 := (par_u hb 1).bwd ⟨_, false⟩ (ys.length : Int) _ rfl s9 f9
    have e10 := (par_l (par_u hb 4) ys.length).2.2 ⟨_, false⟩ ys _ rfl rfl s10 f10
    simp only [rO, e1, e2, e3, e4, e5, e6, e7, e8, e9, e10, Int.toNat_natCast]
theorem par_s {l : List Int} (hb : Byt l) : Par l (rS l) itS := by
  have key : ∀ r, ∃ n r1 m r2 xs r3 ys r4, (n, r1) = rU l 1 r ∧ (m, r2) = rU l 1 r1 ∧ (xs, r3) = rL (rT l) n.toNat r2 ∧ (ys, r4) = rL (rO l) m.toNat r3 ∧ rS l r = (⟨xs, ys⟩, r4) := by
    intro r
    obtain ⟨⟨n, r1⟩, e1⟩ : ∃ p, p = rU l 1 r := ⟨_, rfl⟩
    obtain ⟨⟨m, r2⟩, e2⟩ : ∃ p, p = rU l 1 r1 := ⟨_, rfl⟩
    obtain ⟨⟨xs, r3⟩, e3⟩ : ∃ p, p = rL (rT l) n.toNat r2 := ⟨_, rfl⟩
    obtain ⟨⟨ys, r4⟩, e4⟩ : ∃ p, p = rL (rO l) m.toNat r3 := ⟨_, rfl⟩
    exact ⟨n, r1, m, r2, xs, r3, ys, r4, e1, e2, e3, e4, by simp only [rS, ← e1, ← e2, ← e3, ← e4]⟩
  refine ⟨fun r hk => ?_, fun r hk h => ?_, fun r x m hr hs hf => ?_⟩
  · obtain ⟨n, r1, m, r2, xs, r3, ys, r4, e1, e2, e3, e4, hI⟩ := key r
    have b1 : r1.k ≤ l.length := by have := (par_u hb 1).le r hk; rw [← e1] at this; exact this
    have b2 : r2.k ≤ l.length := by have := (par_u hb 1).le r1 b1; rw [← e2] at this; exact this
    have b3 : r3.k ≤ l.length := by have := (par_l (par_t hb) n.toNat).1 r2 b2; rw [← e3] at this; exact this
    have b4 : r4.k ≤ l.length := by have := (par_l (par_o hb) m.toNat).1 r3 b3; rw [← e4] at this; exact this
    rw [hI]
    exact b4
  · obtain ⟨n, r1, m, r2, xs, r3, ys, r4, e1, e2, e3, e4, hI⟩ := key r
    have b1 : r1.k ≤ l.length := by have := (par_u hb 1).le r hk; rw [← e1] at this; exact this
    have b2 : r2.k ≤ l.length := by have := (par_u hb 1).le r1 b1; rw [← e2] at this; exact this
    have b3 : r3.k ≤ l.length := by have := (par_l (par_t hb) n.toNat).1 r2 b2; rw [← e3] at this; exact this
    have b4 : r4.k ≤ l.length := by have := (par_l (par_o hb) m.toNat).1 r3 b3; rw [← e4] at this; exact this
    rw [hI] at h ⊢
    simp only at h ⊢
    have k4 := (par_l (par_o hb) m.toNat).2.1 r3 b3 (by rw [← e4]; exact h)
    rw [← e4] at k4
    obtain ⟨g4, s4, f4⟩ := k4
    simp only at s4 f4
    have k3 := (par_l (par_t hb) n.toNat).2.1 r2 b2 (by rw [← e3]; exact g4)
    rw [← e3] at k3
    obtain ⟨g3, s3, f3⟩ := k3
    simp only at s3 f3
    have k2 := (par_u hb 1).fwd r1 b1 (by rw [← e2]; exact g3)
    rw [← e2] at k2
    obtain ⟨g2, s2, f2⟩ := k2
    simp only at s2 f2
    have k1 := (par_u hb 1).fwd r hk (by rw [← e1]; exact g2)
    rw [← e1] at k1
    obtain ⟨g1, s1, f1⟩ := k1
    simp only at s1 f1
    have l3 : xs.length = n.toNat := by have h := congrArg (fun p => p.1.length) e3; simp only [rl_len] at h; exact h
    have c3 := fit_nat f1
    rw [← c3, ← l3] at s1 f1
    have l4 : ys.length = m.toNat := by have h := congrArg (fun p => p.1.length) e4; simp only [rl_len] at h; exact h
    have c4 := fit_nat f2
    rw [← c4, ← l4] at s2 f2
    rw [itS_eq]
    refine ⟨g1, ?_, ?_⟩
    · simp only [enc_app]
      exact (((s1.app s2).app s3).app s4)
    · simp only [all_app]
      exact ⟨⟨⟨f1, f2⟩, f3⟩, f4⟩
  · obtain ⟨xs, ys⟩ := x
    rw [itS_eq] at hs hf
    simp only [enc_app] at hs
    simp only [all_app] at hf
    obtain ⟨⟨⟨f1, f2⟩, f3⟩, f4⟩ := hf
    obtain ⟨t3, s4⟩ := hs.split
    obtain ⟨t2, s3⟩ := t3.split
    obtain ⟨t1, s2⟩ := t2.split
    have s1 := t1
    have e1 := (par_u hb 1).bwd r (xs.length : Int) _ hr s1 f1
    have e2 := (par_u hb 1).bwd ⟨_, false⟩ (ys.length : Int) _ rfl s2 f2
    have e3 := (par_l (par_t hb) xs.length).2.2 ⟨_, false⟩ xs _ rfl rfl s3 f3
    have e4 := (par_l (par_o hb) ys.length).2.2 ⟨_, false⟩ ys _ rfl rfl s4 f4
    simp only [rS, e1, e2, e3, e4, Int.toNat_natCast]
end Go.Proofs.Ytfpefkpbiioofab.Im
