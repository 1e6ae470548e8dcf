/-

  Layer 13: the document's Step.
-/
import Derived.Test.YtgimelpjklnjmaaDoorFrmRsA
import Derived.Test.YtgimelpjklnjmaaDoorFrmRsB
import Derived.Test.YtgimelpjklnjmaaDoorFrmRsC
import Derived.Test.YtgimelpjklnjmaaDoorFrmRsD
import Derived.Test.YtgimelpjklnjmaaDoorFrmRsE
import Derived.Test.YtgimelpjklnjmaaDoorFrmRsF
import Derived.Test.YtgimelpjklnjmaaDoorFrmRsG
import Derived.Test.YtgimelpjklnjmaaDoorFrmRsH
set_option linter.unusedVariables false
set_option linter.unusedSimpArgs false
namespace Go.Proofs.YtgimelpjklnjmaaDoor.Fr
open Go.ChangeShapes Go.WideShapes Go.ChangeAt Go.RowKit Ws
open Go.Proofs.YtgimelpjklnjmaaDoor.Fp (Ins at_ Fine at_some)
open Go.Proofs.YtgimelpjklnjmaaDoor.Fw (Prg okB ckE check_any okB_fine rightI)
open Go.Proofs.YtgimelpjklnjmaaDoor.Is (Tabs)

theorem nonneg_ok {x : Ins} (hr : rightI x = true) : 0 ≤ x.a ∧ 0 ≤ x.b ∧ 0 ≤ x.c := by
  unfold rightI Is.rightB Is.fitB at hr
  simp only [Bool.and_eq_true, decide_eq_true_eq] at hr
  omega
set_option maxHeartbeats 2000000 in
theorem rstep_any (f : FS) (ws : List Nat) (st : Int) (T : Option Addr) (nT cT : Nat) (A : Option Addr) (m cA : Nat) (C : Option Addr) (n dC : Nat) (oa ol : Int) (p : List Ins) (w : World) (hT : Row w T (f.tn.map (Value.int .i64))) (hn : f.tn.length = nT) (hb : nT ≤ 5000) (hp : Prg w A p) (hl : p.length = m) (hm : m ≤ 5000) (hc : Own w 0 50 C dC ((cst ws).map (Value.int .u32))) (hcn : ws.length = n) (hcb : n ≤ 4096) (hw : Wide ⟨f, ws, st⟩) :
    Calls Tryd.prog 33 #[.agg #[.int .i64 f.pc, .int .u32 (rk f 0), .int .u32 (rk f 1), .int .u32 (rk f 2), .int .u32 (rk f 3), .int .u32 (rk f 4), .int .u32 (rk f 5), .int .u32 (rk f 6), .int .u32 (rk f 7), .slice T nT cT], .slice A m cA, .slice C n dC, .agg #[.int .i64 oa, .int .i64 ol]] w (RefP w (stepR p oa ol ⟨f, ws, st⟩).1 nT C n dC (stepR p oa ol ⟨f, ws, st⟩).2 ((stepR p oa ol ⟨f, ws, st⟩).1.st - st)) := by
  cases hmb : mayB p ⟨f, ws, st⟩ oa ol with
  | false =>
    have e : stepR p oa ol ⟨f, ws, st⟩ = (⟨f, ws, st⟩, 3) := if_neg (by rw [hmb]; decide)
    rw [e]
    show Calls Tryd.prog 33 #[.agg #[.int .i64 f.pc, .int .u32 (rk f 0), .int .u32 (rk f 1), .int .u32 (rk f 2), .int .u32 (rk f 3), .int .u32 (rk f 4), .int .u32 (rk f 5), .int .u32 (rk f 6), .int .u32 (rk f 7), .slice T nT cT], .slice A m cA, .slice C n dC, .agg #[.int .i64 oa, .int .i64 ol]] w (RefP w ⟨f, ws, st⟩ nT C n dC 3 (st - st))
    rw [Int.sub_self]
    exact rstep_off f ws st T nT cT A m cA C n dC oa ol p w hT hn hb hp hl hm hc hcn hcb hmb
  | true =>
    have hok := may_ok hmb
    have hmr : rightF (okB p) p f = true := by
      unfold mayB at hmb
      rw [Bool.and_eq_true] at hmb
      exact hmb.1
    obtain ⟨_, ⟨p0, p1, p2⟩, htl⟩ := right_iff.1 hmr
    have hfine := okB_fine hok
    obtain ⟨pc, rg, tn⟩ := f
    simp only at p0 p1 p2
    obtain ⟨k, rfl⟩ : ∃ k : Nat, pc = (k : Int) := ⟨pc.toNat, by omega⟩
    have hkp : k < p.length := by omega
    have hkm : k < m := by omega
    have hrx : rightI (at_ p k) = true := hfine.right k hkp
    have hro := regs_ok hrx
    have hxok := hp.ok hkp
    have e : stepR p oa ol ⟨⟨(k : Int), rg, tn⟩, ws, st⟩ = (if kindI (at_ p k) = 0 then inst oa ol (at_ p k) ⟨⟨(k : Int), rg, tn⟩, ws, st⟩ else ⟨⟨(k : Int), rg, tn⟩, ws, st⟩, kindI (at_ p k)) := if_pos hmb
    have htv := htl k (by show k < tn.length; omega)
    have hkT : k < nT := by simp only at hn; omega
    rw [e]
    generalize hx : at_ p k = x at *
    obtain ⟨o, a, b, c, xn⟩ := x
    obtain ⟨n0, n1⟩ := hxok
    simp only at hro n0 n1
    obtain ⟨xn, rfl⟩ : ∃ j : Nat, xn = j := ⟨xn.toNat, by omega⟩
    have n2 : xn < 4294967296 := by omega
    obtain ⟨ho, hr13, hr15, hr16⟩ := hro
    have fin : ∀ {s1 s2 : SS} {k1 k2 v1 v2 : Int}, s1.f = s2.f → s1.ws = s2.ws → k1 = k2 → v1 = v2 → Calls Tryd.prog 33 #[.agg #[.int .i64 (⟨(k : Int), rg, tn⟩ : FS).pc, .int .u32 (rk (⟨(k : Int), rg, tn⟩ : FS) 0), .int .u32 (rk (⟨(k : Int), rg, tn⟩ : FS) 1), .int .u32 (rk (⟨(k : Int), rg, tn⟩ : FS) 2), .int .u32 (rk (⟨(k : Int), rg, tn⟩ : FS) 3), .int .u32 (rk (⟨(k : Int), rg, tn⟩ : FS) 4), .int .u32 (rk (⟨(k : Int), rg, tn⟩ : FS) 5), .int .u32 (rk (⟨(k : Int), rg, tn⟩ : FS) 6), .int .u32 (rk (⟨(k : Int), rg, tn⟩ : FS) 7), .slice T nT cT], .slice A m cA, .slice C n dC, .agg #[.int .i64 oa, .int .i64 ol]] w (RefP w s1 nT C n dC k1 v1) → Calls Tryd.prog 33 #[.agg #[.int .i64 (⟨(k : Int), rg, tn⟩ : FS).pc, .int .u32 (rk (⟨(k : Int), rg, tn⟩ : FS) 0), .int .u32 (rk (⟨(k : Int), rg, tn⟩ : FS) 1), .int .u32 (rk (⟨(k : Int), rg, tn⟩ : FS) 2), .int .u32 (rk (⟨(k : Int), rg, tn⟩ : FS) 3), .int .u32 (rk (⟨(k : Int), rg, tn⟩ : FS) 4), .int .u32 (rk (⟨(k : Int), rg, tn⟩ : FS) 5), .int .u32 (rk (⟨(k : Int), rg, tn⟩ : FS) 6), .int .u32 (rk (⟨(k : Int), rg, tn⟩ : FS) 7), .slice T nT cT], .slice A m cA, .slice C n dC, .agg #[.int .i64 oa, .int .i64 ol]] w (RefP w s2 nT C n dC k2 v2) := fun {s1 s2 k1 k2 v1 v2} h1 h2 h3 h4 h => by
      obtain ⟨f1, w1, t1⟩ := s1
      obtain ⟨f2, w2, t2⟩ := s2
      simp only at h1 h2
      subst h1 h2 h3 h4
      exact h
    obtain ⟨ka, rfl⟩ : ∃ j : Nat, a = j := ⟨a.toNat, by have := (nonneg_ok hrx).1; simp only at this; omega⟩
    obtain ⟨kb, rfl⟩ : ∃ j : Nat, b = j := ⟨b.toNat, by have := (nonneg_ok hrx).2.1; simp only at this; omega⟩
    obtain ⟨kc, rfl⟩ : ∃ j : Nat, c = j := ⟨c.toNat, by have := (nonneg_ok hrx).2.2; simp only at this; omega⟩
    rcases (show o = 21 ∨ o = 14 ∨ o = 16 ∨ o = 15 ∨ o = 17 ∨ o = 18 ∨ o = 19 ∨ o = 20 ∨ o ≤ 13 by omega) with rfl | rfl | rfl | rfl | rfl | rfl | rfl | rfl | h13
    · have hk : kindI ⟨21, ka, kb, kc, xn⟩ = 2 := by simp [kindI]
      rw [hk, if_neg (by decide)]
      exact fin (s1 := ⟨⟨(k : Int), rg, tn⟩, ws, st⟩) rfl rfl rfl (Int.sub_self st).symm (rstep_21 (⟨(k : Int), rg, tn⟩ : FS) ws st T nT cT A m cA C n dC oa ol p w hT hn hb hp hl hm hc hcn hcb hmb k ka kb kc xn _ _ _ rfl hkm hx rfl rfl rfl hw n2)
    · have hk : kindI ⟨14, ka, kb, kc, xn⟩ = 0 := by simp [kindI]
      rw [hk, if_pos rfl]
      exact fin (s1 := ⟨_, _, st⟩) rfl rfl rfl (by simp [inst, isMem]) (rstep_14 (⟨(k : Int), rg, tn⟩ : FS) ws st T nT cT A m cA C n dC oa ol p w hT hn hb hp hl hm hc hcn hcb hmb k ka kb kc xn _ _ _ rfl hkm hx rfl rfl rfl hw n2 (inst oa ol ⟨14, ka, kb, kc, xn⟩ ⟨⟨(k : Int), rg, tn⟩, ws, st⟩).f (by simp [inst, pcI, rgI, tnI]) (inst oa ol ⟨14, ka, kb, kc, xn⟩ ⟨⟨(k : Int), rg, tn⟩, ws, st⟩).ws (by simp [inst, wsI]))
    · have hk : kindI ⟨16, ka, kb, kc, xn⟩ = 0 := by simp [kindI]
      rw [hk, if_pos rfl]
      have hkc := hr16 rfl
      have hm16 : mostI (⟨16, (ka : Int), (kb : Int), (kc : Int), (xn : Int)⟩ : Ins) = kc := by simp [mostI]
      rw [hm16] at htv
      have htv : 0 ≤ tn.getD k 0 ∧ tn.getD k 0 ≤ (kc : Int) := htv
      by_cases hlt : tn.getD k 0 < (kc : Int)
      · have hlt2 := hlt
        simp only [List.getD_eq_getElem?_getD] at hlt2
        exact fin (s1 := ⟨_, _, st⟩) rfl rfl rfl (by simp [inst, isMem]) (rstep_16y (⟨(k : Int), rg, tn⟩ : FS) ws st T nT cT A m cA C n dC oa ol p w hT hn hb hp hl hm hc hcn hcb hmb k xn ka kb kc rfl hkm hx hw n2 hkT _ rfl ⟨htv.1, by omega⟩ hlt (inst oa ol ⟨16, ka, kb, kc, xn⟩ ⟨⟨(k : Int), rg, tn⟩, ws, st⟩).f (by simp [inst, pcI, rgI, tnI, backB, tnv, hlt2]) (inst oa ol ⟨16, ka, kb, kc, xn⟩ ⟨⟨(k : Int), rg, tn⟩, ws, st⟩).ws (by simp [inst, wsI]))
      · have hlt2 := hlt
        simp only [List.getD_eq_getElem?_getD] at hlt2
        exact fin (s1 := ⟨_, _, st⟩) rfl rfl rfl (by simp [inst, isMem]) (rstep_16n (⟨(k : Int), rg, tn⟩ : FS) ws st T nT cT A m cA C n dC oa ol p w hT hn hb hp hl hm hc hcn hcb hmb k xn ka kb kc rfl hkm hx hw n2 hkT _ rfl ⟨htv.1, by omega⟩ hlt (inst oa ol ⟨16, ka, kb, kc, xn⟩ ⟨⟨(k : Int), rg, tn⟩, ws, st⟩).f (by simp [inst, pcI, rgI, tnI, backB, tnv, hlt2]) (inst oa ol ⟨16, ka, kb, kc, xn⟩ ⟨⟨(k : Int), rg, tn⟩, ws, st⟩).ws (by simp [inst, wsI]))
    · have hk : kindI ⟨15, ka, kb, kc, xn⟩ = 0 := by simp [kindI]
      rw [hk, if_pos rfl]
      have hka := hr15 (.inl rfl)
      by_cases hz : rg.getD ka 0 = 0
      · have hz2 := hz
        simp only [List.getD_eq_getElem?_getD] at hz2
        exact fin (s1 := ⟨_, _, st⟩) rfl rfl rfl (by simp [inst, isMem]) (rstep_15y (⟨(k : Int), rg, tn⟩ : FS) ws st T nT cT A m cA C n dC oa ol p w hT hn hb hp hl hm hc hcn hcb hmb k ka kb kc xn _ _ _ rfl hkm hx rfl rfl rfl hw n2 (by omega) hz (inst oa ol ⟨15, ka, kb, kc, xn⟩ ⟨⟨(k : Int), rg, tn⟩, ws, st⟩).f (by simp [inst, pcI, rgI, tnI, rgv, hz2]) (inst oa ol ⟨15, ka, kb, kc, xn⟩ ⟨⟨(k : Int), rg, tn⟩, ws, st⟩).ws (by simp [inst, wsI]))
      · have hz2 := hz
        simp only [List.getD_eq_getElem?_getD] at hz2
        exact fin (s1 := ⟨_, _, st⟩) rfl rfl rfl (by simp [inst, isMem]) (rstep_15n (⟨(k : Int), rg, tn⟩ : FS) ws st T nT cT A m cA C n dC oa ol p w hT hn hb hp hl hm hc hcn hcb hmb k ka kb kc xn _ _ _ rfl hkm hx rfl rfl rfl hw n2 (by omega) hz (inst oa ol ⟨15, ka, kb, kc, xn⟩ ⟨⟨(k : Int), rg, tn⟩, ws, st⟩).f (by simp [inst, pcI, rgI, tnI, rgv, hz2]) (inst oa ol ⟨15, ka, kb, kc, xn⟩ ⟨⟨(k : Int), rg, tn⟩, ws, st⟩).ws (by simp [inst, wsI]))
    · have hk : kindI ⟨17, ka, kb, kc, xn⟩ = 1 := by simp [kindI]
      rw [hk, if_neg (by decide)]
      exact fin (s1 := ⟨⟨(k : Int), rg, tn⟩, ws, st⟩) rfl rfl rfl (Int.sub_self st).symm (rstep_17 (⟨(k : Int), rg, tn⟩ : FS) ws st T nT cT A m cA C n dC oa ol p w hT hn hb hp hl hm hc hcn hcb hmb k ka kb kc xn _ _ _ rfl hkm hx rfl rfl rfl hw n2)
    · have hk : kindI ⟨18, ka, kb, kc, xn⟩ = 1 := by simp [kindI]
      rw [hk, if_neg (by decide)]
      exact fin (s1 := ⟨⟨(k : Int), rg, tn⟩, ws, st⟩) rfl rfl rfl (Int.sub_self st).symm (rstep_18 (⟨(k : Int), rg, tn⟩ : FS) ws st T nT cT A m cA C n dC oa ol p w hT hn hb hp hl hm hc hcn hcb hmb k ka kb kc xn _ _ _ rfl hkm hx rfl rfl rfl hw n2)
    · have hk : kindI ⟨19, ka, kb, kc, xn⟩ = 1 := by simp [kindI]
      rw [hk, if_neg (by decide)]
      exact fin (s1 := ⟨⟨(k : Int), rg, tn⟩, ws, st⟩) rfl rfl rfl (Int.sub_self st).symm (rstep_19 (⟨(k : Int), rg, tn⟩ : FS) ws st T nT cT A m cA C n dC oa ol p w hT hn hb hp hl hm hc hcn hcb hmb k ka kb kc xn _ _ _ rfl hkm hx rfl rfl rfl hw n2)
    · have hk : kindI ⟨20, ka, kb, kc, xn⟩ = 1 := by simp [kindI]
      rw [hk, if_neg (by decide)]
      exact fin (s1 := ⟨⟨(k : Int), rg, tn⟩, ws, st⟩) rfl rfl rfl (Int.sub_self st).symm (rstep_20 (⟨(k : Int), rg, tn⟩ : FS) ws st T nT cT A m cA C n dC oa ol p w hT hn hb hp hl hm hc hcn hcb hmb k ka kb kc xn _ _ _ rfl hkm hx rfl rfl rfl hw n2)
    · have hk : kindI ⟨o, ka, kb, kc, xn⟩ = 0 := by unfold kindI; rw [if_neg (by simp only; omega), if_neg (by simp only; omega)]
      rw [hk, if_pos rfl]
      obtain ⟨⟨_, qa⟩, ⟨_, qb⟩, ⟨_, qc⟩⟩ := hr13 h13
      have qa : ka < 8 := by omega
      have qb : kb < 8 := by omega
      have qc : kc < 8 := by omega
      rcases (show o = 0 ∨ o = 1 ∨ o = 2 ∨ o = 3 ∨ o = 4 ∨ o = 5 ∨ o = 6 ∨ o = 7 ∨ o = 8 ∨ o = 9 ∨ o = 10 ∨ o = 11 ∨ o = 12 ∨ o = 13 by omega) with rfl | rfl | rfl | rfl | rfl | rfl | rfl | rfl | rfl | rfl | rfl | rfl | rfl | rfl
      · exact fin (s1 := ⟨_, _, st⟩) rfl rfl rfl (by simp [inst, isMem]) (rstep_0 (⟨(k : Int), rg, tn⟩ : FS) ws st T nT cT A m cA C n dC oa ol p w hT hn hb hp hl hm hc hcn hcb hmb k ka kb kc xn _ _ _ rfl hkm hx rfl rfl rfl hw n2 (inst oa ol ⟨0, ka, kb, kc, xn⟩ ⟨⟨(k : Int), rg, tn⟩, ws, st⟩).f (by simp [inst, pcI, rgI, tnI, rgv]) (inst oa ol ⟨0, ka, kb, kc, xn⟩ ⟨⟨(k : Int), rg, tn⟩, ws, st⟩).ws (by simp [inst, wsI]))
      · exact fin (s1 := ⟨_, _, st⟩) rfl rfl rfl (by simp [inst, isMem]) (rstep_1 (⟨(k : Int), rg, tn⟩ : FS) ws st T nT cT A m cA C n dC oa ol p w hT hn hb hp hl hm hc hcn hcb hmb k ka kb kc xn _ _ _ rfl hkm hx rfl rfl rfl hw n2 qa (inst oa ol ⟨1, ka, kb, kc, xn⟩ ⟨⟨(k : Int), rg, tn⟩, ws, st⟩).f (by simp [inst, pcI, rgI, tnI, rgv]) (inst oa ol ⟨1, ka, kb, kc, xn⟩ ⟨⟨(k : Int), rg, tn⟩, ws, st⟩).ws (by simp [inst, wsI]))
      · exact fin (s1 := ⟨_, _, st⟩) rfl rfl rfl (by simp [inst, isMem]) (rstep_2 (⟨(k : Int), rg, tn⟩ : FS) ws st T nT cT A m cA C n dC oa ol p w hT hn hb hp hl hm hc hcn hcb hmb k ka kb kc xn _ _ _ rfl hkm hx rfl rfl rfl hw n2 qa qb (inst oa ol ⟨2, ka, kb, kc, xn⟩ ⟨⟨(k : Int), rg, tn⟩, ws, st⟩).f (by simp [inst, pcI, rgI, tnI, rgv]) (inst oa ol ⟨2, ka, kb, kc, xn⟩ ⟨⟨(k : Int), rg, tn⟩, ws, st⟩).ws (by simp [inst, wsI]))
      · exact fin (s1 := ⟨_, _, st⟩) rfl rfl rfl (by simp [inst, isMem]) (rstep_3 (⟨(k : Int), rg, tn⟩ : FS) ws st T nT cT A m cA C n dC oa ol p w hT hn hb hp hl hm hc hcn hcb hmb k ka kb kc xn _ _ _ rfl hkm hx rfl rfl rfl hw n2 qa qb qc _ rfl (inst oa ol ⟨3, ka, kb, kc, xn⟩ ⟨⟨(k : Int), rg, tn⟩, ws, st⟩).f (by simp [inst, pcI, rgI, tnI, rgv]) (inst oa ol ⟨3, ka, kb, kc, xn⟩ ⟨⟨(k : Int), rg, tn⟩, ws, st⟩).ws (by simp [inst, wsI]))
      · exact fin (s1 := ⟨_, _, st⟩) rfl rfl rfl (by simp [inst, isMem]) (rstep_4 (⟨(k : Int), rg, tn⟩ : FS) ws st T nT cT A m cA C n dC oa ol p w hT hn hb hp hl hm hc hcn hcb hmb k ka kb kc xn _ _ _ rfl hkm hx rfl rfl rfl hw n2 qa qb qc _ rfl (inst oa ol ⟨4, ka, kb, kc, xn⟩ ⟨⟨(k : Int), rg, tn⟩, ws, st⟩).f (by simp [inst, pcI, rgI, tnI, rgv]) (inst oa ol ⟨4, ka, kb, kc, xn⟩ ⟨⟨(k : Int), rg, tn⟩, ws, st⟩).ws (by simp [inst, wsI]))
      · exact fin (s1 := ⟨_, _, st⟩) rfl rfl rfl (by simp [inst, isMem]) (rstep_5 (⟨(k : Int), rg, tn⟩ : FS) ws st T nT cT A m cA C n dC oa ol p w hT hn hb hp hl hm hc hcn hcb hmb k ka kb kc xn _ _ _ rfl hkm hx rfl rfl rfl hw n2 qa qb qc _ rfl (inst oa ol ⟨5, ka, kb, kc, xn⟩ ⟨⟨(k : Int), rg, tn⟩, ws, st⟩).f (by simp [inst, pcI, rgI, tnI, rgv]) (inst oa ol ⟨5, ka, kb, kc, xn⟩ ⟨⟨(k : Int), rg, tn⟩, ws, st⟩).ws (by simp [inst, wsI]))
      · exact fin (s1 := ⟨_, _, st⟩) rfl rfl rfl (by simp [inst, isMem]) (rstep_6 (⟨(k : Int), rg, tn⟩ : FS) ws st T nT cT A m cA C n dC oa ol p w hT hn hb hp hl hm hc hcn hcb hmb k ka kb kc xn _ _ _ rfl hkm hx rfl rfl rfl hw n2 qa qb qc _ rfl (inst oa ol ⟨6, ka, kb, kc, xn⟩ ⟨⟨(k : Int), rg, tn⟩, ws, st⟩).f (by simp [inst, pcI, rgI, tnI, rgv]) (inst oa ol ⟨6, ka, kb, kc, xn⟩ ⟨⟨(k : Int), rg, tn⟩, ws, st⟩).ws (by simp [inst, wsI]))
      · exact fin (s1 := ⟨_, _, st⟩) rfl rfl rfl (by simp [inst, isMem]) (rstep_7 (⟨(k : Int), rg, tn⟩ : FS) ws st T nT cT A m cA C n dC oa ol p w hT hn hb hp hl hm hc hcn hcb hmb k ka kb kc xn _ _ _ rfl hkm hx rfl rfl rfl hw n2 qa qb qc _ rfl (inst oa ol ⟨7, ka, kb, kc, xn⟩ ⟨⟨(k : Int), rg, tn⟩, ws, st⟩).f (by simp [inst, pcI, rgI, tnI, rgv]) (inst oa ol ⟨7, ka, kb, kc, xn⟩ ⟨⟨(k : Int), rg, tn⟩, ws, st⟩).ws (by simp [inst, wsI]))
      · exact fin (s1 := ⟨_, _, st⟩) rfl rfl rfl (by simp [inst, isMem]) (rstep_8 (⟨(k : Int), rg, tn⟩ : FS) ws st T nT cT A m cA C n dC oa ol p w hT hn hb hp hl hm hc hcn hcb hmb k ka kb kc xn _ _ _ rfl hkm hx rfl rfl rfl hw n2 qa qb qc _ rfl (inst oa ol ⟨8, ka, kb, kc, xn⟩ ⟨⟨(k : Int), rg, tn⟩, ws, st⟩).f (by simp [inst, pcI, rgI, tnI, rgv]) (inst oa ol ⟨8, ka, kb, kc, xn⟩ ⟨⟨(k : Int), rg, tn⟩, ws, st⟩).ws (by simp [inst, wsI]))
      · exact fin (s1 := ⟨_, _, st⟩) rfl rfl rfl (by simp [inst, isMem]) (rstep_9 (⟨(k : Int), rg, tn⟩ : FS) ws st T nT cT A m cA C n dC oa ol p w hT hn hb hp hl hm hc hcn hcb hmb k ka kb kc xn _ _ _ rfl hkm hx rfl rfl rfl hw n2 qa qb qc _ rfl (inst oa ol ⟨9, ka, kb, kc, xn⟩ ⟨⟨(k : Int), rg, tn⟩, ws, st⟩).f (by simp [inst, pcI, rgI, tnI, rgv]) (inst oa ol ⟨9, ka, kb, kc, xn⟩ ⟨⟨(k : Int), rg, tn⟩, ws, st⟩).ws (by simp [inst, wsI]))
      · exact fin (s1 := ⟨_, _, st⟩) rfl rfl rfl (by simp [inst, isMem]) (rstep_10 (⟨(k : Int), rg, tn⟩ : FS) ws st T nT cT A m cA C n dC oa ol p w hT hn hb hp hl hm hc hcn hcb hmb k ka kb kc xn _ _ _ rfl hkm hx rfl rfl rfl hw n2 qa qb qc _ rfl (inst oa ol ⟨10, ka, kb, kc, xn⟩ ⟨⟨(k : Int), rg, tn⟩, ws, st⟩).f (by simp [inst, pcI, rgI, tnI, rgv]) (inst oa ol ⟨10, ka, kb, kc, xn⟩ ⟨⟨(k : Int), rg, tn⟩, ws, st⟩).ws (by simp [inst, wsI]))
      · exact fin (s1 := ⟨_, _, st⟩) rfl rfl rfl (by simp [inst, isMem]; omega) (rstep_11 (⟨(k : Int), rg, tn⟩ : FS) ws st T nT cT A m cA C n dC oa ol p w hT hn hb hp hl hm hc hcn hcb hmb k ka kb kc xn _ _ _ rfl hkm hx rfl rfl rfl hw n2 qa qb _ rfl _ rfl (inst oa ol ⟨11, ka, kb, kc, xn⟩ ⟨⟨(k : Int), rg, tn⟩, ws, st⟩).f (by simp [inst, pcI, rgI, tnI, rgv, atN, offN]) (inst oa ol ⟨11, ka, kb, kc, xn⟩ ⟨⟨(k : Int), rg, tn⟩, ws, st⟩).ws (by simp [inst, wsI, atN, offN]))
      · exact fin (s1 := ⟨_, _, st⟩) rfl rfl rfl (by simp [inst, isMem]; omega) (rstep_12 (⟨(k : Int), rg, tn⟩ : FS) ws st T nT cT A m cA C n dC oa ol p w hT hn hb hp hl hm hc hcn hcb hmb k ka kb kc xn _ _ _ rfl hkm hx rfl rfl rfl hw n2 qa qb _ rfl (inst oa ol ⟨12, ka, kb, kc, xn⟩ ⟨⟨(k : Int), rg, tn⟩, ws, st⟩).f (by simp [inst, pcI, rgI, tnI, rgv, atN, offN, rgv]) (inst oa ol ⟨12, ka, kb, kc, xn⟩ ⟨⟨(k : Int), rg, tn⟩, ws, st⟩).ws (by simp [inst, wsI, atN, offN, rgv]))
      · by_cases hq : ws.getD (oa.toNat + (rg.getD kb 0 + xn) % 4294967296 % ol.toNat) 0 = rg.getD ka 0
        · have hq2 := hq
          simp only [List.getD_eq_getElem?_getD] at hq2
          exact fin (s1 := ⟨_, _, st⟩) rfl rfl rfl (by simp [inst, isMem]; omega) (rstep_13y (⟨(k : Int), rg, tn⟩ : FS) ws st T nT cT A m cA C n dC oa ol p w hT hn hb hp hl hm hc hcn hcb hmb k ka kb kc xn _ _ _ rfl hkm hx rfl rfl rfl hw n2 qa qb qc _ rfl _ rfl hq (inst oa ol ⟨13, ka, kb, kc, xn⟩ ⟨⟨(k : Int), rg, tn⟩, ws, st⟩).f (by simp [inst, pcI, rgI, tnI, rgv, atN, offN, rgv, hq2]) (inst oa ol ⟨13, ka, kb, kc, xn⟩ ⟨⟨(k : Int), rg, tn⟩, ws, st⟩).ws (by simp [inst, wsI, atN, offN, rgv, hq2]))
        · have hq2 := hq
          simp only [List.getD_eq_getElem?_getD] at hq2
          exact fin (s1 := ⟨_, _, st⟩) rfl rfl rfl (by simp [inst, isMem]; omega) (rstep_13n (⟨(k : Int), rg, tn⟩ : FS) ws st T nT cT A m cA C n dC oa ol p w hT hn hb hp hl hm hc hcn hcb hmb k ka kb kc xn _ _ _ rfl hkm hx rfl rfl rfl hw n2 qa qb qc _ rfl _ rfl hq (inst oa ol ⟨13, ka, kb, kc, xn⟩ ⟨⟨(k : Int), rg, tn⟩, ws, st⟩).f (by simp [inst, pcI, rgI, tnI, rgv, atN, offN, rgv, hq2]) (inst oa ol ⟨13, ka, kb, kc, xn⟩ ⟨⟨(k : Int), rg, tn⟩, ws, st⟩).ws (by simp [inst, wsI, atN, offN, rgv, hq2]))
end Go.Proofs.YtgimelpjklnjmaaDoor.Fr
