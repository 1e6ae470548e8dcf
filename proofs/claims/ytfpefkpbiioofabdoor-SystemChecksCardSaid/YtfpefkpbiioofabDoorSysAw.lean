/-

  Layer 32: chapter 32's example.
-/
import Derived.Test.YtfpefkpbiioofabDoorSysChk
import Derived.Test.YtfpefkpbiioofabDoorFlow
set_option linter.unusedVariables false
set_option linter.unusedSimpArgs false
namespace Go.Proofs.YtfpefkpbiioofabDoor.Sy
open Go.ChangeShapes Go.WideShapes Go.ChangeAt Go.RowKit Ws
open Go.Proofs.YtfpefkpbiioofabDoor.Im (PT PO PS TsAt OsAt SysAt tcells ocells)
open Go.Proofs.YtfpefkpbiioofabDoor.Is (Tabs)
open Go.Proofs.YtfpefkpbiioofabDoor.Ly (three_same)

theorem ics {w : World} {b : Nat} {T : TypeId} {v0 v1 v2 v3 v4 : Value} (h : Blk w b T #[v0, v1, v2, v3, v4]) : w.cell? ⟨b, 0, none⟩ = some v0 ∧ w.cell? ⟨b, 1, none⟩ = some v1 ∧ w.cell? ⟨b, 2, none⟩ = some v2 ∧ w.cell? ⟨b, 3, none⟩ = some v3 ∧ w.cell? ⟨b, 4, none⟩ = some v4 :=
  ⟨h.cell 0, h.cell 1, h.cell 2, h.cell 3, h.cell 4⟩
set_option maxRecDepth 100000 in
theorem call0_any (S : Value) (i op xa xb xc xn : Int) (n : Nat) (A B : Option Addr) (c m d : Nat) (hS : S = .agg #[.slice A n c, .slice B m d]) (hn : 0 ≤ xn ∧ xn < 4294967296) (hc : Is.callB op = false) (w : World) (hT : Tabs w) :
    Calls Tryd.prog 33 #[S, .int .i64 i, .agg #[.int .i64 op, .int .i64 xa, .int .i64 xb, .int .i64 xc, .int .u32 xn]] w fun e w' => e = .returned (.tuple #[.int .i64 (-1), .int .i64 0]) ∧ Same w w' := by
  subst hS
  have hs1 := ((Same.refl w).alloc (.cells #[.slice A n c, .slice B m d] 25)).alloc (.cells #[.int .i64 op, .int .i64 xa, .int .i64 xb, .int .i64 xc, .int .u32 xn] 46)
  have hb := Blk.new (w.alloc (.cells #[.slice A n c, .slice B m d] 25)) 46 #[.int .i64 op, .int .i64 xa, .int .i64 xb, .int .i64 xc, .int .u32 xn]
  rw [World.size_alloc] at hb
  obtain ⟨b0, b1, b2, b3, b4⟩ := ics hb
  have CA := Lib.hid (Is.calls_any op xa xb xc xn hn _ (hT.same hs1))
  rw [hc, Bool.and_false] at CA
  have HS := Lib.hid hs1
  clear hs1 hb hn hc hT
  go_enter Tryd.func33, Tryd.ntmps33
  go_wp2_with fail
  refine CA.out.mono ?_
  rintro e w1 ⟨he, s1⟩
  rw [if_neg (by decide)] at he
  subst he
  have HS1 := Lib.hid (HS.out.trans s1)
  clear s1
  unfold Is.ret3b
  go_wp2_with fail
  go_ret2
  exact ⟨rfl, HS1.out⟩
set_option maxRecDepth 100000 in
set_option maxHeartbeats 1000000 in
theorem calls0_any (A B : Option Addr) (n c m d : Nat) (ts : List PT) (w : World) (hn : ts.length = n) (hnb : n ≤ 5000) (ht : TsAt w A ts) (hf : ∀ p ∈ ts, p.code.length ≤ 200 ∧ ∀ x ∈ p.code, Is.callB x.op = false) (hT : Tabs w) :
    Calls Tryd.prog 17 #[.agg #[.slice A n c, .slice B m d]] w (FltP w (nw, 0)) := by
  have HF := Lib.hid (fb_new w A n c B m d)
  have HN := Lib.hid hn
  have HT := Lib.hid ht
  have HFW := Lib.hid hf
  have HTB := Lib.hid hT
  clear hn ht hf hT
  obtain ⟨a0, a1⟩ := HF.out.sc
  go_enter Tryd.func17, Tryd.ntmps17
  go_wp2_with fail
  clear a0 a1
  go_loopg [13] n (fun gk iv wx => ∃ k : Nat, k + gk = n ∧ iv = .int .i64 k ∧ FB w wx A n c B m d)
  case atStart => exact ⟨0, by omega, rfl, HF.out⟩
  case round =>
    rename World => wo
    obtain ⟨k, hk, rfl, hfb⟩ := hrel
    have HFB := Lib.hid hfb
    clear hfb
    cases gk with
    | zero =>
      obtain rfl : n = k := by omega
      have hge : ¬ (n : Int) < (n : Int) := by omega
      go_wp2_with fail
      refine (nowhere_any _).mono ?_
      rintro e wn ⟨rfl, sn⟩
      have HFN := Lib.hid (HFB.out.to sn)
      clear sn
      obtain ⟨⟨r0, r1, r2⟩, k0, k1, k2⟩ := HFN.out.rc
      go_wp2_with fail
      refine bodyPost_ret (v := .tuple #[.agg #[.int .i64 (-1), .int .i64 (-1), .int .i64 (-1)], .int .i64 (0)]) (res2 Tryd.results17 _ _ (w.heap.size + 1) 29 #[.int .i64 (-1), .int .i64 (-1), .int .i64 (-1)] (0, 0) _ rfl (b3put HFN.out.res _ _ _) Tryd.underlying29 rfl spot_size) rfl ?_
      exact flt_mk (rfl) (three_same HFN.out.same (by omega) _ _ _)
    | succ GK =>
      have hlt : (k : Int) < n := by omega
      have k0 : (0 : Int) ≤ k := by omega
      obtain ⟨x, hx⟩ : ∃ x, ts[k]? = some x := ⟨_, List.getElem?_eq_getElem (by have := HN.out; omega)⟩
      obtain ⟨b, o, rfl, X, cX, c0, c1, c2, c3, c4, c5, c6, hcode, _⟩ := (HT.out.same HFB.out.same).at_ hx
      have hcl := HFW.out x (List.mem_of_getElem? hx)
      clear hx
      obtain ⟨kind, prio, per, off, dl, own, code⟩ := x
      simp only at c0 c1 c2 c3 c4 c5 c6 hcode hcl
      have hs2 := (Same.refl wo).alloc (.cells #[.int .i64 kind, .int .i64 prio, .int .i64 per, .int .i64 off, .int .i64 dl, .int .i64 own, .slice X code.length cX] 49)
      have HF2 := Lib.hid (HFB.out.to hs2)
      have HCD := Lib.hid (hcode.same hs2)
      have HTB2 := Lib.hid ((HTB.out.same HFB.out.same).same hs2)
      have HCL := Lib.hid hcl.2
      obtain ⟨q0, q1, q2, q3, q4, q5, q6⟩ := tcs (Blk.new wo 49 #[.int .i64 kind, .int .i64 prio, .int .i64 per, .int .i64 off, .int .i64 dl, .int .i64 own, .slice X code.length cX])
      have hml := hcl.1
      obtain ⟨ml, hmle⟩ : ∃ ml, ml = code.length := ⟨_, rfl⟩
      have HML := Lib.hid hmle
      rw [← hmle] at c6 q0 q1 q2 q3 q4 q5 q6 hs2 hml HF2 HCD HTB2
      clear hs2 hcode hcl hmle
      obtain ⟨w2, hw2⟩ : ∃ w2, w2 = wo.alloc (.cells #[.int .i64 kind, .int .i64 prio, .int .i64 per, .int .i64 off, .int .i64 dl, .int .i64 own, .slice X ml cX] 49) := ⟨_, rfl⟩
      rw [← hw2] at HF2 HCD HTB2
      have E2 := Lib.hid hw2
      clear hw2
      go_wp2_with fail
      rw [← E2.out]
      clear E2 q0 q1 q2 q3 q4 q5 q6 c0 c1 c2 c3 c4 c5 c6
      go_loopg [21] ml (fun gj jv wy => ∃ j : Nat, j + gj = ml ∧ jv = .int .i64 j ∧ Same w2 wy)
      case atStart => exact ⟨0, by omega, rfl, Same.refl _⟩
      case round =>
        obtain ⟨j, hj, rfl, sj⟩ := hrel
        have HSJ := Lib.hid sj
        clear sj
        cases gk with
        | zero =>
          obtain rfl : ml = j := by omega
          have hge2 : ¬ (ml : Int) < (ml : Int) := by omega
          have HF3 := Lib.hid (HF2.out.to HSJ.out)
          go_wp2_with fail
          go_roundg GK
          case rel => exact ⟨k + 1, by omega, by go_num, HF3.out⟩
          case measure => omega
        | succ GJ =>
          have hlt2 : (j : Int) < ml := by omega
          have j0 : (0 : Int) ≤ j := by omega
          obtain ⟨y, hy⟩ : ∃ y, code[j]? = some y := ⟨_, List.getElem?_eq_getElem (by have := HML.out; omega)⟩
          obtain ⟨hyn, b2, o2, hX, hcells⟩ := (HCD.out.same HSJ.out) j y hy
          have hcb := HCL.out y (List.mem_of_getElem? hy)
          clear hy
          obtain ⟨op, xa, xb, xc, xn⟩ := y
          subst hX
          have e0 := hcells 0 _ rfl
          have e1 := hcells 1 _ rfl
          have e2 := hcells 2 _ rfl
          have e3 := hcells 3 _ rfl
          have e4 := hcells 4 _ rfl
          rw [Nat.add_zero] at e0
          simp only at hyn hcb e0 e1 e2 e3 e4
          clear hcells
          have hs5 := (Same.refl wr).alloc (.cells #[.int .i64 op, .int .i64 xa, .int .i64 xb, .int .i64 xc, .int .u32 xn] 46)
          obtain ⟨y0, y1, y2, y3, y4⟩ := ics (Blk.new wr 46 #[.int .i64 op, .int .i64 xa, .int .i64 xb, .int .i64 xc, .int .u32 xn])
          have HF5 := Lib.hid ((HF2.out.to HSJ.out).to hs5)
          have HS5 := Lib.hid (HSJ.out.trans hs5)
          have CA := Lib.hid (call0_any (.agg #[.slice (some ⟨b, o, none⟩) n c, .slice B m d]) k op xa xb xc xn n _ _ c m d rfl hyn hcb _ ((HTB2.out.same HSJ.out).same hs5))
          obtain ⟨a0, a1⟩ := HF5.out.sc
          clear hs5 hyn hcb
          go_wp2_with fail
          refine CA.out.mono ?_
          rintro e w6 ⟨rfl, s6⟩
          have HS6 := Lib.hid (HS5.out.trans s6)
          clear s6
          go_wp2_with fail
          go_roundg GJ
          case rel => exact ⟨j + 1, by omega, by go_num, HS6.out⟩
          case measure => omega
end Go.Proofs.YtfpefkpbiioofabDoor.Sy
