/-

  Layer 13: whether a frame is one of a program (frame.Right), and what its instructions are.
-/
import Derived.Test.YtiipdeionmndcaaDoorFrmPure
import Derived.Test.YtiipdeionmndcaaDoorFlowUse
set_option linter.unusedVariables false
set_option linter.unusedSimpArgs false
namespace Go.Proofs.YtiipdeionmndcaaDoor.Fr
open Go.ChangeShapes Go.WideShapes Go.ChangeAt Go.RowKit Ws
open Go.Proofs.YtiipdeionmndcaaDoor.Fp (Ins at_ Fine at_some)
open Go.Proofs.YtiipdeionmndcaaDoor.Fw (Prg okB ckE check_any okB_fine rightI)
open Go.Proofs.YtiipdeionmndcaaDoor.Is (Tabs)

/-- a register as its cell holds it -/
def rk (f : FS) (k : Nat) : Int := ((f.rg.getD k 0 : Nat) : Int)
theorem ret_bool {a b : Bool} (h : a = b) : Ending.returned (.bool a) = .returned (.bool b) := by rw [h]
theorem ret_int {a b : Int} (h : a = b) : Ending.returned (.int .i64 a) = .returned (.int .i64 b) := by rw [h]
theorem most_any (x : Ins) (w : World) : Calls Tryd.prog 51 #[.agg #[.int .i64 x.op, .int .i64 x.a, .int .i64 x.b, .int .i64 x.c, .int .u32 x.n]] w fun e w' => e = .returned (.int .i64 (mostI x)) ∧ Same w w' := by
  by_cases h : x.op = 16
  · have h1 : (x.op == 16) = true := by simpa using h
    have h2 : mostI x = x.c := if_pos h
    rw [h2]
    clear h h2
    go_enter Tryd.func51, Tryd.ntmps51
    go_wp2
    go_ret
    exact ⟨rfl, (Same.refl _).alloc _⟩
  · have h1 : (x.op == 16) = false := by simpa using h
    have h2 : mostI x = 0 := if_neg h
    rw [h2]
    clear h h2
    go_enter Tryd.func51, Tryd.ntmps51
    go_wp2
    go_ret
    exact ⟨rfl, (Same.refl _).alloc _⟩
def callB (x : Ins) : Bool := decide (17 ≤ x.op ∧ x.op ≤ 20)
theorem calls_any (x : Ins) (w : World) : Calls Tryd.prog 75 #[.agg #[.int .i64 x.op, .int .i64 x.a, .int .i64 x.b, .int .i64 x.c, .int .u32 x.n]] w fun e w' => e = .returned (.bool (callB x)) ∧ Same w w' := by
  by_cases h : 17 ≤ x.op ∧ x.op ≤ 20
  · have h2 : callB x = true := decide_eq_true h
    rw [h2]
    clear h2
    go_enter Tryd.func75, Tryd.ntmps75
    go_wp2
    all_goals first | (exfalso; omega) | (go_ret; exact ⟨rfl, (Same.refl _).alloc _⟩)
  · have h2 : callB x = false := decide_eq_false h
    rw [h2]
    clear h2
    go_enter Tryd.func75, Tryd.ntmps75
    go_wp2
    all_goals first | (exfalso; omega) | (go_ret; exact ⟨rfl, (Same.refl _).alloc _⟩)

theorem turns_no {p : List Ins} {tn : List Int} {k : Nat} (hk : k < tn.length) (h : tn.getD k 0 < 0 ∨ mostI (at_ p k) < tn.getD k 0) : turnsB p tn = false := by
  rw [Bool.eq_false_iff]
  intro ht
  have := turns_iff.1 ht k hk
  omega
set_option maxRecDepth 100000 in
set_option maxHeartbeats 2000000 in
theorem fright_any (f : FS) (T : Option Addr) (nT cT : Nat) (A : Option Addr) (m c : Nat) (p : List Ins) (w : World) (hl : p.length = m) (hm : m ≤ 5000) (hp : Prg w A p) (ht : Tabs w) (hT : Row w T (f.tn.map (Value.int .i64))) (hn : f.tn.length = nT) (hb : nT ≤ 5000) :
    Calls Tryd.prog 21 #[.agg #[.int .i64 f.pc, .int .u32 (rk f 0), .int .u32 (rk f 1), .int .u32 (rk f 2), .int .u32 (rk f 3), .int .u32 (rk f 4), .int .u32 (rk f 5), .int .u32 (rk f 6), .int .u32 (rk f 7), .slice T nT cT], .slice A m c] w fun e w' => e = .returned (.bool (rightF (okB p) p f)) ∧ Same w w' := by
  have CK := Lib.hid (fun w' (hs : Same w w') => check_any A m c p w' hl hm (hp.same hs) (ht.same hs))
  obtain ⟨w0, hw0⟩ : ∃ w0, w0 = w.alloc (.cells #[.int .i64 f.pc, .int .u32 (rk f 0), .int .u32 (rk f 1), .int .u32 (rk f 2), .int .u32 (rk f 3), .int .u32 (rk f 4), .int .u32 (rk f 5), .int .u32 (rk f 6), .int .u32 (rk f 7), .slice T nT cT] 44) := ⟨_, rfl⟩
  have hs0 : Same w w0 := hw0 ▸ (Same.refl w).alloc _
  have hb0 : Blk w0 w.heap.size 44 #[.int .i64 f.pc, .int .u32 (rk f 0), .int .u32 (rk f 1), .int .u32 (rk f 2), .int .u32 (rk f 3), .int .u32 (rk f 4), .int .u32 (rk f 5), .int .u32 (rk f 6), .int .u32 (rk f 7), .slice T nT cT] := hw0 ▸ Blk.new w _ _
  have HS0 := Lib.hid hs0
  have HB0 := Lib.hid hb0
  have HP := Lib.hid hp
  have HT := Lib.hid hT
  have HL := Lib.hid hl
  have HN := Lib.hid hn
  have E0 := Lib.hid hw0
  have hOK : okB p = decide (ckE p = 0) := rfl
  have HOK := Lib.hid hOK
  clear hs0 hb0 hp ht hT hl hn hw0 hOK
  go_enter Tryd.func21, Tryd.ntmps21
  go_wp2_with fail
  rw [← E0.out]
  clear E0
  refine (CK.out _ HS0.out).mono ?_
  rintro e w1 ⟨rfl, s1⟩
  have HS1 := Lib.hid (HS0.out.trans s1)
  have hb1 := HB0.out.same s1
  have c0 := hb1.cell 0
  have c9 := hb1.cell 9
  simp only [List.getElem?_toArray, List.getElem?_cons_zero, List.getElem?_cons_succ] at c0 c9
  clear CK s1 HB0 hb1
  generalize ckE p = q at *
  by_cases hq : q = 0
  · have hq2 : (q != 0) = false := by simpa using hq
    have HOK2 := Lib.hid (show okB p = true by rw [HOK.out]; exact decide_eq_true hq)
    clear hq HOK
    by_cases hpl : 0 ≤ f.pc ∧ f.pc < m ∧ nT = m
    · have HPL := Lib.hid (show placeB p f = true from decide_eq_true ⟨hpl.1, by have := HL.out; omega, by have := HN.out; have := HL.out; omega⟩)
      obtain ⟨h1, h2, h3⟩ := hpl
      have h1' : ¬ f.pc < 0 := by omega
      have h2' : ¬ f.pc ≥ m := by omega
      subst h3
      go_wp2_with fail
      go_loopg [39] nT (fun gk iv wx => ∃ k : Nat, k + gk = nT ∧ iv = .int .i64 k ∧ (∀ j, j < k → 0 ≤ f.tn.getD j 0 ∧ f.tn.getD j 0 ≤ mostI (at_ p j)) ∧ Same w wx)
      case atStart => exact ⟨0, by omega, rfl, (fun j hj => by omega), HS1.out⟩
      case round =>
        obtain ⟨k, hk, rfl, hall, hs⟩ := hrel
        have HALL := Lib.hid hall
        have HS := Lib.hid hs
        clear hall hs
        cases gk with
        | zero =>
          obtain rfl : k = nT := by omega
          have hge : ¬ (k : Int) < (k : Int) := by omega
          go_wp2_with fail
          go_ret
          refine ⟨ret_bool ?_, HS.out⟩
          unfold rightF
          rw [HOK2.out, HPL.out, turns_iff.2 (fun j hj => HALL.out j (by have := HN.out; omega))]
          rfl
        | succ GK =>
          have hlt : (k : Int) < nT := by omega
          have hx : f.tn[k]? = some (f.tn.getD k 0) := by
            rw [List.getD_eq_getElem?_getD, List.getElem?_eq_getElem (by have := HN.out; omega)]; rfl
          obtain ⟨b, o, hA, cx⟩ := (HT.out.same HS.out) k (.int .i64 (f.tn.getD k 0)) (by rw [List.getElem?_map, hx]; rfl)
          subst hA
          clear hx
          obtain ⟨hok, b2, o2, hA2, z0, z1, z2, z3, z4⟩ := (HP.out.same HS.out).at_ (k := k) (by have := HL.out; omega)
          subst hA2
          have MA := Lib.hid (fun w' => most_any (at_ p k) w')
          have HXI := Lib.hid (show ∀ x, x = at_ p k → mostI x = mostI (at_ p k) from fun x h => by rw [h])
          have HNO := Lib.hid (fun h => turns_no (p := p) (tn := f.tn) (k := k) (by have := HN.out; omega) h)
          obtain ⟨x, hxe⟩ : ∃ x, x = at_ p k := ⟨_, rfl⟩
          rw [← hxe] at z0 z1 z2 z3 z4 MA HNO
          generalize hv : f.tn.getD k 0 = v at *
          have HV := Lib.hid hv
          have HXE := Lib.hid hxe
          clear hv hxe hok
          by_cases hv0 : v < 0
          · have HNO2 := Lib.hid (HNO.out (.inl hv0))
            go_wp2_with fail
            go_ret
            exact ⟨ret_bool (by unfold rightF; rw [HNO2.out]; simp), HS.out⟩
          · have hv0' : ¬ v < 0 := hv0
            go_wp2_with fail
            refine (MA.out _).mono ?_
            rintro e w3 ⟨rfl, s3⟩
            generalize hmx : mostI x = mx at *
            have HMX := Lib.hid hmx
            clear hmx
            by_cases hv1 : mx < v
            · have HNO2 := Lib.hid (HNO.out (.inr hv1))
              go_wp2_with fail
              go_ret
              exact ⟨ret_bool (by unfold rightF; rw [HNO2.out]; simp), HS.out.trans s3⟩
            · go_wp2_with fail
              go_roundg GK
              case measure => omega
              case rel =>
                refine ⟨k + 1, by omega, by go_num, ?_, HS.out.trans s3⟩
                intro j hj
                by_cases hjk : j = k
                · subst hjk
                  rw [HV.out, ← HXE.out, HMX.out]
                  omega
                · exact HALL.out j (by omega)
    · have HPL := Lib.hid (show placeB p f = false from decide_eq_false (fun h => hpl ⟨h.1, by have := HL.out; omega, by have := HN.out; have := HL.out; omega⟩))
      have HF := Lib.hid (show rightF (okB p) p f = false by unfold rightF; rw [HPL.out]; simp)
      clear HPL HOK2
      by_cases h1 : f.pc < 0
      · clear hpl
        go_wp2_with fail
        go_ret
        exact ⟨ret_bool HF.out.symm, HS1.out⟩
      · by_cases h2 : f.pc ≥ m
        · clear hpl
          go_wp2_with fail
          go_ret
          exact ⟨ret_bool HF.out.symm, HS1.out⟩
        · have h3 : ((nT : Int) != (m : Int)) = true := by simp; omega
          clear hpl
          go_wp2_with fail
          go_ret
          exact ⟨ret_bool HF.out.symm, HS1.out⟩
  · have hq2 : (q != 0) = true := by simpa using hq
    have HF := Lib.hid (show rightF (okB p) p f = false by unfold rightF; rw [HOK.out, decide_eq_false hq]; rfl)
    clear hq HOK
    go_wp2_with fail
    go_ret
    exact ⟨ret_bool HF.out.symm, HS1.out⟩
end Go.Proofs.YtiipdeionmndcaaDoor.Fr
