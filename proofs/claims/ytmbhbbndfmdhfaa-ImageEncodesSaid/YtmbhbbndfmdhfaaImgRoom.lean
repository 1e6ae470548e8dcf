/-
  Layer 33: whether all numbers have room, by the document.
-/
import Derived.Test.YtmbhbbndfmdhfaaImgPut
import Derived.Deep.CutBlock
set_option linter.unusedVariables false
set_option linter.unusedSimpArgs false
namespace Go.Proofs.Ytmbhbbndfmdhfaa.Im
open Go.ChangeShapes Go.WideShapes Go.ChangeAt Go.RowKit Ws Cd

theorem rsmall (x : Int) (w : World) : Calls Try.prog 69 #[.int .i64 x] w fun e w' => e = .returned (.bool (fit (x, 1))) ∧ w' = w := by
  have hf : fit (x, 1) = decide (0 ≤ x ∧ x < 256) := by
    unfold fit
    rw [decide_eq_decide]
    exact ⟨fun h => ⟨h.1, by have := h.2; simpa using this⟩, fun h => ⟨h.1, by have := h.2; simpa using this⟩⟩
  rw [hf]
  by_cases h0 : x ≥ 0
  · by_cases h1 : x < 256
    · rw [decide_eq_true (⟨h0, h1⟩ : 0 ≤ x ∧ x < 256)]
      clear hf
      go_enter Try.func69, Try.ntmps69
      go_wp2_with fail
      go_ret
      exact ⟨rfl, rfl⟩
    · rw [decide_eq_false (fun h : 0 ≤ x ∧ x < 256 => h1 h.2)]
      clear hf
      go_enter Try.func69, Try.ntmps69
      go_wp2_with fail
      go_ret
      exact ⟨rfl, rfl⟩
  · rw [decide_eq_false (fun h : 0 ≤ x ∧ x < 256 => h0 h.1)]
    clear hf
    go_enter Try.func69, Try.ntmps69
    go_wp2_with fail
    go_ret
    exact ⟨rfl, rfl⟩
theorem rlarge (x : Int) (w : World) : Calls Try.prog 70 #[.int .i64 x] w fun e w' => e = .returned (.bool (fit (x, 4))) ∧ w' = w := by
  have hf : fit (x, 4) = decide (0 ≤ x ∧ x < 4294967296) := by
    unfold fit
    rw [decide_eq_decide]
    exact ⟨fun h => ⟨h.1, by have := h.2; simpa using this⟩, fun h => ⟨h.1, by have := h.2; simpa using this⟩⟩
  rw [hf]
  by_cases h0 : x ≥ 0
  · by_cases h1 : x < 4294967296
    · rw [decide_eq_true (⟨h0, h1⟩ : 0 ≤ x ∧ x < 4294967296)]
      clear hf
      go_enter Try.func70, Try.ntmps70
      go_wp2_with fail
      go_ret
      exact ⟨rfl, rfl⟩
    · rw [decide_eq_false (fun h : 0 ≤ x ∧ x < 4294967296 => h1 h.2)]
      clear hf
      go_enter Try.func70, Try.ntmps70
      go_wp2_with fail
      go_ret
      exact ⟨rfl, rfl⟩
  · rw [decide_eq_false (fun h : 0 ≤ x ∧ x < 4294967296 => h0 h.1)]
    clear hf
    go_enter Try.func70, Try.ntmps70
    go_wp2_with fail
    go_ret
    exact ⟨rfl, rfl⟩
theorem roomT_take {l : List PT} {k : Nat} {x : PT} (h : l[k]? = some x) (b : Bool) : ((b && ((l.take k).flatMap itT).all fit) && (itT0 x).all fit && (x.code.flatMap itI).all fit) = (b && ((l.take (k + 1)).flatMap itT).all fit) := by
  have e : (l.take (k + 1)).flatMap itT = (l.take k).flatMap itT ++ itT x := by
    rw [List.take_add_one, h, List.flatMap_append]
    simp
  rw [e, List.all_append, show itT x = itT0 x ++ x.code.flatMap itI from rfl, List.all_append]
  simp only [Bool.and_assoc]
theorem roomI_take {l : List Ins} {k : Nat} {x : Ins} (h : l[k]? = some x) (hn : 0 ≤ x.n ∧ x.n < 4294967296) (b : Bool) : ((b && ((l.take k).flatMap itI).all fit) && [(x.op, 1), (x.a, 1), (x.b, 1), (x.c, 1)].all fit) = (b && ((l.take (k + 1)).flatMap itI).all fit) := by
  have e : (l.take (k + 1)).flatMap itI = (l.take k).flatMap itI ++ ([(x.op, 1), (x.a, 1), (x.b, 1), (x.c, 1)] ++ [(x.n, 4)]) := by
    rw [List.take_add_one, h, List.flatMap_append]
    simp [itI]
  have f : [(x.n, 4)].all fit = true := by
    simp only [List.all_cons, List.all_nil, Bool.and_true, fit, decide_eq_true_eq]
    exact ⟨hn.1, by simpa using hn.2⟩
  rw [e, List.all_append, List.all_append, f, Bool.and_true]
  simp only [Bool.and_assoc]
def itO1 (o : PO) : List Item := [(o.k, 1), (o.wd, 1), (o.sl, 1), (o.cp, 1), (o.ow, 1), (o.rd.length, 1), (o.ini.length, 1)]
theorem itO_all (o : PO) (hsa : 0 ≤ o.sa ∧ o.sa < 4294967296) (hini : ∀ y ∈ o.ini, 0 ≤ y ∧ y < 4294967296) : (itO o).all fit = ((itO1 o).all fit && (sm o.rd).all fit) := by
  have f : fit (o.sa, 4) = true := by
    simp only [fit, decide_eq_true_eq]
    exact ⟨hsa.1, by simpa using hsa.2⟩
  have g : (lg o.ini).all fit = true := by
    rw [List.all_eq_true]
    intro p hp
    obtain ⟨y, hy, rfl⟩ := List.mem_map.1 hp
    simp only [fit, decide_eq_true_eq]
    exact ⟨(hini y hy).1, by simpa using (hini y hy).2⟩
  unfold itO itO0 itO1
  simp only [List.all_append, List.all_cons, List.all_nil, Bool.and_true, f, g, Bool.true_and]
  generalize fit (o.k, 1) = a
  generalize fit (o.wd, 1) = b
  generalize fit (o.sl, 1) = c
  generalize fit (o.cp, 1) = d
  generalize fit (o.ow, 1) = e
  generalize fit ((o.rd.length : Int), 1) = h
  generalize fit ((o.ini.length : Int), 1) = i
  generalize (sm o.rd).all fit = j
  revert a b c d e h i j
  decide
theorem roomR_take {l : List Int} {k : Nat} {x : Int} (h : l[k]? = some x) (b : Bool) : ((b && (sm (l.take k)).all fit) && fit (x, 1)) = (b && (sm (l.take (k + 1))).all fit) := by
  have e : sm (l.take (k + 1)) = sm (l.take k) ++ [(x, 1)] := by
    unfold sm
    rw [List.take_add_one, h, List.map_append]
    rfl
  rw [e, List.all_append]
  simp [Bool.and_assoc]
theorem roomO_take {l : List PO} {k : Nat} {x : PO} (h : l[k]? = some x) (hsa : 0 ≤ x.sa ∧ x.sa < 4294967296) (hini : ∀ y ∈ x.ini, 0 ≤ y ∧ y < 4294967296) (b : Bool) : ((b && ((l.take k).flatMap itO).all fit) && (itO1 x).all fit && (sm x.rd).all fit) = (b && ((l.take (k + 1)).flatMap itO).all fit) := by
  have e : (l.take (k + 1)).flatMap itO = (l.take k).flatMap itO ++ itO x := by
    rw [List.take_add_one, h, List.flatMap_append]
    simp
  rw [e, List.all_append, itO_all x hsa hini]
  simp only [Bool.and_assoc]
set_option maxRecDepth 100000 in
set_option maxHeartbeats 4000000 in
theorem room_any (A B : Option Addr) (n c m d : Nat) (s : PS) (w : World) (hs : SysAt w A n B m s) (hnm : n ≤ maxLen ∧ m ≤ maxLen) :
    Calls Try.prog 45 #[.agg #[.slice A n c, .slice B m d]] w fun e w' => e = .returned (.bool (room s)) ∧ Same w w' := by
  obtain ⟨hnb, hmb⟩ := hnm
  unfold maxLen at hnb hmb
  obtain ⟨hn, hm, ht, ho⟩ := hs
  have HN := Lib.hid hn
  have HM := Lib.hid hm
  have HT := Lib.hid ht
  have HO := Lib.hid ho
  have HR := Lib.hid (show room s = ((fit ((n : Int), 1) && fit ((m : Int), 1)) && (s.ts.flatMap itT).all fit && (s.os.flatMap itO).all fit) by
    unfold room itS
    rw [hn, hm]
    simp only [List.all_cons, List.all_append, Bool.and_assoc])
  clear hn hm ht ho
  have hs1 := (Same.refl w).alloc (.cells #[.slice A n c, .slice B m d] 25)
  have HS1 := Lib.hid hs1
  have HB1 := Lib.hid (Blk.new w 25 #[.slice A n c, .slice B m d])
  clear hs1
  generalize hw1 : w.alloc (.cells #[.slice A n c, .slice B m d] 25) = w1 at *
  have HW1 := Lib.hid hw1
  clear hw1
  go_enter Try.func45, Try.ntmps45
  go_upto_region 1 with fail
  rw [HW1.out]
  obtain ⟨q0, q1⟩ : w1.cell? ⟨w.heap.size, 0, none⟩ = some (.slice A n c) ∧ w1.cell? ⟨w.heap.size, 1, none⟩ = some (.slice B m d) := ⟨HB1.out.cell 0, HB1.out.cell 1⟩
  go_cut [3] from 12 to 21 (fun v wx => v = .bool (fit ((n : Int), 1) && fit ((m : Int), 1)) ∧ wx = w1)
  case first =>
    go_wp2_with fail
    refine (rsmall (n : Int) _).mono ?_
    rintro e wq ⟨rfl, rfl⟩
    generalize fit ((n : Int), 1) = v0 at *
    cases v0 with
    | false =>
      go_wp2_with fail
      go_meet
      case rel => exact ⟨rfl, rfl⟩
    | true =>
      go_wp2_with fail
      refine (rsmall (m : Int) _).mono ?_
      rintro e wq ⟨rfl, rfl⟩
      generalize fit ((m : Int), 1) = v1 at *
      cases v1 with
      | false =>
        go_wp2_with fail
        go_meet
        case rel => exact ⟨rfl, rfl⟩
      | true =>
        go_wp2_with fail
        go_meet
        case rel => exact ⟨rfl, rfl⟩
  case rest =>
    obtain ⟨rfl, rfl⟩ := hcut
    generalize (fit ((n : Int), 1) && fit ((m : Int), 1)) = ok0 at *
    go_wp2_with fail
    clear q0 q1
    go_loopg [25, 3] n (fun gk iv ov wx => ∃ k : Nat, k + gk = n ∧ iv = .int .i64 k ∧ ov = .bool (ok0 && ((s.ts.take k).flatMap itT).all fit) ∧ Same wc wx)
    case atStart => exact ⟨0, by omega, rfl, by simp, Same.refl _⟩
    case round =>
      obtain ⟨k, hk, rfl, rfl, sx⟩ := hrel
      have HS := Lib.hid sx
      clear sx
      cases gk with
      | succ GK =>
        have hlt : (k : Int) < n := by omega
        have k0 : (0 : Int) ≤ k := by omega
        obtain ⟨x, hx⟩ : ∃ x, s.ts[k]? = some x := ⟨_, List.getElem?_eq_getElem (by have := HN.out; omega)⟩
        obtain ⟨b, o, rfl, X, cX, e0, e1, e2, e3, e4, e5, e6, hcode, hlen⟩ := (HT.out.same (HS1.out.trans HS.out)).at_ hx
        have HX := Lib.hid (roomT_take hx ok0)
        clear hx
        generalize (ok0 && ((s.ts.take k).flatMap itT).all fit) = OKV at *
        obtain ⟨kind, prio, per, off, dl, own, code⟩ := x
        simp only at e0 e1 e2 e3 e4 e5 e6 hcode hlen HX
        have hs5 := (Same.refl wr).alloc (.cells #[.int .i64 kind, .int .i64 prio, .int .i64 per, .int .i64 off, .int .i64 dl, .int .i64 own, .slice X code.length cX] 45)
        have HS5 := Lib.hid (HS.out.trans hs5)
        have HC5 := Lib.hid (hcode.same hs5)
        have HB5 := Lib.hid (Blk.new wr 45 #[.int .i64 kind, .int .i64 prio, .int .i64 per, .int .i64 off, .int .i64 dl, .int .i64 own, .slice X code.length cX])
        clear hs5 hcode
        go_upto_region 5 with fail
        clear e0 e1 e2 e3 e4 e5 e6
        obtain ⟨e0, e1, e2, e3, e4, e5, e6⟩ := tc HB5.out
        generalize hw5 : wr.alloc (.cells #[.int .i64 kind, .int .i64 prio, .int .i64 per, .int .i64 off, .int .i64 dl, .int .i64 own, .slice X code.length cX] 45) = w5 at *
        clear hw5
        generalize wr.heap.size = b5 at *
        go_cut [3] from 29 to 65 (fun v wx => v = .bool (OKV && (itT0 ⟨kind, prio, per, off, dl, own, code⟩).all fit) ∧ wx = w5)
        case first =>
          cases OKV with
          | false =>
            go_wp2_with fail
            go_meet
            case rel => exact ⟨rfl, rfl⟩
          | true =>
            go_wp2_with fail
            refine (rsmall kind _).mono ?_
            rintro e wq ⟨rfl, rfl⟩
            obtain ⟨v0, hv0⟩ : ∃ v, v = fit (kind, 1) := ⟨_, rfl⟩
            rw [← hv0]
            have HV0 := Lib.hid hv0
            clear hv0
            cases v0 with
            | false =>
              go_wp2_with fail
              go_meet
              case rel => exact ⟨by simp [itT0, ← HV0.out], rfl⟩
            | true =>
              go_wp2_with fail
              refine (rsmall prio _).mono ?_
              rintro e wq ⟨rfl, rfl⟩
              obtain ⟨v1, hv1⟩ : ∃ v, v = fit (prio, 1) := ⟨_, rfl⟩
              rw [← hv1]
              have HV1 := Lib.hid hv1
              clear hv1
              cases v1 with
              | false =>
                go_wp2_with fail
                go_meet
                case rel => exact ⟨by simp [itT0, ← HV0.out, ← HV1.out], rfl⟩
              | true =>
                go_wp2_with fail
                refine (rlarge per _).mono ?_
                rintro e wq ⟨rfl, rfl⟩
                obtain ⟨v2, hv2⟩ : ∃ v, v = fit (per, 4) := ⟨_, rfl⟩
                rw [← hv2]
                have HV2 := Lib.hid hv2
                clear hv2
                cases v2 with
                | false =>
                  go_wp2_with fail
                  go_meet
                  case rel => exact ⟨by simp [itT0, ← HV0.out, ← HV1.out, ← HV2.out], rfl⟩
                | true =>
                  go_wp2_with fail
                  refine (rlarge off _).mono ?_
                  rintro e wq ⟨rfl, rfl⟩
                  obtain ⟨v3, hv3⟩ : ∃ v, v = fit (off, 4) := ⟨_, rfl⟩
                  rw [← hv3]
                  have HV3 := Lib.hid hv3
                  clear hv3
                  cases v3 with
                  | false =>
                    go_wp2_with fail
                    go_meet
                    case rel => exact ⟨by simp [itT0, ← HV0.out, ← HV1.out, ← HV2.out, ← HV3.out], rfl⟩
                  | true =>
                    go_wp2_with fail
                    refine (rlarge dl _).mono ?_
                    rintro e wq ⟨rfl, rfl⟩
                    obtain ⟨v4, hv4⟩ : ∃ v, v = fit (dl, 4) := ⟨_, rfl⟩
                    rw [← hv4]
                    have HV4 := Lib.hid hv4
                    clear hv4
                    cases v4 with
                    | false =>
                      go_wp2_with fail
                      go_meet
                      case rel => exact ⟨by simp [itT0, ← HV0.out, ← HV1.out, ← HV2.out, ← HV3.out, ← HV4.out], rfl⟩
                    | true =>
                      go_wp2_with fail
                      refine (rsmall own _).mono ?_
                      rintro e wq ⟨rfl, rfl⟩
                      obtain ⟨v5, hv5⟩ : ∃ v, v = fit (own, 1) := ⟨_, rfl⟩
                      rw [← hv5]
                      have HV5 := Lib.hid hv5
                      clear hv5
                      cases v5 with
                      | false =>
                        go_wp2_with fail
                        go_meet
                        case rel => exact ⟨by simp [itT0, ← HV0.out, ← HV1.out, ← HV2.out, ← HV3.out, ← HV4.out, ← HV5.out], rfl⟩
                      | true =>
                        go_wp2_with fail
                        refine (rsmall (code.length : Int) _).mono ?_
                        rintro e wq ⟨rfl, rfl⟩
                        obtain ⟨v6, hv6⟩ : ∃ v, v = fit ((code.length : Int), 1) := ⟨_, rfl⟩
                        rw [← hv6]
                        have HV6 := Lib.hid hv6
                        clear hv6
                        cases v6 with
                        | false =>
                          go_wp2_with fail
                          go_meet
                          case rel => exact ⟨by simp [itT0, ← HV0.out, ← HV1.out, ← HV2.out, ← HV3.out, ← HV4.out, ← HV5.out, ← HV6.out], rfl⟩
                        | true =>
                          go_wp2_with fail
                          go_meet
                          case rel => exact ⟨by simp [itT0, ← HV0.out, ← HV1.out, ← HV2.out, ← HV3.out, ← HV4.out, ← HV5.out, ← HV6.out], rfl⟩
        case rest =>
          obtain ⟨rfl, rfl⟩ := hcut
          generalize (OKV && (itT0 ⟨kind, prio, per, off, dl, own, code⟩).all fit) = OKT at *
          go_wp2_with fail
          clear e0 e1 e2 e3 e4 e5 e6
          generalize hml : code.length = ml at *
          have HML := Lib.hid hml
          clear hml
          unfold maxLen at hlen
          go_loopg [69, 3] ml (fun gk iv ov wx => ∃ j : Nat, j + gk = ml ∧ iv = .int .i64 j ∧ ov = .bool (OKT && ((code.take j).flatMap itI).all fit) ∧ Same wc wx)
          case atStart => exact ⟨0, by omega, rfl, by simp, Same.refl _⟩
          case round =>
            obtain ⟨j, hj, rfl, rfl, sx⟩ := hrel
            have HSj := Lib.hid sx
            clear sx
            cases gk with
            | succ GJ =>
              have hltj : (j : Int) < ml := by omega
              have j0 : (0 : Int) ≤ j := by omega
              obtain ⟨y, hy⟩ : ∃ y, code[j]? = some y := ⟨_, List.getElem?_eq_getElem (by have := HML.out; omega)⟩
              obtain ⟨hyn, b', o', rfl, f0, f1, f2, f3, f4⟩ := (HC5.out.same HSj.out).at_ hy
              have HY := Lib.hid (roomI_take hy hyn OKT)
              clear hy
              generalize (OKT && ((code.take j).flatMap itI).all fit) = OKV at *
              obtain ⟨op, a, b_, c_, nn⟩ := y
              simp only at f0 f1 f2 f3 f4 HY hyn
              have hs6 := (Same.refl wr).alloc (.cells #[.int .i64 op, .int .i64 a, .int .i64 b_, .int .i64 c_, .int .u32 nn] 88)
              have HS6 := Lib.hid (HSj.out.trans hs6)
              have HB6 := Lib.hid (Blk.new wr 88 #[.int .i64 op, .int .i64 a, .int .i64 b_, .int .i64 c_, .int .u32 nn])
              clear hs6
              go_upto_region 9 with fail
              clear f0 f1 f2 f3 f4
              obtain ⟨f0, f1, f2, f3, f4⟩ := ic HB6.out
              generalize hw6 : wr.alloc (.cells #[.int .i64 op, .int .i64 a, .int .i64 b_, .int .i64 c_, .int .u32 nn] 88) = w6 at *
              clear hw6
              generalize wr.heap.size = b6 at *
              cases OKV with
              | false =>
                go_wp2_with fail
                go_roundg GJ
                case measure => omega
                case rel => exact ⟨j + 1, by omega, by go_num, by rw [← HY.out]; simp, HS6.out⟩
              | true =>
                go_wp2_with fail
                refine (rsmall op _).mono ?_
                rintro e wq ⟨rfl, rfl⟩
                obtain ⟨v0, hv0⟩ : ∃ v, v = fit (op, 1) := ⟨_, rfl⟩
                rw [← hv0]
                have HV0 := Lib.hid hv0
                clear hv0
                cases v0 with
                | false =>
                  go_wp2_with fail
                  go_roundg GJ
                  case measure => omega
                  case rel => exact ⟨j + 1, by omega, by go_num, by rw [← HY.out]; simp [← HV0.out], HS6.out⟩
                | true =>
                  go_wp2_with fail
                  refine (rsmall a _).mono ?_
                  rintro e wq ⟨rfl, rfl⟩
                  obtain ⟨v1, hv1⟩ : ∃ v, v = fit (a, 1) := ⟨_, rfl⟩
                  rw [← hv1]
                  have HV1 := Lib.hid hv1
                  clear hv1
                  cases v1 with
                  | false =>
                    go_wp2_with fail
                    go_roundg GJ
                    case measure => omega
                    case rel => exact ⟨j + 1, by omega, by go_num, by rw [← HY.out]; simp [← HV0.out, ← HV1.out], HS6.out⟩
                  | true =>
                    go_wp2_with fail
                    refine (rsmall b_ _).mono ?_
                    rintro e wq ⟨rfl, rfl⟩
                    obtain ⟨v2, hv2⟩ : ∃ v, v = fit (b_, 1) := ⟨_, rfl⟩
                    rw [← hv2]
                    have HV2 := Lib.hid hv2
                    clear hv2
                    cases v2 with
                    | false =>
                      go_wp2_with fail
                      go_roundg GJ
                      case measure => omega
                      case rel => exact ⟨j + 1, by omega, by go_num, by rw [← HY.out]; simp [← HV0.out, ← HV1.out, ← HV2.out], HS6.out⟩
                    | true =>
                      go_wp2_with fail
                      refine (rsmall c_ _).mono ?_
                      rintro e wq ⟨rfl, rfl⟩
                      obtain ⟨v3, hv3⟩ : ∃ v, v = fit (c_, 1) := ⟨_, rfl⟩
                      rw [← hv3]
                      have HV3 := Lib.hid hv3
                      clear hv3
                      cases v3 with
                      | false =>
                        go_wp2_with fail
                        go_roundg GJ
                        case measure => omega
                        case rel => exact ⟨j + 1, by omega, by go_num, by rw [← HY.out]; simp [← HV0.out, ← HV1.out, ← HV2.out, ← HV3.out], HS6.out⟩
                      | true =>
                        go_wp2_with fail
                        go_roundg GJ
                        case measure => omega
                        case rel => exact ⟨j + 1, by omega, by go_num, by rw [← HY.out]; simp [← HV0.out, ← HV1.out, ← HV2.out, ← HV3.out], HS6.out⟩
            | zero =>
              obtain rfl : j = ml := by omega
              have hgej : ¬ (j : Int) < (j : Int) := by omega
              have HT2 := Lib.hid (show code.take j = code from List.take_of_length_le (by rw [HML.out]; omega))
              rw [HT2.out]
              have HX2 := Lib.hid (show (OKT && (code.flatMap itI).all fit) = (ok0 && ((s.ts.take (k + 1)).flatMap itT).all fit) from HX.out)
              generalize (OKT && (code.flatMap itI).all fit) = OKF at *
              go_wp2_with fail
              go_roundg GK
              case measure => omega
              case rel => exact ⟨k + 1, by omega, by go_num, by rw [HX2.out], HS5.out.trans HSj.out⟩
      | zero =>
        obtain rfl : k = n := by omega
        have hge : ¬ (k : Int) < (k : Int) := by omega
        rw [List.take_of_length_le (by rw [HN.out]; omega)]
        generalize (ok0 && (s.ts.flatMap itT).all fit) = ok1 at *
        have hb := HB1.out.same HS.out
        obtain ⟨q0, q1⟩ := (⟨hb.cell 0, hb.cell 1⟩ : _ ∧ _)
        simp only [List.getElem?_toArray, List.getElem?_cons_zero, List.getElem?_cons_succ] at q0 q1
        clear hb
        have HSA := Lib.hid (HS1.out.trans HS.out)
        clear HS HB1 HS1
        go_wp2_with fail
        clear q0 q1
        go_loopg [99, 3] m (fun gk iv ov wx => ∃ k2 : Nat, k2 + gk = m ∧ iv = .int .i64 k2 ∧ ov = .bool (ok1 && ((s.os.take k2).flatMap itO).all fit) ∧ Same w wx)
        case atStart => exact ⟨0, by omega, rfl, by simp, HSA.out⟩
        case round =>
          obtain ⟨k2, hk2, rfl, rfl, sx⟩ := hrel
          have HS := Lib.hid sx
          clear sx HSA
          cases gk with
          | succ GK =>
            have hlt : (k2 : Int) < m := by omega
            have k0 : (0 : Int) ≤ k2 := by omega
            obtain ⟨x, hx⟩ : ∃ x, s.os[k2]? = some x := ⟨_, List.getElem?_eq_getElem (by have := HM.out; omega)⟩
            obtain ⟨b, o, rfl, X, cX, Y, cY, e0, e1, e2, e3, e4, e5, e6, e7, hsa, hini, hwd, hrd, hl1, hl2⟩ := (HO.out.same HS.out).at_ hx
            have HX := Lib.hid (roomO_take hx hsa hwd ok1)
            clear hx hini hwd
            generalize (ok1 && ((s.os.take k2).flatMap itO).all fit) = OKV at *
            obtain ⟨k_, wd, sl, cp, sa, ow, rd, ini⟩ := x
            simp only at e0 e1 e2 e3 e4 e5 e6 e7 hsa hrd hl1 hl2 HX
            have hs5 := (Same.refl wr).alloc (.cells #[.int .i64 k_, .int .i64 wd, .int .i64 sl, .int .i64 cp, .int .u32 sa, .slice X ini.length cX, .int .i64 ow, .slice Y rd.length cY] 61)
            have HS5 := Lib.hid (HS.out.trans hs5)
            have HC5 := Lib.hid (hrd.same hs5)
            have HB5 := Lib.hid (Blk.new wr 61 #[.int .i64 k_, .int .i64 wd, .int .i64 sl, .int .i64 cp, .int .u32 sa, .slice X ini.length cX, .int .i64 ow, .slice Y rd.length cY])
            clear hs5 hrd
            go_upto_region 15 with fail
            clear e0 e1 e2 e3 e4 e5 e6 e7
            obtain ⟨e0, e1, e2, e3, e4, e5, e6, e7⟩ := oc HB5.out
            generalize hw5 : wr.alloc (.cells #[.int .i64 k_, .int .i64 wd, .int .i64 sl, .int .i64 cp, .int .u32 sa, .slice X ini.length cX, .int .i64 ow, .slice Y rd.length cY] 61) = w5 at *
            clear hw5
            generalize wr.heap.size = b5 at *
            go_cut [3] from 103 to 140 (fun v wx => v = .bool (OKV && (itO1 ⟨k_, wd, sl, cp, sa, ow, rd, ini⟩).all fit) ∧ wx = w5)
            case first =>
              cases OKV with
              | false =>
                go_wp2_with fail
                go_meet
                case rel => exact ⟨rfl, rfl⟩
              | true =>
                go_wp2_with fail
                refine (rsmall k_ _).mono ?_
                rintro e wq ⟨rfl, rfl⟩
                obtain ⟨v0, hv0⟩ : ∃ v, v = fit (k_, 1) := ⟨_, rfl⟩
                rw [← hv0]
                have HV0 := Lib.hid hv0
                clear hv0
                cases v0 with
                | false =>
                  go_wp2_with fail
                  go_meet
                  case rel => exact ⟨by simp [itO1, ← HV0.out], rfl⟩
                | true =>
                  go_wp2_with fail
                  refine (rsmall wd _).mono ?_
                  rintro e wq ⟨rfl, rfl⟩
                  obtain ⟨v1, hv1⟩ : ∃ v, v = fit (wd, 1) := ⟨_, rfl⟩
                  rw [← hv1]
                  have HV1 := Lib.hid hv1
                  clear hv1
                  cases v1 with
                  | false =>
                    go_wp2_with fail
                    go_meet
                    case rel => exact ⟨by simp [itO1, ← HV0.out, ← HV1.out], rfl⟩
                  | true =>
                    go_wp2_with fail
                    refine (rsmall sl _).mono ?_
                    rintro e wq ⟨rfl, rfl⟩
                    obtain ⟨v2, hv2⟩ : ∃ v, v = fit (sl, 1) := ⟨_, rfl⟩
                    rw [← hv2]
                    have HV2 := Lib.hid hv2
                    clear hv2
                    cases v2 with
                    | false =>
                      go_wp2_with fail
                      go_meet
                      case rel => exact ⟨by simp [itO1, ← HV0.out, ← HV1.out, ← HV2.out], rfl⟩
                    | true =>
                      go_wp2_with fail
                      refine (rsmall cp _).mono ?_
                      rintro e wq ⟨rfl, rfl⟩
                      obtain ⟨v3, hv3⟩ : ∃ v, v = fit (cp, 1) := ⟨_, rfl⟩
                      rw [← hv3]
                      have HV3 := Lib.hid hv3
                      clear hv3
                      cases v3 with
                      | false =>
                        go_wp2_with fail
                        go_meet
                        case rel => exact ⟨by simp [itO1, ← HV0.out, ← HV1.out, ← HV2.out, ← HV3.out], rfl⟩
                      | true =>
                        go_wp2_with fail
                        refine (rsmall ow _).mono ?_
                        rintro e wq ⟨rfl, rfl⟩
                        obtain ⟨v4, hv4⟩ : ∃ v, v = fit (ow, 1) := ⟨_, rfl⟩
                        rw [← hv4]
                        have HV4 := Lib.hid hv4
                        clear hv4
                        cases v4 with
                        | false =>
                          go_wp2_with fail
                          go_meet
                          case rel => exact ⟨by simp [itO1, ← HV0.out, ← HV1.out, ← HV2.out, ← HV3.out, ← HV4.out], rfl⟩
                        | true =>
                          go_wp2_with fail
                          refine (rsmall (rd.length : Int) _).mono ?_
                          rintro e wq ⟨rfl, rfl⟩
                          obtain ⟨v5, hv5⟩ : ∃ v, v = fit ((rd.length : Int), 1) := ⟨_, rfl⟩
                          rw [← hv5]
                          have HV5 := Lib.hid hv5
                          clear hv5
                          cases v5 with
                          | false =>
                            go_wp2_with fail
                            go_meet
                            case rel => exact ⟨by simp [itO1, ← HV0.out, ← HV1.out, ← HV2.out, ← HV3.out, ← HV4.out, ← HV5.out], rfl⟩
                          | true =>
                            go_wp2_with fail
                            refine (rsmall (ini.length : Int) _).mono ?_
                            rintro e wq ⟨rfl, rfl⟩
                            obtain ⟨v6, hv6⟩ : ∃ v, v = fit ((ini.length : Int), 1) := ⟨_, rfl⟩
                            rw [← hv6]
                            have HV6 := Lib.hid hv6
                            clear hv6
                            cases v6 with
                            | false =>
                              go_wp2_with fail
                              go_meet
                              case rel => exact ⟨by simp [itO1, ← HV0.out, ← HV1.out, ← HV2.out, ← HV3.out, ← HV4.out, ← HV5.out, ← HV6.out], rfl⟩
                            | true =>
                              go_wp2_with fail
                              go_meet
                              case rel => exact ⟨by simp [itO1, ← HV0.out, ← HV1.out, ← HV2.out, ← HV3.out, ← HV4.out, ← HV5.out, ← HV6.out], rfl⟩
            case rest =>
              obtain ⟨rfl, rfl⟩ := hcut
              generalize (OKV && (itO1 ⟨k_, wd, sl, cp, sa, ow, rd, ini⟩).all fit) = OKT at *
              go_wp2_with fail
              clear e0 e1 e2 e3 e4 e5 e6 e7
              generalize hml : rd.length = ml at *
              have HML := Lib.hid hml
              clear hml
              unfold maxLen at hl2
              go_loopg [144, 3] ml (fun gk iv ov wx => ∃ j : Nat, j + gk = ml ∧ iv = .int .i64 j ∧ ov = .bool (OKT && (sm (rd.take j)).all fit) ∧ Same wc wx)
              case atStart => exact ⟨0, by omega, rfl, by simp [sm], Same.refl _⟩
              case round =>
                obtain ⟨j, hj, rfl, rfl, sx⟩ := hrel
                have HSj := Lib.hid sx
                clear sx
                cases gk with
                | succ GJ =>
                  have hltj : (j : Int) < ml := by omega
                  have j0 : (0 : Int) ≤ j := by omega
                  obtain ⟨y, hy⟩ : ∃ y, rd[j]? = some y := ⟨_, List.getElem?_eq_getElem (by have := HML.out; omega)⟩
                  obtain ⟨b', o', rfl, f0⟩ := (HC5.out.same HSj.out) j (.int .i64 y) (by rw [List.getElem?_map, hy]; rfl)
                  have HY := Lib.hid (roomR_take hy OKT)
                  clear hy
                  generalize (OKT && (sm (rd.take j)).all fit) = OKV at *
                  cases OKV with
                  | false =>
                    go_wp2_with fail
                    go_roundg GJ
                    case measure => omega
                    case rel => exact ⟨j + 1, by omega, by go_num, by rw [← HY.out]; simp, HSj.out⟩
                  | true =>
                    go_wp2_with fail
                    refine (rsmall y _).mono ?_
                    rintro e wq ⟨rfl, rfl⟩
                    obtain ⟨v0, hv0⟩ : ∃ v, v = fit (y, 1) := ⟨_, rfl⟩
                    rw [← hv0]
                    have HV0 := Lib.hid hv0
                    clear hv0
                    cases v0 with
                    | false =>
                      go_wp2_with fail
                      go_roundg GJ
                      case measure => omega
                      case rel => exact ⟨j + 1, by omega, by go_num, by rw [← HY.out]; simp [← HV0.out], HSj.out⟩
                    | true =>
                      go_wp2_with fail
                      go_roundg GJ
                      case measure => omega
                      case rel => exact ⟨j + 1, by omega, by go_num, by rw [← HY.out]; simp [← HV0.out], HSj.out⟩
                | zero =>
                  obtain rfl : j = ml := by omega
                  have hgej : ¬ (j : Int) < (j : Int) := by omega
                  have HT2 := Lib.hid (show rd.take j = rd from List.take_of_length_le (by rw [HML.out]; omega))
                  rw [HT2.out]
                  have HX2 := Lib.hid (show (OKT && (sm rd).all fit) = (ok1 && ((s.os.take (k2 + 1)).flatMap itO).all fit) from HX.out)
                  generalize (OKT && (sm rd).all fit) = OKF at *
                  go_wp2_with fail
                  go_roundg GK
                  case measure => omega
                  case rel => exact ⟨k2 + 1, by omega, by go_num, by rw [HX2.out], HS5.out.trans HSj.out⟩
          | zero =>
            obtain rfl : k2 = m := by omega
            have hge2 : ¬ (k2 : Int) < (k2 : Int) := by omega
            rw [List.take_of_length_le (by rw [HM.out]; omega)]
            rw [← HR.out]
            go_wp2_with fail
            go_ret
            exact ⟨rfl, HS.out⟩
end Go.Proofs.Ytmbhbbndfmdhfaa.Im
