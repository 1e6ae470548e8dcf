/-

  The words of a system, by the document (coxswainref31.Lay).
-/
import Derived.Test.YtaclphhbdfoaeaaLayWords
import Derived.Test.YtaclphhbdfoaeaaAppZero
set_option linter.unusedVariables false
set_option linter.unusedSimpArgs false
namespace Go.Proofs.Ytaclphhbdfoaeaa.Ly
open Go.ChangeShapes Go.WideShapes Go.ChangeAt Go.RowKit Ws

theorem u32_zero : (Try.prog.info? 44).map (fun i => (i.zero, i.size, i.bytes)) = some (some (.int .u32 0), 1, 4) := by kernel_rfl
/-- a system's words, as far as the first j objects -/
def zws (ts : List Tk.Task) (os : List Objt) (ins : List (List Int)) (j : Nat) : List Int := List.replicate (tT ts) 0 ++ wsL os ins j
theorem zws_next (ts : List Tk.Task) (os : List Objt) (ins : List (List Int)) (j : Nat) : zws ts os ins (j + 1) = zws ts os ins j ++ wd1 (oat os j) (inat ins j) := by
  unfold zws
  rw [List.append_assoc]
  rfl
theorem zws_len (ts : List Tk.Task) (os : List Objt) (ins : List (List Int)) (j : Nat) : (zws ts os ins j).length = tT ts + (wsL os ins j).length := by
  unfold zws
  rw [List.length_append, List.length_replicate]
def RLP (w : World) (ws : List Int) (e : Ending) (w' : World) : Prop := ∃ A' N c', N = ws.length ∧ e = .returned (.slice A' N c') ∧ Row w' A' (ws.map (Value.int .u32)) ∧ Same w w'
theorem rlp_mk {w w' : World} {ws : List Int} {A' : Option Addr} {N c' : Nat} (h1 : N = ws.length) (h2 : Row w' A' (ws.map (Value.int .u32))) (h3 : Same w w') : RLP w ws (.returned (.slice A' N c')) w' := ⟨A', N, c', h1, rfl, h2, h3⟩
theorem zer_add (a b : Nat) : (List.replicate a (Value.int .u32 0)) ++ List.replicate b (Value.int .u32 0) = List.replicate (a + b) (Value.int .u32 0) := List.replicate_append_replicate
set_option maxRecDepth 100000 in
set_option maxHeartbeats 4000000 in
theorem rllay_any (A B : Option Addr) (n c m d : Nat) (ts : List Tk.Task) (os : List Objt) (ins : List (List Int)) (L : List Int) (w : World) (hn : ts.length = n) (hm : os.length = m) (hn6 : n ≤ 60) (hm6 : m ≤ 60) (ht : Tk.Tasks w A ts) (ho : Objs w B os) (hin : Inis w os ins) (hL : lensF ts os = some L) (hsum : sumL L ≤ 4096) :
    Calls Try.prog 12 #[.agg #[.slice A n c, .slice B m d]] w (RLP w (zws ts os ins m)) := by
  obtain ⟨i0, hi, hz0, hz1, hz2⟩ := info_parts u32_zero
  have LFL := Lib.hid (lay_facts ins hL (by omega))
  have HS1 := Lib.hid ((Same.refl w).alloc (.cells #[.slice A n c, .slice B m d] 25))
  have HB0 := Lib.hid (Blk.new w 25 #[.slice A n c, .slice B m d])
  have a0 := HB0.out.cell 0
  simp only [List.getElem?_toArray, List.getElem?_cons_zero, List.getElem?_cons_succ] at a0
  have HN := Lib.hid hn
  have HM := Lib.hid hm
  have HT := Lib.hid ht
  have HO := Lib.hid ho
  have HI := Lib.hid hin
  have HSUM := Lib.hid hsum
  have hbd := LFL.out.le 0 (by omega)
  have HTT := Lib.hid (show tT ts ≤ 4096 by omega)
  have hw1 : w.heap.size + 1 ≤ (w.alloc (.cells #[.slice A n c, .slice B m d] 25)).heap.size := by rw [World.size_alloc]; exact Nat.le_refl _
  have HW1 := Lib.hid hw1
  clear hn hm ht ho hin hL hsum hbd hw1
  go_enter Try.func12, Try.ntmps12
  go_wp2_with fail
  clear a0
  go_loopg [11, 3] n (fun gk iv lv wx => ∃ (i : Nat) (A' : Option Addr) (q c' : Nat), i + gk = n ∧ iv = .int .i64 i ∧ lv = .slice A' q c' ∧ (q : Int) = sumL ((tL ts).take i) ∧ Own wx (w.heap.size + 1) 44 A' c' (List.replicate q (.int .u32 0)) ∧ Same (w.alloc (.cells #[.slice A n c, .slice B m d] 25)) wx)
  case atStart => exact ⟨0, none, 0, 0, by omega, rfl, rfl, rfl, own_nil _ _ _, Same.refl _⟩
  case round =>
    obtain ⟨i, A', q0, c', hik, rfl, rfl, hq, hown, hs⟩ := hrel
    have HOW := Lib.hid hown
    have HSX := Lib.hid hs
    have HQ := Lib.hid hq
    have HS := Lib.hid (HS1.out.trans hs)
    have hszx := hs.size
    have HSZ := Lib.hid (Nat.le_trans HW1.out hszx)
    clear hown hs hq hszx
    cases gk with
    | zero =>
      obtain rfl : n = i := by omega
      have hge : ¬ (n : Int) < (n : Int) := by omega
      have hqt : q0 = tT ts := by
        have h1 := HQ.out
        rw [List.take_of_length_le (by have := HN.out; simp [tL]; omega)] at h1
        have := LFL.out.tas
        omega
      subst hqt
      have hrow : (List.replicate (tT ts) (Value.int .u32 0)) = (zws ts os ins 0).map (Value.int .u32) := by simp [zws, wsL]
      have ho0 := HOW.out
      rw [hrow] at ho0
      have HO0 := Lib.hid ho0
      clear ho0 hrow
      have a1 : wr.cell? ⟨w.heap.size, 1, none⟩ = some (.slice B m d) := HSX.out.cell (HB0.out.cell 1)
      go_wp2_with fail
      clear a1
      go_loopg [23, 3] m (fun gj jv lv wy => ∃ (j : Nat) (A2 : Option Addr) (n2 c2 : Nat), j + gj = m ∧ jv = .int .i64 j ∧ lv = .slice A2 n2 c2 ∧ n2 = (zws ts os ins j).length ∧ Own wy (w.heap.size + 1) 44 A2 c2 ((zws ts os ins j).map (Value.int .u32)) ∧ w.heap.size + 1 ≤ wy.heap.size ∧ Same w wy)
      case atStart => exact ⟨0, A', tT ts, c', by omega, rfl, rfl, by simp [zws, wsL], HO0.out, HSZ.out, HS.out⟩
      case round =>
        obtain ⟨j, A2, n2, c2, hj, rfl, rfl, hn2, hown, hsz, hs⟩ := hrel
        have HOW2 := Lib.hid hown
        have HN2 := Lib.hid hn2
        have HSZ2 := Lib.hid hsz
        have HS2 := Lib.hid hs
        clear hown hn2 hsz hs HO0 HOW
        cases gk with
        | zero =>
          obtain rfl : m = j := by omega
          have hge2 : ¬ (m : Int) < (m : Int) := by omega
          go_wp2
          go_ret
          exact rlp_mk HN2.out HOW2.out.row HS2.out
        | succ GJ =>
          have hlt2 : (j : Int) < m := by omega
          have j0 : (0 : Int) ≤ j := by omega
          have hjl : j < os.length := by have := HM.out; omega
          have FA := Lib.hid (LFL.out.at_ hjl)
          obtain ⟨hsa, b, o, hB, d0, d1, d2, d3, d4, d5, d6, d7⟩ := (HO.out.same HS2.out).at_ hjl
          have HIK := Lib.hid ((HI.out.same HS2.out) j hjl)
          have HSP := Lib.hid (LFL.out.shp j hjl)
          have hws := zws_next ts os ins j
          have HWS := Lib.hid hws
          clear hws
          generalize hy : wd1 (oat os j) (inat ins j) = ys at *
          have HY := Lib.hid hy
          clear hy
          have HSPU := Lib.hid (show Fc.rightF (oat os j).k (oat os j).wd (oat os j).sl (oat os j).cp (oat os j).sa (oat os j).il (oat os j).rl = true from HSP.out)
          have HYU := Lib.hid (show Fc.layF (oat os j).k (oat os j).wd.toNat (oat os j).sl.toNat (oat os j).rl (oat os j).sa (inat ins j) = ys from HY.out)
          clear HSP HY
          generalize siz (oat os j) = z at *
          generalize inat ins j = init at *
          generalize oat os j = x at *
          obtain ⟨k_, wd, sl, cp, sa, ia, il, ic, ow, ra, rl, rc⟩ := x
          simp only at hsa d0 d1 d2 d3 d4 d5 d6 d7 HSPU HYU HIK
          subst hB
          have hs2 := (Same.refl wr).alloc (.cells #[.int .i64 k_, .int .i64 wd, .int .i64 sl, .int .i64 cp, .int .u32 sa, .slice ia il ic, .int .i64 ow, .slice ra rl rc] 47)
          have hb2 := Blk.new wr 47 #[.int .i64 k_, .int .i64 wd, .int .i64 sl, .int .i64 cp, .int .u32 sa, .slice ia il ic, .int .i64 ow, .slice ra rl rc]
          have LAY := Lib.hid (fun w' (s : Same wr w') => Fc.rlay_any k_ wd sl cp sa ow ia ra il ic rl rc init w' HSPU.out (HIK.out.1.same s) HIK.out.2 hsa)
          rw [HYU.out] at LAY
          unfold Fc.LayP at LAY
          obtain ⟨z0, z1, z2, z3, z4, z5, z6, z7⟩ := (⟨hb2.cell 0, hb2.cell 1, hb2.cell 2, hb2.cell 3, hb2.cell 4, hb2.cell 5, hb2.cell 6, hb2.cell 7⟩ : _ ∧ _ ∧ _ ∧ _ ∧ _ ∧ _ ∧ _ ∧ _)
          simp only [List.getElem?_toArray, List.getElem?_cons_zero, List.getElem?_cons_succ] at z0 z1 z2 z3 z4 z5 z6 z7
          have HSA := Lib.hid hs2
          clear hs2 hb2
          go_wp2_with fail
          refine (LAY.out _ HSA.out).mono ?_
          rintro e w4 ⟨gC, _, rfl, rfl, s4, r4⟩
          have HS4 := Lib.hid (HSA.out.trans s4)
          have R4 := Lib.hid r4
          have HO4 := Lib.hid (HOW2.out.chg (HSA.out.trans s4) (fun _ _ f => f))
          have hsz4 := HS4.out.size
          have hle : n2 + ys.length ≤ 4096 := by
            have h1 := FA.out.2.2.2
            have h2 := HN2.out
            have h3 := HSUM.out
            rw [zws_len] at h2
            omega
          have HLE := Lib.hid hle
          clear s4 r4 z0 z1 z2 z3 z4 z5 z6 z7 d0 d1 d2 d3 d4 d5 d6 d7 hle
          go_wp2_with (at_builtin; go_loud (refine wpList_app rfl (.tmp 27) (.tmp 29) 39 rfl (w.heap.size + 1) 44 i0 _ 4 Try.underlying39 hi hz0 hz1 hz2 rfl A2 n2 c2 ((zws ts os ins j).map (Value.int .u32)) rfl (by rw [List.length_map]; exact HN2.out.symm) HO4.out (some ⟨gC, 0, none⟩) ys.length ys.length (ys.map (Value.int .u32)) rfl (by rw [List.length_map]) R4.out (by intro u hu; obtain ⟨y, _, rfl⟩ := List.mem_map.1 hu; rfl) (by rw [List.length_map, List.length_map, ← HN2.out]; have := HLE.out; omega) (by omega) (by have := HSZ2.out; omega) ?_))
          intro A8 c8 w8 ho8 hc8 _
          have hS8 := HS2.out.trans HS4.out
          have HS8 := Lib.hid (hS8.more hc8 (fun g hg => by have := own_fence HO4.out g hg; omega))
          rw [← List.map_append, ← HWS.out] at ho8
          have HO8 := Lib.hid ho8
          have hsz8 := hc8.size
          have HC8 := Lib.hid (show w.heap.size + 1 ≤ w8.heap.size by have := HSZ2.out; omega)
          clear ho8 hc8 hS8 hsz8
          go_wp2_with fail
          go_roundg GJ
          case rel =>
            refine ⟨j + 1, A8, n2 + ys.length, c8, by omega, by go_num, rfl, ?_, HO8.out, HC8.out, HS8.out⟩
            rw [HWS.out, List.length_append, ← HN2.out]
          case measure => omega
    | succ GK =>
      have hlt : (i : Int) < n := by omega
      have i0' : (0 : Int) ≤ i := by omega
      have hil : i < ts.length := by have := HN.out; omega
      have SM := own_sum (Nat.le_of_lt hil) (by have := HN.out; omega) (fun j hj => LFL.out.own j (by omega))
      have SN := Lib.hid (sum_own hil)
      have hok := of_decide_eq_true (show decide (1 ≤ (Tk.at_ ts i).own ∧ (Tk.at_ ts i).own ≤ 64) = true from LFL.out.own i hil)
      obtain ⟨_, b, o, hA, c0, c1, c2, c3, c4, c5, c6⟩ := (HT.out.same HS.out).at_ hil
      generalize Tk.at_ ts i = x at *
      subst hA
      obtain ⟨q, hq⟩ : ∃ q : Nat, x.own = q := ⟨x.own.toNat, by omega⟩
      rw [hq] at hok c5 SN
      have q1 : 0 < q := by omega
      have q2 : q ≤ 64 := by omega
      have hbt := Blk.new wr 51 #[.int .i64 x.kind, .int .i64 x.prio, .int .i64 x.per, .int .i64 x.off, .int .i64 x.dl, .int .i64 (q : Int), .slice x.A x.len x.cap]
      have t5 : (wr.alloc (.cells #[.int .i64 x.kind, .int .i64 x.prio, .int .i64 x.per, .int .i64 x.off, .int .i64 x.dl, .int .i64 (q : Int), .slice x.A x.len x.cap] 51)).cell? ⟨wr.heap.size, 5, none⟩ = some (.int .i64 (q : Int)) := hbt.cell 5
      have hst := (Same.refl wr).alloc (.cells #[.int .i64 x.kind, .int .i64 x.prio, .int .i64 x.per, .int .i64 x.off, .int .i64 x.dl, .int .i64 (q : Int), .slice x.A x.len x.cap] 51)
      have HOW3 := Lib.hid (HOW.out.chg hst (fun _ _ f => f))
      have HST := Lib.hid hst
      have hszt := hst.size
      have HZ3 := Lib.hid (Nat.le_trans HSZ.out hszt)
      have hq0 : q0 ≤ 4000 := by have := HQ.out; omega
      have HQ0 := Lib.hid hq0
      have HQB := Lib.hid (And.intro q1 q2)
      clear hbt hst hszt hok hq SM hil hq0
      go_wp2_with (at_builtin; go_loud (refine Az.wpList_appz rfl (.tmp 15) (.tmp 17) 39 3 rfl (w.heap.size + 1) 44 i0 _ .i64 4 Try.underlying39 Try.underlying3 hi hz0 hz1 hz2 (.int .u32 0) rfl rfl A' q0 c' (List.replicate q0 (.int .u32 0)) rfl (by rw [List.length_replicate]) HOW3.out q rfl HQB.out.1 (by have := HQ0.out; have := HQB.out.2; omega) (by omega) HZ3.out ?_))
      intro A8 c8 w8 ho8 hc8
      try rw [zer_add] at ho8
      have HS8 := Lib.hid ((HSX.out.trans HST.out).more hc8 (fun g hg => by have h1 := own_fence HOW3.out g hg; rw [World.size_alloc]; exact h1))
      have HO8 := Lib.hid ho8
      clear ho8 hc8 c0 c1 c2 c3 c4 c5 c6 t5
      go_wp2_with fail
      go_roundg GK
      case rel => exact ⟨i + 1, A8, q0 + q, c8, by omega, by go_num, rfl, by have h1 := SN.out; have h2 := HQ.out; omega, HO8.out, HS8.out⟩
      case measure => omega

end Go.Proofs.Ytaclphhbdfoaeaa.Ly
