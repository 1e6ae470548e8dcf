/-

  slices.Repeat of one number; what bits.Mul gives of 1.
-/
import Derived.Test.YtnlndkpjfgpodaaDoorFlowUse
import Derived.Laws.CopyOwn
import Derived.Deep.CutBlock
import Derived.Deep.LoopGhost
import Derived.Test.YtnlndkpjfgpodaaDoorRegionOff
import Derived.Laws.Bits64b
set_option linter.unusedVariables false
set_option linter.unusedSimpArgs false
namespace Go.Proofs.YtnlndkpjfgpodaaDoor.Cs
open Go.ChangeShapes Go.WideShapes Go.ChangeAt Go.RowKit Ws

theorem mul64_one (y : Nat) (hy : y ≤ 100000) (w : World) : Calls Tryd.prog 111 #[.int .u64 1, .int .u64 (y : Int)] w fun e w' => e = .returned (.tuple #[.int .u64 0, .int .u64 (y : Int)]) ∧ w = w' := by
  have h1 : bits .and .u64 (y : Int) 4294967295 = (y : Int) := by
    have h := bits_and_u64_nat y 4294967295 (by omega) (by omega)
    have e : y &&& 4294967295 = y % 4294967296 := Nat.and_two_pow_sub_one_eq_mod y 32
    rw [e, Nat.mod_eq_of_lt (by omega)] at h
    exact h
  have h1' : bits .and .u64 1 4294967295 = 1 := by decide
  have h1'' : bits .and .u64 0 4294967295 = 0 := by decide
  have h2 : (y : Int) / 4294967296 = 0 := by omega
  have h3 : IntKind.u64.wrap (y : Int) = (y : Int) := by rw [IntKind.wrap_u64]; omega
  have h4 : IntKind.u64.wrap 0 = 0 := by decide
  go_enter Tryd.func111, Tryd.ntmps111
  go_wp2
  go_ret2
  exact ⟨rfl, rfl⟩
theorem mul_one' (y : Nat) (hy : y ≤ 100000) (w : World) : Calls Tryd.prog 87 #[.int .u64 1, .int .u64 (y : Int)] w fun e w' => e = .returned (.tuple #[.int .u64 0, .int .u64 (y : Int)]) ∧ w = w' := by
  have M := Lib.hid (mul64_one y hy)
  go_enter Tryd.func87, Tryd.ntmps87
  go_wp2_with fail
  refine (M.out _).mono ?_
  rintro e w' ⟨rfl, rfl⟩
  go_wp2_with fail
  go_ret2
  exact ⟨rfl, rfl⟩
theorem int_info1 : (Tryd.prog.info? 3).map (fun i => (i.zero, i.size, i.bytes)) = some (some (.int .i64 0), 1, 8) := by kernel_rfl
theorem ownI_blk {w : World} {g B c : Nat} {e : TypeId} {l : List Value} (h : w.heap[g]? = some (.cells l.toArray e (0, 0))) (hc : l.length = c) (hm : c ≤ maxLen) (hB : B ≤ g) : Own w B e (some ⟨g, 0, none⟩) c l := by
  refine ⟨by omega, .inr ⟨g, c, l.toArray, rfl, hB, h, by omega, hm, by simpa using hc, ?_⟩⟩
  simp
def izr (n : Nat) : Array Value := madeCells (Value.int .i64 0).cells (n * 1)
theorem izr_list (n : Nat) : (izr n).toList = (List.replicate n (0 : Int)).map (Value.int .i64) := by
  unfold izr madeCells
  apply List.ext_getElem
  · simp
  · intro i h1 h2
    simp [Value.cells]
    show [Value.int IntKind.i64 0][i % 1]?.getD default = _
    rw [Nat.mod_one]
    rfl
theorem izr_make (n : Nat) (hn : n ≤ 100000) (W : World) : (Instr.makeSlice 23 (.int .i64 (n : Int)) (.int .i64 (n : Int))).run Tryd.prog W = .ok (.slice (some ⟨W.heap.size, 0, none⟩) n n) (W.alloc (.cells (izr n) 3)) := by
  obtain ⟨i0, hi, hz0, hz1, hz2⟩ := info_parts int_info1
  have h := run_make (P := Tryd.prog) W 23 3 i0 _ Tryd.underlying23 hi hz0 .i64 .i64 n n (by omega) (by omega) (by rw [hz2]; omega) (by omega)
  rw [hz1, Int.toNat_natCast] at h
  exact h
theorem int_one : (Tryd.prog.info? 3).map (·.size) = some 1 := by kernel_rfl
theorem ints_one (l : List Int) : ∀ u ∈ l.map (Value.int .i64), u.oneCell' = true := by
  intro u hu
  obtain ⟨x, _, rfl⟩ := List.mem_map.1 hu
  rfl
/-- so many of them are laid -/
def grown (n j : Nat) (v : Int) : List Value := (List.replicate j v ++ List.replicate (n - j) 0).map (Value.int .i64)
theorem grown_len {n j : Nat} (v : Int) (h : j ≤ n) : (grown n j v).length = n := by simp [grown]; omega
theorem grown_more {n j k : Nat} (v : Int) (h : j + k ≤ n) : splice (grown n j v) j ((List.replicate k v).map (Value.int .i64)) = grown n (j + k) v := by
  unfold splice grown
  rw [← List.map_take, ← List.map_drop, List.length_map, List.length_replicate, ← List.map_append, ← List.map_append]
  congr 1
  rw [List.take_left' (by simp), List.drop_append, List.drop_eq_nil_of_le (by simp), List.nil_append, List.drop_replicate, List.length_replicate, ← List.append_assoc, List.replicate_append_replicate]
  congr 2
  omega
theorem grown_none (n : Nat) (v : Int) : grown n 0 v = (izr n).toList := by rw [izr_list]; simp [grown]
theorem oper_copy {P : Program} {o : Oper} {a : Act} {w : World} {K : Act → World → Prop} {Q : Exit → Act → World → Prop} (d s : Operand) (dT sT : TypeId) (hgd : o.guard = none)
    (ho : o.op = .call { callee := .builtin .copy, args := #[d, s], argTypes := #[dT, sT] }) (elem : TypeId) (hu : P.underlying dT = some (.slice elem)) (hsz : (P.info? elem).map (·.size) = some 1)
    (dp sp : Option Addr) (dLen dCap sLen sCap : Nat) (hd : a.eval d = .slice dp dLen dCap) (hs : a.eval s = .slice sp sLen sCap)
    (g off : Nat) (cur : List Value) (t : TypeId) (hg : w.heap[g]? = some (.cells cur.toArray t (0, 0))) (cs : List Value) (hn : cs.length = Nat.min sLen dLen)
    (hpos : 0 < cs.length → dp = some ⟨g, off, none⟩ ∧ ∃ ad, sp = some ad ∧ ∀ j v, cs[j]? = some v → w.cell? (ad.add j) = some v)
    (hfit : off + cs.length ≤ cur.length) (h1 : ∀ v ∈ cs, v.oneCell' = true) (B : Nat) (w0 : World) (hb : Below B w0 w) (hBg : B ≤ g)
    (h : ∀ w', RowKit.Hid (w'.heap[g]? = some (.cells (splice cur off cs).toArray t (0, 0))) → Below B w0 w' → K (a.put o.dst (goInt cs.length)) w') : Oper.wp P o a w K Q := by
  have h2 := step_copy_splice (P := P) (ops := #[]) (E := True) (Q := Q) hgd d s dT sT ho elem hu hsz dp sp dLen dCap sLen sCap hd hs g off cur t hg cs hn hpos hfit h1 B w0 hb hBg h
  rw [if_pos (by simp [Region.wanted, hgd])] at h2
  exact h2
set_option maxRecDepth 100000 in
theorem repeat_one (v : Int) (n g : Nat) (hn1 : 1 ≤ n) (hn : n ≤ 100000) (w : World) (hx : w.cell? ⟨g, 0, none⟩ = some (.int .i64 v)) :
    Calls Tryd.prog 57 #[.slice (some ⟨g, 0, none⟩) 1 1, .int .i64 (n : Int)] w fun e w' => ∃ q, e = .returned (.slice (some ⟨q, 0, none⟩) n n) ∧ Own w' w.heap.size 3 (some ⟨q, 0, none⟩) n ((List.replicate n v).map (Value.int .i64)) ∧ Same w w' := by
  have MO := Lib.hid (mul_one' n hn)
  have hmk := izr_make n hn
  have f1 : IntKind.u64.wrap (n : Int) = (n : Int) := by rw [IntKind.wrap_u64]; omega
  have f2 : IntKind.i64.wrap (n : Int) = (n : Int) := by rw [IntKind.wrap_i64]; omega
  have f3 : ¬ (n : Int) < 0 := by omega
  have f4 : ¬ (9223372036854775807 : Int) < (n : Int) := by omega
  have HX := Lib.hid hx
  clear hx
  go_enter Tryd.func57, Tryd.ntmps57
  go_wp2_with fail
  refine (MO.out _).mono ?_
  rintro e w' ⟨rfl, rfl⟩
  go_upto_region 7 with fail
  obtain ⟨w1, hw1⟩ : ∃ w1, w1 = w.alloc (.cells (izr n) 3) := ⟨_, rfl⟩
  rw [← hw1]
  have hs1 : Same w w1 := hw1 ▸ (Same.refl w).alloc _
  have HG := Lib.hid (show w1.heap[w.heap.size]? = some (.cells (grown n 0 v).toArray 3 (0, 0)) from by rw [hw1, grown_none]; exact Blk.new w _ _)
  have HX1 := Lib.hid (hs1.cell HX.out)
  have HBW := Lib.hid (hs1.below)
  have HSZ := Lib.hid (show w.heap.size < w1.heap.size by rw [hw1]; simp)
  clear hs1 hw1 hmk
  obtain ⟨b, hb⟩ : ∃ b, b = w.heap.size := ⟨_, rfl⟩
  have HB := Lib.hid hb
  have HGL := Lib.hid (grown_len (n := n) v (Nat.zero_le n))
  rw [← hb] at HG HSZ
  rw [← hb]
  clear hb
  go_wp2_with (first | (refine wpList_copy_splice rfl (.tmp 31) (.tmp 32) 23 23 rfl 3 Tryd.underlying23 int_one (some ⟨b, 0, none⟩) (some ⟨g, 0, none⟩) n n 1 1 rfl rfl b 0 (grown n 0 v) 3 HG.out [.int .i64 v] ?c1 (fun _ => ⟨rfl, _, rfl, ?c2⟩) ?c3 (ints_one [v]) w.heap.size w HBW.out (by rw [HB.out]; exact Nat.le_refl _) ?_))
  case c1 => show 1 = Nat.min 1 n; exact (Nat.min_eq_left hn1).symm
  case c3 => rw [HGL.out]; exact hn1
  case c2 =>
    intro j u hj
    match j with
    | 0 => injection hj with hj; subst hj; exact HX1.out
    | j + 1 => simp at hj
  intro w2 hw2 hb2
  have HW2 := Lib.hid (show w2.heap[b]? = some (.cells (grown n 1 v).toArray 3 (0, 0)) from by
    have h := hw2.out
    rw [show [Value.int .i64 v] = (List.replicate 1 v).map (Value.int .i64) from rfl, grown_more v (by omega : 0 + 1 ≤ n)] at h
    exact h)
  have HB2 := Lib.hid hb2
  clear hw2 hb2 HG HX1 HGL
  go_wp2_with fail
  go_loopg [8] (n - 1) (fun gk iv wx => ∃ j : Nat, 1 ≤ j ∧ j + gk = n ∧ iv = .int .i64 j ∧ Hid (wx.heap[b]? = some (.cells (grown n j v).toArray 3 (0, 0))) ∧ Hid (Below w.heap.size w wx))
  case atStart => exact ⟨1, Nat.le_refl _, by omega, rfl, HW2, HB2⟩
  case round =>
    obtain ⟨j, hj1, hjn, rfl, HR, HBR⟩ := hrel
    cases gk with
    | zero =>
      obtain rfl : j = n := by omega
      have hge : ¬ (j : Int) < j := by omega
      go_wp2_with fail
      go_ret
      refine ⟨b, rfl, ?_, Same.of_below HBR.out⟩
      have h := HR.out
      rw [show grown j j v = (List.replicate j v).map (Value.int .i64) from by simp [grown]] at h
      have hl : ((List.replicate j v).map (Value.int .i64)).length = j := by rw [List.length_map, List.length_replicate]
      have ho := ownI_blk (B := w.heap.size) h hl (by unfold maxLen; omega) (by rw [HB.out]; exact Nat.le_refl _)
      simpa using ho
    | succ GK =>
      have hlt : (j : Int) < n := by omega
      have hj0 : (0 : Int) ≤ (j : Int) := by omega
      have hj2 : (j : Int) ≤ n := by omega
      have hnj : ¬ n = j := by omega
      obtain ⟨k, hk⟩ : ∃ k, k = Nat.min j (n - j) := ⟨_, rfl⟩
      have hk1 : 1 ≤ k := by rw [hk]; exact Nat.le_min.2 ⟨hj1, by omega⟩
      have hk2 : k ≤ n - j := by rw [hk]; exact Nat.min_le_right _ _
      have hk3 : k ≤ j := by rw [hk]; exact Nat.min_le_left _ _
      have C1 := Lib.hid (show ((List.replicate k v).map (Value.int .i64)).length = Nat.min j (n - j) by rw [List.length_map, List.length_replicate]; exact hk)
      have C2 := Lib.hid (show ∀ i u, ((List.replicate k v).map (Value.int .i64))[i]? = some u → wr.drew.cell? ((⟨b, 0, none⟩ : Addr).add i) = some u from by
        intro i u hu
        have hi : i < k := by
          rcases Nat.lt_or_ge i k with h | h
          · exact h
          · rw [List.getElem?_eq_none (by simp; exact h)] at hu; cases hu
        have hv : u = .int .i64 v := by
          rw [List.getElem?_map, List.getElem?_replicate, if_pos hi] at hu
          injection hu with hu
          exact hu.symm
        subst hv
        have hc := cell_of_row wr b i (grown n j v).toArray 3 (0, 0) HR.out
        have he : (⟨b, 0, none⟩ : Addr).add i = ⟨b, i, none⟩ := by simp [Addr.add, eq_comm]
        rw [he, show wr.drew.cell? ⟨b, i, none⟩ = wr.cell? ⟨b, i, none⟩ from rfl, hc, List.getElem?_toArray, grown, List.getElem?_map, List.getElem?_append_left (by simp; omega), List.getElem?_replicate, if_pos (by omega)]
        rfl)
      have C3 := Lib.hid (show j + ((List.replicate k v).map (Value.int .i64)).length ≤ (grown n j v).length by rw [grown_len v (by omega), List.length_map, List.length_replicate]; omega)
      have HRD := Lib.hid (show wr.drew.heap[b]? = some (.cells (grown n j v).toArray 3 (0, 0)) from HR.out)
      have HBD := Lib.hid (show Below w.heap.size w wr.drew from HBR.out.drew)
      have HBB := Lib.hid (show w.heap.size ≤ b by rw [HB.out]; exact Nat.le_refl _)
      have KK := Lib.hid (show 1 ≤ k ∧ k ≤ n - j from ⟨hk1, hk2⟩)
      clear hk hk1 hk2 hk3 HR HBR MO HX HW2 HB2
      obtain ⟨cs, hcs⟩ : ∃ cs, cs = (List.replicate k v).map (Value.int .i64) := ⟨_, rfl⟩
      obtain ⟨row, hrow⟩ : ∃ row, row = grown n j v := ⟨_, rfl⟩
      have CO := Lib.hid (show ∀ u ∈ cs, u.oneCell' = true by rw [hcs]; exact ints_one _)
      rw [← hcs] at C1 C2 C3
      rw [← hrow] at C3 HRD
      have HCS := Lib.hid hcs
      have HROW := Lib.hid hrow
      clear hcs hrow
      go_wp2_with fail
      refine wp_region_held_drew (S := fun w' => Below w.heap.size w w') (by kernel_rfl) ?_ (fun hHeld => ?_)
      · exact HBD.out
      refine Ro.take_on (i := 0) (v := ?_) rfl (by kernel_rfl) (by kernel_rfl) (by kernel_rfl) (fun _ _ _ h => h) (by rfl) (by assumption) ?_ ?_
      rotate_left
      · intro wS hSw; (try dsimp only at hSw); go_simp; try with_reducible rfl
      try simp only [Act.put, List.setIfInBounds_toArray, List.set_cons_zero, List.set_cons_succ]
      refine Ro.take_on (i := 1) (v := ?_) rfl (by kernel_rfl) (by kernel_rfl) (by kernel_rfl) (fun _ _ _ h => h) (by rfl) (by assumption) ?_ ?_
      rotate_left
      · intro wS hSw; (try dsimp only at hSw); go_simp; try with_reducible rfl
      try simp only [Act.put, List.setIfInBounds_toArray, List.set_cons_zero, List.set_cons_succ]
      refine Ro.take_on (i := 2) (v := ?_) rfl (by kernel_rfl) (by kernel_rfl) (by kernel_rfl) (fun _ _ _ h => h) (by rfl) (by assumption) ?_ ?_
      rotate_left
      · intro wS hSw; (try dsimp only at hSw); go_simp; try with_reducible rfl
      try simp only [Act.put, List.setIfInBounds_toArray, List.set_cons_zero, List.set_cons_succ]
      refine Ro.take_on (i := 3) (v := ?_) rfl (by kernel_rfl) (by kernel_rfl) (by kernel_rfl) (fun _ _ _ h => h) (by rfl) (by assumption) ?_ ?_
      rotate_left
      · intro wS hSw; (try dsimp only at hSw); go_simp; try with_reducible rfl
      try simp only [Act.put, List.setIfInBounds_toArray, List.set_cons_zero, List.set_cons_succ]
      refine Ro.take_on (i := 4) (v := ?_) rfl (by kernel_rfl) (by kernel_rfl) (by kernel_rfl) (fun _ _ _ h => h) (by rfl) (by assumption) ?_ ?_
      rotate_left
      · intro wS hSw; (try dsimp only at hSw); go_simp; try with_reducible rfl
      try simp only [Act.put, List.setIfInBounds_toArray, List.set_cons_zero, List.set_cons_succ]
      refine Ro.take_on (i := 5) (v := ?_) rfl (by kernel_rfl) (by kernel_rfl) (by kernel_rfl) (fun _ _ _ h => h) (by rfl) (by assumption) ?_ ?_
      rotate_left
      · intro wS hSw; (try dsimp only at hSw); go_simp; try with_reducible rfl
      try simp only [Act.put, List.setIfInBounds_toArray, List.set_cons_zero, List.set_cons_succ]
      refine Ro.take_on (i := 6) (v := ?_) rfl (by kernel_rfl) (by kernel_rfl) (by kernel_rfl) (fun _ _ _ h => h) (by rfl) (by assumption) ?_ ?_
      rotate_left
      · intro wS hSw; (try dsimp only at hSw); go_simp; try with_reducible rfl
      try simp only [Act.put, List.setIfInBounds_toArray, List.set_cons_zero, List.set_cons_succ]
      refine Ro.one_on (i := 7) rfl (by kernel_rfl) (by rfl) (fun K hK => ?_)
      refine oper_copy (.tmp 41) (.tmp 44) 23 23 rfl rfl 3 Tryd.underlying23 int_one (some ⟨b, j, none⟩) (some ⟨b, 0, none⟩) (n - j) (n - j) j n rfl rfl b j row 3 HRD.out cs C1.out (fun _ => ⟨rfl, _, rfl, C2.out⟩) C3.out CO.out w.heap.size w HBD.out HBB.out ?_
      intro w5 hw5 hbel
      refine hK.out _ _ ?_ (fun hNew => ?_)
      · exact hbel
      clear hK K hHeld; have hHeld := hNew; clear hNew
      try simp only [Act.put, List.setIfInBounds_toArray, List.set_cons_zero, List.set_cons_succ]
      -- END
      have HR5 := Lib.hid (show w5.heap[b]? = some (.cells (grown n (j + k) v).toArray 3 (0, 0)) from by
        have h := hw5.out
        rw [HCS.out, HROW.out, grown_more v (by have := KK.out; omega)] at h
        exact h)
      have HB5 := Lib.hid hbel
      have HCL := Lib.hid (show cs.length = k by rw [HCS.out, List.length_map, List.length_replicate])
      clear hw5 hbel
      rw [show goInt cs.length = .int .i64 (k : Int) from by rw [HCL.out]; rfl]
      have hsum : (j : Int) + (k : Int) ≤ n := by have := KK.out; omega
      have hadd : IntKind.i64.wrap ((j : Int) + (k : Int)) = (j : Int) + k := Go.IntWalk.i64_in _ (by omega)
      refine Ro.take_on (i := 8) (v := ?_) rfl (by kernel_rfl) (by kernel_rfl) (by kernel_rfl) (fun _ _ _ h => h) (by rfl) (by assumption) ?_ ?_
      rotate_left
      · intro wS hSw; (try dsimp only at hSw); go_simp; try with_reducible rfl
      try simp only [Act.put, List.setIfInBounds_toArray, List.set_cons_zero, List.set_cons_succ]
      refine Ro.take_on (i := 9) (v := ?_) rfl (by kernel_rfl) (by kernel_rfl) (by kernel_rfl) (fun _ _ _ h => h) (by rfl) (by assumption) ?_ ?_
      rotate_left
      · intro wS hSw; (try dsimp only at hSw); go_simp; try with_reducible rfl
      try simp only [Act.put, List.setIfInBounds_toArray, List.set_cons_zero, List.set_cons_succ]
      refine wpAnyH_done (by kernel_rfl) ?_ _
      go_wp2_with fail
      go_roundg (n - (j + k))
      case measure => have := KK.out; omega
      case rel => exact ⟨j + k, by omega, by have := KK.out; omega, by go_num, HR5, HB5⟩
end Go.Proofs.YtnlndkpjfgpodaaDoor.Cs
