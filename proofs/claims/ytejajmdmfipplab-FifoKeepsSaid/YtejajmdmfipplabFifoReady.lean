/-

  A memory in which an object stands, as it is at the beginning (the law's Ready).
-/
import Derived.Test.YtejajmdmfipplabFifoAny
import Derived.Test.YtejajmdmfipplabMemFn
import Derived.Test.YtejajmdmfipplabFifoRlay
set_option linter.unusedSimpArgs false
set_option linter.unusedVariables false
namespace Go.Proofs.Ytejajmdmfipplab.Ff
open Go.ChangeShapes Go.WideShapes Go.ChangeAt Go.RowKit Ws Mm Pa
open Go.Proofs.Ytejajmdmfipplab.Ob (obj_cells chg_setRow)

theorem lay_eq (ws : List Int) : ∀ (l : List Int) (k : Nat), k + ws.length ≤ l.length → Op.lay l k ws = l.take k ++ (ws ++ l.drop (k + ws.length)) := by
  induction ws with
  | nil => intro l k h; simp [Op.lay]
  | cons v ws ih =>
    intro l k h
    rw [List.length_cons] at h
    rw [Op.lay, ih _ _ (by rw [List.length_set]; omega), List.length_cons]
    have e1 : (l.set k v).take (k + 1) = l.take k ++ [v] := by
      rw [List.take_succ_eq_append_getElem (by rw [List.length_set]; omega), List.take_set_of_le (Nat.le_refl _), List.getElem_set_self]
    have e2 : (l.set k v).drop (k + 1 + ws.length) = l.drop (k + (ws.length + 1)) := by
      rw [List.drop_set_of_lt (by omega)]
      congr 1
      omega
    rw [e1, e2]
    simp

set_option maxHeartbeats 1000000 in
set_option maxRecDepth 100000 in
theorem fill_one {R : Nat → Prop} {g n : Nat} {l : List Int} {s : Int} (w : World) (h : Mem w R g l s) (hn : l.length = n) (C : Option Addr) (m d : Nat) (ys : List Int) (hy : ys.length = m) (hm : m + 2 = n) (hm0 : 0 < m) (hr : Row w C (ys.map (Value.int .u32))) :
    Calls Try.prog 29 #[.pointer (some ⟨g, 0, none⟩), .int .i64 1, .slice C m d] w fun e w' => e = .returned (.int .i64 0) ∧ Mem w' R g (Op.lay l 1 ys) s ∧ Chg R w w' := by
  obtain ⟨r1, hs, g2, c, hb, ho, r2⟩ := h
  rw [hn] at hb hs
  have h0 : w.cell? ⟨g, 0, none⟩ = some (.slice (some ⟨g2, 0, none⟩) n c) := by simpa using hb.cell 0
  obtain ⟨_, _, hlc, hcm⟩ := own_lt ho
  rw [List.length_map, hn] at hlc
  have hne := ho.ne hb (by decide) g2 rfl
  obtain ⟨cur, hcur, hcl, hcm2, hct⟩ : ∃ cur : Array Value, w.heap[g2]? = some (.cells cur 22 (0, 0)) ∧ cur.size = c ∧ c ≤ maxLen ∧ cur.toList.take n = l.map (Value.int .u32) := by
    rcases ho.2 with ⟨h2, _⟩ | ⟨g3, cap, cur, hv, _, hg, h1, h2, h3, h4⟩
    · cases h2
    · injection hv with hv _ hc
      injection hv with hv
      injection hv with hv
      subst hc
      subst hv
      rw [List.length_map, hn, Nat.mul_one] at h4
      exact ⟨cur, hg, by simpa using h3, h2, h4⟩
  have hwi : wiB n 1 m = 0 := by
    unfold wiB inB
    rw [if_pos]
    simp
    omega
  have HY := Lib.hid hy
  have HN := Lib.hid hn
  have HB := Lib.hid hb
  have HR := Lib.hid hr
  have HCT := Lib.hid hct
  have HCL := Lib.hid hcl
  have HCM := Lib.hid hcm2
  have HCU := Lib.hid hcur
  have HMN := Lib.hid hm
  have HNE := Lib.hid hne
  clear hb hr ho hct hcl hcm2 hcur hy hn hne
  go_enter Try.func29, Try.ntmps29
  go_wp2_with fail
  refine (within_any g _ n c _ _ hs _ h0).mono ?_
  rintro e w1 ⟨rfl, s1⟩
  rw [hwi]
  have h1 := s1.cell h0
  have f1 : (1 : Int) ≤ n := by omega
  have f2 : 1 ≤ n := by omega
  have f4 : (n : Int) ≤ c := by omega
  have f5 : ¬ c = 1 := by omega
  have f6 : ¬ n = 1 := by omega
  have hcur1 : w1.heap[g2]? = some (.cells cur.toList.toArray 22 (0, 0)) := (s1.block g2 (Blk.lt (t := 22) HCU.out) id).trans HCU.out
  have HC1 := Lib.hid hcur1
  have HS1 := Lib.hid s1
  clear h0 hcur1 hwi s1 hm
  obtain ⟨cb, co, hCA, _⟩ := (HR.out.same HS1.out).at_ (k := 0) (by have := HY.out; rw [List.length_map]; omega)
  have hsrc : ∀ j v, (ys.map (Value.int .u32))[j]? = some v → w1.cell? ((⟨cb, co, none⟩ : Addr).add j) = some v := by
    intro j v hj
    obtain ⟨b', o', hA', hc⟩ := (HR.out.same HS1.out) j v hj
    rw [hCA] at hA'
    injection hA' with hA'
    injection hA' with e1 e2
    subst e1
    subst e2
    rw [Ff.add_plain]
    exact hc
  have HSR := Lib.hid hsrc
  clear hsrc
  subst hCA
  go_wp2_with (with_reducible refine wpList_copy_own rfl (.tmp 22) (.tmp 23) 23 23 rfl 22 Try.underlying23 u32_one g2 1 (n - 1) (c - 1) ⟨cb, co, none⟩ m d rfl rfl cur 22 HC1.out (ys.map (Value.int .u32)) ?c1 HSR.out ?c3 (words_one _) ?_)
  case c1 =>
    have := HY.out
    have := HMN.out
    rw [List.length_map]
    show _ = min m (n - 1)
    omega
  case c3 =>
    have h1 := HY.out
    have h2 := HMN.out
    have h3 := HCL.out
    rw [List.length_map]
    omega
  have C2 : Chg (fun i => i = g2) w1 (w1.setRow g2 (cur.toList.take 1 ++ (ys.map (Value.int .u32) ++ cur.toList.drop (1 + ys.length))).toArray) := chg_setRow (Chg.refl (fun i => i = g2) w1) (.inl rfl) _
  have HC2 := Lib.hid C2
  have HH := Lib.hid (setRow_heap w1 g2 cur (cur.toList.take 1 ++ (ys.map (Value.int .u32) ++ cur.toList.drop (1 + ys.length))).toArray 22 (0, 0) HC1.out)
  have HB2 := Lib.hid ((HB.out.same HS1.out).chg C2 (fun h => HNE.out h.symm))
  clear C2
  generalize w1.setRow g2 (cur.toList.take 1 ++ (ys.map (Value.int .u32) ++ cur.toList.drop (1 + ys.length))).toArray = w2 at *
  go_wp2
  go_ret
  have hy := HY.out
  have hn := HN.out
  have hm := HMN.out
  have hlen : (Op.lay l 1 ys).length = n := (Op.lay_length _ _ _).trans hn
  refine ⟨rfl, ⟨r1, by rw [hlen]; omega, g2, c, by rw [hlen]; exact HB2.out, ⟨by rw [Nat.mul_one], .inr ⟨g2, c, _, by rw [List.length_map], Nat.zero_le _, HH.out, by rw [List.length_map, hlen]; omega, HCM.out, ?_, ?_⟩⟩, r2⟩, (HS1.out.chg R).trans (HC2.out.weak fun i _ hi => by have h : i = g2 := hi; rw [h]; exact r2)⟩
  · have h3 := HCL.out
    simp only [List.size_toArray, List.length_append, List.length_take, List.length_drop, List.length_map, Array.length_toList, Nat.mul_one]
    omega
  · have hct := HCT.out
    have e1 : Op.lay l 1 ys = l.take 1 ++ (ys ++ l.drop (1 + ys.length)) := lay_eq _ _ _ (by omega)
    have h3 := HCL.out
    rw [List.length_map, hlen, Nat.mul_one, e1, List.map_append, List.map_append, List.map_take, List.map_drop, ← hct]
    simp only [List.length_map]
    have e2 : (cur.toList.take n).take 1 = cur.toList.take 1 := by rw [List.take_take, Nat.min_eq_left (by omega)]
    have e3 : (cur.toList.take n).drop (1 + ys.length) = (cur.toList.drop (1 + ys.length)).take (n - (1 + ys.length)) := by rw [List.drop_take]
    have la : (cur.toList.take 1).length = 1 := by rw [List.length_take, Array.length_toList]; omega
    rw [e2, e3, List.take_append, la, List.take_of_length_le (l := cur.toList.take 1) (by omega), List.take_append, List.length_map, List.take_of_length_le (l := ys.map (Value.int .u32)) (by rw [List.length_map]; omega)]
    congr 3
    omega

/-- a memory's region may be told greater -/
theorem mem_weak {R R' : Nat → Prop} {w : World} {g : Nat} {l : List Int} {s : Int} (h : Mem w R g l s) (hR : ∀ i, R i → R' i) : Mem w R' g l s := by
  obtain ⟨h1, h2, g2, c, hb, ho, hr⟩ := h
  exact ⟨hR _ h1, h2, g2, c, hb, ho, hR _ hr⟩


theorem ready_any (W sl b cap : Nat) (sa ow : Int) (ia ra : Option Addr) (il ic rl rc : Nat) (init : List Int) (A : Option Addr) (c : Nat) (w : World) (hr : rightB W sl cap sa il rl = true) (hb : b ≤ w.heap.size) (hrow : Row w A ((lay0 W sl sa init).map (Value.int .u32))) (hsa : 0 ≤ sa ∧ sa < 4294967296 := by assumption) :
    Calls Try.prog 9 #[.agg #[.int .i64 6, .int .i64 W, .int .i64 sl, .int .i64 cap, .int .u32 sa, .slice ia il ic, .int .i64 ow, .slice ra rl rc], .slice A (2 + sl * W) c] w fun e w' => ∃ g, e = .returned (.pointer (some ⟨g, 0, none⟩)) ∧ Same w w' ∧ Mem w' (fun i => b ≤ i) g (Op.lay (List.replicate (2 + sl * W + 2) 0) 1 (lay0 W sl sa init)) 0 := by
  have hq := HQ hr
  obtain ⟨n, hn⟩ : ∃ n, n = 2 + sl * W + 2 := ⟨_, rfl⟩
  have hmw : sl * W ≤ 16 * 8 := Nat.mul_le_mul (by omega) (by omega)
  have hsl : (sl : Int) * (W : Int) = ((sl * W : Nat) : Int) := by rw [Int.natCast_mul]
  have hpw : 0 < sl * W := Nat.mul_pos (by omega) (by omega)
  have hsz : ((2 : Int) + (sl : Int) * (W : Int)) + 2 = (n : Int) := by omega
  have f1 : IntKind.i64.wrap (((2 : Int) + (sl : Int) * (W : Int)) + 2) = n := by rw [hsz]; exact Go.IntWalk.i64_in _ (by omega)
  have RS := fun w' => rsize_yes W sl cap sa ow ia ra il ic rl rc w' hr
  have s0 := (Same.refl w).alloc (.cells #[.int .i64 6, .int .i64 W, .int .i64 sl, .int .i64 cap, .int .u32 sa, .slice ia il ic, .int .i64 ow, .slice ra rl rc] 26)
  have HS0 := Lib.hid s0
  have hn4 : n ≤ 4096 := by omega
  have hl0 := lay_len W sl sa init
  have HL0 := Lib.hid hl0
  have HR := Lib.hid hrow
  have HN := Lib.hid hn
  have HW := Lib.hid hq.1
  have HPW := Lib.hid hpw
  have HBB := Lib.hid hb
  obtain ⟨z, hz⟩ : ∃ z, z = (2 : Int) + (sl : Int) * (W : Int) := ⟨_, rfl⟩
  rw [← hz] at RS hsz f1
  have g1 : wrap64 (z + 2) = (n : Int) := by unfold wrap64; omega
  have z0 : 0 ≤ z := by omega
  have z1 : z ≤ 130 := by omega
  rw [← hn]
  have HZ := Lib.hid hz
  have HZS := Lib.hid hsz
  clear hmw hsl hpw hq hn hl0 hrow s0 hb hz hsz
  go_enter Try.func9, Try.ntmps9
  go_wp2_with fail
  refine (RS _).mono ?_
  rintro e w1 ⟨rfl, s1⟩
  have HS1 := Lib.hid (HS0.out.trans s1)
  clear s1
  go_wp2_with fail
  refine (new_any n hn4 _).mono ?_
  rintro e w2 ⟨rfl, s2, m2⟩
  have HM2 : Hid (Mem w2 (fun i => b ≤ i) (w1.heap.size + 1) (List.replicate n 0) 0) := Lib.hid (mem_weak m2 (fun i hi => by have := HS1.out.size; have := HBB.out; omega))
  have HS2 := Lib.hid (HS1.out.trans s2)
  have HBW : Hid (∀ i, b ≤ i ∧ w1.heap.size ≤ i → w.heap.size ≤ i) := Lib.hid (fun i hi => by have := HS1.out.size; omega)
  have HM3 : Hid (Mem w2 (fun i => b ≤ i ∧ w1.heap.size ≤ i) (w1.heap.size + 1) (List.replicate n 0) 0) := Lib.hid (mem_weak m2 (fun i hi => ⟨by have := HS1.out.size; have := HBB.out; omega, hi⟩))
  clear s2 m2
  generalize w1.heap.size + 1 = gm at *
  have FL := Lib.hid (fill_one (n := n) w2 HM3.out (by simp) A (2 + sl * W) c (lay0 W sl sa init) HL0.out (by have := HN.out; omega) (by have := HPW.out; omega) (HR.out.same HS2.out))
  go_wp2_with fail
  refine FL.out.mono ?_
  rintro e w3 ⟨rfl, m3, c3⟩
  have HM4 := Lib.hid m3
  have HS3 := Lib.hid (HS2.out.more c3 HBW.out)
  clear m3 c3 FL HM2 HM3
  go_wp2
  go_ret
  exact ⟨gm, rfl, HS3.out, mem_weak HM4.out (fun i hi => hi.1)⟩

end Go.Proofs.Ytejajmdmfipplab.Ff
