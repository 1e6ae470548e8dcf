/-

  The walk of the law FifoKeeps.
-/
import Derived.Test.YtejajmdmfipplabFifoReady
import Derived.Test.YtejajmdmfipplabOpFifoKeep
import Derived.Test.YtejajmdmfipplabMat
import Derived.Test.YtejajmdmfipplabQue
import Derived.Test.YtejajmdmfipplabOpen
import Derived.Deep.CutBlock
set_option linter.unusedSimpArgs false
set_option linter.unusedVariables false
namespace Go.Proofs.Ytejajmdmfipplab.Ff
open Go.ChangeShapes Go.WideShapes Go.ChangeAt Go.RowKit Ws Mm Pa
open Go.Proofs.Ytejajmdmfipplab.Ob (obj_cells)

theorem lay0_get (W sl : Nat) (sa : Int) (init : List Int) (j : Nat) : (lay0 W sl sa init).getD j 0 = if j = 0 ∨ j = 1 then sa else 0 := by
  have e : ∀ j, (List.replicate (2 + sl * W) (0 : Int)).getD j 0 = 0 := by
    intro j
    rw [List.getD_eq_getElem?_getD, List.getElem?_replicate]
    split <;> rfl
  unfold lay0
  rw [Op.set_get _ _ _ _ (by rw [List.length_set, List.length_replicate]; omega), Op.set_get _ _ _ _ (by rw [List.length_replicate]; omega), e]
  by_cases h1 : j = 1
  · rw [if_pos h1, if_pos (.inr h1)]
  · rw [if_neg h1]
    by_cases h0 : j = 0
    · rw [if_pos h0, if_pos (.inl h0)]
    · rw [if_neg h0, if_neg (by omega)]
/-- a memory in which the object stands holds nothing -/
theorem holds_first (W sl : Nat) (sa : Int) (n c r : Nat) (b : Bool) (init : List Int) (hs : 0 ≤ sa ∧ sa < 2 * (sl : Int)) : Op.FifoHolds ⟨1, W, n, sl, c, r, b⟩ (Op.lay (List.replicate (2 + sl * W + 2) 0) 1 (lay0 W sl sa init)) [] := by
  have g : ∀ j, j < 2 → Op.get ⟨1, W, n, sl, c, r, b⟩ (Op.lay (List.replicate (2 + sl * W + 2) 0) 1 (lay0 W sl sa init)) j = sa := by
    intro j hj
    have := Op.get_lay ⟨1, W, n, sl, c, r, b⟩ (List.replicate (2 + sl * W + 2) 0) 0 j (lay0 W sl sa init) (by rw [lay_len, List.length_replicate]; simp only; omega)
    rw [show (1 : Nat) + 0 = 1 from rfl] at this
    rw [this, lay_len, if_pos ⟨by omega, by omega⟩, Nat.sub_zero, lay0_get, if_pos (by omega)]
  refine ⟨by rw [Op.lay_length, List.length_replicate]; simp only; omega, ?_, Nat.zero_le _, ?_, fun i h => by simp at h⟩
  · rw [g 0 (by omega)]
    exact hs
  · rw [g 0 (by omega), g 1 (by omega)]
    unfold Op.fmod
    simp only [List.length_nil]
    rw [show sa + ((0 : Nat) : Int) = sa by omega, Int.emod_eq_of_lt hs.1 hs.2]
theorem first_wd (W sl : Nat) (sa : Int) (hsa : 0 ≤ sa ∧ sa < 4294967296) (init : List Int) : Op.Wd (Op.lay (List.replicate (2 + sl * W + 2) 0) 1 (lay0 W sl sa init)) := by
  have lw : ∀ (ws l : List Int) (k : Nat), Op.Wd ws → Op.Wd l → Op.Wd (Op.lay l k ws) := by
    intro ws
    induction ws with
    | nil => intro l k _ hl; exact hl
    | cons x ws ih =>
      intro l k hx hl
      refine ih _ _ (fun y hy => hx y (List.mem_cons_of_mem _ hy)) ?_
      intro y hy
      rcases List.mem_or_eq_of_mem_set hy with hy | rfl
      · exact hl y hy
      · exact hx _ List.mem_cons_self
  have rw0 : ∀ n, Op.Wd (List.replicate n (0 : Int)) := fun n x hx => by
    have := (List.mem_replicate.1 hx).2
    omega
  refine lw _ _ _ ?_ (rw0 _)
  unfold lay0
  intro y hy
  rcases List.mem_or_eq_of_mem_set hy with hy | rfl
  · rcases List.mem_or_eq_of_mem_set hy with hy | rfl
    · exact rw0 _ y hy
    · exact hsa
  · exact hsa

/-- how the loop of the law stands -/
structure QJ (R : Nat → Prop) (gm W sl cap q BR : Nat) (sa ow : Int) (ia ra : Option Addr) (il ic rl rc : Nat) (w0 wx : World) (QA : Option Addr) (qc : Nat) (qs : List (List Int)) (qv : List Value) (l : List Int) (st : Int) : Prop where
  mem : Mem wx R gm l st
  wd : Op.Wd l
  holds : Op.FifoHolds ⟨1, W, rl, sl, cap, 0, true⟩ l qs
  len : qv.length = qs.length
  vals : ∀ (j : Nat) (r : List Int), qs[j]? = some r → ∃ (C : Option Addr) (c : Nat), qv[j]? = some (Value.slice C W c) ∧ r.length = W ∧ Row w0 C (r.map (Value.int .u32))
  que : Qe.Que wx BR 23 QA qc qv
  obj : Blk wx q 26 #[.int .i64 6, .int .i64 W, .int .i64 sl, .int .i64 cap, .int .u32 sa, .slice ia il ic, .int .i64 ow, .slice ra rl rc]
  same : Same w0 wx
theorem objY (w w' : World) {q : Nat} {T : TypeId} {W sl cap : Nat} {sa ow : Int} {ia ra : Option Addr} {il ic rl rc : Nat} (h : Blk w q T #[.int .i64 6, .int .i64 W, .int .i64 sl, .int .i64 cap, .int .u32 sa, .slice ia il ic, .int .i64 ow, .slice ra rl rc]) (s : Same w w') : True := trivial

theorem rows_info : (Try.prog.info? 23).map (fun i => (i.zero, i.size, i.bytes)) = some (some (.slice none 0 0), 1, 24) := by kernel_rfl
theorem words_same' (A C : Option Addr) (n m c d : Nat) (xs : List Int) (w : World) (hn : xs.length = n) (hm : xs.length = m) (hx : Row w A (xs.map (Value.int .u32))) (hy : Row w C (xs.map (Value.int .u32))) (b1 : n ≤ 4294967296) (b2 : m ≤ 4294967296) :
    Calls Try.prog 16 #[.slice A n c, .slice C m d] w fun e w' => e = .returned (.bool true) ∧ Same w w' :=
  (words_eq A C n m c d xs xs w hn hm hx hy b1 b2).mono fun e w' ⟨he, k, hk⟩ => ⟨by rw [he, decide_eq_true rfl], by rw [hk]; exact (Same.refl w).drewN k⟩
theorem objY' {w w' : World} {q : Nat} {T : TypeId} {W sl cap : Nat} {sa ow : Int} {ia ra : Option Addr} {il ic rl rc : Nat} (h : Blk w q T #[.int .i64 6, .int .i64 W, .int .i64 sl, .int .i64 cap, .int .u32 sa, .slice ia il ic, .int .i64 ow, .slice ra rl rc]) (s : Same w w') : w'.cell? ⟨q, 0, none⟩ = some (.int .i64 6) ∧ w'.cell? ⟨q, 1, none⟩ = some (.int .i64 W) ∧ w'.cell? ⟨q, 2, none⟩ = some (.int .i64 sl) ∧ w'.cell? ⟨q, 3, none⟩ = some (.int .i64 cap) ∧ w'.cell? ⟨q, 4, none⟩ = some (.int .u32 sa) ∧ w'.cell? ⟨q, 5, none⟩ = some (.slice ia il ic) ∧ w'.cell? ⟨q, 6, none⟩ = some (.int .i64 ow) ∧ w'.cell? ⟨q, 7, none⟩ = some (.slice ra rl rc) ∧ Same w w' := by
  obtain ⟨a, b, c, d, e, f, g, i⟩ := obj_cells (h.same s)
  exact ⟨a, b, c, d, e, f, g, i, s⟩

set_option maxHeartbeats 8000000 in
set_option maxRecDepth 100000 in
theorem keeps_yes (W sl cap : Nat) (sa ow : Int) (ia ra : Option Addr) (il ic rl rc : Nat) (init : List Int) (MA : Option Addr) (n mc : Nat) (rows : List (List Int)) (w : World) (hsm : decide (((il : Nat) : Int) ≤ 100 ∧ ((rl : Nat) : Int) ≤ 100) = true) (hn : n ≤ 60) (hr : rightB W sl cap sa il rl = true)
    (hi : Row w ia (init.map (Value.int .u32))) (hl : init.length = il) (hiw : Op.Wd init) (hM : Mt.Mat w MA rows) (hML : rows.length = n) (hMW : ∀ r ∈ rows, Op.Wd r ∧ r.length ≤ maxLen) (hsa : 0 ≤ sa ∧ sa < 4294967296 := by assumption) :
    Calls Try.prog 3 #[.agg #[.int .i64 6, .int .i64 W, .int .i64 sl, .int .i64 cap, .int .u32 sa, .slice ia il ic, .int .i64 ow, .slice ra rl rc], .slice MA n mc] w fun e w' => e = .returned (.bool true) ∧ Same w w' := by
  have hb := Blk.new w 26 #[.int .i64 6, .int .i64 W, .int .i64 sl, .int .i64 cap, .int .u32 sa, .slice ia il ic, .int .i64 ow, .slice ra rl rc]
  have s0 := (Same.refl w).alloc (.cells #[.int .i64 6, .int .i64 W, .int .i64 sl, .int .i64 cap, .int .u32 sa, .slice ia il ic, .int .i64 ow, .slice ra rl rc] 26)
  have HB0 := Lib.hid hb
  have HS0 := Lib.hid s0
  have HSM := Lib.hid hsm
  have HR := Lib.hid hr
  have HI := Lib.hid hi
  have HL := Lib.hid hl
  have HIW := Lib.hid hiw
  have HMA := Lib.hid hM
  have HML := Lib.hid hML
  have HMW := Lib.hid hMW
  have hq := HQ hr
  have HW8' : Hid ((0 < W ∧ W ≤ 8) ∧ (1 ≤ sl ∧ sl ≤ 16) ∧ sa < 2 * (sl : Int) ∧ rl = 1) := Lib.hid (by omega)
  have HSA := Lib.hid hsa
  obtain ⟨i0, hi0, hz0, hz1, hz2⟩ := info_parts rows_info
  have HRI := fun w' => right_any W sl cap sa ow ia ra il ic rl rc w'
  rw [hr] at HRI
  have n60 : ¬ (60 : Int) < n := by omega
  clear hb s0 hsm hr hi hl hiw hM hML hMW hq
  go_enter Try.func3, Try.ntmps3
  obtain ⟨d0, d1, d2, d3, d4, d5, d6, d7⟩ := obj_cells HB0.out
  go_wp2_with fail
  refine (small_any 6 W sl cap sa ow ia ra il ic rl rc _ true HSM.out).mono ?_
  rintro e v1 ⟨rfl, s1⟩
  have HB1 := Lib.hid (HB0.out.same s1)
  have HS1 := Lib.hid (HS0.out.trans s1)
  clear s1 d0 d1 d2 d3 d4 d5 d6 d7 HB0 HS0
  obtain ⟨d0, d1, d2, d3, d4, d5, d6, d7⟩ := obj_cells HB1.out
  go_wp2_with fail
  refine (HRI _).mono ?_
  rintro e v2 ⟨rfl, s1⟩
  have HB2 := Lib.hid (HB1.out.same s1)
  have HS2 := Lib.hid (HS1.out.trans s1)
  have HI2 := Lib.hid (HI.out.same HS2.out)
  clear s1 d0 d1 d2 d3 d4 d5 d6 d7 HB1 HS1 HRI
  obtain ⟨d0, d1, d2, d3, d4, d5, d6, d7⟩ := obj_cells HB2.out
  go_upto_region 3 with fail
  obtain ⟨q, hq⟩ : ∃ q, q = w.heap.size := ⟨_, rfl⟩
  rw [← hq] at HB2 ⊢
  have HQ0 := Lib.hid hq
  have HQV : Hid (q < v2.heap.size) := Lib.hid HB2.out.lt
  clear d0 d1 d2 d3 d4 d5 d6 d7 hq
  go_region_held3 (fun w' => w'.cell? ⟨q, 0, none⟩ = some (.int .i64 6) ∧ w'.cell? ⟨q, 1, none⟩ = some (.int .i64 W) ∧ w'.cell? ⟨q, 2, none⟩ = some (.int .i64 sl) ∧ w'.cell? ⟨q, 3, none⟩ = some (.int .i64 cap) ∧ w'.cell? ⟨q, 4, none⟩ = some (.int .u32 sa) ∧ w'.cell? ⟨q, 5, none⟩ = some (.slice ia il ic) ∧ w'.cell? ⟨q, 6, none⟩ = some (.int .i64 ow) ∧ w'.cell? ⟨q, 7, none⟩ = some (.slice ra rl rc) ∧ Same v2 w')
    (first | (with_reducible assumption) | (with_reducible exact objY' HB2.out (Same.refl _).drew) | (rcases ‹_ ∧ _ ∧ _ ∧ _ ∧ _ ∧ _ ∧ _ ∧ _ ∧ Same v2 _› with ⟨_, _, _, _, _, _, _, _, x9⟩; (with_reducible exact objY' HB2.out (x9.trans hs))))
    (first | (go_at_call 10; ((with_reducible refine Calls.mono (lay_yes W sl cap sa ow ia ra il ic rl rc init _ HR.out ?_ HL.out) ?_); exact HI2.out.same (‹_ ∧ _ ∧ _ ∧ _ ∧ _ ∧ _ ∧ _ ∧ _ ∧ Same v2 _›).2.2.2.2.2.2.2.2; rintro e w' ⟨g1, rfl, hs, o1⟩; have HO1 := Lib.hid o1.row; clear o1)) | (go_at_call 9; ((with_reducible refine Calls.mono (ready_any W sl v2.heap.size cap sa ow ia ra il ic rl rc init _ _ _ HR.out ?_ ?_) ?_); exact (‹_ ∧ _ ∧ _ ∧ _ ∧ _ ∧ _ ∧ _ ∧ _ ∧ Same v2 _›).2.2.2.2.2.2.2.2.size; (first | (with_reducible exact HO1.out) | exact HO1.out.same hs); rintro e w' ⟨gm, rfl, hs, mm⟩; have HMM := Lib.hid mm; clear mm)))
  rcases ‹_ ∧ _ ∧ _ ∧ _ ∧ _ ∧ _ ∧ _ ∧ _ ∧ Same v2 _› with ⟨_, _, _, _, _, _, _, _, x9⟩
  have HX9 := Lib.hid x9
  clear x9
  have HRV : Hid (∀ i, v2.heap.size ≤ i → w.heap.size ≤ i ∧ q < i) := Lib.hid (fun i hi => ⟨by have := HS2.out.size; omega, by have := HQV.out; omega⟩)
  have HS3 := Lib.hid (HS2.out.trans HX9.out)
  have HB3 := Lib.hid (HB2.out.same HX9.out)
  obtain ⟨R, hR⟩ : ∃ R : Nat → Prop, R = fun i => v2.heap.size ≤ i ∧ i < w'.heap.size := ⟨_, rfl⟩
  have HM3 : Hid (Mem w' R gm (Op.lay (List.replicate (2 + sl * W + 2) 0) 1 (lay0 W sl sa init)) 0) := Lib.hid (by rw [hR]; exact HMM.out.within)
  have HRW : Hid (∀ i, R i → w.heap.size ≤ i ∧ q < i) := Lib.hid (by rw [hR]; exact fun i hi => HRV.out i hi.1)
  have HRL2 : Hid (∀ i, R i → i < w'.heap.size) := Lib.hid (by rw [hR]; exact fun i hi => hi.2)
  have HWL := Lib.hid (Nat.le_refl w'.heap.size)
  obtain ⟨BR, hBR⟩ : ∃ BR, BR = w'.heap.size := ⟨_, rfl⟩
  rw [← hBR] at HRL2 HWL
  have HBR : Hid (BR ≤ w'.heap.size) := Lib.hid (by omega)
  have HWB : Hid (w.heap.size ≤ BR) := Lib.hid (by rw [hBR]; exact HS3.out.size)
  have HQBR : Hid (q < BR) := Lib.hid (by rw [hBR]; exact HB3.out.lt)
  have kj0 : QJ R gm W sl cap q BR sa ow ia ra il ic rl rc w w' none 0 [] [] (Op.lay (List.replicate (2 + sl * W + 2) 0) 1 (lay0 W sl sa init)) 0 := ⟨HM3.out, first_wd W sl sa HSA.out init, holds_first W sl sa _ _ _ true init ⟨HSA.out.1, HW8'.out.2.2.1⟩, rfl, fun j r h => by simp at h, Qe.Que.nil _ _ _, HB3.out, HS3.out⟩
  have HK0 := Lib.hid kj0
  clear kj0 hR hBR HM3 HMM HS2 HS3 HB2 HB3 HX9 HI2 HRV HWL
  obtain ⟨d0, d1, d2, d3, d4, d5, d6, d7⟩ := obj_cells HK0.out.obj
  go_wp2_with fail
  clear d0 d1 d2 d3 d4 d5 d6 d7
  go_loopg [34, 6] n (fun gk iv lv wx => ∃ (k : Nat) (QA : Option Addr) (qn qc : Nat) (qs : List (List Int)) (qv : List Value) (l : List Int) (st : Int), k + gk = n ∧ iv = .int .i64 k ∧ lv = .slice QA qn qc ∧ qs.length = qn ∧ BR ≤ wx.heap.size ∧ QJ R gm W sl cap q BR sa ow ia ra il ic rl rc w wx QA qc qs qv l st)
  case atStart => exact ⟨0, none, 0, 0, [], [], _, 0, by omega, rfl, rfl, rfl, HBR.out, HK0.out⟩
  case round =>
    obtain ⟨k, QA, qn, qc, qs, qv, l0, st0, hk, rfl, rfl, hqn, hbr, kj⟩ := hrel
    have HK := Lib.hid hk
    have HQN := Lib.hid hqn
    have HKJ := Lib.hid kj
    have HBW := Lib.hid hbr
    clear hk hqn kj hbr HK0 HBR
    cases gk with
    | zero =>
      obtain rfl : k = n := by have := HK.out; omega
      have hge : ¬ (k : Int) < (k : Int) := by omega
      go_wp2_with fail
      refine (awake_any _).mono ?_
      rintro e v9 ⟨rfl, s9⟩
      go_wp2
      go_ret
      exact ⟨rfl, HKJ.out.same.trans s9⟩
    | succ GK =>
      have hlt : (k : Int) < (n : Int) := by have := HK.out; omega
      have hkn : k < n := by omega
      obtain ⟨r, hr⟩ : ∃ r, rows[k]? = some r := ⟨_, List.getElem?_eq_getElem (by have := HML.out; omega)⟩
      obtain ⟨b, o, C, c, hMA, hc, hrow⟩ := HMA.out k r hr
      have hcw := HKJ.out.same.cell hc
      have hrm := HMW.out r (List.mem_of_getElem? hr)
      subst hMA
      obtain ⟨d0, d1, d2, d3, d4, d5, d6, d7⟩ := obj_cells HKJ.out.obj
      have HRWD := Lib.hid hrm.1
      have HRO := Lib.hid hrow
      have hW0 := HW8'.out.1.1
      have hsn : sl ≤ 16 := by have := HW8'.out.2.1.2; omega
      have hqsl : qn ≤ sl := by have h : qs.length ≤ sl := HKJ.out.holds.few; have := HQN.out; omega
      by_cases h0 : r.length = 0
      · rw [h0] at hcw
        have hr0 : r = [] := List.eq_nil_of_length_eq_zero h0
        subst hr0
        clear hr hc hrow hrm h0
        go_wp2_with fail
        refine (begin_rd W sl 1 cap 0 sa ow ia ra il ic rl rc C c wr HR.out (by have := HW8'.out.2.2.2; omega)).mono ?_
        rintro e wd ⟨g, p, rfl, s3, hg, fb⟩
        have HFB := Lib.hid fb
        have HGB : Hid (BR ≤ g ∧ w.heap.size ≤ g) := Lib.hid ⟨Nat.le_trans HBW.out hg, Nat.le_trans HKJ.out.same.size hg⟩
        have HGR : Hid (¬ R g) := Lib.hid (fun h => by have := HRL2.out g h; have := HGB.out.1; omega)
        have HQB : Hid (∀ b o, QA = some ⟨b, o, none⟩ → qc ≠ 0 → ¬ (R b ∨ b = g)) := Lib.hid (fun b o hA hc h => by
          have h1 := HKJ.out.que.lt b o hA hc
          rcases h with h | h
          · have := HRL2.out b h; omega
          · omega)
        have HM0 := Lib.hid (HKJ.out.mem.same s3)
        have HWD0 := Lib.hid HKJ.out.wd
        have HSM := Lib.hid (HKJ.out.same.trans s3)
        have HBO0 := Lib.hid (HKJ.out.obj.same s3)
        have HQU0 := Lib.hid (HKJ.out.que.same s3)
        have HBD := Lib.hid (Nat.le_trans HBW.out s3.size)
        have HH : Hid (Op.FifoHolds ⟨1, W, rl, sl, cap, 0, false⟩ l0 qs) := Lib.hid (HKJ.out.holds.put_other rfl rfl rfl)
        have HVL := Lib.hid HKJ.out.vals
        have HVN := Lib.hid HKJ.out.len
        have HW8 : Hid (Op.fifoAl ⟨1, W, rl, sl, cap, 0, false⟩) := Lib.hid ⟨HW8'.out.1, HW8'.out.2.1⟩
        have HLV0 := Lib.hid (Op.fifo_first ⟨1, W, rl, sl, cap, 0, false⟩ [] (fun x hx => by cases hx) (fun h => by cases h) (fun _ => rfl))
        have HQG : Hid (¬ q = g) := Lib.hid (fun h => by have := HBO0.out.ne HFB.out.blk.blk (by decide); exact this h)
        obtain ⟨J, hJ0, hJS, hJE⟩ := Op.fifo_case ⟨1, W, rl, sl, cap, 0, false⟩ l0 [] qs HW8.out HH.out (fun h => by cases h) (fun _ => rfl)
        have HJ0 := Lib.hid hJ0
        have HJS := Lib.hid hJS
        have HJE := Lib.hid hJE
        clear s3 hg fb d0 d1 d2 d3 d4 d5 d6 d7 HKJ HBW hcw hJ0 hJS hJE
        go_wp2_with fail
        go_loopg [] (W + 3) (fun gk wx => ∃ (s : Op.St) (l : List Int) (p : Pt) (st : Int), FB wx g 72 ⟨1, W, rl, sl, cap, 0, false⟩ (2 + sl * W) s p ∧ Mem wx R gm l st ∧ Op.Live Op.fifoOk Op.fifoRank ⟨1, W, rl, sl, cap, 0, false⟩ (Op.fifoMost ⟨1, W, rl, sl, cap, 0, false⟩) s ∧ Op.Wd l ∧ l.length = l0.length ∧ Op.fifoRank ⟨1, W, rl, sl, cap, 0, false⟩ s ≤ gk ∧ J s l ∧ Same w wx ∧ Blk wx q 26 #[.int .i64 6, .int .i64 W, .int .i64 sl, .int .i64 cap, .int .u32 sa, .slice ia il ic, .int .i64 ow, .slice ra rl rc] ∧ BR ≤ wx.heap.size ∧ Qe.Que wx BR 23 QA qc qv)
        case atStart => exact ⟨_, l0, p, st0, HFB.out, HM0.out, HLV0.out, HWD0.out, rfl, by have := HLV0.out.most; simp [Op.start, Op.fifoMost] at this ⊢; omega, HJ0.out, HSM.out, HBO0.out, HBD.out, HQU0.out⟩
        case round =>
          obtain ⟨s, l, p, st, fb, mm, lv, wd, ll, rk, jj, ss, bo, bz, qu⟩ := hrel
          have HF := Lib.hid fb
          have HM := Lib.hid mm
          have HLV := Lib.hid lv
          have HWD := Lib.hid wd
          have HLL := Lib.hid ll
          have HRK := Lib.hid rk
          have HJ := Lib.hid jj
          have HSS := Lib.hid ss
          have HBO := Lib.hid bo
          have HBZ := Lib.hid bz
          have HQU := Lib.hid qu
          clear fb mm lv wd ll rk jj ss bo bz qu HM0 HWD0 HSM HBO0 HQU0 HBD HLV0 HJ0 HFB
          cases hov : s.over
          · have hpos := Op.fifo_pos ⟨1, W, rl, sl, cap, 0, false⟩ s HLV.out.ok hov
            have hgo : Op.goes ⟨1, W, rl, sl, cap, 0, false⟩ (2 + sl * W) s l = true := by
              unfold Op.goes
              rw [hov, HLL.out]
              simp
              exact HH.out.len
            have ST := step_any wr HF.out HM.out HGR.out HWD.out HLV.out (show Op.fifoMost ⟨1, W, rl, sl, cap, 0, false⟩ ≤ 1000 by unfold Op.fifoMost; have := HW8'.out.1.2; simp only; omega) HW8.out rfl
            unfold Asked at ST
            rw [hgo] at ST
            obtain ⟨j1, j2, j3, j4⟩ := Op.fifoLaw.step (size := 2 + sl * W) HW8.out (x := (s, l)) HLV.out HWD.out
            obtain ⟨j5, j6⟩ := j4 hgo
            have jj := HJS.out s l HJ.out hov
            rw [← Op.stepF_yes (F := Op.fifo) (size := 2 + sl * W) (x := (s, l)) hgo] at jj
            have HST := Lib.hid ST
            have HK1 := Lib.hid j1
            have HK2 := Lib.hid j2
            have HK3 := Lib.hid j3
            have HK6 := Lib.hid j6
            have HJJ := Lib.hid jj
            have HPOS := Lib.hid hpos
            clear hov hpos hgo ST j1 j2 j3 j4 j5 j6 jj
            generalize Op.stepF Op.fifo ⟨1, W, rl, sl, cap, 0, false⟩ (2 + sl * W) (s, l) = x7 at *
            cases gk with
            | zero => have := HRK.out; have := HPOS.out; omega
            | succ gk =>
              go_wp2_with fail
              refine HST.out.mono ?_
              rintro e w8 ⟨rfl, p8, fb8, m8, c8⟩
              have HF8 := Lib.hid fb8
              have HM8 := Lib.hid m8
              have HS8 := Lib.hid (HSS.out.more c8 (fun i h => by rcases h with h | h; exact (HRW.out i h).1; rw [h]; exact HGB.out.2))
              have HB8 := Lib.hid (HBO.out.chg c8 (fun h => by rcases h with h | h; have := (HRW.out q h).2; omega; exact HQG.out h))
              have HZ8 := Lib.hid (Nat.le_trans HBZ.out c8.size)
              have HU8 := Lib.hid (HQU.out.chg c8 HQB.out)
              clear fb8 m8 c8 HST
              go_wp2
              go_roundg gk
              case rel => exact ⟨x7.1, x7.2, p8, _, HF8.out, HM8.out, HK1.out, HK2.out, HK3.out.trans HLL.out, by have h1 := HK6.out; have h2 := HRK.out; omega, HJJ.out, HS8.out, HB8.out, HZ8.out, HU8.out⟩
              case measure => omega
          · have HST := Lib.hid (step_over wr HF.out (some ⟨gm, 0, none⟩) hov)
            have HOV := Lib.hid hov
            clear hov
            go_wp2_with fail
            refine HST.out.mono ?_
            rintro e w8 ⟨rfl, s8⟩
            have HF8 := Lib.hid (HF.out.same s8)
            have HM8 := Lib.hid (HM.out.same s8)
            have HS8 := Lib.hid (HSS.out.trans s8)
            have HB8 := Lib.hid (HBO.out.same s8)
            have HZ8 := Lib.hid (Nat.le_trans HBZ.out s8.size)
            have HU8 := Lib.hid (HQU.out.same s8)
            clear s8 HST HF HM HSS HBO HQU HBZ
            obtain ⟨e1, e2⟩ := HJE.out s l HJ.out HOV.out
            unfold Op.fifoEnd at e2
            have hac : answerCode s = s.code := by unfold answerCode; rw [if_pos HOV.out]
            have har : answer s = s.rc := by unfold answer; rw [if_pos HOV.out]
            have AN := answer_any w8 HF8.out HW8.out.1.2 HLV.out.done
            rw [hac, har] at AN
            clear hac har
            rw [if_neg (by simp)] at e2
            cases qs with
            | nil =>
              obtain ⟨k1, k2, k3, k4⟩ := e2
              rw [k1, k2] at AN
              have HS2N : Hid ((s.steps : Int) = 2) := Lib.hid (by rw [k3]; rfl)
              have HHL := Lib.hid (k4.put_other (o' := ⟨1, W, rl, sl, cap, 0, true⟩) rfl rfl rfl)
              obtain rfl : qn = 0 := by have := HQN.out; simpa using this.symm
              clear k1 k2 k3 k4 e1
              have HAN := Lib.hid AN
              clear AN
              go_wp2_with fail
              refine HAN.out.mono ?_
              rintro e w9 ⟨A1, n1, c1, rfl, r1, l1, s9⟩
              have OV := over_any w9 (HF8.out.same s9)
              rw [HOV.out] at OV
              have HOVC := Lib.hid OV
              have HF9 := Lib.hid (HF8.out.same s9)
              have HM9 := Lib.hid (HM8.out.same s9)
              have HS9 := Lib.hid (HS8.out.trans s9)
              have HB9 := Lib.hid (HB8.out.same s9)
              have HU9 := Lib.hid (HU8.out.same s9)
              have HZ9 := Lib.hid (Nat.le_trans HZ8.out s9.size)
              have HR1 := Lib.hid r1
              have HL1 := Lib.hid l1
              clear OV s9 r1 l1 HF8 HM8 HS8 HB8 HU8 HZ8 HAN
              go_wp2_with fail
              refine HOVC.out.mono ?_
              rintro e w' ⟨rfl, rfl⟩
              obtain ⟨d0, d1, d2, d3, d4, d5, d6, d7⟩ := obj_cells HB9.out
              obtain rfl : n1 = 0 := by have := HL1.out; simpa using this.symm
              have ST2 := steps_any w9 HF9.out
              rw [HS2N.out] at ST2
              have HST2 := Lib.hid ST2
              clear ST2
              go_wp2_with fail
              refine HST2.out.mono ?_
              rintro e w' ⟨rfl, rfl⟩
              go_wp2_with fail
              go_roundg GK
              case rel => exact ⟨k + 1, QA, 0, qc, [], qv, l, st, by have := HK.out; omega, by go_num, rfl, rfl, HZ9.out, ⟨HM9.out, HWD.out, HHL.out, HVN.out, HVL.out, HU9.out, HB9.out, HS9.out⟩⟩
              case measure => omega
            | cons r' qs' =>
              obtain ⟨k1, k2, k4⟩ := e2
              rw [k1, k2] at AN
              have HHL := Lib.hid (k4.put_other (o' := ⟨1, W, rl, sl, cap, 0, true⟩) rfl rfl rfl)
              have HN1 : Hid (qn = qs'.length + 1) := Lib.hid (by have := HQN.out; simpa using this.symm)
              obtain ⟨C1, cc1, hv1, hl1, hr1⟩ := HVL.out 0 r' rfl
              have HV1 := Lib.hid hv1
              have HLR := Lib.hid hl1
              have HRR := Lib.hid hr1
              clear k1 k2 k4 e1 hv1 hl1 hr1
              have HAN := Lib.hid AN
              clear AN
              go_wp2_with fail
              refine HAN.out.mono ?_
              rintro e w9 ⟨A1, n1, c1, rfl, r1, l1, s9⟩
              have OV := over_any w9 (HF8.out.same s9)
              rw [HOV.out] at OV
              have HOVC := Lib.hid OV
              have HF9 := Lib.hid (HF8.out.same s9)
              have HM9 := Lib.hid (HM8.out.same s9)
              have HS9 := Lib.hid (HS8.out.trans s9)
              have HB9 := Lib.hid (HB8.out.same s9)
              have HU9 := Lib.hid (HU8.out.same s9)
              have HZ9 := Lib.hid (Nat.le_trans HZ8.out s9.size)
              have HR1 := Lib.hid r1
              have HL1 := Lib.hid l1
              clear OV s9 r1 l1 HF8 HM8 HS8 HB8 HU8 HZ8 HAN
              go_wp2_with fail
              refine HOVC.out.mono ?_
              rintro e w' ⟨rfl, rfl⟩
              obtain ⟨d0, d1, d2, d3, d4, d5, d6, d7⟩ := obj_cells HB9.out
              obtain ⟨qv', hqv⟩ : ∃ qv', qv = .slice C1 W cc1 :: qv' := by
                have := HV1.out
                cases qv with
                | nil => simp at this
                | cons y qv' => simp at this; exact ⟨qv', by rw [this]⟩
              subst hqv
              obtain ⟨qb, qo, hQA, hcell⟩ := HU9.out.row 0 _ rfl
              have hqle := HU9.out.le
              rw [List.length_cons] at hqle
              have hqv1 : qv'.length = qs'.length := by have := HVN.out; simpa using this
              subst hQA
              rw [Nat.add_zero] at hcell
              have hq0 : ((qn : Int) == 0) = false := by have := HN1.out; simp; omega
              have hqp : (0 : Int) < (qn : Int) := by have := HN1.out; omega
              have hq1l : 1 ≤ qn := by have := HN1.out; omega
              have hq1i : (1 : Int) ≤ (qn : Int) := by omega
              have hqc : (qn : Int) ≤ (qc : Int) := by have := HN1.out; omega
              have hqcn : qn ≤ qc := by omega
              have WS := Lib.hid (words_same' A1 C1 n1 W c1 cc1 r' w9 HL1.out HLR.out HR1.out (HRR.out.same HS9.out) (by have := HL1.out; have := HLR.out; have := HW8'.out.1; omega) (by have := HW8'.out.1; omega))
              go_wp2_with fail
              refine WS.out.mono ?_
              rintro e w10 ⟨rfl, s10⟩
              have HM10 := Lib.hid (HM9.out.same s10)
              have HS10 := Lib.hid (HS9.out.trans s10)
              have HB10 := Lib.hid (HB9.out.same s10)
              have HU10 := Lib.hid (HU9.out.same s10)
              have HZ10 := Lib.hid (Nat.le_trans HZ9.out s10.size)
              have HQ1 := Lib.hid hqv1
              clear s10 HM9 HS9 HB9 HZ9 HU9 WS HOVC hqv1 hqle hcell d0 d1 d2 d3 d4 d5 d6 d7
              by_cases hqc1 : qc = 1
              · go_wp2_with fail
                go_roundg GK
                case rel =>
                  refine ⟨k + 1, some ⟨qb, qo, none⟩, qn - 1, 0, qs', qv', l, st, by have := HK.out; omega, by go_num, ?_, by have := HN1.out; omega, HZ10.out, ⟨HM10.out, HWD.out, HHL.out, HQ1.out, fun j r2 hj => HVL.out (j + 1) r2 hj, by have h := HU10.out.tail (some ⟨qb, qo, none⟩) (fun h => absurd hqc1 (by omega)); rw [hqc1] at h; exact h, HB10.out, HS10.out⟩⟩
                  rfl
                case measure => omega
              · go_wp2_with fail
                go_roundg GK
                case rel =>
                  refine ⟨k + 1, some ⟨qb, qo + 1, none⟩, qn - 1, qc - 1, qs', qv', l, st, by have := HK.out; omega, by go_num, ?_, by have := HN1.out; omega, HZ10.out, ⟨HM10.out, HWD.out, HHL.out, HQ1.out, fun j r2 hj => HVL.out (j + 1) r2 hj, HU10.out.tail _ (fun h => rfl), HB10.out, HS10.out⟩⟩
                  rfl
                case measure => omega
      · have hp : (0 : Int) < (r.length : Int) := by omega
        by_cases hrl : r.length = W
        · rw [hrl] at hcw hp
          have HRL := Lib.hid hrl
          clear hr hc hrow hrm h0 hrl
          go_wp2_with fail
          refine (begin_wr W sl 1 cap sa ow ia ra il ic rl rc r C c wr HR.out HRL.out (HRO.out.same HKJ.out.same)).mono ?_
          rintro e wd ⟨g, p, rfl, s3, hg, fb⟩
          have HFB := Lib.hid fb
          have HGB : Hid (BR ≤ g ∧ w.heap.size ≤ g) := Lib.hid ⟨Nat.le_trans HBW.out hg, Nat.le_trans HKJ.out.same.size hg⟩
          have HGR : Hid (¬ R g) := Lib.hid (fun h => by have := HRL2.out g h; have := HGB.out.1; omega)
          have HQB : Hid (∀ b o, QA = some ⟨b, o, none⟩ → qc ≠ 0 → ¬ (R b ∨ b = g)) := Lib.hid (fun b o hA hc h => by
            have h1 := HKJ.out.que.lt b o hA hc
            rcases h with h | h
            · have := HRL2.out b h; omega
            · omega)
          have HM0 := Lib.hid (HKJ.out.mem.same s3)
          have HWD0 := Lib.hid HKJ.out.wd
          have HSM := Lib.hid (HKJ.out.same.trans s3)
          have HBO0 := Lib.hid (HKJ.out.obj.same s3)
          have HQU0 := Lib.hid (HKJ.out.que.same s3)
          have HBD := Lib.hid (Nat.le_trans HBW.out s3.size)
          have HH : Hid (Op.FifoHolds ⟨1, W, rl, sl, cap, 0, true⟩ l0 qs) := Lib.hid (HKJ.out.holds.put_other rfl rfl rfl)
          have HVL := Lib.hid HKJ.out.vals
          have HVN := Lib.hid HKJ.out.len
          have HW8 : Hid (Op.fifoAl ⟨1, W, rl, sl, cap, 0, true⟩) := Lib.hid ⟨HW8'.out.1, HW8'.out.2.1⟩
          have HLV0 := Lib.hid (Op.fifo_first ⟨1, W, rl, sl, cap, 0, true⟩ r HRWD.out (fun _ => HRL.out) (fun h => by cases h))
          have HQG : Hid (¬ q = g) := Lib.hid (fun h => by have := HBO0.out.ne HFB.out.blk.blk (by decide); exact this h)
          obtain ⟨J, hJ0, hJS, hJE⟩ := Op.fifo_case ⟨1, W, rl, sl, cap, 0, true⟩ l0 r qs HW8.out HH.out (fun _ => HRL.out) (fun h => by cases h)
          have HJ0 := Lib.hid hJ0
          have HJS := Lib.hid hJS
          have HJE := Lib.hid hJE
          clear s3 hg fb d0 d1 d2 d3 d4 d5 d6 d7 HKJ HBW hcw hJ0 hJS hJE
          go_wp2_with fail
          go_loopg [] (W + 3) (fun gk wx => ∃ (s : Op.St) (l : List Int) (p : Pt) (st : Int), FB wx g 72 ⟨1, W, rl, sl, cap, 0, true⟩ (2 + sl * W) s p ∧ Mem wx R gm l st ∧ Op.Live Op.fifoOk Op.fifoRank ⟨1, W, rl, sl, cap, 0, true⟩ (Op.fifoMost ⟨1, W, rl, sl, cap, 0, true⟩) s ∧ Op.Wd l ∧ l.length = l0.length ∧ Op.fifoRank ⟨1, W, rl, sl, cap, 0, true⟩ s ≤ gk ∧ J s l ∧ Same w wx ∧ Blk wx q 26 #[.int .i64 6, .int .i64 W, .int .i64 sl, .int .i64 cap, .int .u32 sa, .slice ia il ic, .int .i64 ow, .slice ra rl rc] ∧ BR ≤ wx.heap.size ∧ Qe.Que wx BR 23 QA qc qv)
          case atStart => exact ⟨_, l0, p, st0, HFB.out, HM0.out, HLV0.out, HWD0.out, rfl, by have := HLV0.out.most; simp [Op.start, Op.fifoMost] at this ⊢; omega, HJ0.out, HSM.out, HBO0.out, HBD.out, HQU0.out⟩
          case round =>
            obtain ⟨s, l, p, st, fb, mm, lv, wd, ll, rk, jj, ss, bo, bz, qu⟩ := hrel
            have HF := Lib.hid fb
            have HM := Lib.hid mm
            have HLV := Lib.hid lv
            have HWD := Lib.hid wd
            have HLL := Lib.hid ll
            have HRK := Lib.hid rk
            have HJ := Lib.hid jj
            have HSS := Lib.hid ss
            have HBO := Lib.hid bo
            have HBZ := Lib.hid bz
            have HQU := Lib.hid qu
            clear fb mm lv wd ll rk jj ss bo bz qu HM0 HWD0 HSM HBO0 HQU0 HBD HLV0 HJ0 HFB
            cases hov : s.over
            · have hpos := Op.fifo_pos ⟨1, W, rl, sl, cap, 0, true⟩ s HLV.out.ok hov
              have hgo : Op.goes ⟨1, W, rl, sl, cap, 0, true⟩ (2 + sl * W) s l = true := by
                unfold Op.goes
                rw [hov, HLL.out]
                simp
                exact HH.out.len
              have ST := step_any wr HF.out HM.out HGR.out HWD.out HLV.out (show Op.fifoMost ⟨1, W, rl, sl, cap, 0, true⟩ ≤ 1000 by unfold Op.fifoMost; have := HW8'.out.1.2; simp only; omega) HW8.out rfl
              unfold Asked at ST
              rw [hgo] at ST
              obtain ⟨j1, j2, j3, j4⟩ := Op.fifoLaw.step (size := 2 + sl * W) HW8.out (x := (s, l)) HLV.out HWD.out
              obtain ⟨j5, j6⟩ := j4 hgo
              have jj := HJS.out s l HJ.out hov
              rw [← Op.stepF_yes (F := Op.fifo) (size := 2 + sl * W) (x := (s, l)) hgo] at jj
              have HST := Lib.hid ST
              have HK1 := Lib.hid j1
              have HK2 := Lib.hid j2
              have HK3 := Lib.hid j3
              have HK6 := Lib.hid j6
              have HJJ := Lib.hid jj
              have HPOS := Lib.hid hpos
              clear hov hpos hgo ST j1 j2 j3 j4 j5 j6 jj
              generalize Op.stepF Op.fifo ⟨1, W, rl, sl, cap, 0, true⟩ (2 + sl * W) (s, l) = x7 at *
              cases gk with
              | zero => have := HRK.out; have := HPOS.out; omega
              | succ gk =>
                go_wp2_with fail
                refine HST.out.mono ?_
                rintro e w8 ⟨rfl, p8, fb8, m8, c8⟩
                have HF8 := Lib.hid fb8
                have HM8 := Lib.hid m8
                have HS8 := Lib.hid (HSS.out.more c8 (fun i h => by rcases h with h | h; exact (HRW.out i h).1; rw [h]; exact HGB.out.2))
                have HB8 := Lib.hid (HBO.out.chg c8 (fun h => by rcases h with h | h; have := (HRW.out q h).2; omega; exact HQG.out h))
                have HZ8 := Lib.hid (Nat.le_trans HBZ.out c8.size)
                have HU8 := Lib.hid (HQU.out.chg c8 HQB.out)
                clear fb8 m8 c8 HST
                go_wp2
                go_roundg gk
                case rel => exact ⟨x7.1, x7.2, p8, _, HF8.out, HM8.out, HK1.out, HK2.out, HK3.out.trans HLL.out, by have h1 := HK6.out; have h2 := HRK.out; omega, HJJ.out, HS8.out, HB8.out, HZ8.out, HU8.out⟩
                case measure => omega
            · have HST := Lib.hid (step_over wr HF.out (some ⟨gm, 0, none⟩) hov)
              have HOV := Lib.hid hov
              clear hov
              go_wp2_with fail
              refine HST.out.mono ?_
              rintro e w8 ⟨rfl, s8⟩
              have HF8 := Lib.hid (HF.out.same s8)
              have HM8 := Lib.hid (HM.out.same s8)
              have HS8 := Lib.hid (HSS.out.trans s8)
              have HB8 := Lib.hid (HBO.out.same s8)
              have HZ8 := Lib.hid (Nat.le_trans HBZ.out s8.size)
              have HU8 := Lib.hid (HQU.out.same s8)
              clear s8 HST HF HM HSS HBO HQU HBZ
              obtain ⟨e1, e2⟩ := HJE.out s l HJ.out HOV.out
              unfold Op.fifoEnd at e2
              have hac : answerCode s = s.code := by unfold answerCode; rw [if_pos HOV.out]
              have har : answer s = s.rc := by unfold answer; rw [if_pos HOV.out]
              have AN := answer_any w8 HF8.out HW8.out.1.2 HLV.out.done
              rw [hac, har] at AN
              clear hac har
              rw [if_pos rfl] at e2
              by_cases hfull : qs.length = sl
              · rw [if_pos hfull] at e2
                have E2F := e2
                have hfi : qn = sl := by have := HQN.out; omega
                have hq1 : ((qn : Int) == (sl : Int)) = true := by simp; omega
                clear hfi
                obtain ⟨k1, k2, k3, k4⟩ := E2F
                rw [k1, k2] at AN
                have HS2N : Hid ((s.steps : Int) = 2) := Lib.hid (by rw [k3]; rfl)
                have HHL := Lib.hid (k4.put_other (o' := ⟨1, W, rl, sl, cap, 0, true⟩) rfl rfl rfl)
                clear k1 k2 k3 k4 e1 e2
                have HAN := Lib.hid AN
                clear AN
                go_wp2_with fail
                refine HAN.out.mono ?_
                rintro e w9 ⟨A1, n1, c1, rfl, r1, l1, s9⟩
                have OV := over_any w9 (HF8.out.same s9)
                rw [HOV.out] at OV
                have HOVC := Lib.hid OV
                have HF9 := Lib.hid (HF8.out.same s9)
                have HM9 := Lib.hid (HM8.out.same s9)
                have HS9 := Lib.hid (HS8.out.trans s9)
                have HB9 := Lib.hid (HB8.out.same s9)
                have HU9 := Lib.hid (HU8.out.same s9)
                have HZ9 := Lib.hid (Nat.le_trans HZ8.out s9.size)
                have HR1 := Lib.hid r1
                have HL1 := Lib.hid l1
                clear OV s9 r1 l1 HF8 HM8 HS8 HB8 HU8 HZ8 HAN
                go_wp2_with fail
                refine HOVC.out.mono ?_
                rintro e w' ⟨rfl, rfl⟩
                obtain ⟨d0, d1, d2, d3, d4, d5, d6, d7⟩ := obj_cells HB9.out
                obtain rfl : n1 = 0 := by have := HL1.out; simpa using this.symm
                have ST2 := steps_any w9 HF9.out
                rw [HS2N.out] at ST2
                have HST2 := Lib.hid ST2
                clear ST2
                go_wp2_with fail
                refine HST2.out.mono ?_
                rintro e w' ⟨rfl, rfl⟩
                go_wp2_with fail
                go_roundg GK
                case rel => exact ⟨k + 1, QA, qn, qc, qs, qv, l, st, by have := HK.out; omega, by go_num, rfl, HQN.out, HZ9.out, ⟨HM9.out, HWD.out, HHL.out, HVN.out, HVL.out, HU9.out, HB9.out, HS9.out⟩⟩
                case measure => omega
              · rw [if_neg hfull] at e2
                have E2F := e2
                have hfi : qn ≠ sl := by have := HQN.out; omega
                have hq1 : ((qn : Int) == (sl : Int)) = false := by simp; omega
                clear hfi
                obtain ⟨k1, k2, k4⟩ := E2F
                rw [k1, k2] at AN
                have HHL := Lib.hid k4
                clear k1 k2 k4 e1 e2
                have HAN := Lib.hid AN
                clear AN
                go_wp2_with fail
                refine HAN.out.mono ?_
                rintro e w9 ⟨A1, n1, c1, rfl, r1, l1, s9⟩
                have OV := over_any w9 (HF8.out.same s9)
                rw [HOV.out] at OV
                have HOVC := Lib.hid OV
                have HF9 := Lib.hid (HF8.out.same s9)
                have HM9 := Lib.hid (HM8.out.same s9)
                have HS9 := Lib.hid (HS8.out.trans s9)
                have HB9 := Lib.hid (HB8.out.same s9)
                have HU9 := Lib.hid (HU8.out.same s9)
                have HZ9 := Lib.hid (Nat.le_trans HZ8.out s9.size)
                have HR1 := Lib.hid r1
                have HL1 := Lib.hid l1
                clear OV s9 r1 l1 HF8 HM8 HS8 HB8 HU8 HZ8 HAN
                go_wp2_with fail
                refine HOVC.out.mono ?_
                rintro e w' ⟨rfl, rfl⟩
                obtain ⟨d0, d1, d2, d3, d4, d5, d6, d7⟩ := obj_cells HB9.out
                obtain rfl : n1 = 0 := by have := HL1.out; simpa using this.symm
                go_wp2_with (at_builtin; refine Qe.wpList_que rfl (.tmp 120) (.tmp 122) 27 rfl BR 23 i0 _ 24 Try.underlying27 hi0 hz0 hz1 hz2 rfl QA qn qc qv rfl ?c1 (HU9.out.same ((Same.refl _).alloc _)) ?c2 (.slice C W c) _ 1 rfl ?c3 rfl ?c4 (by omega) ?_)
                case c1 => exact HVN.out.trans HQN.out
                case c2 => have := HZ9.out; have := ((Same.refl w9).alloc (.cells #[.slice C W c] 23)).size; omega
                case c3 => exact (Same.refl _).new (i := 0) rfl
                case c4 => omega
                intro A' c' w10 hq10 hc10
                have HU10 := Lib.hid hq10
                have hns : ∀ b, ((∃ o, QA = some ⟨b, o, none⟩) ∧ ¬ qc = 0) → BR ≤ b ∧ ¬ R b ∧ b < w9.heap.size := fun b ⟨⟨o, hA⟩, hc0⟩ => by
                  have h1 := HU9.out.lt b o hA hc0
                  exact ⟨h1.1, fun h => by have := HRL2.out b h; omega, h1.2⟩
                have HS10 := Lib.hid ((HS9.out.alloc _).more hc10 (fun b hb => by have := (hns b hb).1; have := HWB.out; omega))
                have HM10 := Lib.hid ((HM9.out.same ((Same.refl _).alloc _)).chg hc10 (fun b hR hb => (hns b hb).2.1 hR))
                have HB10 := Lib.hid ((HB9.out.same ((Same.refl _).alloc _)).chg hc10 (fun hb => by have := (hns q hb).1; have := HQBR.out; omega))
                have HZ10 := Lib.hid (Nat.le_trans HZ9.out (Nat.le_trans ((Same.refl w9).alloc (.cells #[.slice C W c] 23)).size hc10.size))
                clear hq10 hc10 hns HU9 HS9 HM9 HB9 HZ9 d0 d1 d2 d3 d4 d5 d6 d7
                go_wp2_with fail
                go_roundg GK
                case rel =>
                  refine ⟨k + 1, A', qn + 1, c', qs ++ [r], qv ++ [.slice C W c], l, st, by have := HK.out; omega, by go_num, rfl, by rw [List.length_append, HQN.out]; rfl, HZ10.out, ⟨HM10.out, HWD.out, HHL.out, by rw [List.length_append, List.length_append, HVN.out]; rfl, ?_, HU10.out, HB10.out, HS10.out⟩⟩
                  intro j r' hj
                  by_cases hjq : j < qs.length
                  · rw [List.getElem?_append_left hjq] at hj
                    obtain ⟨C', c', h1, h2⟩ := HVL.out j r' hj
                    exact ⟨C', c', by rw [List.getElem?_append_left (by have := HVN.out; omega)]; exact h1, h2⟩
                  · rw [List.getElem?_append_right (by omega)] at hj
                    have hj0 : j - qs.length = 0 := by
                      rcases Nat.eq_zero_or_pos (j - qs.length) with h | h
                      · exact h
                      · rw [List.getElem?_eq_none (by rw [List.length_singleton]; exact h)] at hj; cases hj
                    rw [hj0] at hj
                    simp at hj
                    subst hj
                    exact ⟨C, c, by rw [List.getElem?_append_right (by have := HVN.out; omega), show j - qv.length = 0 by have := HVN.out; omega]; rfl, HRL.out, HRO.out⟩
                case measure => omega
        · have hne : ((r.length : Int) != (W : Int)) = true := by simp; omega
          clear hr hc hrow hrm h0 hrl
          go_wp2_with fail
          go_roundg GK
          case rel => exact ⟨k + 1, QA, qn, qc, qs, qv, l0, st0, by have := HK.out; omega, by go_num, rfl, HQN.out, HBW.out, HKJ.out⟩
          case measure => omega

set_option maxRecDepth 100000 in
theorem object_of2 {H : Type} {enc : TypeId × Value → H} {w : World} {base : Nat} {sp : Nat → Bool} {held : Bool} {r : Reach} {b0 : Nat} {v : Value} {d : DataW H} {p : List MemPlace}
    (hv : Value.okWide Try.prog w r b0 26 v) (h : DataW.Trod enc Try.prog w base sp held 26 v d p) :
    ∃ (k wd sl cp sa ow : Int) (ia ra : Option Addr) (il ic rl rc : Nat) (init : List Int), v = .agg #[.int .i64 k, .int .i64 wd, .int .i64 sl, .int .i64 cp, .int .u32 sa, .slice ia il ic, .int .i64 ow, .slice ra rl rc] ∧ init.length = il ∧ Row w ia (init.map (Value.int .u32)) ∧ Op.Wd init ∧ (0 ≤ sa ∧ sa < 4294967296) := by
  obtain ⟨cs, rfl, hsz⟩ := okWide_struct Try.underlying26 hv
  obtain ⟨fuel, hf⟩ := h
  have hc : (Value.agg cs).cells.toList = cs.toList := by simp [Value.cells]
  rw [hc] at hf
  obtain ⟨l⟩ := cs
  have h8 : l.length = 8 := by
    have := hsz.trans (show Try.prog.cellsOf 26 = 8 by kernel_rfl)
    simpa using this
  match l, h8 with
  | [c0, c1, c2, c3, c4, c5, c6, c7], _ =>
    obtain ⟨k, e0, _⟩ := On.int_leaf hf (show On.leafAt Try.prog 6 26 0 = some 3 by kernel_rfl) Try.underlying3
    obtain ⟨wd, e1, _⟩ := On.int_leaf hf (show On.leafAt Try.prog 6 26 1 = some 3 by kernel_rfl) Try.underlying3
    obtain ⟨sl, e2, _⟩ := On.int_leaf hf (show On.leafAt Try.prog 6 26 2 = some 3 by kernel_rfl) Try.underlying3
    obtain ⟨cp, e3, _⟩ := On.int_leaf hf (show On.leafAt Try.prog 6 26 3 = some 3 by kernel_rfl) Try.underlying3
    obtain ⟨sa, e4, b4⟩ := On.int_leaf hf (show On.leafAt Try.prog 6 26 4 = some 22 by kernel_rfl) Try.underlying22
    obtain ⟨ia, il, ic, d5, p5, e5, t5⟩ := On.slice_leaf hf (show On.leafAt Try.prog 6 26 5 = some 23 by kernel_rfl) Try.underlying23
    obtain ⟨ow, e6, _⟩ := On.int_leaf hf (show On.leafAt Try.prog 6 26 6 = some 3 by kernel_rfl) Try.underlying3
    obtain ⟨ra, rl, rc, d7, p7, e7, t7⟩ := On.slice_leaf hf (show On.leafAt Try.prog 6 26 7 = some 24 by kernel_rfl) Try.underlying24
    simp at e0 e1 e2 e3 e4 e5 e6 e7
    subst e0 e1 e2 e3 e4 e5 e6 e7
    obtain ⟨init, hl, hrow, hwf, _⟩ := Fl.ints_of Try.underlying23 Try.underlying22 (by kernel_rfl) t5
    exact ⟨k, wd, sl, cp, sa, ow, ia, ra, il, ic, rl, rc, init, rfl, hl, hrow, fun x hx => Fl.u32_bd (hwf x hx), Fl.u32_bd b4⟩

theorem keeps_big (k wd sl cp sa ow : Int) (ia ra : Option Addr) (il ic rl rc : Nat) (MA : Option Addr) (n mc : Nat) (w : World) (hsm : decide (((il : Nat) : Int) ≤ 100 ∧ ((rl : Nat) : Int) ≤ 100) = false) (hsa : 0 ≤ sa ∧ sa < 4294967296 := by assumption) :
    Calls Try.prog 3 #[.agg #[.int .i64 k, .int .i64 wd, .int .i64 sl, .int .i64 cp, .int .u32 sa, .slice ia il ic, .int .i64 ow, .slice ra rl rc], .slice MA n mc] w fun e w' => e = .returned (.bool true) ∧ Same w w' := by
  have hb := Blk.new w 26 #[.int .i64 k, .int .i64 wd, .int .i64 sl, .int .i64 cp, .int .u32 sa, .slice ia il ic, .int .i64 ow, .slice ra rl rc]
  have s0 := (Same.refl w).alloc (.cells #[.int .i64 k, .int .i64 wd, .int .i64 sl, .int .i64 cp, .int .u32 sa, .slice ia il ic, .int .i64 ow, .slice ra rl rc] 26)
  have HB0 := Lib.hid hb
  have HS0 := Lib.hid s0
  have HSM := Lib.hid hsm
  clear hb s0 hsm
  go_enter Try.func3, Try.ntmps3
  obtain ⟨d0, d1, d2, d3, d4, d5, d6, d7⟩ := obj_cells HB0.out
  go_wp2_with fail
  refine (small_any k wd sl cp sa ow ia ra il ic rl rc _ false HSM.out).mono ?_
  rintro e v1 ⟨rfl, s1⟩
  have HB1 := Lib.hid (HB0.out.same s1)
  have HS1 := Lib.hid (HS0.out.trans s1)
  clear s1 d0 d1 d2 d3 d4 d5 d6 d7 HB0 HS0
  obtain ⟨d0, d1, d2, d3, d4, d5, d6, d7⟩ := obj_cells HB1.out
  go_wp2_with fail
  refine (awake_any _).mono ?_
  rintro e v9 ⟨rfl, s9⟩
  go_wp2
  go_ret
  exact ⟨rfl, HS1.out.trans s9⟩

theorem keeps_many (k wd sl cp sa ow : Int) (ia ra : Option Addr) (il ic rl rc : Nat) (MA : Option Addr) (n mc : Nat) (w : World) (hsm : decide (((il : Nat) : Int) ≤ 100 ∧ ((rl : Nat) : Int) ≤ 100) = true) (hn : ¬ n ≤ 60) (hsa : 0 ≤ sa ∧ sa < 4294967296 := by assumption) :
    Calls Try.prog 3 #[.agg #[.int .i64 k, .int .i64 wd, .int .i64 sl, .int .i64 cp, .int .u32 sa, .slice ia il ic, .int .i64 ow, .slice ra rl rc], .slice MA n mc] w fun e w' => e = .returned (.bool true) ∧ Same w w' := by
  have hb := Blk.new w 26 #[.int .i64 k, .int .i64 wd, .int .i64 sl, .int .i64 cp, .int .u32 sa, .slice ia il ic, .int .i64 ow, .slice ra rl rc]
  have s0 := (Same.refl w).alloc (.cells #[.int .i64 k, .int .i64 wd, .int .i64 sl, .int .i64 cp, .int .u32 sa, .slice ia il ic, .int .i64 ow, .slice ra rl rc] 26)
  have HB0 := Lib.hid hb
  have HS0 := Lib.hid s0
  have HSM := Lib.hid hsm
  have h60 : (60 : Int) < n := by omega
  clear hb s0 hsm
  go_enter Try.func3, Try.ntmps3
  obtain ⟨d0, d1, d2, d3, d4, d5, d6, d7⟩ := obj_cells HB0.out
  go_wp2_with fail
  refine (small_any k wd sl cp sa ow ia ra il ic rl rc _ true HSM.out).mono ?_
  rintro e v1 ⟨rfl, s1⟩
  have HB1 := Lib.hid (HB0.out.same s1)
  have HS1 := Lib.hid (HS0.out.trans s1)
  clear s1 d0 d1 d2 d3 d4 d5 d6 d7 HB0 HS0
  obtain ⟨d0, d1, d2, d3, d4, d5, d6, d7⟩ := obj_cells HB1.out
  go_wp2_with fail
  refine (awake_any _).mono ?_
  rintro e v9 ⟨rfl, s9⟩
  go_wp2
  go_ret
  exact ⟨rfl, HS1.out.trans s9⟩

theorem keeps_not (k wd sl cp sa ow : Int) (ia ra : Option Addr) (il ic rl rc : Nat) (MA : Option Addr) (n mc : Nat) (w : World) (hsm : decide (((il : Nat) : Int) ≤ 100 ∧ ((rl : Nat) : Int) ≤ 100) = true) (hn : n ≤ 60) (hr : k ≠ 6 ∨ rightB wd sl cp sa il rl = false) (hsa : 0 ≤ sa ∧ sa < 4294967296 := by assumption) :
    Calls Try.prog 3 #[.agg #[.int .i64 k, .int .i64 wd, .int .i64 sl, .int .i64 cp, .int .u32 sa, .slice ia il ic, .int .i64 ow, .slice ra rl rc], .slice MA n mc] w fun e w' => e = .returned (.bool true) ∧ Same w w' := by
  have hb := Blk.new w 26 #[.int .i64 k, .int .i64 wd, .int .i64 sl, .int .i64 cp, .int .u32 sa, .slice ia il ic, .int .i64 ow, .slice ra rl rc]
  have s0 := (Same.refl w).alloc (.cells #[.int .i64 k, .int .i64 wd, .int .i64 sl, .int .i64 cp, .int .u32 sa, .slice ia il ic, .int .i64 ow, .slice ra rl rc] 26)
  have HB0 := Lib.hid hb
  have HS0 := Lib.hid s0
  have HSM := Lib.hid hsm
  have h60 : ¬ (60 : Int) < n := by omega
  have HR := Lib.hid hr
  clear hr
  clear hb s0 hsm
  go_enter Try.func3, Try.ntmps3
  obtain ⟨d0, d1, d2, d3, d4, d5, d6, d7⟩ := obj_cells HB0.out
  go_wp2_with fail
  refine (small_any k wd sl cp sa ow ia ra il ic rl rc _ true HSM.out).mono ?_
  rintro e v1 ⟨rfl, s1⟩
  have HB1 := Lib.hid (HB0.out.same s1)
  have HS1 := Lib.hid (HS0.out.trans s1)
  clear s1 d0 d1 d2 d3 d4 d5 d6 d7 HB0 HS0
  obtain ⟨d0, d1, d2, d3, d4, d5, d6, d7⟩ := obj_cells HB1.out
  go_wp2_with fail
  refine (right_none k wd sl cp sa ow ia ra il ic rl rc _ HR.out).mono ?_
  rintro e v2 ⟨rfl, s2⟩
  have HS2 := Lib.hid (HS1.out.trans s2)
  clear s2 HS1 HB1 d0 d1 d2 d3 d4 d5 d6 d7
  have HS1 := HS2
  go_wp2_with fail
  refine (awake_any _).mono ?_
  rintro e v9 ⟨rfl, s9⟩
  go_wp2
  go_ret
  exact ⟨rfl, HS1.out.trans s9⟩

theorem keeps_walk (k wd sl cp sa ow : Int) (ia ra : Option Addr) (il ic rl rc : Nat) (init : List Int) (MA : Option Addr) (n mc : Nat) (rows : List (List Int)) (w : World) (hi : Row w ia (init.map (Value.int .u32))) (hl : init.length = il) (hiw : Op.Wd init) (hM : Mt.Mat w MA rows) (hML : rows.length = n) (hMW : ∀ r ∈ rows, Op.Wd r ∧ r.length ≤ maxLen) (hsa : 0 ≤ sa ∧ sa < 4294967296 := by assumption) :
    Calls Try.prog 3 #[.agg #[.int .i64 k, .int .i64 wd, .int .i64 sl, .int .i64 cp, .int .u32 sa, .slice ia il ic, .int .i64 ow, .slice ra rl rc], .slice MA n mc] w fun e w' => e = .returned (.bool true) ∧ Same w w' := by
  cases hsm : decide (((il : Nat) : Int) ≤ 100 ∧ ((rl : Nat) : Int) ≤ 100)
  · exact keeps_big k wd sl cp sa ow ia ra il ic rl rc MA n mc w hsm
  · by_cases hn : n ≤ 60
    · by_cases hkr : k = 6 ∧ rightB wd sl cp sa il rl = true
      · obtain ⟨rfl, hr⟩ := hkr
        obtain ⟨⟨h1, h2⟩, ⟨h3, h4⟩, h5, _, _, _⟩ := HQ hr
        obtain ⟨W, rfl⟩ := Int.eq_ofNat_of_zero_le (show 0 ≤ wd by omega)
        obtain ⟨cap, rfl⟩ := Int.eq_ofNat_of_zero_le (show 0 ≤ cp by omega)
        obtain ⟨slN, rfl⟩ := Int.eq_ofNat_of_zero_le (show 0 ≤ sl by omega)
        exact keeps_yes W slN cap sa ow ia ra il ic rl rc init MA n mc rows w hsm hn hr hi hl hiw hM hML hMW
      · refine keeps_not k wd sl cp sa ow ia ra il ic rl rc MA n mc w hsm hn ?_
        by_cases hk : k = 6
        · right
          cases hr : rightB wd sl cp sa il rl
          · rfl
          · exact absurd ⟨hk, hr⟩ hkr
        · exact .inl hk
    · exact keeps_many k wd sl cp sa ow ia ra il ic rl rc MA n mc w hsm hn

end Go.Proofs.Ytejajmdmfipplab.Ff
