/-

  The walk of the law ChenKeeps.
-/
import Derived.Test.YtejajmdmfipplabDoorChenReady
import Derived.Test.YtejajmdmfipplabDoorOpChenKeep
import Derived.Test.YtejajmdmfipplabDoorMat
import Derived.Test.YtejajmdmfipplabDoorOpen
import Derived.Deep.CutBlock
set_option linter.unusedSimpArgs false
set_option linter.unusedVariables false
namespace Go.Proofs.YtejajmdmfipplabDoor.Ch
open Go.ChangeShapes Go.WideShapes Go.ChangeAt Go.RowKit Ws Mm Pa
open Go.Proofs.YtejajmdmfipplabDoor.Ob (obj_cells)

theorem lay0_get (W sl rl : Nat) (sa : Int) (init : List Int) (h : init.length = W) (hs : 1 ≤ rl) (hw : 1 ≤ W) (j : Nat) (hj : j < 1 + rl + (rl + 2) * W) : (lay0 W sl rl sa init).getD j 0 = if 1 + rl ≤ j ∧ j < 1 + rl + W then init.getD (j - (1 + rl)) 0 else if j = 0 then sa else 0 := by
  have hpl := place_in W sl rl hs hw
  have e : ∀ j, (List.replicate (1 + rl + (rl + 2) * W) (0 : Int)).getD j 0 = 0 := by
    intro j
    rw [List.getD_eq_getElem?_getD, List.getElem?_replicate]
    split <;> rfl
  unfold lay0
  rw [Op.lay_get _ _ _ _ (by rw [List.length_set, List.length_replicate, h]; omega), h, Op.set_get _ _ _ _ (by rw [List.length_replicate]; omega), e]
theorem first_get (W sl rl : Nat) (sa : Int) (n s c r : Nat) (b : Bool) (init : List Int) (h : init.length = W) (hs : 1 ≤ rl) (hw : 1 ≤ W) (j : Nat) (hj : j < 1 + rl + (rl + 2) * W) :
    Op.get ⟨1, W, n, s, c, r, b⟩ (Op.lay (List.replicate (1 + rl + (rl + 2) * W + 2) 0) 1 (lay0 W sl rl sa init)) j = if 1 + rl ≤ j ∧ j < 1 + rl + W then init.getD (j - (1 + rl)) 0 else if j = 0 then sa else 0 := by
  have := Op.get_lay ⟨1, W, n, s, c, r, b⟩ (List.replicate (1 + rl + (rl + 2) * W + 2) 0) 0 j (lay0 W sl rl sa init) (by rw [lay_len, List.length_replicate]; simp only; omega)
  rw [show (1 : Nat) + 0 = 1 from rfl] at this
  rw [this, lay_len, if_pos ⟨by omega, by omega⟩, Nat.sub_zero]
  exact lay0_get W sl rl sa init h hs hw j hj
/-- a memory in which the object stands holds the first record -/
theorem holds_first (W sl rl : Nat) (sa : Int) (hs0 : sa = 0) (c r : Nat) (b : Bool) (init : List Int) (h : init.length = W) (hs : 1 ≤ rl) (hw : 1 ≤ W) : Op.ChenHolds ⟨1, W, rl, sl, c, r, b⟩ (Op.lay (List.replicate (1 + rl + (rl + 2) * W + 2) 0) 1 (lay0 W sl rl sa init)) init := by
  have hpl := place_in W sl rl hs hw
  have g := first_get W sl rl sa rl sl c r b init h hs hw
  have g0 : Op.get ⟨1, W, rl, sl, c, r, b⟩ (Op.lay (List.replicate (1 + rl + (rl + 2) * W + 2) 0) 1 (lay0 W sl rl sa init)) 0 = 0 := by rw [g 0 (by omega), if_neg (by omega), if_pos rfl, hs0]
  have gn : Op.chenN ⟨1, W, rl, sl, c, r, b⟩ (Op.lay (List.replicate (1 + rl + (rl + 2) * W + 2) 0) 1 (lay0 W sl rl sa init)) = 0 := by
    unfold Op.chenN
    rw [g0]
    rfl
  refine ⟨by rw [Op.lay_length, List.length_replicate]; show 1 + (1 + rl + (rl + 2) * W) ≤ _; omega, ?_⟩
  rw [gn]
  have ek : Op.chenK ⟨1, W, rl, sl, c, r, b⟩ 0 = 1 + rl := by unfold Op.chenK; simp
  rw [ek]
  refine Op.part_eq h fun j hj => ?_
  simp only at hj
  rw [g _ (by omega), if_pos (by omega)]
  congr 1
  omega
theorem first_wd (W sl rl : Nat) (sa : Int) (hsa : 0 ≤ sa ∧ sa < 4294967296) (init : List Int) (h : init.length = W) (hw : Op.Wd init) : Op.Wd (Op.lay (List.replicate (1 + rl + (rl + 2) * W + 2) 0) 1 (lay0 W sl rl sa init)) := by
  have lw : ∀ (ws l : List Int) (k : Nat), Op.Wd ws → Op.Wd l → Op.Wd (Op.lay l k ws) := by
    intro ws
    induction ws with
    | nil => intro l k _ hl; exact hl
    | cons x ws ih =>
      intro l k hx hl
      refine ih _ _ (fun y hy => hx y (List.mem_cons_of_mem _ hy)) ?_
      intro y hy
      rcases List.mem_or_eq_of_mem_set hy with hy | rfl
      · exact hl y hy
      · exact hx _ List.mem_cons_self
  have rw0 : ∀ n, Op.Wd (List.replicate n (0 : Int)) := fun n x hx => by
    have := (List.mem_replicate.1 hx).2
    omega
  refine lw _ _ _ ?_ (rw0 _)
  unfold lay0
  refine lw _ _ _ hw ?_
  intro y hy
  rcases List.mem_or_eq_of_mem_set hy with hy | rfl
  · exact rw0 _ y hy
  · exact hsa
theorem holds_cong {W n s c r c' r' : Nat} {b b' : Bool} {l last : List Int} (h : Op.ChenHolds ⟨1, W, n, s, c, r, b⟩ l last) : Op.ChenHolds ⟨1, W, n, s, c', r', b'⟩ l last := ⟨h.len, h.is⟩
theorem most_le (o : Op.Im) (h : Op.chenAl o) : Op.chenMost o ≤ 1000 := by
  have := h.1.2
  have := h.2.1.2
  unfold Op.chenMost
  split <;> omega

/-- how the loops of the law stand -/
structure KJ (R : Nat → Prop) (gm W sl cap q : Nat) (sa ow : Int) (ia ra : Option Addr) (il ic rl rc : Nat) (w0 wx : World) (LA : Option Addr) (last l : List Int) (st : Int) : Prop where
  mem : Mem wx R gm l st
  wd : Op.Wd l
  holds : Op.ChenHolds ⟨1, W, rl, sl, cap, 0, true⟩ l last
  len : last.length = W
  row : Row w0 LA (last.map (Value.int .u32))
  lwd : Op.Wd last
  obj : Blk wx q 45 #[.int .i64 2, .int .i64 W, .int .i64 sl, .int .i64 cap, .int .u32 sa, .slice ia il ic, .int .i64 ow, .slice ra rl rc]
  same : Same w0 wx

theorem KJ.on {R : Nat → Prop} {gm W sl cap q : Nat} {sa ow : Int} {ia ra : Option Addr} {il ic rl rc : Nat} {w0 wx w' : World} {LA : Option Addr} {last l : List Int} {st : Int} (h : KJ R gm W sl cap q sa ow ia ra il ic rl rc w0 wx LA last l st) (s : Same wx w') : KJ R gm W sl cap q sa ow ia ra il ic rl rc w0 w' LA last l st :=
  ⟨h.mem.same s, h.wd, h.holds, h.len, h.row, h.lwd, h.obj.same s, h.same.trans s⟩
theorem objM {w w' : World} {q b o : Nat} {T : TypeId} {W sl cap : Nat} {sa ow : Int} {ia ra : Option Addr} {il ic rl rc : Nat} {v : Value} (h : Blk w q T #[.int .i64 2, .int .i64 W, .int .i64 sl, .int .i64 cap, .int .u32 sa, .slice ia il ic, .int .i64 ow, .slice ra rl rc]) (hc : w.cell? ⟨b, o, none⟩ = some v) (s : Same w w') : w'.cell? ⟨q, 0, none⟩ = some (.int .i64 2) ∧ w'.cell? ⟨q, 1, none⟩ = some (.int .i64 W) ∧ w'.cell? ⟨q, 2, none⟩ = some (.int .i64 sl) ∧ w'.cell? ⟨q, 3, none⟩ = some (.int .i64 cap) ∧ w'.cell? ⟨q, 4, none⟩ = some (.int .u32 sa) ∧ w'.cell? ⟨q, 5, none⟩ = some (.slice ia il ic) ∧ w'.cell? ⟨q, 6, none⟩ = some (.int .i64 ow) ∧ w'.cell? ⟨q, 7, none⟩ = some (.slice ra rl rc) ∧ w'.cell? ⟨b, o, none⟩ = some v ∧ Same w w' := by
  obtain ⟨a, b, c, d, e, f, g, i⟩ := obj_cells (h.same s)
  exact ⟨a, b, c, d, e, f, g, i, s.cell hc, s⟩

theorem words_same' (A C : Option Addr) (n m c d : Nat) (xs : List Int) (w : World) (hn : xs.length = n) (hm : xs.length = m) (hx : Row w A (xs.map (Value.int .u32))) (hy : Row w C (xs.map (Value.int .u32))) (b1 : n ≤ 4294967296) (b2 : m ≤ 4294967296) :
    Calls Tryd.prog 26 #[.slice A n c, .slice C m d] w fun e w' => e = .returned (.bool true) ∧ Same w w' :=
  (words_eq A C n m c d xs xs w hn hm hx hy b1 b2).mono fun e w' ⟨he, k, hk⟩ => ⟨by rw [he, decide_eq_true rfl], by rw [hk]; exact (Same.refl w).drewN k⟩
theorem objY' {w w' : World} {q : Nat} {T : TypeId} {W sl cap : Nat} {sa ow : Int} {ia ra : Option Addr} {il ic rl rc : Nat} (h : Blk w q T #[.int .i64 2, .int .i64 W, .int .i64 sl, .int .i64 cap, .int .u32 sa, .slice ia il ic, .int .i64 ow, .slice ra rl rc]) (s : Same w w') : w'.cell? ⟨q, 0, none⟩ = some (.int .i64 2) ∧ w'.cell? ⟨q, 1, none⟩ = some (.int .i64 W) ∧ w'.cell? ⟨q, 2, none⟩ = some (.int .i64 sl) ∧ w'.cell? ⟨q, 3, none⟩ = some (.int .i64 cap) ∧ w'.cell? ⟨q, 4, none⟩ = some (.int .u32 sa) ∧ w'.cell? ⟨q, 5, none⟩ = some (.slice ia il ic) ∧ w'.cell? ⟨q, 6, none⟩ = some (.int .i64 ow) ∧ w'.cell? ⟨q, 7, none⟩ = some (.slice ra rl rc) ∧ Same w w' := by
  obtain ⟨a, b, c, d, e, f, g, i⟩ := obj_cells (h.same s)
  exact ⟨a, b, c, d, e, f, g, i, s⟩

set_option maxHeartbeats 8000000 in
set_option maxRecDepth 100000 in
theorem keeps_yes (W sl cap : Nat) (sa ow : Int) (ia ra : Option Addr) (ic rl rc : Nat) (init : List Int) (MA : Option Addr) (n mc : Nat) (rows : List (List Int)) (w : World) (hsm : decide (((W : Nat) : Int) ≤ 100 ∧ ((rl : Nat) : Int) ≤ 100) = true) (hn : n ≤ 40) (hr : rightB W sl cap sa W rl = true)
    (hi : Row w ia (init.map (Value.int .u32))) (hl : init.length = W) (hiw : Op.Wd init) (hM : Mt.Mat w MA rows) (hML : rows.length = n) (hMW : ∀ r ∈ rows, Op.Wd r ∧ r.length ≤ maxLen) (hsa : 0 ≤ sa ∧ sa < 4294967296 := by assumption) (hT : TZ w := by assumption) :
    Calls Tryd.prog 5 #[.agg #[.int .i64 2, .int .i64 W, .int .i64 sl, .int .i64 cap, .int .u32 sa, .slice ia W ic, .int .i64 ow, .slice ra rl rc], .slice MA n mc] w fun e w' => e = .returned (.bool true) ∧ Same w w' := by
  have HTZ := Lib.hid hT
  have HTL : Hid (2 < w.heap.size) := Lib.hid hT.lt
  clear hT
  have hb := Blk.new w 45 #[.int .i64 2, .int .i64 W, .int .i64 sl, .int .i64 cap, .int .u32 sa, .slice ia W ic, .int .i64 ow, .slice ra rl rc]
  have s0 := (Same.refl w).alloc (.cells #[.int .i64 2, .int .i64 W, .int .i64 sl, .int .i64 cap, .int .u32 sa, .slice ia W ic, .int .i64 ow, .slice ra rl rc] 45)
  have HB0 := Lib.hid hb
  have HS0 := Lib.hid s0
  have HSM := Lib.hid hsm
  have HR := Lib.hid hr
  have HI := Lib.hid hi
  have HL := Lib.hid hl
  have HIW := Lib.hid hiw
  have HMA := Lib.hid hM
  have HML := Lib.hid hML
  have HMW := Lib.hid hMW
  have hq := HQ hr
  have HW8' : Hid ((0 < W ∧ W ≤ 8) ∧ (1 ≤ rl ∧ rl ≤ 4)) := Lib.hid (by omega)
  have HSA := Lib.hid hsa
  have HS00 : Hid (sa = 0) := Lib.hid hq.2.2.2.2.2
  have HRI := fun w' => right_any W sl cap sa ow ia ra W ic rl rc w'
  rw [hr] at HRI
  have n40 : ¬ (40 : Int) < n := by omega
  clear hb s0 hsm hr hi hl hiw hM hML hMW hq
  go_enter Tryd.func5, Tryd.ntmps5
  obtain ⟨d0, d1, d2, d3, d4, d5, d6, d7⟩ := obj_cells HB0.out
  go_wp2_with fail
  refine (small_any 2 W sl cap sa ow ia ra W ic rl rc _ true HSM.out).mono ?_
  rintro e v1 ⟨rfl, s1⟩
  have HB1 := Lib.hid (HB0.out.same s1)
  have HS1 := Lib.hid (HS0.out.trans s1)
  clear s1 d0 d1 d2 d3 d4 d5 d6 d7 HB0 HS0
  obtain ⟨d0, d1, d2, d3, d4, d5, d6, d7⟩ := obj_cells HB1.out
  go_wp2_with fail
  refine (HRI _).mono ?_
  rintro e v2 ⟨rfl, s1⟩
  have HB2 := Lib.hid (HB1.out.same s1)
  have HS2 := Lib.hid (HS1.out.trans s1)
  have HI2 := Lib.hid (HI.out.same HS2.out)
  clear s1 d0 d1 d2 d3 d4 d5 d6 d7 HB1 HS1 HRI
  obtain ⟨d0, d1, d2, d3, d4, d5, d6, d7⟩ := obj_cells HB2.out
  go_upto_region 3 with fail
  obtain ⟨q, hq⟩ : ∃ q, q = w.heap.size := ⟨_, rfl⟩
  rw [← hq] at HB2 ⊢
  have HQ0 := Lib.hid hq
  have HQV : Hid (q < v2.heap.size) := Lib.hid HB2.out.lt
  clear d0 d1 d2 d3 d4 d5 d6 d7 hq
  go_region_held3 (fun w' => w'.cell? ⟨q, 0, none⟩ = some (.int .i64 2) ∧ w'.cell? ⟨q, 1, none⟩ = some (.int .i64 W) ∧ w'.cell? ⟨q, 2, none⟩ = some (.int .i64 sl) ∧ w'.cell? ⟨q, 3, none⟩ = some (.int .i64 cap) ∧ w'.cell? ⟨q, 4, none⟩ = some (.int .u32 sa) ∧ w'.cell? ⟨q, 5, none⟩ = some (.slice ia W ic) ∧ w'.cell? ⟨q, 6, none⟩ = some (.int .i64 ow) ∧ w'.cell? ⟨q, 7, none⟩ = some (.slice ra rl rc) ∧ Same v2 w')
    (first | (with_reducible assumption) | (with_reducible exact objY' HB2.out (Same.refl _).drew) | (rcases ‹_ ∧ _ ∧ _ ∧ _ ∧ _ ∧ _ ∧ _ ∧ _ ∧ Same v2 _› with ⟨_, _, _, _, _, _, _, _, x9⟩; (with_reducible exact objY' HB2.out (x9.trans hs))))
    (first | (go_at_call 31; ((with_reducible refine Calls.mono (lay_yes W sl cap sa ow ia ra W ic rl rc init _ HR.out ?_ HL.out) ?_); exact HI2.out.same (‹_ ∧ _ ∧ _ ∧ _ ∧ _ ∧ _ ∧ _ ∧ _ ∧ Same v2 _›).2.2.2.2.2.2.2.2; rintro e w' ⟨g1, rfl, hs, o1⟩; have HO1 := Lib.hid o1.row; clear o1)) | (go_at_call 30; ((with_reducible refine Calls.mono (ready_any W sl v2.heap.size cap sa ow ia ra W ic rl rc init _ _ _ HR.out ?_ ?_) ?_); exact (‹_ ∧ _ ∧ _ ∧ _ ∧ _ ∧ _ ∧ _ ∧ _ ∧ Same v2 _›).2.2.2.2.2.2.2.2.size; (first | (with_reducible exact HO1.out) | exact HO1.out.same hs); rintro e w' ⟨gm, rfl, hs, mm⟩; have HMM := Lib.hid mm; clear mm)))
  rcases ‹_ ∧ _ ∧ _ ∧ _ ∧ _ ∧ _ ∧ _ ∧ _ ∧ Same v2 _› with ⟨_, _, _, _, _, _, _, _, x9⟩
  have HX9 := Lib.hid x9
  clear x9
  have HRV : Hid (∀ i, v2.heap.size ≤ i → w.heap.size ≤ i ∧ q < i) := Lib.hid (fun i hi => ⟨by have := HS2.out.size; omega, by have := HQV.out; omega⟩)
  have HS3 := Lib.hid (HS2.out.trans HX9.out)
  have HB3 := Lib.hid (HB2.out.same HX9.out)
  obtain ⟨R, hR⟩ : ∃ R : Nat → Prop, R = fun i => v2.heap.size ≤ i ∧ i < w'.heap.size := ⟨_, rfl⟩
  have HM3 : Hid (Mem w' R gm (Op.lay (List.replicate (1 + rl + (rl + 2) * W + 2) 0) 1 (lay0 W sl rl sa init)) 0) := Lib.hid (by rw [hR]; exact HMM.out.within)
  have HRW : Hid (∀ i, R i → w.heap.size ≤ i ∧ q < i) := Lib.hid (by rw [hR]; exact fun i hi => HRV.out i hi.1)
  have HRL2 : Hid (∀ i, R i → i < w'.heap.size) := Lib.hid (by rw [hR]; exact fun i hi => hi.2)
  have HWL := Lib.hid (Nat.le_refl w'.heap.size)
  obtain ⟨BR, hBR⟩ : ∃ BR, BR = w'.heap.size := ⟨_, rfl⟩
  rw [← hBR] at HRL2 HWL
  have HBR : Hid (BR ≤ w'.heap.size) := Lib.hid (by omega)
  have kj0 : KJ R gm W sl cap q sa ow ia ra W ic rl rc w w' ia init (Op.lay (List.replicate (1 + rl + (rl + 2) * W + 2) 0) 1 (lay0 W sl rl sa init)) 0 := ⟨HM3.out, first_wd W sl rl sa HSA.out init HL.out HIW.out, holds_first W sl rl sa HS00.out _ _ true init HL.out (by have := HW8'.out; omega) (by have := HW8'.out; omega), HL.out, HI.out, HIW.out, HB3.out, HS3.out⟩
  have HK0 := Lib.hid kj0
  clear kj0 hR hBR HM3 HMM HS2 HS3 HB2 HB3 HX9 HI2 HRV HWL
  obtain ⟨d0, d1, d2, d3, d4, d5, d6, d7⟩ := obj_cells HK0.out.obj
  go_wp2_with fail
  clear d0 d1 d2 d3 d4 d5 d6 d7
  go_loopg [7, 6] (n + 1) (fun gk iv lv wx => ∃ (kk : Nat) (i : Int) (LA : Option Addr) (lc : Nat) (last l : List Int) (st : Int), kk + gk = n + 1 ∧ i = (kk : Int) - 1 ∧ iv = .int .i64 i ∧ lv = .slice LA W lc ∧ BR ≤ wx.heap.size ∧ KJ R gm W sl cap q sa ow ia ra W ic rl rc w wx LA last l st)
  case atStart => exact ⟨0, -1, ia, ic, init, _, 0, by omega, by simp, rfl, rfl, HBR.out, HK0.out⟩
  case round =>
    obtain ⟨kk, i, LA, lc, last, l0, st0, hk, hik, rfl, rfl, hbr, kj⟩ := hrel
    have HK := Lib.hid hk
    have HIK := Lib.hid hik
    have HKJ := Lib.hid kj
    have HBW := Lib.hid hbr
    clear hk hik kj hbr HK0 HBR
    cases gk with
    | zero =>
      have hge : ¬ i < (n : Int) := by have := HK.out; have := HIK.out; omega
      go_wp2_with fail
      refine (awake_any _ (HTZ.out.same (HKJ.out.same))).mono ?_
      rintro e v9 ⟨rfl, s9⟩
      go_wp2
      go_ret
      exact ⟨rfl, HKJ.out.same.trans s9⟩
    | succ GK =>
      have hlt : i < (n : Int) := by have := HK.out; have := HIK.out; omega
      obtain ⟨bb, hbb⟩ : ∃ bb : Bool, bb = true ↔ ∃ (j : Nat) (r : List Int), i = j ∧ rows[j]? = some r ∧ r.length = W := by
        by_cases h : ∃ (j : Nat) (r : List Int), i = j ∧ rows[j]? = some r ∧ r.length = W
        · exact ⟨true, fun _ => h, fun _ => rfl⟩
        · exact ⟨false, (fun h' => by cases h'), fun h' => absurd h' h⟩
      have HBB := Lib.hid hbb
      clear hbb
      obtain ⟨d0, d1, d2, d3, d4, d5, d6, d7⟩ := obj_cells HKJ.out.obj
      go_upto_region 8 with fail
      go_cut [54] from 43 to 54 (fun v wx => ∃ k : Nat, wx = wr.drewN k ∧ v = .bool bb)
      case first =>
        by_cases h0 : i < 0
        · have hb0 : decide (0 ≤ i) = false := by simp; omega
          have hbF : bb = false := by
            cases bb
            · rfl
            · obtain ⟨j, r, hj, _⟩ := HBB.out.1 rfl
              omega
          have HBF := Lib.hid hbF
          clear hbF
          go_quiet (fail)
          go_wp2_with fail
          go_meet
          case rel => exact ⟨nq, rfl, by rw [HBF.out]⟩
        · obtain ⟨j, rfl⟩ := Int.eq_ofNat_of_zero_le (show 0 ≤ i by omega)
          have hb0 : decide (0 ≤ (j : Int)) = true := by simp
          have hjn : j < n := by omega
          obtain ⟨r, hr⟩ : ∃ r, rows[j]? = some r := ⟨_, List.getElem?_eq_getElem (by have := HML.out; omega)⟩
          obtain ⟨b, o, C, c, hMA, hc, hrow⟩ := (HMA.out.same HKJ.out.same) j r hr
          have hnn : (0 : Int) ≤ (j : Int) := by omega
          subst hMA
          by_cases hlen : r.length = W
          · have hbT : bb = true := HBB.out.2 ⟨j, r, rfl, hr, hlen⟩
            rw [hlen] at hc
            have HBT := Lib.hid hbT
            have HLE := Lib.hid hlen
            have HRR := Lib.hid hr
            have HRO := Lib.hid hrow
            clear hbT hlen hr hrow
            go_quiet (fail)
            go_wp2_with fail
            go_meet
            case rel => exact ⟨nq, rfl, by rw [HBT.out]⟩
          · have hbF : bb = false := by
              cases bb
              · rfl
              · obtain ⟨j', r', hj, hr', hl'⟩ := HBB.out.1 rfl
                have : j' = j := by omega
                subst this
                rw [hr] at hr'
                injection hr' with hr'
                subst hr'
                exact absurd hl' hlen
            have hbe : ((r.length : Int) == (W : Int)) = false := by simp; omega
            have HBF := Lib.hid hbF
            have HRR := Lib.hid hr
            have HRO := Lib.hid hrow
            have HNL := Lib.hid hlen
            clear hbF hr hrow hlen
            go_quiet (fail)
            go_wp2_with fail
            go_meet
            case rel => exact ⟨nq, rfl, by rw [HBF.out]⟩
      case rest =>
        obtain ⟨k8, hwc, rfl⟩ := hcut
        go_upto_if 54 with fail
        have hsc : Same wr wc := by rw [hwc]; exact (Same.refl wr).drewN k8
        have HKC := Lib.hid (HKJ.out.on hsc)
        have HBC : Hid (BR ≤ wc.heap.size) := Lib.hid (Nat.le_trans HBW.out hsc.size)
        clear hsc hwc d0 d1 d2 d3 d4 d5 d6 d7 HKJ HBW
        go_cut [6] from 55 to 90 (fun lv wx => ∃ (LA : Option Addr) (lc : Nat) (last l : List Int) (st : Int), lv = .slice LA W lc ∧ BR ≤ wx.heap.size ∧ KJ R gm W sl cap q sa ow ia ra W ic rl rc w wx LA last l st)
        case first =>
          cases bb with
          | false =>
            go_wp2_with fail
            go_meet
            case rel => exact ⟨LA, lc, last, l0, st0, rfl, HBC.out, HKC.out⟩
          | true =>
            obtain ⟨j, r, hij, hr, hrl⟩ := HBB.out.1 rfl
            subst hij
            have hnn : (0 : Int) ≤ (j : Int) := by omega
            obtain ⟨b, o, C, c, hMA, hc, hrow⟩ := HMA.out j r hr
            have hrm : r ∈ rows := List.mem_of_getElem? hr
            rw [hrl] at hc
            have HRL := Lib.hid hrl
            have HRO := Lib.hid hrow
            have HRC := Lib.hid hc
            have HRWD := Lib.hid (HMW.out r hrm).1
            have HCW := Lib.hid (HKC.out.same.cell hc)
            subst hMA
            clear hr hrl hrow hc hrm HBB
            go_wp2_with fail
            go_region_held3 (fun w' => w'.cell? ⟨q, 0, none⟩ = some (.int .i64 2) ∧ w'.cell? ⟨q, 1, none⟩ = some (.int .i64 W) ∧ w'.cell? ⟨q, 2, none⟩ = some (.int .i64 sl) ∧ w'.cell? ⟨q, 3, none⟩ = some (.int .i64 cap) ∧ w'.cell? ⟨q, 4, none⟩ = some (.int .u32 sa) ∧ w'.cell? ⟨q, 5, none⟩ = some (.slice ia W ic) ∧ w'.cell? ⟨q, 6, none⟩ = some (.int .i64 ow) ∧ w'.cell? ⟨q, 7, none⟩ = some (.slice ra rl rc) ∧ w'.cell? ⟨b, o + j, none⟩ = some (.slice C W c) ∧ Same wc w')
              (first | (with_reducible assumption) | (with_reducible exact objM HKC.out.obj HCW.out (Same.refl _).drew) | (rcases ‹_ ∧ _ ∧ _ ∧ _ ∧ _ ∧ _ ∧ _ ∧ _ ∧ _ ∧ Same wc _› with ⟨_, _, _, _, _, _, _, _, _, x9⟩; (with_reducible exact objM HKC.out.obj HCW.out (x9.trans hs))))
              (first | (go_at_call 15; ((with_reducible refine Calls.mono (begin_wr W sl 1 cap sa ow ia ra W ic rl rc r C c _ HR.out HRL.out ?_) ?_); exact HRO.out.same (HKC.out.same.trans (‹_ ∧ _ ∧ _ ∧ _ ∧ _ ∧ _ ∧ _ ∧ _ ∧ _ ∧ Same wc _›).2.2.2.2.2.2.2.2.2); rintro e w' ⟨g, p, rfl, hs, hg, fb⟩; have HFB := Lib.hid fb; have HGB : Hid (BR ≤ g ∧ w.heap.size ≤ g) := Lib.hid (by have := (HKC.out.same.trans (‹_ ∧ _ ∧ _ ∧ _ ∧ _ ∧ _ ∧ _ ∧ _ ∧ _ ∧ Same wc _›).2.2.2.2.2.2.2.2.2).size; have := (‹_ ∧ _ ∧ _ ∧ _ ∧ _ ∧ _ ∧ _ ∧ _ ∧ _ ∧ Same wc _›).2.2.2.2.2.2.2.2.2.size; have := HBC.out; omega); clear fb hg)))
            rcases ‹_ ∧ _ ∧ _ ∧ _ ∧ _ ∧ _ ∧ _ ∧ _ ∧ _ ∧ Same wc _› with ⟨_, _, _, _, _, _, _, _, _, x9⟩
            have HX9 := Lib.hid x9
            clear x9
            have HKD := Lib.hid (HKC.out.on HX9.out)
            have HBD : Hid (BR ≤ w'.heap.size) := Lib.hid (Nat.le_trans HBC.out HX9.out.size)
            clear HKC HBC HX9 HCW
            have HM0 := Lib.hid HKD.out.mem
            have HWD := Lib.hid HKD.out.wd
            have HH : Hid (Op.ChenHolds ⟨1, W, rl, sl, cap, 0, true⟩ l0 last) := Lib.hid HKD.out.holds
            have HSM := Lib.hid HKD.out.same
            have HBO := Lib.hid HKD.out.obj
            have HW8 : Hid (Op.chenAl ⟨1, W, rl, sl, cap, 0, true⟩) := Lib.hid ⟨HW8'.out.1, HW8'.out.2, HW8'.out.2.1⟩
            have HW0 : Hid (0 < (⟨1, W, rl, sl, cap, 0, true⟩ : Op.Im).width) := Lib.hid HW8'.out.1.1
            have HLV := Lib.hid (Op.chen_first ⟨1, W, rl, sl, cap, 0, true⟩ r HRWD.out (fun _ => HRL.out) (fun h => by cases h))
            have HJ0 : Hid (Op.chenJ ⟨1, W, rl, sl, cap, 0, true⟩ l0 r (Op.start r) l0) := Lib.hid (.inl ⟨rfl, rfl, by simp [Op.start], .inl ⟨by simp [Op.start], rfl⟩⟩)
            have HGR : Hid (¬ R g) := Lib.hid (fun h => by have := HRL2.out g h; have := HGB.out.1; omega)
            have HGW : Hid (w.heap.size ≤ g) := Lib.hid HGB.out.2
            have HQG : Hid (¬ q = g) := Lib.hid (fun h => by have := HBO.out.ne HFB.out.blk.blk (by decide); exact this h)
            have HCL : Hid (w'.cell? ⟨b, o + j, none⟩ = some (.slice C W c)) := Lib.hid (HSM.out.cell HRC.out)
            have HLAST := Lib.hid HKD.out.lwd
            clear HKD
            generalize w' = wd at *
            go_wp2_with fail
            go_loopg [] (W + 2 * rl + 4) (fun gk wx => ∃ (s : Op.St) (l : List Int) (p : Pt) (st : Int), FB wx g 96 ⟨1, W, rl, sl, cap, 0, true⟩ (1 + rl + (rl + 2) * W) s p ∧ Mem wx R gm l st ∧ Op.Live Op.chenOk Op.chenRank ⟨1, W, rl, sl, cap, 0, true⟩ (Op.chenMost ⟨1, W, rl, sl, cap, 0, true⟩) s ∧ Op.Wd l ∧ l.length = l0.length ∧ Op.chenRank ⟨1, W, rl, sl, cap, 0, true⟩ s ≤ gk ∧ Op.chenJ ⟨1, W, rl, sl, cap, 0, true⟩ l0 r s l ∧ Same w wx ∧ Blk wx q 45 #[.int .i64 2, .int .i64 W, .int .i64 sl, .int .i64 cap, .int .u32 sa, .slice ia W ic, .int .i64 ow, .slice ra rl rc] ∧ BR ≤ wx.heap.size)
            case atStart => exact ⟨_, l0, p, st0, HFB.out, HM0.out, HLV.out, HWD.out, rfl, by have := HLV.out.most; simp [Op.start, Op.chenMost] at this ⊢; omega, HJ0.out, HSM.out, HBO.out, HBD.out⟩
            case round =>
              obtain ⟨s, l, p, st, fb, mm, lv, wd, ll, rk, jj, ss, bo, bz⟩ := hrel
              have HF := Lib.hid fb
              have HM := Lib.hid mm
              have HLV := Lib.hid lv
              have HWD := Lib.hid wd
              have HLL := Lib.hid ll
              have HRK := Lib.hid rk
              have HJ := Lib.hid jj
              have HSS := Lib.hid ss
              have HBO := Lib.hid bo
              have HBZ := Lib.hid bz
              clear fb mm lv wd ll rk jj ss bo bz
              cases hov : s.over
              · have hpos := Op.chen_pos ⟨1, W, rl, sl, cap, 0, true⟩ s HW8.out HLV.out.ok hov
                have hgo : Op.goes ⟨1, W, rl, sl, cap, 0, true⟩ (1 + rl + (rl + 2) * W) s l = true := by
                  unfold Op.goes
                  rw [hov, HLL.out]
                  simp
                  exact HH.out.len
                have ST := step_any wr (HTZ.out.same HSS.out) ⟨fun h => by have := (HRW.out _ h).1; have := HTL.out; omega, fun e => by have := HGW.out; have := HTL.out; omega⟩ HF.out HM.out HGR.out HWD.out HLV.out (most_le ⟨1, W, rl, sl, cap, 0, true⟩ HW8.out) HW8.out rfl
                unfold Asked at ST
                rw [hgo] at ST
                obtain ⟨j1, j2, j3, j4⟩ := Op.chenLaw.step (size := 1 + rl + (rl + 2) * W) HW8.out (x := (s, l)) HLV.out HWD.out
                obtain ⟨j5, j6⟩ := j4 hgo
                have jj := Op.chenJ_step ⟨1, W, rl, sl, cap, 0, true⟩ l0 r s l HW8.out HH.out.len rfl HRL.out HJ.out hov
                rw [← Op.stepF_yes (F := Op.chen) (size := 1 + rl + (rl + 2) * W) (x := (s, l)) hgo] at jj
                have HST := Lib.hid ST
                have HK1 := Lib.hid j1
                have HK2 := Lib.hid j2
                have HK3 := Lib.hid j3
                have HK6 := Lib.hid j6
                have HJJ := Lib.hid jj
                have HPOS := Lib.hid hpos
                clear hov hpos hgo ST j1 j2 j3 j4 j5 j6 jj
                generalize Op.stepF Op.chen ⟨1, W, rl, sl, cap, 0, true⟩ (1 + rl + (rl + 2) * W) (s, l) = x7 at *
                cases gk with
                | zero => have := HRK.out; have := HPOS.out; omega
                | succ gk =>
                  go_wp2_with fail
                  refine HST.out.mono ?_
                  rintro e w8 ⟨rfl, p8, fb8, m8, c8⟩
                  have HF8 := Lib.hid fb8
                  have HM8 := Lib.hid m8
                  have HS8 := Lib.hid (HSS.out.more c8 (fun i h => by rcases h with h | h; exact (HRW.out i h).1; rw [h]; exact HGW.out))
                  have HB8 := Lib.hid (HBO.out.chg c8 (fun h => by rcases h with h | h; have := (HRW.out q h).2; omega; exact HQG.out h))
                  have HZ8 := Lib.hid (Nat.le_trans HBZ.out c8.size)
                  clear fb8 m8 c8 HST
                  go_wp2
                  go_roundg gk
                  case rel => exact ⟨x7.1, x7.2, p8, _, HF8.out, HM8.out, HK1.out, HK2.out, HK3.out.trans HLL.out, by have h1 := HK6.out; have h2 := HRK.out; omega, HJJ.out, HS8.out, HB8.out, HZ8.out⟩
                  case measure => omega
              · have HST := Lib.hid (step_over wr HF.out (some ⟨gm, 0, none⟩) hov)
                have HOV := Lib.hid hov
                clear hov
                go_wp2_with fail
                refine HST.out.mono ?_
                rintro e w8 ⟨rfl, s8⟩
                have HF8 := Lib.hid (HF.out.same s8)
                have HM8 := Lib.hid (HM.out.same s8)
                have HS8 := Lib.hid (HSS.out.trans s8)
                have HB8 := Lib.hid (HBO.out.same s8)
                have HZ8 := Lib.hid (Nat.le_trans HBZ.out s8.size)
                clear s8 HST HF HM HSS HBO
                have H4 := Lib.hid (Op.chen_wrote ⟨1, W, rl, sl, cap, 0, true⟩ l0 last r s l HW8.out HLV.out.ok HH.out HRL.out HJ.out HOV.out)
                have hac : answerCode s = 0 := by unfold answerCode; rw [if_pos HOV.out]; exact H4.out.1
                have AN := answer_any w8 HF8.out HW8.out.1.2 HLV.out.done
                rw [hac] at AN
                have HAN := Lib.hid AN
                clear AN hac
                go_wp2_with fail
                refine HAN.out.mono ?_
                rintro e w9 ⟨A1, n1, c1, rfl, _, _, s9⟩
                have OV := over_any w9 (HF8.out.same s9)
                rw [HOV.out] at OV
                have HOVC := Lib.hid OV
                have HM9 := Lib.hid (HM8.out.same s9)
                have HS9 := Lib.hid (HS8.out.trans s9)
                have HB9 := Lib.hid (HB8.out.same s9)
                have hc9 := HS9.out.cell HRC.out
                have HZ9 := Lib.hid (Nat.le_trans HZ8.out s9.size)
                clear OV s9 HF8 HM8 HS8 HB8 HAN
                go_wp2_with fail
                refine HOVC.out.mono ?_
                rintro e w' ⟨rfl, rfl⟩
                go_wp2_with fail
                go_meet
                case rel => exact ⟨C, c, r, l, st, rfl, HZ9.out, ⟨HM9.out, HWD.out, H4.out.2.2, HRL.out, HRO.out, HRWD.out, HB9.out, HS9.out⟩⟩
        case rest =>
          obtain ⟨LA2, lc2, last2, l2, st2, rfl, hbr2, kj2⟩ := hcut
          have HK2 := Lib.hid kj2
          have HB2 := Lib.hid hbr2
          clear kj2 hbr2 HKC HBC HBB
          obtain ⟨d0, d1, d2, d3, d4, d5, d6, d7⟩ := obj_cells HK2.out.obj
          go_wp2_with fail
          clear d0 d1 d2 d3 d4 d5 d6 d7
          go_loopg [94] rl (fun gk iv wx => ∃ (k2 : Nat) (l : List Int) (st : Int), k2 + gk = rl ∧ iv = .int .i64 k2 ∧ BR ≤ wx.heap.size ∧ KJ R gm W sl cap q sa ow ia ra W ic rl rc w wx LA2 last2 l st)
          case atStart => exact ⟨0, l2, st2, by omega, rfl, HB2.out, HK2.out⟩
          case round =>
            obtain ⟨k2, l0, st0, hk2, rfl, hbr, kj⟩ := hrel
            have HK2K := Lib.hid hk2
            have HKD := Lib.hid kj
            have HBD := Lib.hid hbr
            clear hk2 kj hbr HK2 HB2
            cases gk with
            | zero =>
              obtain rfl : k2 = rl := by have := HK2K.out; omega
              have hi1 : -1 ≤ i := by have := HIK.out; omega
              have hi2 : i ≤ 40 := by omega
              go_wp2_with fail
              go_roundg GK
              case rel => exact ⟨kk + 1, i + 1, LA2, lc2, last2, l0, st0, by have := HK.out; omega, by have := HIK.out; omega, rfl, rfl, HBD.out, HKD.out⟩
              case measure => omega
            | succ G2 =>
              have hk2l : k2 < rl := by have := HK2K.out; omega
              have hk2i : (k2 : Int) < rl := by omega
              have hk2b : (k2 : Int) ≤ 4 := by have := (HQ HR.out).2.2.1; omega
              have hk20 : (0 : Int) ≤ k2 := by omega
              obtain ⟨d0, d1, d2, d3, d4, d5, d6, d7⟩ := obj_cells HKD.out.obj
              go_wp2_with fail
              refine (begin_rd W sl 1 cap k2 sa ow ia ra W ic rl rc none 0 wr HR.out hk2l).mono ?_
              rintro e wd ⟨g, p, rfl, s3, hg, fb⟩
              have HFB := Lib.hid fb
              have HGB : Hid (BR ≤ g ∧ w.heap.size ≤ g) := Lib.hid ⟨Nat.le_trans HBD.out hg, Nat.le_trans HKD.out.same.size hg⟩
              have HKE := Lib.hid (HKD.out.on s3)
              have HBE := Lib.hid (Nat.le_trans HBD.out s3.size)
              clear s3 hg fb d0 d1 d2 d3 d4 d5 d6 d7 HKD HBD
              have HBD := HBE
              have HM0 := Lib.hid HKE.out.mem
              have HWD := Lib.hid HKE.out.wd
              have HH : Hid (Op.ChenHolds ⟨1, W, rl, sl, cap, k2, false⟩ l0 last2) := Lib.hid (holds_cong HKE.out.holds)
              have HSM := Lib.hid HKE.out.same
              have HBO := Lib.hid HKE.out.obj
              have HW8 : Hid (Op.chenAl ⟨1, W, rl, sl, cap, k2, false⟩) := Lib.hid ⟨HW8'.out.1, HW8'.out.2, hk2l⟩
              have HW0 : Hid (0 < (⟨1, W, rl, sl, cap, k2, false⟩ : Op.Im).width) := Lib.hid HW8'.out.1.1
              have HLV := Lib.hid (Op.chen_first ⟨1, W, rl, sl, cap, k2, false⟩ [] (fun x hx => by cases hx) (fun h => by cases h) (fun _ => rfl))
              have HJ0 : Hid (Op.chenJR ⟨1, W, rl, sl, cap, k2, false⟩ l0 (Op.start []) l0) := Lib.hid (.inl ⟨rfl, by simp [Op.start], Op.Alike.refl _ _, by simp [Op.start], by simp [Op.start], by simp [Op.start], fun _ => rfl, by simp [Op.start]⟩)
              have HGR : Hid (¬ R g) := Lib.hid (fun h => by have := HRL2.out g h; have := HGB.out.1; omega)
              have HGW : Hid (w.heap.size ≤ g) := Lib.hid HGB.out.2
              have HQG : Hid (¬ q = g) := Lib.hid (fun h => by have := HBO.out.ne HFB.out.blk.blk (by decide); exact this h)
              have HLEN := Lib.hid HKE.out.len
              have HLW := Lib.hid HKE.out.lwd
              have HROW := Lib.hid HKE.out.row
              clear HKE HBE
              go_wp2_with fail
              go_loopg [] (W + 2 * rl + 4) (fun gk wx => ∃ (s : Op.St) (l : List Int) (p : Pt) (st : Int), FB wx g 96 ⟨1, W, rl, sl, cap, k2, false⟩ (1 + rl + (rl + 2) * W) s p ∧ Mem wx R gm l st ∧ Op.Live Op.chenOk Op.chenRank ⟨1, W, rl, sl, cap, k2, false⟩ (Op.chenMost ⟨1, W, rl, sl, cap, k2, false⟩) s ∧ Op.Wd l ∧ l.length = l0.length ∧ Op.chenRank ⟨1, W, rl, sl, cap, k2, false⟩ s ≤ gk ∧ Op.chenJR ⟨1, W, rl, sl, cap, k2, false⟩ l0 s l ∧ Same w wx ∧ Blk wx q 45 #[.int .i64 2, .int .i64 W, .int .i64 sl, .int .i64 cap, .int .u32 sa, .slice ia W ic, .int .i64 ow, .slice ra rl rc] ∧ BR ≤ wx.heap.size)
              case atStart => exact ⟨_, l0, p, st0, HFB.out, HM0.out, HLV.out, HWD.out, rfl, by have := HLV.out.most; simp [Op.start, Op.chenMost] at this ⊢; omega, HJ0.out, HSM.out, HBO.out, HBD.out⟩
              case round =>
                obtain ⟨s, l, p, st, fb, mm, lv, wd, ll, rk, jj, ss, bo, bz⟩ := hrel
                have HF := Lib.hid fb
                have HM := Lib.hid mm
                have HLV := Lib.hid lv
                have HWD := Lib.hid wd
                have HLL := Lib.hid ll
                have HRK := Lib.hid rk
                have HJ := Lib.hid jj
                have HSS := Lib.hid ss
                have HBO := Lib.hid bo
                have HBZ := Lib.hid bz
                clear fb mm lv wd ll rk jj ss bo bz
                cases hov : s.over
                · have hpos := Op.chen_pos ⟨1, W, rl, sl, cap, k2, false⟩ s HW8.out HLV.out.ok hov
                  have hgo : Op.goes ⟨1, W, rl, sl, cap, k2, false⟩ (1 + rl + (rl + 2) * W) s l = true := by
                    unfold Op.goes
                    rw [hov, HLL.out]
                    simp
                    exact HH.out.len
                  have ST := step_any wr (HTZ.out.same HSS.out) ⟨fun h => by have := (HRW.out _ h).1; have := HTL.out; omega, fun e => by have := HGW.out; have := HTL.out; omega⟩ HF.out HM.out HGR.out HWD.out HLV.out (most_le ⟨1, W, rl, sl, cap, k2, false⟩ HW8.out) HW8.out rfl
                  unfold Asked at ST
                  rw [hgo] at ST
                  obtain ⟨j1, j2, j3, j4⟩ := Op.chenLaw.step (size := 1 + rl + (rl + 2) * W) HW8.out (x := (s, l)) HLV.out HWD.out
                  obtain ⟨j5, j6⟩ := j4 hgo
                  have jj := Op.chenJR_step ⟨1, W, rl, sl, cap, k2, false⟩ l0 s l HW8.out HH.out.len rfl HJ.out hov
                  rw [← Op.stepF_yes (F := Op.chen) (size := 1 + rl + (rl + 2) * W) (x := (s, l)) hgo] at jj
                  have HST := Lib.hid ST
                  have HK1 := Lib.hid j1
                  have HK2 := Lib.hid j2
                  have HK3 := Lib.hid j3
                  have HK6 := Lib.hid j6
                  have HJJ := Lib.hid jj
                  have HPOS := Lib.hid hpos
                  clear hov hpos hgo ST j1 j2 j3 j4 j5 j6 jj
                  generalize Op.stepF Op.chen ⟨1, W, rl, sl, cap, k2, false⟩ (1 + rl + (rl + 2) * W) (s, l) = x7 at *
                  cases gk with
                  | zero => have := HRK.out; have := HPOS.out; omega
                  | succ gk =>
                    go_wp2_with fail
                    refine HST.out.mono ?_
                    rintro e w8 ⟨rfl, p8, fb8, m8, c8⟩
                    have HF8 := Lib.hid fb8
                    have HM8 := Lib.hid m8
                    have HS8 := Lib.hid (HSS.out.more c8 (fun i h => by rcases h with h | h; exact (HRW.out i h).1; rw [h]; exact HGW.out))
                    have HB8 := Lib.hid (HBO.out.chg c8 (fun h => by rcases h with h | h; have := (HRW.out q h).2; omega; exact HQG.out h))
                    have HZ8 := Lib.hid (Nat.le_trans HBZ.out c8.size)
                    clear fb8 m8 c8 HST
                    go_wp2
                    go_roundg gk
                    case rel => exact ⟨x7.1, x7.2, p8, _, HF8.out, HM8.out, HK1.out, HK2.out, HK3.out.trans HLL.out, by have h1 := HK6.out; have h2 := HRK.out; omega, HJJ.out, HS8.out, HB8.out, HZ8.out⟩
                    case measure => omega
                · have HST := Lib.hid (step_over wr HF.out (some ⟨gm, 0, none⟩) hov)
                  have HOV := Lib.hid hov
                  clear hov
                  go_wp2_with fail
                  refine HST.out.mono ?_
                  rintro e w8 ⟨rfl, s8⟩
                  have HF8 := Lib.hid (HF.out.same s8)
                  have HM8 := Lib.hid (HM.out.same s8)
                  have HS8 := Lib.hid (HSS.out.trans s8)
                  have HB8 := Lib.hid (HBO.out.same s8)
                  have HZ8 := Lib.hid (Nat.le_trans HBZ.out s8.size)
                  clear s8 HST HF HM HSS HBO
                  have H4 := Lib.hid (Op.chen_told ⟨1, W, rl, sl, cap, k2, false⟩ l0 last2 s l HH.out HJ.out HOV.out)
                  have hac : answerCode s = 0 := by unfold answerCode; rw [if_pos HOV.out]; exact H4.out.1
                  have har : answer s = last2 := by unfold answer; rw [if_pos HOV.out]; exact H4.out.2.1
                  have AN := answer_any w8 HF8.out HW8.out.1.2 HLV.out.done
                  rw [hac, har] at AN
                  have HAN := Lib.hid AN
                  clear AN hac har
                  go_wp2_with fail
                  refine HAN.out.mono ?_
                  rintro e w9 ⟨A1, n1, c1, rfl, r1, l1, s9⟩
                  have OV := over_any w9 (HF8.out.same s9)
                  rw [HOV.out] at OV
                  have HOVC := Lib.hid OV
                  have HM9 := Lib.hid (HM8.out.same s9)
                  have HS9 := Lib.hid (HS8.out.trans s9)
                  have HB9 := Lib.hid (HB8.out.same s9)
                  have HZ9 := Lib.hid (Nat.le_trans HZ8.out s9.size)
                  have WS := Lib.hid (words_same' A1 LA2 n1 W c1 lc2 last2 w9 l1 HLEN.out r1 (HROW.out.same HS9.out) (by have := HLEN.out; have := HW8'.out.1; omega) (by have := HW8'.out.1; omega))
                  clear OV s9 r1 l1 HF8 HM8 HS8 HB8 HAN
                  go_wp2_with fail
                  refine HOVC.out.mono ?_
                  rintro e w' ⟨rfl, rfl⟩
                  go_wp2_with fail
                  refine WS.out.mono ?_
                  rintro e w10 ⟨rfl, s10⟩
                  have HM10 := Lib.hid (HM9.out.same s10)
                  have HS10 := Lib.hid (HS9.out.trans s10)
                  have HB10 := Lib.hid (HB9.out.same s10)
                  have HZ10 := Lib.hid (Nat.le_trans HZ9.out s10.size)
                  clear s10 HM9 HS9 HB9 HZ9 WS HOVC
                  go_wp2
                  go_roundg G2
                  case rel => exact ⟨k2 + 1, l, st, by have := HK2K.out; omega, by simp, HZ10.out, ⟨HM10.out, HWD.out, holds_cong H4.out.2.2.2, HLEN.out, HROW.out, HLW.out, HB10.out, HS10.out⟩⟩
                  case measure => omega

set_option maxRecDepth 100000 in
theorem object_of2 {H : Type} {enc : TypeId × Value → H} {w : World} {base : Nat} {sp : Nat → Bool} {held : Bool} {r : Reach} {b0 : Nat} {v : Value} {d : DataW H} {p : List MemPlace}
    (hv : Value.okWide Tryd.prog w r b0 45 v) (h : DataW.Trod enc Tryd.prog w base sp held 45 v d p) :
    ∃ (k wd sl cp sa ow : Int) (ia ra : Option Addr) (il ic rl rc : Nat) (init : List Int), v = .agg #[.int .i64 k, .int .i64 wd, .int .i64 sl, .int .i64 cp, .int .u32 sa, .slice ia il ic, .int .i64 ow, .slice ra rl rc] ∧ init.length = il ∧ Row w ia (init.map (Value.int .u32)) ∧ Op.Wd init ∧ (0 ≤ sa ∧ sa < 4294967296) := by
  obtain ⟨cs, rfl, hsz⟩ := okWide_struct Tryd.underlying45 hv
  obtain ⟨fuel, hf⟩ := h
  have hc : (Value.agg cs).cells.toList = cs.toList := by simp [Value.cells]
  rw [hc] at hf
  obtain ⟨l⟩ := cs
  have h8 : l.length = 8 := by
    have := hsz.trans (show Tryd.prog.cellsOf 45 = 8 by kernel_rfl)
    simpa using this
  match l, h8 with
  | [c0, c1, c2, c3, c4, c5, c6, c7], _ =>
    obtain ⟨k, e0, _⟩ := On.int_leaf hf (show On.leafAt Tryd.prog 6 45 0 = some 3 by kernel_rfl) Tryd.underlying3
    obtain ⟨wd, e1, _⟩ := On.int_leaf hf (show On.leafAt Tryd.prog 6 45 1 = some 3 by kernel_rfl) Tryd.underlying3
    obtain ⟨sl, e2, _⟩ := On.int_leaf hf (show On.leafAt Tryd.prog 6 45 2 = some 3 by kernel_rfl) Tryd.underlying3
    obtain ⟨cp, e3, _⟩ := On.int_leaf hf (show On.leafAt Tryd.prog 6 45 3 = some 3 by kernel_rfl) Tryd.underlying3
    obtain ⟨sa, e4, b4⟩ := On.int_leaf hf (show On.leafAt Tryd.prog 6 45 4 = some 22 by kernel_rfl) Tryd.underlying22
    obtain ⟨ia, il, ic, d5, p5, e5, t5⟩ := On.slice_leaf hf (show On.leafAt Tryd.prog 6 45 5 = some 28 by kernel_rfl) Tryd.underlying28
    obtain ⟨ow, e6, _⟩ := On.int_leaf hf (show On.leafAt Tryd.prog 6 45 6 = some 3 by kernel_rfl) Tryd.underlying3
    obtain ⟨ra, rl, rc, d7, p7, e7, t7⟩ := On.slice_leaf hf (show On.leafAt Tryd.prog 6 45 7 = some 24 by kernel_rfl) Tryd.underlying24
    simp at e0 e1 e2 e3 e4 e5 e6 e7
    subst e0 e1 e2 e3 e4 e5 e6 e7
    obtain ⟨init, hl, hrow, hwf, _⟩ := Fl.ints_of Tryd.underlying28 Tryd.underlying22 (by kernel_rfl) t5
    exact ⟨k, wd, sl, cp, sa, ow, ia, ra, il, ic, rl, rc, init, rfl, hl, hrow, fun x hx => Fl.u32_bd (hwf x hx), Fl.u32_bd b4⟩

theorem keeps_big (k wd sl cp sa ow : Int) (ia ra : Option Addr) (il ic rl rc : Nat) (MA : Option Addr) (n mc : Nat) (w : World) (hsm : decide (((il : Nat) : Int) ≤ 100 ∧ ((rl : Nat) : Int) ≤ 100) = false) (hsa : 0 ≤ sa ∧ sa < 4294967296 := by assumption) (hT : TZ w := by assumption) :
    Calls Tryd.prog 5 #[.agg #[.int .i64 k, .int .i64 wd, .int .i64 sl, .int .i64 cp, .int .u32 sa, .slice ia il ic, .int .i64 ow, .slice ra rl rc], .slice MA n mc] w fun e w' => e = .returned (.bool true) ∧ Same w w' := by
  have HTZ := Lib.hid hT
  have HTL : Hid (2 < w.heap.size) := Lib.hid hT.lt
  clear hT
  have hb := Blk.new w 45 #[.int .i64 k, .int .i64 wd, .int .i64 sl, .int .i64 cp, .int .u32 sa, .slice ia il ic, .int .i64 ow, .slice ra rl rc]
  have s0 := (Same.refl w).alloc (.cells #[.int .i64 k, .int .i64 wd, .int .i64 sl, .int .i64 cp, .int .u32 sa, .slice ia il ic, .int .i64 ow, .slice ra rl rc] 45)
  have HB0 := Lib.hid hb
  have HS0 := Lib.hid s0
  have HSM := Lib.hid hsm
  clear hb s0 hsm
  go_enter Tryd.func5, Tryd.ntmps5
  obtain ⟨d0, d1, d2, d3, d4, d5, d6, d7⟩ := obj_cells HB0.out
  go_wp2_with fail
  refine (small_any k wd sl cp sa ow ia ra il ic rl rc _ false HSM.out).mono ?_
  rintro e v1 ⟨rfl, s1⟩
  have HB1 := Lib.hid (HB0.out.same s1)
  have HS1 := Lib.hid (HS0.out.trans s1)
  clear s1 d0 d1 d2 d3 d4 d5 d6 d7 HB0 HS0
  obtain ⟨d0, d1, d2, d3, d4, d5, d6, d7⟩ := obj_cells HB1.out
  go_wp2_with fail
  refine (awake_any _ (HTZ.out.same (HS1.out))).mono ?_
  rintro e v9 ⟨rfl, s9⟩
  go_wp2
  go_ret
  exact ⟨rfl, HS1.out.trans s9⟩

theorem keeps_many (k wd sl cp sa ow : Int) (ia ra : Option Addr) (il ic rl rc : Nat) (MA : Option Addr) (n mc : Nat) (w : World) (hsm : decide (((il : Nat) : Int) ≤ 100 ∧ ((rl : Nat) : Int) ≤ 100) = true) (hn : ¬ n ≤ 40) (hsa : 0 ≤ sa ∧ sa < 4294967296 := by assumption) (hT : TZ w := by assumption) :
    Calls Tryd.prog 5 #[.agg #[.int .i64 k, .int .i64 wd, .int .i64 sl, .int .i64 cp, .int .u32 sa, .slice ia il ic, .int .i64 ow, .slice ra rl rc], .slice MA n mc] w fun e w' => e = .returned (.bool true) ∧ Same w w' := by
  have HTZ := Lib.hid hT
  have HTL : Hid (2 < w.heap.size) := Lib.hid hT.lt
  clear hT
  have hb := Blk.new w 45 #[.int .i64 k, .int .i64 wd, .int .i64 sl, .int .i64 cp, .int .u32 sa, .slice ia il ic, .int .i64 ow, .slice ra rl rc]
  have s0 := (Same.refl w).alloc (.cells #[.int .i64 k, .int .i64 wd, .int .i64 sl, .int .i64 cp, .int .u32 sa, .slice ia il ic, .int .i64 ow, .slice ra rl rc] 45)
  have HB0 := Lib.hid hb
  have HS0 := Lib.hid s0
  have HSM := Lib.hid hsm
  have h40 : (40 : Int) < n := by omega
  clear hb s0 hsm
  go_enter Tryd.func5, Tryd.ntmps5
  obtain ⟨d0, d1, d2, d3, d4, d5, d6, d7⟩ := obj_cells HB0.out
  go_wp2_with fail
  refine (small_any k wd sl cp sa ow ia ra il ic rl rc _ true HSM.out).mono ?_
  rintro e v1 ⟨rfl, s1⟩
  have HB1 := Lib.hid (HB0.out.same s1)
  have HS1 := Lib.hid (HS0.out.trans s1)
  clear s1 d0 d1 d2 d3 d4 d5 d6 d7 HB0 HS0
  obtain ⟨d0, d1, d2, d3, d4, d5, d6, d7⟩ := obj_cells HB1.out
  go_wp2_with fail
  refine (awake_any _ (HTZ.out.same (HS1.out))).mono ?_
  rintro e v9 ⟨rfl, s9⟩
  go_wp2
  go_ret
  exact ⟨rfl, HS1.out.trans s9⟩

theorem keeps_not (k wd sl cp sa ow : Int) (ia ra : Option Addr) (il ic rl rc : Nat) (MA : Option Addr) (n mc : Nat) (w : World) (hsm : decide (((il : Nat) : Int) ≤ 100 ∧ ((rl : Nat) : Int) ≤ 100) = true) (hn : n ≤ 40) (hr : k ≠ 2 ∨ rightB wd sl cp sa il rl = false) (hsa : 0 ≤ sa ∧ sa < 4294967296 := by assumption) (hT : TZ w := by assumption) :
    Calls Tryd.prog 5 #[.agg #[.int .i64 k, .int .i64 wd, .int .i64 sl, .int .i64 cp, .int .u32 sa, .slice ia il ic, .int .i64 ow, .slice ra rl rc], .slice MA n mc] w fun e w' => e = .returned (.bool true) ∧ Same w w' := by
  have HTZ := Lib.hid hT
  have HTL : Hid (2 < w.heap.size) := Lib.hid hT.lt
  clear hT
  have hb := Blk.new w 45 #[.int .i64 k, .int .i64 wd, .int .i64 sl, .int .i64 cp, .int .u32 sa, .slice ia il ic, .int .i64 ow, .slice ra rl rc]
  have s0 := (Same.refl w).alloc (.cells #[.int .i64 k, .int .i64 wd, .int .i64 sl, .int .i64 cp, .int .u32 sa, .slice ia il ic, .int .i64 ow, .slice ra rl rc] 45)
  have HB0 := Lib.hid hb
  have HS0 := Lib.hid s0
  have HSM := Lib.hid hsm
  have h40 : ¬ (40 : Int) < n := by omega
  have HR := Lib.hid hr
  clear hr
  clear hb s0 hsm
  go_enter Tryd.func5, Tryd.ntmps5
  obtain ⟨d0, d1, d2, d3, d4, d5, d6, d7⟩ := obj_cells HB0.out
  go_wp2_with fail
  refine (small_any k wd sl cp sa ow ia ra il ic rl rc _ true HSM.out).mono ?_
  rintro e v1 ⟨rfl, s1⟩
  have HB1 := Lib.hid (HB0.out.same s1)
  have HS1 := Lib.hid (HS0.out.trans s1)
  clear s1 d0 d1 d2 d3 d4 d5 d6 d7 HB0 HS0
  obtain ⟨d0, d1, d2, d3, d4, d5, d6, d7⟩ := obj_cells HB1.out
  go_wp2_with fail
  refine (right_none k wd sl cp sa ow ia ra il ic rl rc _ HR.out).mono ?_
  rintro e v2 ⟨rfl, s2⟩
  have HS2 := Lib.hid (HS1.out.trans s2)
  clear s2 HS1 HB1 d0 d1 d2 d3 d4 d5 d6 d7
  have HS1 := HS2
  go_wp2_with fail
  refine (awake_any _ (HTZ.out.same (HS1.out))).mono ?_
  rintro e v9 ⟨rfl, s9⟩
  go_wp2
  go_ret
  exact ⟨rfl, HS1.out.trans s9⟩

theorem keeps_walk (k wd sl cp sa ow : Int) (ia ra : Option Addr) (il ic rl rc : Nat) (init : List Int) (MA : Option Addr) (n mc : Nat) (rows : List (List Int)) (w : World) (hi : Row w ia (init.map (Value.int .u32))) (hl : init.length = il) (hiw : Op.Wd init) (hM : Mt.Mat w MA rows) (hML : rows.length = n) (hMW : ∀ r ∈ rows, Op.Wd r ∧ r.length ≤ maxLen) (hsa : 0 ≤ sa ∧ sa < 4294967296 := by assumption) (hT : TZ w := by assumption) :
    Calls Tryd.prog 5 #[.agg #[.int .i64 k, .int .i64 wd, .int .i64 sl, .int .i64 cp, .int .u32 sa, .slice ia il ic, .int .i64 ow, .slice ra rl rc], .slice MA n mc] w fun e w' => e = .returned (.bool true) ∧ Same w w' := by
  cases hsm : decide (((il : Nat) : Int) ≤ 100 ∧ ((rl : Nat) : Int) ≤ 100)
  · exact keeps_big k wd sl cp sa ow ia ra il ic rl rc MA n mc w hsm
  · by_cases hn : n ≤ 40
    · by_cases hkr : k = 2 ∧ rightB wd sl cp sa il rl = true
      · obtain ⟨rfl, hr⟩ := hkr
        obtain ⟨⟨h1, h2⟩, h3, h4, h7, h5, _⟩ := HQ hr
        obtain ⟨W, rfl⟩ := Int.eq_ofNat_of_zero_le (show 0 ≤ wd by omega)
        obtain rfl : W = il := by omega
        obtain ⟨cap, rfl⟩ := Int.eq_ofNat_of_zero_le (show 0 ≤ cp by omega)
        obtain ⟨slN, rfl⟩ := Int.eq_ofNat_of_zero_le (show 0 ≤ sl by omega)
        exact keeps_yes W slN cap sa ow ia ra ic rl rc init MA n mc rows w hsm hn hr hi hl hiw hM hML hMW
      · refine keeps_not k wd sl cp sa ow ia ra il ic rl rc MA n mc w hsm hn ?_
        by_cases hk : k = 2
        · right
          cases hr : rightB wd sl cp sa il rl
          · rfl
          · exact absurd ⟨hk, hr⟩ hkr
        · exact .inl hk
    · exact keeps_many k wd sl cp sa ow ia ra il ic rl rc MA n mc w hsm hn

end Go.Proofs.YtejajmdmfipplabDoor.Ch
