/-

  Package paths (layer 11): the places of a walk, one after the other (places): the iterator as a range over a function asks for it.
-/
import Derived.Test.YtnlndkpjfgpodaaDoorPthRel
import Derived.Test.YtnlndkpjfgpodaaDoorPthKeep
import Derived.Test.YtnlndkpjfgpodaaDoorSpot
import Derived.Test.YtnlndkpjfgpodaaDoorRegionOff
import Derived.Test.YtnlndkpjfgpodaaDoorOperApp
import Derived.Test.YtnlndkpjfgpodaaDoorCstRep
import Derived.Test.YtnlndkpjfgpodaaDoorWlkEnd
import Derived.RangeFuncNested
import Derived.RangeFuncBound
import Derived.RangeFuncCalls
import Derived.RangeFuncLeaves
import Derived.Shelf.Abstract
import Derived.Shelf.RegionOpen
import Derived.OwnWalkIn
import Derived.TacticsInMore
import Derived.LoopNIn
import Derived.LoopIn
import Derived.Sort.LoopGhostIn
import Derived.BigQuiet
import Derived.Outline
set_option linter.unusedVariables false
set_option linter.unusedSimpArgs false
namespace Go.Proofs.YtnlndkpjfgpodaaDoor.Pt
open Go.ChangeShapes Go.WideShapes Go.ChangeAt Go.RowKit Ws
open Go.Shelf
open Go.Proofs.YtnlndkpjfgpodaaDoor.Fp (Ins at_ Fine at_some lp loopsL)
open Go.Proofs.YtnlndkpjfgpodaaDoor.Fw (Prg okB okB_fine)
open Go.Proofs.YtnlndkpjfgpodaaDoor.Pk
open Go.Proofs.YtnlndkpjfgpodaaDoor.Wk (Sp wk wkN pcs pcs_len pcs_at pcs_succ NoD good_wk good_back Sp0)
open Go.Proofs.YtnlndkpjfgpodaaDoor.Cs (izr izr_list izr_make)
attribute [local go_sem] Oper.semAt_some

theorem prg_chg {S : Nat → Prop} {w w' : World} {A : Option Addr} {p : List Ins} (h : Prg w A p) (hc : Chg S w w') (hn : ∀ b o, A = some ⟨b, o, none⟩ → b < w.heap.size → ¬ S b) : Prg w' A p := by
  intro i x hx
  obtain ⟨h1, b, o, h2, h3⟩ := h i x hx
  exact ⟨h1, b, o, h2, fun j v hv => hc.cell (h3 j v hv) (hn b o h2 (World.block_lt_of_cell? w _ (h3 0 _ rfl)))⟩
theorem WK.chg {S : Nat → Prop} {w w' : World} {q tq gc : Nat} {A : Option Addr} {m c : Nat} {tl : List Int} {bs : List Bool} (h : WK w q tq gc A m c tl bs) (hc : Chg S w w') (hq : ¬ S q) (ht : ¬ S tq) (hg : ¬ S gc) : WK w' q tq gc A m c tl bs := by
  obtain ⟨C, n, cc, h1, h2, h3, h4, h5, h6⟩ := h.b
  exact ⟨⟨C, n, cc, h1.chg hc hq, h2.chg hc (fun b o e hne hb => hg (by rw [← (h6 (fun e' => hne (by rw [e']; rfl)) b o e).2.2]; exact hb)), h3, h4, h5, h6⟩, h.t.chg hc ht, h.ne, h.len⟩
/-- where a walk's places lie, under way: nothing of it is the row that a round appends to -/
structure Env (tb : Nat) (w wr : World) (q tq : Nat) : Prop where
  chg : Chg (fun i => i = tb) w wr
  has : ∃ v, wr.cell? ⟨tb, 0, none⟩ = some v
  old : ∀ i, i < w.heap.size → ¬ Nm tb wr i
  nq : ¬ Nm tb wr q
  nt : ¬ Nm tb wr tq
  ge : w.heap.size ≤ q ∧ w.heap.size ≤ tq
  lt : q < wr.heap.size ∧ tq < wr.heap.size
  tb : tb < w.heap.size
theorem Env.kp {tb : Nat} {w wr W3 : World} {q tq : Nat} (h : Env tb w wr q tq) (hk : KpT tb w.heap.size wr W3) : Env tb w W3 q tq := by
  have k := hk h.has
  refine ⟨⟨k.chg.os.trans h.chg.os, k.chg.tape.trans h.chg.tape, k.chg.output.trans h.chg.output, Nat.le_trans h.chg.size k.chg.size, fun i hi hn => (k.chg.block i (Nat.lt_of_lt_of_le hi h.chg.size) ?_).trans (h.chg.block i hi hn)⟩, k.has, fun i hi hm => h.old i hi (k.nm i (Nat.lt_of_lt_of_le hi h.chg.size) hm),
    fun hm => h.nq (k.nm _ h.lt.1 hm), fun hm => h.nt (k.nm _ h.lt.2 hm), h.ge, ⟨Nat.lt_of_lt_of_le h.lt.1 k.chg.size, Nat.lt_of_lt_of_le h.lt.2 k.chg.size⟩, h.tb⟩
  rintro (h1 | h1 | ⟨h1, _⟩)
  · exact hn h1
  · exact h.old i hi h1
  · omega
theorem Env.wk {tb : Nat} {w wr W3 : World} {q tq gc : Nat} {A : Option Addr} {m c : Nat} {tl : List Int} {bs : List Bool} (h : Env tb w wr q tq) (hk : KpT tb w.heap.size wr W3) (hw : WK wr q tq gc A m c tl bs) (hg : gc < w.heap.size ∧ gc ≠ tb) : WK W3 q tq gc A m c tl bs := by
  have k := hk h.has
  have htb := h.tb
  have hge := h.ge
  obtain ⟨C, n, cc, h1, _⟩ := hw.b
  have hm : 0 < q := by omega
  refine hw.chg k.chg ?_ ?_ ?_
  · rintro (e | e | ⟨_, e⟩)
    · omega
    · exact h.nq e
    · exact noC_cell (h1.cell 0) e
  · rintro (e | e | ⟨_, o, e1, e2⟩)
    · omega
    · exact h.nt e
    · have := hw.t
      unfold Blk at this
      rw [this] at e1
      cases e1
      cases e2
  · rintro (e | e | ⟨e, _⟩)
    · exact hg.2 e
    · exact h.old gc hg.1 e
    · omega
theorem Env.step {tb : Nat} {w wr W3 : World} {q tq : Nat} (h : Env tb w wr q tq) (hc : Chg (fun i => i = q ∨ i = tq) wr W3) : Env tb w W3 q tq := by
  have hge := h.ge
  have htb := h.tb
  have hb : W3.heap[tb]? = wr.heap[tb]? := hc.block tb (Nat.lt_of_lt_of_le htb h.chg.size) (by omega)
  have hcell : W3.cell? ⟨tb, 0, none⟩ = wr.cell? ⟨tb, 0, none⟩ := World.cell?_of_block hb
  obtain ⟨v, hv⟩ := h.has
  refine ⟨⟨hc.os.trans h.chg.os, hc.tape.trans h.chg.tape, hc.output.trans h.chg.output, Nat.le_trans h.chg.size hc.size, fun i hi hn => (hc.block i (Nat.lt_of_lt_of_le hi h.chg.size) (by omega)).trans (h.chg.block i hi hn)⟩, ⟨v, hcell.trans hv⟩, fun i hi => nm_old (h.old i hi) hcell,
    nm_old h.nq hcell, nm_old h.nt hcell, h.ge, ⟨Nat.lt_of_lt_of_le h.lt.1 hc.size, Nat.lt_of_lt_of_le h.lt.2 hc.size⟩, h.tb⟩
theorem places_any (A : Option Addr) (m c : Nat) (C : Option Addr) (n d : Nat) (w : World) :
    Calls Tryd.prog 59 #[.slice A m c, .slice C n d] w fun e w' => e = .returned (.func (.func 88) #[] #[.pointer (some ⟨w.heap.size, 0, none⟩), .pointer (some ⟨w.heap.size + 1, 0, none⟩)]) ∧ w' = (w.alloc (.cells #[.slice A m c] 22)).alloc (.cells #[.slice C n d] 34) := by
  go_enter Tryd.func59, Tryd.ntmps59
  go_wp2_with fail
  go_ret
  exact ⟨rfl, rfl⟩
/-- a step of the walker: two blocks of its own are turned -/
def Stp (tb : Nat) (w W W' : World) : Prop := ∃ q tq, Env tb w W q tq ∧ ¬ NoC W q ∧ ¬ NoC W tq ∧ Chg (fun i => i = q ∨ i = tq) W W'
theorem stp_keep {tb : Nat} {w X Y : World} (h : Stp tb w X Y) (i : Nat) (o : Obj) (hi : X.heap[i]? = some o) (ho : o.isCells = false) : Y.heap[i]? = some o := by
  obtain ⟨q, tq, _, h1, h2, h3⟩ := h
  refine (h3.block i (Array.getElem?_eq_some_iff.1 hi).1 ?_).trans hi
  rintro (rfl | rfl)
  · exact h1 ⟨o, hi, ho⟩
  · exact h2 ⟨o, hi, ho⟩
theorem blk_noC {W : World} {g : Nat} {t : TypeId} {cs : Array Value} (h : Blk W g t cs) : ¬ NoC W g := by
  rintro ⟨o, h1, h2⟩
  unfold Blk at h
  rw [h] at h1
  cases h1
  cases h2
theorem grown_of_same {w w' : World} (h : Same w w') : w.grownBy w' none := ⟨h.os, h.tape, h.output, h.size, fun i hi _ => h.block i hi id⟩
/-- no panic besides -/
def NoPanic (Q : Exit → Act → World → Prop) : Exit → Act → World → Prop
  | .panic _, _, _ => False
  | e, a, w => Q e a w
theorem noPanic_normal {Q : Exit → Act → World → Prop} {a : Act} {w : World} (h : Q .normal a w) : NoPanic Q .normal a w := h
theorem noPanic_of {Q : Exit → Act → World → Prop} {e : Exit} {a : Act} {w : World} (h : NoPanic Q e a w) : Q e a w := by
  cases e <;> first | exact h | exact h.elim
theorem env_start {tb : Nat} {w W w4 : World} {q tq : Nat} (hw : Same w W) (hs : Same W w4) (htb : w.cell? ⟨tb, 0, none⟩ = some (.slice none 0 0)) (hge : W.heap.size ≤ q ∧ W.heap.size ≤ tq) (hlt : q < w4.heap.size ∧ tq < w4.heap.size) : Env tb w w4 q tq := by
  have hc : w4.cell? ⟨tb, 0, none⟩ = some (.slice none 0 0) := hs.cell (hw.cell htb)
  have hn : ∀ i, ¬ Nm tb w4 i := by
    rintro i ⟨a, b, c, h⟩
    rw [hc] at h
    cases h
  have h1 : w.heap.size ≤ W.heap.size := Chg.size hw
  exact ⟨(hw.trans hs).chg _, ⟨_, hc⟩, fun i _ => hn i, hn _, hn _, by omega, hlt, World.block_lt_of_cell? w _ htb⟩
theorem good_back2 {p : List Ins} {right : Ins → Bool} (hF : Fine right p) (hC : ∀ k, k < p.length → (at_ p k).op = 16 → 0 ≤ (at_ p k).c ∧ (at_ p k).c ≤ 255) {s : Sp} (hg : Wk.Good p s) (h16 : (at_ p s.pc).op = 16) : 0 ≤ s.tn s.pc ∧ s.tn s.pc ≤ 255 := by
  obtain ⟨j, hj, he⟩ := Cs.mem_lp (Fp.loopsTo_has hg.pc h16)
  have h1 := hg.lo j hj
  have h2 : (Fp.lp (loopsL p) j).2.toNat = s.pc := by rw [← he]; simp
  rw [h2] at h1
  have := hC s.pc hg.pc h16
  omega
/-- the next place, told by the plain walk -/
def NxtP (w3 : World) (q tq gc : Nat) (A : Option Addr) (m c : Nat) (ch : List Bool) (x : Sp × Nat) (e : Ending) (w4 : World) : Prop :=
  e = .returned (.int .i64 (x.1.pc : Int)) ∧ Chg (fun i => i = q ∨ i = tq) w3 w4 ∧ ∃ tl bs, WK w4 q tq gc A m c tl bs ∧ Rel m ch x.1 x.2 x.1.pc tl bs
theorem nxt_any (q tq gc : Nat) (A : Option Addr) (m c : Nat) (p : List Ins) (ch : List Bool) (tl : List Int) (bs : List Bool) (i : Nat) (w : World) (hok : okB p = true) (h : WK w q tq gc A m c tl bs) (hr : Rel m ch (wk p ch i).1 (wk p ch i).2 (wk p ch i).1.pc tl bs) (hl : p.length = m) (hp : Prg w A p) (hm : m ≤ 5000)
    (hg : Wk.Good p (wk p ch i).1) (hpq : ∀ g o, A = some ⟨g, o, none⟩ → g ≠ q ∧ g ≠ tq) :
    Calls Tryd.prog 89 #[.pointer (some ⟨q, 0, none⟩), .int .i64 ((wk p ch i).1.pc : Int)] w (NxtP w q tq gc A m c ch (wk p ch (i + 1))) := by
  have hF := okB_fine hok
  have hk := hg.pc
  have hC : ∀ k, k < p.length → (at_ p k).op = 16 → 0 ≤ (at_ p k).c ∧ (at_ p k).c ≤ 255 := fun k hk h16 => by have := back_c (hF.right k hk) h16; omega
  refine (next_any q tq gc A m c p tl bs (wk p ch i).1.pc w h hl hp (by omega) hm (fun h16 => ?_) hpq).mono ?_
  · have h1 := good_back2 hF hC hg h16
    have h2 := hr.tn (wk p ch i).1.pc (by omega)
    omega
  · rintro e w4 ⟨rfl, hc, hw⟩
    have h1 := rel_step (p := p) hr (by omega) (hp.nn _ hk)
    have e1 : wkN p ch ((wk p ch i).1, (wk p ch i).2) = wk p ch (i + 1) := rfl
    rw [e1] at h1
    exact ⟨by rw [h1.1], hc, _, _, hw, h1.2⟩
/-- how one begins: the walker and its turns -/
structure Beg (w W W1 : World) (q tq : Nat) (A : Option Addr) (m c : Nat) (CA : Option Addr) (cn cc : Nat) : Prop where
  same : Same W W1
  bq : Blk W1 q 135 #[.slice A m c, .slice (some ⟨tq, 0, none⟩) m m, .slice CA cn cc]
  bt : Blk W1 tq 3 (izr m)
  ne : q ≠ tq
  ge : W.heap.size ≤ q ∧ W.heap.size ≤ tq
set_option maxRecDepth 100000 in
set_option maxHeartbeats 4000000 in
theorem places_in (n : Nat) (hn : 1 ≤ n) (l tb bp bc gc : Nat) (A : Option Addr) (m c : Nat) (p : List Ins) (CA : Option Addr) (cn cc : Nat) (ch : List Bool) (w : World) (D : Nat)
    (hl : p.length = m) (hm : m ≤ 5000) (hok : okB p = true) (hp : Prg w A p) (hpA : ∀ g o, A = some ⟨g, o, none⟩ → g ≠ tb)
    (hC : Row w CA (ch.map Value.bool)) (hcl : ch.length = cn) (hcc : cn ≤ cc ∧ cc ≤ maxLen) (hcA : ch ≠ [] → ∀ g o, CA = some ⟨g, o, none⟩ → g = gc) (hgc : gc < w.heap.size ∧ gc ≠ tb)
    (htb : w.cell? ⟨tb, 0, none⟩ = some (.slice none 0 0)) (hbp : w.cell? ⟨bp, 0, none⟩ = some (.slice A m c)) (hbpt : bp ≠ tb) (hbc : w.cell? ⟨bc, 0, none⟩ = some (.slice CA cn cc)) (hbct : bc ≠ tb)
    (hD : NoD p ch D) (hDd : (at_ p (wk p ch D).1.pc).op = 21) (J Jx : List Int → World → Prop) (W : World) (hW : Below w.heap.size w W)
    (hJ : AbidesFrom W.heap.size J) (hJs : ∀ pre X Y, J pre X → Stp tb w X Y → J pre Y)
    (hY : ∀ (pre : List Int) (x : Int) (W : World), J pre W → pre.length < D + 1 → YieldAt Fence.wide (n - 1) Tryd.prog l #[.int .i64 x] W fun e W' =>
      (e = .returned (.bool true) ∧ J (pre ++ [x]) W' ∧ KpT tb w.heap.size W W') ∨ (e = .returned (.bool false) ∧ Jx (pre ++ [x]) W')) (h0 : J [] W) :
    CallsIn Fence.wide n Tryd.prog 88 #[.func (.yield l) #[] #[], .pointer (some ⟨bp, 0, none⟩), .pointer (some ⟨bc, 0, none⟩)] W fun e W' => (∃ v, e = .returned v) ∧
      ((∃ xs, xs = pcs p ch (D + 1) ∧ J xs W') ∨ (∃ pre, pre <+: pcs p ch (D + 1) ∧ Jx pre W')) := by
  have hF := okB_fine hok
  have hnn := hp.nn
  have hbC : ∀ k, k < p.length → (at_ p k).op = 16 → 0 ≤ (at_ p k).c ∧ (at_ p k).c ≤ 255 := fun k hk h16 => by have := back_c (hF.right k hk) h16; omega
  have hCl : ∀ j, j < (loopsL p).length → 0 ≤ (at_ p (Fp.lp (loopsL p) j).2.toNat).c := fun j hj => (loop_at hok hnn hj).2.2.2.1
  have hpl := hF.size
  have hSW : Same w W := Same.of_below hW
  have ep : W.cell? ⟨bp, 0, none⟩ = some (.slice A m c) := hSW.cell hbp
  have ec : W.cell? ⟨bc, 0, none⟩ = some (.slice CA cn cc) := hSW.cell hbc
  have hmk := izr_make m (by omega)
  refine callsIn_of_wp Tryd.func88 rfl trivial ?_ rfl
  simp only [Tryd.ntmps88, List.size_toArray, List.length_cons, List.length_nil, Nat.reduceAdd, Nat.reduceSub, Array.replicate_succ, Array.replicate_zero, List.push_toArray, List.append_toArray, List.nil_append, List.cons_append]
  refine wpIn_wide.2 ?_
  refine wp_mono (Q := NoPanic _) ?_ (fun e a w h => noPanic_of h)
  generalize hQ : NoPanic _ = Q'
  have HQP := Lib.hid (show ∀ c a w, Q' (.panic c) a w → False from by rw [← hQ]; exact fun _ _ _ h => h)
  have HQ := Lib.hid hQ
  clear hQ
  have HMK := Lib.hid hmk
  clear hmk
  go_upto_region 0 with fail
  refine wp_region_held_drew (S := fun w' => w'.cell? ⟨bp, 0, none⟩ = some (.slice A m c) ∧ w'.cell? ⟨bc, 0, none⟩ = some (.slice CA cn cc) ∧ Same W w') (by kernel_rfl) ?_ (fun hHeld => ?_)
  · exact ⟨ep, ec, (Same.refl W).drew⟩
  refine Ro.take_on (i := 0) (v := ?_) rfl (by kernel_rfl) (by kernel_rfl) (by kernel_rfl) (fun _ _ _ h => (HQP.out _ _ _ h).elim) (by rfl) (by assumption) ?_ ?_
  rotate_left
  · intro wS hSw; obtain ⟨x1, x2, _⟩ := hSw; go_simp; try with_reducible rfl
  try simp only [Act.put, List.setIfInBounds_toArray, List.set_cons_zero, List.set_cons_succ]
  refine Ro.take_on (i := 1) (v := ?_) rfl (by kernel_rfl) (by kernel_rfl) (by kernel_rfl) (fun _ _ _ h => (HQP.out _ _ _ h).elim) (by rfl) (by assumption) ?_ ?_
  rotate_left
  · intro wS hSw; obtain ⟨x1, x2, _⟩ := hSw; go_simp; try with_reducible rfl
  try simp only [Act.put, List.setIfInBounds_toArray, List.set_cons_zero, List.set_cons_succ]
  refine Ro.take_on (i := 2) (v := ?_) rfl (by kernel_rfl) (by kernel_rfl) (by kernel_rfl) (fun _ _ _ h => (HQP.out _ _ _ h).elim) (by rfl) (by assumption) ?_ ?_
  rotate_left
  · intro wS hSw; obtain ⟨x1, x2, _⟩ := hSw; go_simp; try with_reducible rfl
  try simp only [Act.put, List.setIfInBounds_toArray, List.set_cons_zero, List.set_cons_succ]
  refine Ro.take_on (i := 4) (v := ?_) rfl (by kernel_rfl) (by kernel_rfl) (by kernel_rfl) (fun _ _ _ h => (HQP.out _ _ _ h).elim) (by rfl) (by assumption) ?_ ?_
  rotate_left
  · intro wS hSw; obtain ⟨x1, x2, _⟩ := hSw; go_simp; try with_reducible rfl
  try simp only [Act.put, List.setIfInBounds_toArray, List.set_cons_zero, List.set_cons_succ]
  have HIF := Lib.hid (show (Tryd.prog.info? 135).map (·.size) = some 3 by kernel_rfl)
  obtain ⟨hx1, hx2, hx3⟩ := hHeld
  refine Ra.two_on (i := 3) (j := 6) rfl rfl (by kernel_rfl) (by rfl) (by rfl) (fun K hK => ?ordA) (fun K hK => ?ordB)
  case' ordA =>
    have hm1 := HMK.out W.drew
    go_simp
    have sA : Same W (W.alloc (.cells (izr m) 3)).drew := ((Same.refl W).alloc _).drew
    refine hK.out _ _ ⟨sA.cell ep, sA.cell ec, sA⟩ (fun hHeld => ?_)
    clear hK K hm1
    try simp only [Act.put, List.setIfInBounds_toArray, List.set_cons_zero, List.set_cons_succ]
    refine Ro.take_on (i := 5) (v := ?_) rfl (by kernel_rfl) (by kernel_rfl) (by kernel_rfl) (fun _ _ _ h => (HQP.out _ _ _ h).elim) (by rfl) (by assumption) ?_ ?_
    rotate_left
    · intro wS hSw; (try dsimp only at hSw); go_simp; try with_reducible rfl
    try simp only [Act.put, List.setIfInBounds_toArray, List.set_cons_zero, List.set_cons_succ]
    obtain ⟨wA, hwA⟩ : ∃ wA, wA = (W.alloc (.cells (izr m) 3)).drew := ⟨_, rfl⟩
    obtain ⟨tq, htq⟩ : ∃ tq, tq = W.heap.size := ⟨_, rfl⟩
    rw [← hwA] at sA hHeld
    rw [← hwA, ← htq]
    have bA : Blk wA tq 3 (izr m) := by rw [hwA, htq]; exact (Blk.new W _ _).same (Same.refl _).drew
    have HZA := Lib.hid (show wA.heap.size = tq + 1 by rw [hwA, htq]; simp)
    have HTQ := Lib.hid htq
    clear hwA htq
    refine Ro.one_on (i := 6) rfl (by kernel_rfl) (by rfl) (fun K hK => ?_)
    go_simp
    have sB : Same wA (wA.alloc (.cells #[.slice none 0 0, .slice none 0 0, .slice none 0 0] 135)) := (Same.refl wA).alloc _
    refine hK.out _ _ ⟨sB.cell hHeld.1, sB.cell hHeld.2.1, sA.trans sB⟩ (fun hNew => ?_)
    clear hK K hHeld
    have hHeld := hNew
    clear hNew
    obtain ⟨w3, hw3⟩ : ∃ w3, w3 = wA.alloc (.cells #[.slice none 0 0, .slice none 0 0, .slice none 0 0] 135) := ⟨_, rfl⟩
    obtain ⟨q, hq⟩ : ∃ q, q = wA.heap.size := ⟨_, rfl⟩
    have HBQ := Lib.hid (show Blk w3 q 135 #[.slice none 0 0, .slice none 0 0, .slice none 0 0] by rw [hw3, hq]; exact Blk.new wA _ _)
    rw [← hw3] at sB hHeld
    rw [← hw3, ← hq]
    have HBT := Lib.hid (bA.same sB)
    have HS3 := Lib.hid (sA.trans sB)
    have HNE := Lib.hid (show q ≠ tq by have := HZA.out; have := HTQ.out; omega)
    have HGE := Lib.hid (show W.heap.size ≤ q ∧ W.heap.size ≤ tq by have := HZA.out; have := HTQ.out; omega)
    clear hw3 hq bA HZA sA sB HTQ
    try simp only [Act.put, List.setIfInBounds_toArray, List.set_cons_zero, List.set_cons_succ]
    refine Ro.one_on (i := 7) rfl (by kernel_rfl) (by rfl) (fun K hK => ?_)
    refine wp_store_row 135 (.tmp 4) (.tmp 11) rfl q #[.slice A m c, .slice (some ⟨tq, 0, none⟩) m m, .slice CA cn cc] rfl rfl 135 #[.slice none 0 0, .slice none 0 0, .slice none 0 0] HBQ.out HIF.out rfl (by simp [Value.oneCell']) ?_
    have hcr : Same W (w3.setRow q #[.slice A m c, .slice (some ⟨tq, 0, none⟩) m m, .slice CA cn cc]) := Wk.chg_setRow HS3.out (.inr HGE.out.1) _
    refine hK.out _ _ ⟨hcr.cell ep, hcr.cell ec, hcr⟩ (fun hNew => ?_)
    clear hK K hHeld hNew
    try simp only [Act.put, List.setIfInBounds_toArray, List.set_cons_zero, List.set_cons_succ]
    refine wpAnyH_done (by kernel_rfl) ?_ _
    have HBEG := Lib.hid (show Beg w W (w3.setRow q #[.slice A m c, .slice (some ⟨tq, 0, none⟩) m m, .slice CA cn cc]) q tq A m c CA cn cc from ⟨hcr, Wk.row_blk HBQ.out, HBT.out.chg (Wk.chg_setRow (Chg.refl (fun i => i = q) w3) (.inl rfl) _) (fun e => HNE.out e.symm), HNE.out, HGE.out⟩)
    generalize w3.setRow q #[.slice A m c, .slice (some ⟨tq, 0, none⟩) m m, .slice CA cn cc] = w4 at *
    clear hcr HBQ HBT HS3 HNE HGE
  case' ordB =>
    go_simp
    have sA : Same W (W.alloc (.cells #[.slice none 0 0, .slice none 0 0, .slice none 0 0] 135)).drew := ((Same.refl W).alloc _).drew
    refine hK.out _ _ ⟨sA.cell ep, sA.cell ec, sA⟩ (fun hHeld => ?_)
    clear hK K
    try simp only [Act.put, List.setIfInBounds_toArray, List.set_cons_zero, List.set_cons_succ]
    obtain ⟨wA, hwA⟩ : ∃ wA, wA = (W.alloc (.cells #[.slice none 0 0, .slice none 0 0, .slice none 0 0] 135)).drew := ⟨_, rfl⟩
    obtain ⟨q, hq⟩ : ∃ q, q = W.heap.size := ⟨_, rfl⟩
    rw [← hwA] at sA hHeld
    rw [← hwA, ← hq]
    have bA : Blk wA q 135 #[.slice none 0 0, .slice none 0 0, .slice none 0 0] := by rw [hwA, hq]; exact (Blk.new W _ _).same (Same.refl _).drew
    have HZA := Lib.hid (show wA.heap.size = q + 1 by rw [hwA, hq]; simp)
    have HTQ := Lib.hid hq
    clear hwA hq
    refine Ro.one_on (i := 3) rfl (by kernel_rfl) (by rfl) (fun K hK => ?_)
    have hm1 := HMK.out wA
    go_simp
    have sB : Same wA (wA.alloc (.cells (izr m) 3)) := (Same.refl wA).alloc _
    refine hK.out _ _ ⟨sB.cell hHeld.1, sB.cell hHeld.2.1, sA.trans sB⟩ (fun hNew => ?_)
    clear hK K hHeld hm1
    have hHeld := hNew
    clear hNew
    obtain ⟨w3, hw3⟩ : ∃ w3, w3 = wA.alloc (.cells (izr m) 3) := ⟨_, rfl⟩
    obtain ⟨tq, htq⟩ : ∃ tq, tq = wA.heap.size := ⟨_, rfl⟩
    have HBT := Lib.hid (show Blk w3 tq 3 (izr m) by rw [hw3, htq]; exact Blk.new wA _ _)
    rw [← hw3] at sB hHeld
    rw [← hw3, ← htq]
    have HBQ := Lib.hid (bA.same sB)
    have HS3 := Lib.hid (sA.trans sB)
    have HNE := Lib.hid (show q ≠ tq by have := HZA.out; have := HTQ.out; omega)
    have HGE := Lib.hid (show W.heap.size ≤ q ∧ W.heap.size ≤ tq by have := HZA.out; have := HTQ.out; omega)
    clear hw3 htq bA HZA sA sB HTQ
    try simp only [Act.put, List.setIfInBounds_toArray, List.set_cons_zero, List.set_cons_succ]
    refine Ro.take_on (i := 5) (v := ?_) rfl (by kernel_rfl) (by kernel_rfl) (by kernel_rfl) (fun _ _ _ h => (HQP.out _ _ _ h).elim) (by rfl) (by assumption) ?_ ?_
    rotate_left
    · intro wS hSw; (try dsimp only at hSw); go_simp; try with_reducible rfl
    try simp only [Act.put, List.setIfInBounds_toArray, List.set_cons_zero, List.set_cons_succ]
    refine Ro.one_on (i := 7) rfl (by kernel_rfl) (by rfl) (fun K hK => ?_)
    refine wp_store_row 135 (.tmp 4) (.tmp 11) rfl q #[.slice A m c, .slice (some ⟨tq, 0, none⟩) m m, .slice CA cn cc] rfl rfl 135 #[.slice none 0 0, .slice none 0 0, .slice none 0 0] HBQ.out HIF.out rfl (by simp [Value.oneCell']) ?_
    have hcr : Same W (w3.setRow q #[.slice A m c, .slice (some ⟨tq, 0, none⟩) m m, .slice CA cn cc]) := Wk.chg_setRow HS3.out (.inr HGE.out.1) _
    refine hK.out _ _ ⟨hcr.cell ep, hcr.cell ec, hcr⟩ (fun hNew => ?_)
    clear hK K hHeld hNew
    try simp only [Act.put, List.setIfInBounds_toArray, List.set_cons_zero, List.set_cons_succ]
    refine wpAnyH_done (by kernel_rfl) ?_ _
    have HBEG := Lib.hid (show Beg w W (w3.setRow q #[.slice A m c, .slice (some ⟨tq, 0, none⟩) m m, .slice CA cn cc]) q tq A m c CA cn cc from ⟨hcr, Wk.row_blk HBQ.out, HBT.out.chg (Wk.chg_setRow (Chg.refl (fun i => i = q) w3) (.inl rfl) _) (fun e => HNE.out e.symm), HNE.out, HGE.out⟩)
    generalize w3.setRow q #[.slice A m c, .slice (some ⟨tq, 0, none⟩) m m, .slice CA cn cc] = w4 at *
    clear hcr HBQ HBT HS3 HNE HGE
  all_goals
    clear HIF hx1 hx2 hx3 HMK
    go_wp2_with fail
    refine (wpIn_wide (n := n)).1 ?_
    have HST := Lib.hid (show Env tb w w4 q tq ∧ WK w4 q tq gc A m c (List.replicate m 0) ch ∧ J [] w4 from by
      obtain ⟨h1, h2, h3, h4, h5⟩ := HBEG.out
      refine ⟨env_start hSW h1 htb h5 ⟨h2.lt, h3.lt⟩, ⟨⟨CA, cn, cc, h2, hC.same (hSW.trans h1), hcl, hcc.1, hcc.2, fun hne g o e => ?_⟩, ?_, h4, List.length_replicate ..⟩, hJ [] W w4 none h0 (grown_of_same h1) (fun r e => by cases e)⟩
      · have h6 := hcA hne g o e
        have h7 : w.heap.size ≤ W.heap.size := Chg.size hSW
        have := hgc.1
        omega
      · have h6 : izr m = ((List.replicate m (0 : Int)).map (Value.int .i64)).toArray := by rw [← izr_list]
        rw [← h6]
        exact h3)
    have HLK := Lib.hid (show ∀ i, i ≤ D → Wk.Good p (wk p ch i).1 from fun i hi => good_wk hF hnn hCl ch (fun j hj => hD j (by omega)))
    have HPC := Lib.hid hp
    have HBP := Lib.hid hbp
    have HDD := Lib.hid hDd
    have HND := Lib.hid hD
    have HLL := Lib.hid hl
    have HOK := Lib.hid hok
    have HAQ := Lib.hid (show ∀ g o, A = some ⟨g, o, none⟩ → g < w.heap.size ∧ g ≠ tb from fun g o e => ⟨by
      obtain ⟨_, b, o', h1, h2, _⟩ := hp.at_ (k := 0) (by omega)
      rw [h1] at e
      cases e
      exact World.block_lt_of_cell? w _ h2, hpA g o e⟩)
    clear HBEG hSW ep ec hF hnn hbC hCl hpl hp hbp hDd hD hl hok hC hcl hcA htb hbc hbct hJ h0 hW hpA
    gi_loopg [5] D (fun gk av wx => ∃ i : Nat, i + gk = D ∧ av = .int .i64 ((wk p ch i).1.pc : Int) ∧ J (pcs p ch i) wx ∧ Env tb w wx q tq ∧ ∃ tl bs, WK wx q tq gc A m c tl bs ∧ Rel m ch (wk p ch i).1 (wk p ch i).2 (wk p ch i).1.pc tl bs)
    case atStart => exact ⟨0, by omega, rfl, HST.out.2.2, HST.out.1, _, _, HST.out.2.1, rel_start m ch⟩
    case round =>
      clear HST
      obtain ⟨i, hi, rfl, hJi, henv, tl, bs, hwk, hrel2⟩ := hrel
      obtain ⟨fn, tmps, assign, body, hy, hR⟩ := hY (pcs p ch i) ((wk p ch i).1.pc : Int) wr hJi (by rw [pcs_len]; omega)
      have HENV := Lib.hid henv
      have HWK := Lib.hid hwk
      have HREL := Lib.hid hrel2
      have HI := Lib.hid hi
      clear hJi henv hwk hrel2 hi hY
      gi_wp2
      refine hR.mono ?_
      rintro e W3 (⟨rfl, hJ3, hk3⟩ | ⟨rfl, hJx3⟩)
      · have ENV3 := Lib.hid (HENV.out.kp hk3)
        have WK3 := Lib.hid (HENV.out.wk hk3 HWK.out hgc)
        have ep3 : W3.cell? ⟨bp, 0, none⟩ = some (.slice A m c) := ENV3.out.chg.cell HBP.out hbpt
        have HG := Lib.hid (HLK.out i (by have := HI.out; omega))
        have hpi : (wk p ch i).1.pc < m := by have := HG.out.pc; have := HLL.out; omega
        have HP3 := Lib.hid (prg_chg HPC.out ENV3.out.chg (fun b o e _ => (HAQ.out b o e).2))
        obtain ⟨hokI, zb, zo, hA, z0, _⟩ := HP3.out.at_ (k := (wk p ch i).1.pc) (by have := HLL.out; omega)
        have HJ3 := Lib.hid (show J (pcs p ch (i + 1)) W3 by rw [pcs_succ]; exact hJ3)
        have NX := Lib.hid (nxt_any q tq gc A m c p ch tl bs i W3 HOK.out WK3.out HREL.out HLL.out HP3.out hm HG.out (fun g o e => by have := (HAQ.out g o e).1; have := ENV3.out.ge; omega))
        have hpi0 : (0 : Int) ≤ ((wk p ch i).1.pc : Int) := by omega
        have hpi1 : ((wk p ch i).1.pc : Int) < (m : Int) := by omega
        clear hJ3 hk3 HENV HWK HREL hokI hpi
        subst hA
        cases gk with
        | zero =>
          have hiD : i = D := by have := HI.out; omega
          subst hiD
          rw [HDD.out] at z0
          gi_wp2
          rw [← HQ.out]
          refine noPanic_normal (bodyPost_end (results_none rfl _ _ _) rfl ?_)
          exact ⟨⟨_, rfl⟩, .inl ⟨_, rfl, HJ3.out⟩⟩
        | succ GK =>
          have h21 : ¬ (at_ p (wk p ch i).1.pc).op = 21 := HND.out i (by have := HI.out; omega)
          have b21 : ((at_ p (wk p ch i).1.pc).op != 21) = true := by simpa using h21
          gi_wp2_with (refine ⟨trivial, ?_⟩; gi_at_call 89; refine (callsIn_wide.2 NX.out).mono ?_; rintro e W4 ⟨rfl, hc4, tl2, bs2, hw4, hr4⟩)
          have HE4 := Lib.hid (ENV3.out.step hc4)
          have HW4 := Lib.hid hw4
          have HR4 := Lib.hid hr4
          have HJ4 := Lib.hid (hJs _ _ _ HJ3.out ⟨q, tq, ENV3.out, by
            obtain ⟨C, n, cc, h1, _⟩ := WK3.out.b
            exact blk_noC h1, blk_noC WK3.out.t, hc4⟩)
          clear hc4 hw4 hr4 NX ENV3 WK3
          gi_roundg GK
          case rel => exact ⟨i + 1, by have := HI.out; omega, rfl, HJ4.out, HE4.out, tl2, bs2, HW4.out, HR4.out⟩
          case measure => omega
      · have HJX := Lib.hid (show Jx (pcs p ch (i + 1)) W3 by rw [pcs_succ]; exact hJx3)
        clear hJx3
        gi_wp2
        rw [← HQ.out]
        refine noPanic_normal (bodyPost_end (results_none rfl _ _ _) rfl ?_)
        refine ⟨⟨_, rfl⟩, .inr ⟨_, ?_, HJX.out⟩⟩
        have hi := HI.out
        refine ⟨(pcs p ch (D + 1)).drop (i + 1), ?_⟩
        have e : pcs p ch (i + 1) = (pcs p ch (D + 1)).take (i + 1) := by
          unfold pcs
          rw [← List.map_take, List.take_range, Nat.min_eq_left (by omega)]
        rw [e, List.take_append_drop]
end Go.Proofs.YtnlndkpjfgpodaaDoor.Pt
