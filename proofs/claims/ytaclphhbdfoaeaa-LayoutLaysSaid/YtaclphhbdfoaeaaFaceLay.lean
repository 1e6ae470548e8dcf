/-

  An object of any kind: its words at the beginning, of package object, and of the document.
-/
import Derived.Test.YtaclphhbdfoaeaaFaceSize
import Derived.Test.YtaclphhbdfoaeaaJFourRlay
import Derived.Test.YtaclphhbdfoaeaaJChenRlay
import Derived.Test.YtaclphhbdfoaeaaJSeqRlay
import Derived.Test.YtaclphhbdfoaeaaJRingRlay
import Derived.Test.YtaclphhbdfoaeaaJCabRlay
import Derived.Test.YtaclphhbdfoaeaaJFifoRlay
set_option linter.unusedVariables false
set_option linter.unusedSimpArgs false
namespace Go.Proofs.Ytaclphhbdfoaeaa.Fc
open Go.ChangeShapes Go.WideShapes Go.ChangeAt Go.RowKit Ws

def layF (k : Int) (W sl rl : Nat) (sa : Int) (init : List Int) : List Int := if k = 1 then Fo.lay0 W init else if k = 2 then Ch.lay0 W sl rl sa init else if k = 3 then Sq.lay0 W sa init else if k = 4 then Rg.lay0 W sl sa init else if k = 5 then Cb.lay0 W sl rl sa init else if k = 6 then Ff.lay0 W sl sa init else []
/-- words of one's own come out -/
def LayP (w : World) (ws : List Int) (e : Ending) (w' : World) : Prop := ∃ (g N : Nat), N = ws.length ∧ e = .returned (.slice (some ⟨g, 0, none⟩) N N) ∧ Same w w' ∧ Row w' (some ⟨g, 0, none⟩) (ws.map (Value.int .u32))
theorem lay_mk {w w' : World} {ws : List Int} {g N : Nat} (h : N = ws.length) (s : Same w w') (r : Row w' (some ⟨g, 0, none⟩) (ws.map (Value.int .u32))) : LayP w ws (.returned (.slice (some ⟨g, 0, none⟩) N N)) w' := ⟨g, N, h, rfl, s, r⟩
theorem LayP.back {w0 w w' : World} {ws : List Int} {e : Ending} (h : LayP w ws e w') (s : Same w0 w) : LayP w0 ws e w' := by
  obtain ⟨g, N, h1, h2, h3, h4⟩ := h
  exact ⟨g, N, h1, h2, s.trans h3, h4⟩
theorem lay_1 (W sl rl : Nat) (sa : Int) (init : List Int) : layF 1 W sl rl sa init = Fo.lay0 W init := by unfold layF; simp
theorem lay_2 (W sl rl : Nat) (sa : Int) (init : List Int) : layF 2 W sl rl sa init = Ch.lay0 W sl rl sa init := by unfold layF; simp
theorem lay_3 (W sl rl : Nat) (sa : Int) (init : List Int) : layF 3 W sl rl sa init = Sq.lay0 W sa init := by unfold layF; simp
theorem lay_4 (W sl rl : Nat) (sa : Int) (init : List Int) : layF 4 W sl rl sa init = Rg.lay0 W sl sa init := by unfold layF; simp
theorem lay_5 (W sl rl : Nat) (sa : Int) (init : List Int) : layF 5 W sl rl sa init = Cb.lay0 W sl rl sa init := by unfold layF; simp
theorem lay_6 (W sl rl : Nat) (sa : Int) (init : List Int) : layF 6 W sl rl sa init = Ff.lay0 W sl sa init := by unfold layF; simp
theorem ly_1 (W sl : Nat) (cp sa ow : Int) (ia ra : Option Addr) (il ic rl rc : Nat) (init : List Int) (w : World) (hr : Fo.rightB W sl cp sa il rl = true) (hi : Row w ia (init.map (Value.int .u32))) (hl : init.length = il) (hsa : 0 ≤ sa ∧ sa < 4294967296 := by assumption) :
    Calls Try.prog 37 #[.agg #[.int .i64 1, .int .i64 W, .int .i64 sl, .int .i64 cp, .int .u32 sa, .slice ia il ic, .int .i64 ow, .slice ra rl rc]] w (LayP w (layF 1 W sl rl sa init)) := by
  rw [lay_1]
  refine (Fo.lay_yes W sl cp sa ow ia ra il ic rl rc init w hr hi hl).mono fun e w' he => ?_
  obtain ⟨g, rfl, s, ho⟩ := he
  exact lay_mk (Fo.lay_len W init).symm s ho.row
theorem rly_1 (W sl : Nat) (cp sa ow : Int) (ia ra : Option Addr) (il ic rl rc : Nat) (init : List Int) (w : World) (hr : Fo.rightB W sl cp sa il rl = true) (hi : Row w ia (init.map (Value.int .u32))) (hl : init.length = il) (hsa : 0 ≤ sa ∧ sa < 4294967296 := by assumption) :
    Calls Try.prog 26 #[.agg #[.int .i64 1, .int .i64 W, .int .i64 sl, .int .i64 cp, .int .u32 sa, .slice ia il ic, .int .i64 ow, .slice ra rl rc]] w (LayP w (layF 1 W sl rl sa init)) := by
  obtain ⟨_, _, _, hs0, hc0, ha0⟩ := Fo.HQ hr
  have hs0 : sl = 0 := by omega
  subst hs0
  subst hc0
  subst ha0
  rw [lay_1]
  refine (Fo.rlay_yes W ow ia ra il ic rl rc init w hr hi hl).mono fun e w' he => ?_
  obtain ⟨g, rfl, s, ho⟩ := he
  exact lay_mk (Fo.lay_len W init).symm s ho.row
set_option maxRecDepth 100000 in
theorem olay_1 (W sl : Nat) (cp sa ow : Int) (ia ra : Option Addr) (il ic rl rc : Nat) (init : List Int) (w : World) (hr : Fo.rightB W sl cp sa il rl = true) (hi : Row w ia (init.map (Value.int .u32))) (hl : init.length = il) (hsa : 0 ≤ sa ∧ sa < 4294967296 := by assumption) :
    Calls Try.prog 21 #[.agg #[.int .i64 1, .int .i64 W, .int .i64 sl, .int .i64 cp, .int .u32 sa, .slice ia il ic, .int .i64 ow, .slice ra rl rc]] w (LayP w (layF 1 W sl rl sa init)) := by
  have HC := Lib.hid (fun w' (s : Same w w') => ly_1 W sl cp sa ow ia ra il ic rl rc init w' hr (hi.same s) hl)
  have hb0 := Blk.new w 47 #[.int .i64 1, .int .i64 W, .int .i64 sl, .int .i64 cp, .int .u32 sa, .slice ia il ic, .int .i64 ow, .slice ra rl rc]
  have HS0 := Lib.hid ((Same.refl w).alloc (.cells #[.int .i64 1, .int .i64 W, .int .i64 sl, .int .i64 cp, .int .u32 sa, .slice ia il ic, .int .i64 ow, .slice ra rl rc] 47))
  have HB0 := Lib.hid hb0
  clear hb0 hr hi hl
  generalize layF 1 W sl rl sa init = ws at *
  go_enter Try.func21, Try.ntmps21
  go_wp2_with fail
  refine (face_1 _).mono ?_
  rintro e w2 ⟨rfl, s2⟩
  have HZ := Lib.hid (Blk.new w2 73 #[.string ⟨#[]⟩, .nilFunc, .nilFunc, .nilFunc, .nilFunc])
  have HS2 := Lib.hid (HS0.out.trans s2)
  have hb2 := HB0.out.same s2
  have hlt := hb2.lt
  have hb3 := (hb2.same ((Same.refl w2).alloc (.cells #[.string ⟨#[]⟩, .nilFunc, .nilFunc, .nilFunc, .nilFunc] 73)))
  have HB := Lib.hid (Blk.chg hb3 (chg_setRow (Chg.refl (fun i => i = w2.heap.size) _) (.inl rfl) #[.string ⟨#[102, 111, 117, 114]⟩, .func (.func 35) #[] #[], .func (.func 36) #[] #[], .func (.func 37) #[] #[], .func (.func 38) #[] #[]]) (by omega))
  have HF := Lib.hid (row_blk (cs := #[.string ⟨#[102, 111, 117, 114]⟩, .func (.func 35) #[] #[], .func (.func 36) #[] #[], .func (.func 37) #[] #[], .func (.func 38) #[] #[]]) HZ.out)
  have HS3 := Lib.hid (show Same w ((w2.alloc (.cells #[.string ⟨#[]⟩, .nilFunc, .nilFunc, .nilFunc, .nilFunc] 73)).setRow w2.heap.size #[.string ⟨#[102, 111, 117, 114]⟩, .func (.func 35) #[] #[], .func (.func 36) #[] #[], .func (.func 37) #[] #[], .func (.func 38) #[] #[]]) from chg_setRow (HS2.out.alloc _) (.inr HS2.out.size) _)
  clear s2 hb2 hb3 hlt HB0 HS0
  have d0 : ((w2.alloc (.cells #[.string ⟨#[]⟩, .nilFunc, .nilFunc, .nilFunc, .nilFunc] 73)).setRow w2.heap.size #[.string ⟨#[102, 111, 117, 114]⟩, .func (.func 35) #[] #[], .func (.func 36) #[] #[], .func (.func 37) #[] #[], .func (.func 38) #[] #[]]).cell? ⟨w.heap.size, 0, none⟩ = some (.int .i64 1) := HB.out.cell 0
  have d1 : ((w2.alloc (.cells #[.string ⟨#[]⟩, .nilFunc, .nilFunc, .nilFunc, .nilFunc] 73)).setRow w2.heap.size #[.string ⟨#[102, 111, 117, 114]⟩, .func (.func 35) #[] #[], .func (.func 36) #[] #[], .func (.func 37) #[] #[], .func (.func 38) #[] #[]]).cell? ⟨w.heap.size, 1, none⟩ = some (.int .i64 W) := HB.out.cell 1
  have d2 : ((w2.alloc (.cells #[.string ⟨#[]⟩, .nilFunc, .nilFunc, .nilFunc, .nilFunc] 73)).setRow w2.heap.size #[.string ⟨#[102, 111, 117, 114]⟩, .func (.func 35) #[] #[], .func (.func 36) #[] #[], .func (.func 37) #[] #[], .func (.func 38) #[] #[]]).cell? ⟨w.heap.size, 2, none⟩ = some (.int .i64 sl) := HB.out.cell 2
  have d3 : ((w2.alloc (.cells #[.string ⟨#[]⟩, .nilFunc, .nilFunc, .nilFunc, .nilFunc] 73)).setRow w2.heap.size #[.string ⟨#[102, 111, 117, 114]⟩, .func (.func 35) #[] #[], .func (.func 36) #[] #[], .func (.func 37) #[] #[], .func (.func 38) #[] #[]]).cell? ⟨w.heap.size, 3, none⟩ = some (.int .i64 cp) := HB.out.cell 3
  have d4 : ((w2.alloc (.cells #[.string ⟨#[]⟩, .nilFunc, .nilFunc, .nilFunc, .nilFunc] 73)).setRow w2.heap.size #[.string ⟨#[102, 111, 117, 114]⟩, .func (.func 35) #[] #[], .func (.func 36) #[] #[], .func (.func 37) #[] #[], .func (.func 38) #[] #[]]).cell? ⟨w.heap.size, 4, none⟩ = some (.int .u32 sa) := HB.out.cell 4
  have d5 : ((w2.alloc (.cells #[.string ⟨#[]⟩, .nilFunc, .nilFunc, .nilFunc, .nilFunc] 73)).setRow w2.heap.size #[.string ⟨#[102, 111, 117, 114]⟩, .func (.func 35) #[] #[], .func (.func 36) #[] #[], .func (.func 37) #[] #[], .func (.func 38) #[] #[]]).cell? ⟨w.heap.size, 5, none⟩ = some (.slice ia il ic) := HB.out.cell 5
  have d6 : ((w2.alloc (.cells #[.string ⟨#[]⟩, .nilFunc, .nilFunc, .nilFunc, .nilFunc] 73)).setRow w2.heap.size #[.string ⟨#[102, 111, 117, 114]⟩, .func (.func 35) #[] #[], .func (.func 36) #[] #[], .func (.func 37) #[] #[], .func (.func 38) #[] #[]]).cell? ⟨w.heap.size, 6, none⟩ = some (.int .i64 ow) := HB.out.cell 6
  have d7 : ((w2.alloc (.cells #[.string ⟨#[]⟩, .nilFunc, .nilFunc, .nilFunc, .nilFunc] 73)).setRow w2.heap.size #[.string ⟨#[102, 111, 117, 114]⟩, .func (.func 35) #[] #[], .func (.func 36) #[] #[], .func (.func 37) #[] #[], .func (.func 38) #[] #[]]).cell? ⟨w.heap.size, 7, none⟩ = some (.slice ra rl rc) := HB.out.cell 7
  have df : ((w2.alloc (.cells #[.string ⟨#[]⟩, .nilFunc, .nilFunc, .nilFunc, .nilFunc] 73)).setRow w2.heap.size #[.string ⟨#[102, 111, 117, 114]⟩, .func (.func 35) #[] #[], .func (.func 36) #[] #[], .func (.func 37) #[] #[], .func (.func 38) #[] #[]]).cell? ⟨w2.heap.size, 3, none⟩ = some (.func (.func 37) #[] #[]) := HF.out.cell 3
  go_wp2_with (refine wpList_store_row rfl 73 (.tmp 3) (.tmp 9) rfl w2.heap.size #[.string ⟨#[102, 111, 117, 114]⟩, .func (.func 35) #[] #[], .func (.func 36) #[] #[], .func (.func 37) #[] #[], .func (.func 38) #[] #[]] rfl rfl 73 #[.string ⟨#[]⟩, .nilFunc, .nilFunc, .nilFunc, .nilFunc] HZ.out face_size rfl one_1 ?_)
  refine (HC.out _ HS3.out).mono ?_
  rintro e w4 ⟨g, N, hN, rfl, s4, r4⟩
  have HSX := Lib.hid (HS3.out.trans s4)
  have HRX := Lib.hid r4
  have HNX := Lib.hid hN
  clear s4 r4 hN
  go_wp2_with fail
  go_ret
  exact lay_mk HNX.out HSX.out HRX.out
theorem ly_2 (W sl : Nat) (cp sa ow : Int) (ia ra : Option Addr) (il ic rl rc : Nat) (init : List Int) (w : World) (hr : Ch.rightB W sl cp sa il rl = true) (hi : Row w ia (init.map (Value.int .u32))) (hl : init.length = il) (hsa : 0 ≤ sa ∧ sa < 4294967296 := by assumption) :
    Calls Try.prog 41 #[.agg #[.int .i64 2, .int .i64 W, .int .i64 sl, .int .i64 cp, .int .u32 sa, .slice ia il ic, .int .i64 ow, .slice ra rl rc]] w (LayP w (layF 2 W sl rl sa init)) := by
  rw [lay_2]
  refine (Ch.lay_yes W sl cp sa ow ia ra il ic rl rc init w hr hi hl).mono fun e w' he => ?_
  obtain ⟨g, rfl, s, ho⟩ := he
  exact lay_mk (Ch.lay_len W sl rl sa init).symm s ho.row
theorem rly_2 (W sl : Nat) (cp sa ow : Int) (ia ra : Option Addr) (il ic rl rc : Nat) (init : List Int) (w : World) (hr : Ch.rightB W sl cp sa il rl = true) (hi : Row w ia (init.map (Value.int .u32))) (hl : init.length = il) (hsa : 0 ≤ sa ∧ sa < 4294967296 := by assumption) :
    Calls Try.prog 26 #[.agg #[.int .i64 2, .int .i64 W, .int .i64 sl, .int .i64 cp, .int .u32 sa, .slice ia il ic, .int .i64 ow, .slice ra rl rc]] w (LayP w (layF 2 W sl rl sa init)) := by
  rw [lay_2]
  refine (Ch.rlay_yes W sl cp sa ow ia ra il ic rl rc init w hr hi hl).mono fun e w' he => ?_
  obtain ⟨g, rfl, s, ho⟩ := he
  exact lay_mk (Ch.lay_len W sl rl sa init).symm s ho.row
set_option maxRecDepth 100000 in
theorem olay_2 (W sl : Nat) (cp sa ow : Int) (ia ra : Option Addr) (il ic rl rc : Nat) (init : List Int) (w : World) (hr : Ch.rightB W sl cp sa il rl = true) (hi : Row w ia (init.map (Value.int .u32))) (hl : init.length = il) (hsa : 0 ≤ sa ∧ sa < 4294967296 := by assumption) :
    Calls Try.prog 21 #[.agg #[.int .i64 2, .int .i64 W, .int .i64 sl, .int .i64 cp, .int .u32 sa, .slice ia il ic, .int .i64 ow, .slice ra rl rc]] w (LayP w (layF 2 W sl rl sa init)) := by
  have HC := Lib.hid (fun w' (s : Same w w') => ly_2 W sl cp sa ow ia ra il ic rl rc init w' hr (hi.same s) hl)
  have hb0 := Blk.new w 47 #[.int .i64 2, .int .i64 W, .int .i64 sl, .int .i64 cp, .int .u32 sa, .slice ia il ic, .int .i64 ow, .slice ra rl rc]
  have HS0 := Lib.hid ((Same.refl w).alloc (.cells #[.int .i64 2, .int .i64 W, .int .i64 sl, .int .i64 cp, .int .u32 sa, .slice ia il ic, .int .i64 ow, .slice ra rl rc] 47))
  have HB0 := Lib.hid hb0
  clear hb0 hr hi hl
  generalize layF 2 W sl rl sa init = ws at *
  go_enter Try.func21, Try.ntmps21
  go_wp2_with fail
  refine (face_2 _).mono ?_
  rintro e w2 ⟨rfl, s2⟩
  have HZ := Lib.hid (Blk.new w2 73 #[.string ⟨#[]⟩, .nilFunc, .nilFunc, .nilFunc, .nilFunc])
  have HS2 := Lib.hid (HS0.out.trans s2)
  have hb2 := HB0.out.same s2
  have hlt := hb2.lt
  have hb3 := (hb2.same ((Same.refl w2).alloc (.cells #[.string ⟨#[]⟩, .nilFunc, .nilFunc, .nilFunc, .nilFunc] 73)))
  have HB := Lib.hid (Blk.chg hb3 (chg_setRow (Chg.refl (fun i => i = w2.heap.size) _) (.inl rfl) #[.string ⟨#[99, 104, 101, 110]⟩, .func (.func 39) #[] #[], .func (.func 40) #[] #[], .func (.func 41) #[] #[], .func (.func 42) #[] #[]]) (by omega))
  have HF := Lib.hid (row_blk (cs := #[.string ⟨#[99, 104, 101, 110]⟩, .func (.func 39) #[] #[], .func (.func 40) #[] #[], .func (.func 41) #[] #[], .func (.func 42) #[] #[]]) HZ.out)
  have HS3 := Lib.hid (show Same w ((w2.alloc (.cells #[.string ⟨#[]⟩, .nilFunc, .nilFunc, .nilFunc, .nilFunc] 73)).setRow w2.heap.size #[.string ⟨#[99, 104, 101, 110]⟩, .func (.func 39) #[] #[], .func (.func 40) #[] #[], .func (.func 41) #[] #[], .func (.func 42) #[] #[]]) from chg_setRow (HS2.out.alloc _) (.inr HS2.out.size) _)
  clear s2 hb2 hb3 hlt HB0 HS0
  have d0 : ((w2.alloc (.cells #[.string ⟨#[]⟩, .nilFunc, .nilFunc, .nilFunc, .nilFunc] 73)).setRow w2.heap.size #[.string ⟨#[99, 104, 101, 110]⟩, .func (.func 39) #[] #[], .func (.func 40) #[] #[], .func (.func 41) #[] #[], .func (.func 42) #[] #[]]).cell? ⟨w.heap.size, 0, none⟩ = some (.int .i64 2) := HB.out.cell 0
  have d1 : ((w2.alloc (.cells #[.string ⟨#[]⟩, .nilFunc, .nilFunc, .nilFunc, .nilFunc] 73)).setRow w2.heap.size #[.string ⟨#[99, 104, 101, 110]⟩, .func (.func 39) #[] #[], .func (.func 40) #[] #[], .func (.func 41) #[] #[], .func (.func 42) #[] #[]]).cell? ⟨w.heap.size, 1, none⟩ = some (.int .i64 W) := HB.out.cell 1
  have d2 : ((w2.alloc (.cells #[.string ⟨#[]⟩, .nilFunc, .nilFunc, .nilFunc, .nilFunc] 73)).setRow w2.heap.size #[.string ⟨#[99, 104, 101, 110]⟩, .func (.func 39) #[] #[], .func (.func 40) #[] #[], .func (.func 41) #[] #[], .func (.func 42) #[] #[]]).cell? ⟨w.heap.size, 2, none⟩ = some (.int .i64 sl) := HB.out.cell 2
  have d3 : ((w2.alloc (.cells #[.string ⟨#[]⟩, .nilFunc, .nilFunc, .nilFunc, .nilFunc] 73)).setRow w2.heap.size #[.string ⟨#[99, 104, 101, 110]⟩, .func (.func 39) #[] #[], .func (.func 40) #[] #[], .func (.func 41) #[] #[], .func (.func 42) #[] #[]]).cell? ⟨w.heap.size, 3, none⟩ = some (.int .i64 cp) := HB.out.cell 3
  have d4 : ((w2.alloc (.cells #[.string ⟨#[]⟩, .nilFunc, .nilFunc, .nilFunc, .nilFunc] 73)).setRow w2.heap.size #[.string ⟨#[99, 104, 101, 110]⟩, .func (.func 39) #[] #[], .func (.func 40) #[] #[], .func (.func 41) #[] #[], .func (.func 42) #[] #[]]).cell? ⟨w.heap.size, 4, none⟩ = some (.int .u32 sa) := HB.out.cell 4
  have d5 : ((w2.alloc (.cells #[.string ⟨#[]⟩, .nilFunc, .nilFunc, .nilFunc, .nilFunc] 73)).setRow w2.heap.size #[.string ⟨#[99, 104, 101, 110]⟩, .func (.func 39) #[] #[], .func (.func 40) #[] #[], .func (.func 41) #[] #[], .func (.func 42) #[] #[]]).cell? ⟨w.heap.size, 5, none⟩ = some (.slice ia il ic) := HB.out.cell 5
  have d6 : ((w2.alloc (.cells #[.string ⟨#[]⟩, .nilFunc, .nilFunc, .nilFunc, .nilFunc] 73)).setRow w2.heap.size #[.string ⟨#[99, 104, 101, 110]⟩, .func (.func 39) #[] #[], .func (.func 40) #[] #[], .func (.func 41) #[] #[], .func (.func 42) #[] #[]]).cell? ⟨w.heap.size, 6, none⟩ = some (.int .i64 ow) := HB.out.cell 6
  have d7 : ((w2.alloc (.cells #[.string ⟨#[]⟩, .nilFunc, .nilFunc, .nilFunc, .nilFunc] 73)).setRow w2.heap.size #[.string ⟨#[99, 104, 101, 110]⟩, .func (.func 39) #[] #[], .func (.func 40) #[] #[], .func (.func 41) #[] #[], .func (.func 42) #[] #[]]).cell? ⟨w.heap.size, 7, none⟩ = some (.slice ra rl rc) := HB.out.cell 7
  have df : ((w2.alloc (.cells #[.string ⟨#[]⟩, .nilFunc, .nilFunc, .nilFunc, .nilFunc] 73)).setRow w2.heap.size #[.string ⟨#[99, 104, 101, 110]⟩, .func (.func 39) #[] #[], .func (.func 40) #[] #[], .func (.func 41) #[] #[], .func (.func 42) #[] #[]]).cell? ⟨w2.heap.size, 3, none⟩ = some (.func (.func 41) #[] #[]) := HF.out.cell 3
  go_wp2_with (refine wpList_store_row rfl 73 (.tmp 3) (.tmp 9) rfl w2.heap.size #[.string ⟨#[99, 104, 101, 110]⟩, .func (.func 39) #[] #[], .func (.func 40) #[] #[], .func (.func 41) #[] #[], .func (.func 42) #[] #[]] rfl rfl 73 #[.string ⟨#[]⟩, .nilFunc, .nilFunc, .nilFunc, .nilFunc] HZ.out face_size rfl one_2 ?_)
  refine (HC.out _ HS3.out).mono ?_
  rintro e w4 ⟨g, N, hN, rfl, s4, r4⟩
  have HSX := Lib.hid (HS3.out.trans s4)
  have HRX := Lib.hid r4
  have HNX := Lib.hid hN
  clear s4 r4 hN
  go_wp2_with fail
  go_ret
  exact lay_mk HNX.out HSX.out HRX.out
theorem ly_3 (W sl : Nat) (cp sa ow : Int) (ia ra : Option Addr) (il ic rl rc : Nat) (init : List Int) (w : World) (hr : Sq.rightB W sl cp sa il rl = true) (hi : Row w ia (init.map (Value.int .u32))) (hl : init.length = il) (hsa : 0 ≤ sa ∧ sa < 4294967296 := by assumption) :
    Calls Try.prog 45 #[.agg #[.int .i64 3, .int .i64 W, .int .i64 sl, .int .i64 cp, .int .u32 sa, .slice ia il ic, .int .i64 ow, .slice ra rl rc]] w (LayP w (layF 3 W sl rl sa init)) := by
  rw [lay_3]
  refine (Sq.lay_yes W sl cp sa ow ia ra il ic rl rc init w hr hi hl).mono fun e w' he => ?_
  obtain ⟨g, rfl, s, ho⟩ := he
  exact lay_mk (Sq.lay_len W sa init).symm s ho.row
theorem rly_3 (W sl : Nat) (cp sa ow : Int) (ia ra : Option Addr) (il ic rl rc : Nat) (init : List Int) (w : World) (hr : Sq.rightB W sl cp sa il rl = true) (hi : Row w ia (init.map (Value.int .u32))) (hl : init.length = il) (hsa : 0 ≤ sa ∧ sa < 4294967296 := by assumption) :
    Calls Try.prog 26 #[.agg #[.int .i64 3, .int .i64 W, .int .i64 sl, .int .i64 cp, .int .u32 sa, .slice ia il ic, .int .i64 ow, .slice ra rl rc]] w (LayP w (layF 3 W sl rl sa init)) := by
  obtain ⟨_, _, _, hs0, _, _⟩ := Sq.HQ hr
  have hs0 : sl = 0 := by omega
  subst hs0
  rw [lay_3]
  refine (Sq.rlay_yes W cp sa ow ia ra il ic rl rc init w hr hi hl).mono fun e w' he => ?_
  obtain ⟨g, rfl, s, ho⟩ := he
  exact lay_mk (Sq.lay_len W sa init).symm s ho.row
set_option maxRecDepth 100000 in
theorem olay_3 (W sl : Nat) (cp sa ow : Int) (ia ra : Option Addr) (il ic rl rc : Nat) (init : List Int) (w : World) (hr : Sq.rightB W sl cp sa il rl = true) (hi : Row w ia (init.map (Value.int .u32))) (hl : init.length = il) (hsa : 0 ≤ sa ∧ sa < 4294967296 := by assumption) :
    Calls Try.prog 21 #[.agg #[.int .i64 3, .int .i64 W, .int .i64 sl, .int .i64 cp, .int .u32 sa, .slice ia il ic, .int .i64 ow, .slice ra rl rc]] w (LayP w (layF 3 W sl rl sa init)) := by
  have HC := Lib.hid (fun w' (s : Same w w') => ly_3 W sl cp sa ow ia ra il ic rl rc init w' hr (hi.same s) hl)
  have hb0 := Blk.new w 47 #[.int .i64 3, .int .i64 W, .int .i64 sl, .int .i64 cp, .int .u32 sa, .slice ia il ic, .int .i64 ow, .slice ra rl rc]
  have HS0 := Lib.hid ((Same.refl w).alloc (.cells #[.int .i64 3, .int .i64 W, .int .i64 sl, .int .i64 cp, .int .u32 sa, .slice ia il ic, .int .i64 ow, .slice ra rl rc] 47))
  have HB0 := Lib.hid hb0
  clear hb0 hr hi hl
  generalize layF 3 W sl rl sa init = ws at *
  go_enter Try.func21, Try.ntmps21
  go_wp2_with fail
  refine (face_3 _).mono ?_
  rintro e w2 ⟨rfl, s2⟩
  have HZ := Lib.hid (Blk.new w2 73 #[.string ⟨#[]⟩, .nilFunc, .nilFunc, .nilFunc, .nilFunc])
  have HS2 := Lib.hid (HS0.out.trans s2)
  have hb2 := HB0.out.same s2
  have hlt := hb2.lt
  have hb3 := (hb2.same ((Same.refl w2).alloc (.cells #[.string ⟨#[]⟩, .nilFunc, .nilFunc, .nilFunc, .nilFunc] 73)))
  have HB := Lib.hid (Blk.chg hb3 (chg_setRow (Chg.refl (fun i => i = w2.heap.size) _) (.inl rfl) #[.string ⟨#[115, 101, 113]⟩, .func (.func 43) #[] #[], .func (.func 44) #[] #[], .func (.func 45) #[] #[], .func (.func 46) #[] #[]]) (by omega))
  have HF := Lib.hid (row_blk (cs := #[.string ⟨#[115, 101, 113]⟩, .func (.func 43) #[] #[], .func (.func 44) #[] #[], .func (.func 45) #[] #[], .func (.func 46) #[] #[]]) HZ.out)
  have HS3 := Lib.hid (show Same w ((w2.alloc (.cells #[.string ⟨#[]⟩, .nilFunc, .nilFunc, .nilFunc, .nilFunc] 73)).setRow w2.heap.size #[.string ⟨#[115, 101, 113]⟩, .func (.func 43) #[] #[], .func (.func 44) #[] #[], .func (.func 45) #[] #[], .func (.func 46) #[] #[]]) from chg_setRow (HS2.out.alloc _) (.inr HS2.out.size) _)
  clear s2 hb2 hb3 hlt HB0 HS0
  have d0 : ((w2.alloc (.cells #[.string ⟨#[]⟩, .nilFunc, .nilFunc, .nilFunc, .nilFunc] 73)).setRow w2.heap.size #[.string ⟨#[115, 101, 113]⟩, .func (.func 43) #[] #[], .func (.func 44) #[] #[], .func (.func 45) #[] #[], .func (.func 46) #[] #[]]).cell? ⟨w.heap.size, 0, none⟩ = some (.int .i64 3) := HB.out.cell 0
  have d1 : ((w2.alloc (.cells #[.string ⟨#[]⟩, .nilFunc, .nilFunc, .nilFunc, .nilFunc] 73)).setRow w2.heap.size #[.string ⟨#[115, 101, 113]⟩, .func (.func 43) #[] #[], .func (.func 44) #[] #[], .func (.func 45) #[] #[], .func (.func 46) #[] #[]]).cell? ⟨w.heap.size, 1, none⟩ = some (.int .i64 W) := HB.out.cell 1
  have d2 : ((w2.alloc (.cells #[.string ⟨#[]⟩, .nilFunc, .nilFunc, .nilFunc, .nilFunc] 73)).setRow w2.heap.size #[.string ⟨#[115, 101, 113]⟩, .func (.func 43) #[] #[], .func (.func 44) #[] #[], .func (.func 45) #[] #[], .func (.func 46) #[] #[]]).cell? ⟨w.heap.size, 2, none⟩ = some (.int .i64 sl) := HB.out.cell 2
  have d3 : ((w2.alloc (.cells #[.string ⟨#[]⟩, .nilFunc, .nilFunc, .nilFunc, .nilFunc] 73)).setRow w2.heap.size #[.string ⟨#[115, 101, 113]⟩, .func (.func 43) #[] #[], .func (.func 44) #[] #[], .func (.func 45) #[] #[], .func (.func 46) #[] #[]]).cell? ⟨w.heap.size, 3, none⟩ = some (.int .i64 cp) := HB.out.cell 3
  have d4 : ((w2.alloc (.cells #[.string ⟨#[]⟩, .nilFunc, .nilFunc, .nilFunc, .nilFunc] 73)).setRow w2.heap.size #[.string ⟨#[115, 101, 113]⟩, .func (.func 43) #[] #[], .func (.func 44) #[] #[], .func (.func 45) #[] #[], .func (.func 46) #[] #[]]).cell? ⟨w.heap.size, 4, none⟩ = some (.int .u32 sa) := HB.out.cell 4
  have d5 : ((w2.alloc (.cells #[.string ⟨#[]⟩, .nilFunc, .nilFunc, .nilFunc, .nilFunc] 73)).setRow w2.heap.size #[.string ⟨#[115, 101, 113]⟩, .func (.func 43) #[] #[], .func (.func 44) #[] #[], .func (.func 45) #[] #[], .func (.func 46) #[] #[]]).cell? ⟨w.heap.size, 5, none⟩ = some (.slice ia il ic) := HB.out.cell 5
  have d6 : ((w2.alloc (.cells #[.string ⟨#[]⟩, .nilFunc, .nilFunc, .nilFunc, .nilFunc] 73)).setRow w2.heap.size #[.string ⟨#[115, 101, 113]⟩, .func (.func 43) #[] #[], .func (.func 44) #[] #[], .func (.func 45) #[] #[], .func (.func 46) #[] #[]]).cell? ⟨w.heap.size, 6, none⟩ = some (.int .i64 ow) := HB.out.cell 6
  have d7 : ((w2.alloc (.cells #[.string ⟨#[]⟩, .nilFunc, .nilFunc, .nilFunc, .nilFunc] 73)).setRow w2.heap.size #[.string ⟨#[115, 101, 113]⟩, .func (.func 43) #[] #[], .func (.func 44) #[] #[], .func (.func 45) #[] #[], .func (.func 46) #[] #[]]).cell? ⟨w.heap.size, 7, none⟩ = some (.slice ra rl rc) := HB.out.cell 7
  have df : ((w2.alloc (.cells #[.string ⟨#[]⟩, .nilFunc, .nilFunc, .nilFunc, .nilFunc] 73)).setRow w2.heap.size #[.string ⟨#[115, 101, 113]⟩, .func (.func 43) #[] #[], .func (.func 44) #[] #[], .func (.func 45) #[] #[], .func (.func 46) #[] #[]]).cell? ⟨w2.heap.size, 3, none⟩ = some (.func (.func 45) #[] #[]) := HF.out.cell 3
  go_wp2_with (refine wpList_store_row rfl 73 (.tmp 3) (.tmp 9) rfl w2.heap.size #[.string ⟨#[115, 101, 113]⟩, .func (.func 43) #[] #[], .func (.func 44) #[] #[], .func (.func 45) #[] #[], .func (.func 46) #[] #[]] rfl rfl 73 #[.string ⟨#[]⟩, .nilFunc, .nilFunc, .nilFunc, .nilFunc] HZ.out face_size rfl one_3 ?_)
  refine (HC.out _ HS3.out).mono ?_
  rintro e w4 ⟨g, N, hN, rfl, s4, r4⟩
  have HSX := Lib.hid (HS3.out.trans s4)
  have HRX := Lib.hid r4
  have HNX := Lib.hid hN
  clear s4 r4 hN
  go_wp2_with fail
  go_ret
  exact lay_mk HNX.out HSX.out HRX.out
theorem ly_4 (W sl : Nat) (cp sa ow : Int) (ia ra : Option Addr) (il ic rl rc : Nat) (init : List Int) (w : World) (hr : Rg.rightB W sl cp sa il rl = true) (hi : Row w ia (init.map (Value.int .u32))) (hl : init.length = il) (hsa : 0 ≤ sa ∧ sa < 4294967296 := by assumption) :
    Calls Try.prog 49 #[.agg #[.int .i64 4, .int .i64 W, .int .i64 sl, .int .i64 cp, .int .u32 sa, .slice ia il ic, .int .i64 ow, .slice ra rl rc]] w (LayP w (layF 4 W sl rl sa init)) := by
  rw [lay_4]
  refine (Rg.lay_yes W sl cp sa ow ia ra il ic rl rc init w hr hi hl).mono fun e w' he => ?_
  obtain ⟨g, rfl, s, ho⟩ := he
  exact lay_mk (Rg.lay_len W sl sa init).symm s ho.row
theorem rly_4 (W sl : Nat) (cp sa ow : Int) (ia ra : Option Addr) (il ic rl rc : Nat) (init : List Int) (w : World) (hr : Rg.rightB W sl cp sa il rl = true) (hi : Row w ia (init.map (Value.int .u32))) (hl : init.length = il) (hsa : 0 ≤ sa ∧ sa < 4294967296 := by assumption) :
    Calls Try.prog 26 #[.agg #[.int .i64 4, .int .i64 W, .int .i64 sl, .int .i64 cp, .int .u32 sa, .slice ia il ic, .int .i64 ow, .slice ra rl rc]] w (LayP w (layF 4 W sl rl sa init)) := by
  rw [lay_4]
  refine (Rg.rlay_yes W sl cp sa ow ia ra il ic rl rc init w hr hi hl).mono fun e w' he => ?_
  obtain ⟨g, rfl, s, ho⟩ := he
  exact lay_mk (Rg.lay_len W sl sa init).symm s ho.row
set_option maxRecDepth 100000 in
theorem olay_4 (W sl : Nat) (cp sa ow : Int) (ia ra : Option Addr) (il ic rl rc : Nat) (init : List Int) (w : World) (hr : Rg.rightB W sl cp sa il rl = true) (hi : Row w ia (init.map (Value.int .u32))) (hl : init.length = il) (hsa : 0 ≤ sa ∧ sa < 4294967296 := by assumption) :
    Calls Try.prog 21 #[.agg #[.int .i64 4, .int .i64 W, .int .i64 sl, .int .i64 cp, .int .u32 sa, .slice ia il ic, .int .i64 ow, .slice ra rl rc]] w (LayP w (layF 4 W sl rl sa init)) := by
  have HC := Lib.hid (fun w' (s : Same w w') => ly_4 W sl cp sa ow ia ra il ic rl rc init w' hr (hi.same s) hl)
  have hb0 := Blk.new w 47 #[.int .i64 4, .int .i64 W, .int .i64 sl, .int .i64 cp, .int .u32 sa, .slice ia il ic, .int .i64 ow, .slice ra rl rc]
  have HS0 := Lib.hid ((Same.refl w).alloc (.cells #[.int .i64 4, .int .i64 W, .int .i64 sl, .int .i64 cp, .int .u32 sa, .slice ia il ic, .int .i64 ow, .slice ra rl rc] 47))
  have HB0 := Lib.hid hb0
  clear hb0 hr hi hl
  generalize layF 4 W sl rl sa init = ws at *
  go_enter Try.func21, Try.ntmps21
  go_wp2_with fail
  refine (face_4 _).mono ?_
  rintro e w2 ⟨rfl, s2⟩
  have HZ := Lib.hid (Blk.new w2 73 #[.string ⟨#[]⟩, .nilFunc, .nilFunc, .nilFunc, .nilFunc])
  have HS2 := Lib.hid (HS0.out.trans s2)
  have hb2 := HB0.out.same s2
  have hlt := hb2.lt
  have hb3 := (hb2.same ((Same.refl w2).alloc (.cells #[.string ⟨#[]⟩, .nilFunc, .nilFunc, .nilFunc, .nilFunc] 73)))
  have HB := Lib.hid (Blk.chg hb3 (chg_setRow (Chg.refl (fun i => i = w2.heap.size) _) (.inl rfl) #[.string ⟨#[114, 105, 110, 103]⟩, .func (.func 47) #[] #[], .func (.func 48) #[] #[], .func (.func 49) #[] #[], .func (.func 50) #[] #[]]) (by omega))
  have HF := Lib.hid (row_blk (cs := #[.string ⟨#[114, 105, 110, 103]⟩, .func (.func 47) #[] #[], .func (.func 48) #[] #[], .func (.func 49) #[] #[], .func (.func 50) #[] #[]]) HZ.out)
  have HS3 := Lib.hid (show Same w ((w2.alloc (.cells #[.string ⟨#[]⟩, .nilFunc, .nilFunc, .nilFunc, .nilFunc] 73)).setRow w2.heap.size #[.string ⟨#[114, 105, 110, 103]⟩, .func (.func 47) #[] #[], .func (.func 48) #[] #[], .func (.func 49) #[] #[], .func (.func 50) #[] #[]]) from chg_setRow (HS2.out.alloc _) (.inr HS2.out.size) _)
  clear s2 hb2 hb3 hlt HB0 HS0
  have d0 : ((w2.alloc (.cells #[.string ⟨#[]⟩, .nilFunc, .nilFunc, .nilFunc, .nilFunc] 73)).setRow w2.heap.size #[.string ⟨#[114, 105, 110, 103]⟩, .func (.func 47) #[] #[], .func (.func 48) #[] #[], .func (.func 49) #[] #[], .func (.func 50) #[] #[]]).cell? ⟨w.heap.size, 0, none⟩ = some (.int .i64 4) := HB.out.cell 0
  have d1 : ((w2.alloc (.cells #[.string ⟨#[]⟩, .nilFunc, .nilFunc, .nilFunc, .nilFunc] 73)).setRow w2.heap.size #[.string ⟨#[114, 105, 110, 103]⟩, .func (.func 47) #[] #[], .func (.func 48) #[] #[], .func (.func 49) #[] #[], .func (.func 50) #[] #[]]).cell? ⟨w.heap.size, 1, none⟩ = some (.int .i64 W) := HB.out.cell 1
  have d2 : ((w2.alloc (.cells #[.string ⟨#[]⟩, .nilFunc, .nilFunc, .nilFunc, .nilFunc] 73)).setRow w2.heap.size #[.string ⟨#[114, 105, 110, 103]⟩, .func (.func 47) #[] #[], .func (.func 48) #[] #[], .func (.func 49) #[] #[], .func (.func 50) #[] #[]]).cell? ⟨w.heap.size, 2, none⟩ = some (.int .i64 sl) := HB.out.cell 2
  have d3 : ((w2.alloc (.cells #[.string ⟨#[]⟩, .nilFunc, .nilFunc, .nilFunc, .nilFunc] 73)).setRow w2.heap.size #[.string ⟨#[114, 105, 110, 103]⟩, .func (.func 47) #[] #[], .func (.func 48) #[] #[], .func (.func 49) #[] #[], .func (.func 50) #[] #[]]).cell? ⟨w.heap.size, 3, none⟩ = some (.int .i64 cp) := HB.out.cell 3
  have d4 : ((w2.alloc (.cells #[.string ⟨#[]⟩, .nilFunc, .nilFunc, .nilFunc, .nilFunc] 73)).setRow w2.heap.size #[.string ⟨#[114, 105, 110, 103]⟩, .func (.func 47) #[] #[], .func (.func 48) #[] #[], .func (.func 49) #[] #[], .func (.func 50) #[] #[]]).cell? ⟨w.heap.size, 4, none⟩ = some (.int .u32 sa) := HB.out.cell 4
  have d5 : ((w2.alloc (.cells #[.string ⟨#[]⟩, .nilFunc, .nilFunc, .nilFunc, .nilFunc] 73)).setRow w2.heap.size #[.string ⟨#[114, 105, 110, 103]⟩, .func (.func 47) #[] #[], .func (.func 48) #[] #[], .func (.func 49) #[] #[], .func (.func 50) #[] #[]]).cell? ⟨w.heap.size, 5, none⟩ = some (.slice ia il ic) := HB.out.cell 5
  have d6 : ((w2.alloc (.cells #[.string ⟨#[]⟩, .nilFunc, .nilFunc, .nilFunc, .nilFunc] 73)).setRow w2.heap.size #[.string ⟨#[114, 105, 110, 103]⟩, .func (.func 47) #[] #[], .func (.func 48) #[] #[], .func (.func 49) #[] #[], .func (.func 50) #[] #[]]).cell? ⟨w.heap.size, 6, none⟩ = some (.int .i64 ow) := HB.out.cell 6
  have d7 : ((w2.alloc (.cells #[.string ⟨#[]⟩, .nilFunc, .nilFunc, .nilFunc, .nilFunc] 73)).setRow w2.heap.size #[.string ⟨#[114, 105, 110, 103]⟩, .func (.func 47) #[] #[], .func (.func 48) #[] #[], .func (.func 49) #[] #[], .func (.func 50) #[] #[]]).cell? ⟨w.heap.size, 7, none⟩ = some (.slice ra rl rc) := HB.out.cell 7
  have df : ((w2.alloc (.cells #[.string ⟨#[]⟩, .nilFunc, .nilFunc, .nilFunc, .nilFunc] 73)).setRow w2.heap.size #[.string ⟨#[114, 105, 110, 103]⟩, .func (.func 47) #[] #[], .func (.func 48) #[] #[], .func (.func 49) #[] #[], .func (.func 50) #[] #[]]).cell? ⟨w2.heap.size, 3, none⟩ = some (.func (.func 49) #[] #[]) := HF.out.cell 3
  go_wp2_with (refine wpList_store_row rfl 73 (.tmp 3) (.tmp 9) rfl w2.heap.size #[.string ⟨#[114, 105, 110, 103]⟩, .func (.func 47) #[] #[], .func (.func 48) #[] #[], .func (.func 49) #[] #[], .func (.func 50) #[] #[]] rfl rfl 73 #[.string ⟨#[]⟩, .nilFunc, .nilFunc, .nilFunc, .nilFunc] HZ.out face_size rfl one_4 ?_)
  refine (HC.out _ HS3.out).mono ?_
  rintro e w4 ⟨g, N, hN, rfl, s4, r4⟩
  have HSX := Lib.hid (HS3.out.trans s4)
  have HRX := Lib.hid r4
  have HNX := Lib.hid hN
  clear s4 r4 hN
  go_wp2_with fail
  go_ret
  exact lay_mk HNX.out HSX.out HRX.out
theorem ly_5 (W sl : Nat) (cp sa ow : Int) (ia ra : Option Addr) (il ic rl rc : Nat) (init : List Int) (w : World) (hr : Cb.rightB W sl cp sa il rl = true) (hi : Row w ia (init.map (Value.int .u32))) (hl : init.length = il) (hsa : 0 ≤ sa ∧ sa < 4294967296 := by assumption) :
    Calls Try.prog 53 #[.agg #[.int .i64 5, .int .i64 W, .int .i64 sl, .int .i64 cp, .int .u32 sa, .slice ia il ic, .int .i64 ow, .slice ra rl rc]] w (LayP w (layF 5 W sl rl sa init)) := by
  rw [lay_5]
  refine (Cb.lay_yes W sl cp sa ow ia ra il ic rl rc init w hr hi hl).mono fun e w' he => ?_
  obtain ⟨g, rfl, s, ho⟩ := he
  exact lay_mk (Cb.lay_len W sl rl sa init).symm s ho.row
theorem rly_5 (W sl : Nat) (cp sa ow : Int) (ia ra : Option Addr) (il ic rl rc : Nat) (init : List Int) (w : World) (hr : Cb.rightB W sl cp sa il rl = true) (hi : Row w ia (init.map (Value.int .u32))) (hl : init.length = il) (hsa : 0 ≤ sa ∧ sa < 4294967296 := by assumption) :
    Calls Try.prog 26 #[.agg #[.int .i64 5, .int .i64 W, .int .i64 sl, .int .i64 cp, .int .u32 sa, .slice ia il ic, .int .i64 ow, .slice ra rl rc]] w (LayP w (layF 5 W sl rl sa init)) := by
  rw [lay_5]
  refine (Cb.rlay_yes W sl cp sa ow ia ra il ic rl rc init w hr hi hl).mono fun e w' he => ?_
  obtain ⟨g, rfl, s, ho⟩ := he
  exact lay_mk (Cb.lay_len W sl rl sa init).symm s ho.row
set_option maxRecDepth 100000 in
theorem olay_5 (W sl : Nat) (cp sa ow : Int) (ia ra : Option Addr) (il ic rl rc : Nat) (init : List Int) (w : World) (hr : Cb.rightB W sl cp sa il rl = true) (hi : Row w ia (init.map (Value.int .u32))) (hl : init.length = il) (hsa : 0 ≤ sa ∧ sa < 4294967296 := by assumption) :
    Calls Try.prog 21 #[.agg #[.int .i64 5, .int .i64 W, .int .i64 sl, .int .i64 cp, .int .u32 sa, .slice ia il ic, .int .i64 ow, .slice ra rl rc]] w (LayP w (layF 5 W sl rl sa init)) := by
  have HC := Lib.hid (fun w' (s : Same w w') => ly_5 W sl cp sa ow ia ra il ic rl rc init w' hr (hi.same s) hl)
  have hb0 := Blk.new w 47 #[.int .i64 5, .int .i64 W, .int .i64 sl, .int .i64 cp, .int .u32 sa, .slice ia il ic, .int .i64 ow, .slice ra rl rc]
  have HS0 := Lib.hid ((Same.refl w).alloc (.cells #[.int .i64 5, .int .i64 W, .int .i64 sl, .int .i64 cp, .int .u32 sa, .slice ia il ic, .int .i64 ow, .slice ra rl rc] 47))
  have HB0 := Lib.hid hb0
  clear hb0 hr hi hl
  generalize layF 5 W sl rl sa init = ws at *
  go_enter Try.func21, Try.ntmps21
  go_wp2_with fail
  refine (face_5 _).mono ?_
  rintro e w2 ⟨rfl, s2⟩
  have HZ := Lib.hid (Blk.new w2 73 #[.string ⟨#[]⟩, .nilFunc, .nilFunc, .nilFunc, .nilFunc])
  have HS2 := Lib.hid (HS0.out.trans s2)
  have hb2 := HB0.out.same s2
  have hlt := hb2.lt
  have hb3 := (hb2.same ((Same.refl w2).alloc (.cells #[.string ⟨#[]⟩, .nilFunc, .nilFunc, .nilFunc, .nilFunc] 73)))
  have HB := Lib.hid (Blk.chg hb3 (chg_setRow (Chg.refl (fun i => i = w2.heap.size) _) (.inl rfl) #[.string ⟨#[99, 97, 98]⟩, .func (.func 51) #[] #[], .func (.func 52) #[] #[], .func (.func 53) #[] #[], .func (.func 54) #[] #[]]) (by omega))
  have HF := Lib.hid (row_blk (cs := #[.string ⟨#[99, 97, 98]⟩, .func (.func 51) #[] #[], .func (.func 52) #[] #[], .func (.func 53) #[] #[], .func (.func 54) #[] #[]]) HZ.out)
  have HS3 := Lib.hid (show Same w ((w2.alloc (.cells #[.string ⟨#[]⟩, .nilFunc, .nilFunc, .nilFunc, .nilFunc] 73)).setRow w2.heap.size #[.string ⟨#[99, 97, 98]⟩, .func (.func 51) #[] #[], .func (.func 52) #[] #[], .func (.func 53) #[] #[], .func (.func 54) #[] #[]]) from chg_setRow (HS2.out.alloc _) (.inr HS2.out.size) _)
  clear s2 hb2 hb3 hlt HB0 HS0
  have d0 : ((w2.alloc (.cells #[.string ⟨#[]⟩, .nilFunc, .nilFunc, .nilFunc, .nilFunc] 73)).setRow w2.heap.size #[.string ⟨#[99, 97, 98]⟩, .func (.func 51) #[] #[], .func (.func 52) #[] #[], .func (.func 53) #[] #[], .func (.func 54) #[] #[]]).cell? ⟨w.heap.size, 0, none⟩ = some (.int .i64 5) := HB.out.cell 0
  have d1 : ((w2.alloc (.cells #[.string ⟨#[]⟩, .nilFunc, .nilFunc, .nilFunc, .nilFunc] 73)).setRow w2.heap.size #[.string ⟨#[99, 97, 98]⟩, .func (.func 51) #[] #[], .func (.func 52) #[] #[], .func (.func 53) #[] #[], .func (.func 54) #[] #[]]).cell? ⟨w.heap.size, 1, none⟩ = some (.int .i64 W) := HB.out.cell 1
  have d2 : ((w2.alloc (.cells #[.string ⟨#[]⟩, .nilFunc, .nilFunc, .nilFunc, .nilFunc] 73)).setRow w2.heap.size #[.string ⟨#[99, 97, 98]⟩, .func (.func 51) #[] #[], .func (.func 52) #[] #[], .func (.func 53) #[] #[], .func (.func 54) #[] #[]]).cell? ⟨w.heap.size, 2, none⟩ = some (.int .i64 sl) := HB.out.cell 2
  have d3 : ((w2.alloc (.cells #[.string ⟨#[]⟩, .nilFunc, .nilFunc, .nilFunc, .nilFunc] 73)).setRow w2.heap.size #[.string ⟨#[99, 97, 98]⟩, .func (.func 51) #[] #[], .func (.func 52) #[] #[], .func (.func 53) #[] #[], .func (.func 54) #[] #[]]).cell? ⟨w.heap.size, 3, none⟩ = some (.int .i64 cp) := HB.out.cell 3
  have d4 : ((w2.alloc (.cells #[.string ⟨#[]⟩, .nilFunc, .nilFunc, .nilFunc, .nilFunc] 73)).setRow w2.heap.size #[.string ⟨#[99, 97, 98]⟩, .func (.func 51) #[] #[], .func (.func 52) #[] #[], .func (.func 53) #[] #[], .func (.func 54) #[] #[]]).cell? ⟨w.heap.size, 4, none⟩ = some (.int .u32 sa) := HB.out.cell 4
  have d5 : ((w2.alloc (.cells #[.string ⟨#[]⟩, .nilFunc, .nilFunc, .nilFunc, .nilFunc] 73)).setRow w2.heap.size #[.string ⟨#[99, 97, 98]⟩, .func (.func 51) #[] #[], .func (.func 52) #[] #[], .func (.func 53) #[] #[], .func (.func 54) #[] #[]]).cell? ⟨w.heap.size, 5, none⟩ = some (.slice ia il ic) := HB.out.cell 5
  have d6 : ((w2.alloc (.cells #[.string ⟨#[]⟩, .nilFunc, .nilFunc, .nilFunc, .nilFunc] 73)).setRow w2.heap.size #[.string ⟨#[99, 97, 98]⟩, .func (.func 51) #[] #[], .func (.func 52) #[] #[], .func (.func 53) #[] #[], .func (.func 54) #[] #[]]).cell? ⟨w.heap.size, 6, none⟩ = some (.int .i64 ow) := HB.out.cell 6
  have d7 : ((w2.alloc (.cells #[.string ⟨#[]⟩, .nilFunc, .nilFunc, .nilFunc, .nilFunc] 73)).setRow w2.heap.size #[.string ⟨#[99, 97, 98]⟩, .func (.func 51) #[] #[], .func (.func 52) #[] #[], .func (.func 53) #[] #[], .func (.func 54) #[] #[]]).cell? ⟨w.heap.size, 7, none⟩ = some (.slice ra rl rc) := HB.out.cell 7
  have df : ((w2.alloc (.cells #[.string ⟨#[]⟩, .nilFunc, .nilFunc, .nilFunc, .nilFunc] 73)).setRow w2.heap.size #[.string ⟨#[99, 97, 98]⟩, .func (.func 51) #[] #[], .func (.func 52) #[] #[], .func (.func 53) #[] #[], .func (.func 54) #[] #[]]).cell? ⟨w2.heap.size, 3, none⟩ = some (.func (.func 53) #[] #[]) := HF.out.cell 3
  go_wp2_with (refine wpList_store_row rfl 73 (.tmp 3) (.tmp 9) rfl w2.heap.size #[.string ⟨#[99, 97, 98]⟩, .func (.func 51) #[] #[], .func (.func 52) #[] #[], .func (.func 53) #[] #[], .func (.func 54) #[] #[]] rfl rfl 73 #[.string ⟨#[]⟩, .nilFunc, .nilFunc, .nilFunc, .nilFunc] HZ.out face_size rfl one_5 ?_)
  refine (HC.out _ HS3.out).mono ?_
  rintro e w4 ⟨g, N, hN, rfl, s4, r4⟩
  have HSX := Lib.hid (HS3.out.trans s4)
  have HRX := Lib.hid r4
  have HNX := Lib.hid hN
  clear s4 r4 hN
  go_wp2_with fail
  go_ret
  exact lay_mk HNX.out HSX.out HRX.out
theorem ly_6 (W sl : Nat) (cp sa ow : Int) (ia ra : Option Addr) (il ic rl rc : Nat) (init : List Int) (w : World) (hr : Ff.rightB W sl cp sa il rl = true) (hi : Row w ia (init.map (Value.int .u32))) (hl : init.length = il) (hsa : 0 ≤ sa ∧ sa < 4294967296 := by assumption) :
    Calls Try.prog 57 #[.agg #[.int .i64 6, .int .i64 W, .int .i64 sl, .int .i64 cp, .int .u32 sa, .slice ia il ic, .int .i64 ow, .slice ra rl rc]] w (LayP w (layF 6 W sl rl sa init)) := by
  rw [lay_6]
  refine (Ff.lay_yes W sl cp sa ow ia ra il ic rl rc init w hr hi hl).mono fun e w' he => ?_
  obtain ⟨g, rfl, s, ho⟩ := he
  exact lay_mk (Ff.lay_len W sl sa init).symm s ho.row
theorem rly_6 (W sl : Nat) (cp sa ow : Int) (ia ra : Option Addr) (il ic rl rc : Nat) (init : List Int) (w : World) (hr : Ff.rightB W sl cp sa il rl = true) (hi : Row w ia (init.map (Value.int .u32))) (hl : init.length = il) (hsa : 0 ≤ sa ∧ sa < 4294967296 := by assumption) :
    Calls Try.prog 26 #[.agg #[.int .i64 6, .int .i64 W, .int .i64 sl, .int .i64 cp, .int .u32 sa, .slice ia il ic, .int .i64 ow, .slice ra rl rc]] w (LayP w (layF 6 W sl rl sa init)) := by
  rw [lay_6]
  refine (Ff.rlay_yes W sl cp sa ow ia ra il ic rl rc init w hr hi hl).mono fun e w' he => ?_
  obtain ⟨g, rfl, s, ho⟩ := he
  exact lay_mk (Ff.lay_len W sl sa init).symm s ho.row
set_option maxRecDepth 100000 in
theorem olay_6 (W sl : Nat) (cp sa ow : Int) (ia ra : Option Addr) (il ic rl rc : Nat) (init : List Int) (w : World) (hr : Ff.rightB W sl cp sa il rl = true) (hi : Row w ia (init.map (Value.int .u32))) (hl : init.length = il) (hsa : 0 ≤ sa ∧ sa < 4294967296 := by assumption) :
    Calls Try.prog 21 #[.agg #[.int .i64 6, .int .i64 W, .int .i64 sl, .int .i64 cp, .int .u32 sa, .slice ia il ic, .int .i64 ow, .slice ra rl rc]] w (LayP w (layF 6 W sl rl sa init)) := by
  have HC := Lib.hid (fun w' (s : Same w w') => ly_6 W sl cp sa ow ia ra il ic rl rc init w' hr (hi.same s) hl)
  have hb0 := Blk.new w 47 #[.int .i64 6, .int .i64 W, .int .i64 sl, .int .i64 cp, .int .u32 sa, .slice ia il ic, .int .i64 ow, .slice ra rl rc]
  have HS0 := Lib.hid ((Same.refl w).alloc (.cells #[.int .i64 6, .int .i64 W, .int .i64 sl, .int .i64 cp, .int .u32 sa, .slice ia il ic, .int .i64 ow, .slice ra rl rc] 47))
  have HB0 := Lib.hid hb0
  clear hb0 hr hi hl
  generalize layF 6 W sl rl sa init = ws at *
  go_enter Try.func21, Try.ntmps21
  go_wp2_with fail
  refine (face_6 _).mono ?_
  rintro e w2 ⟨rfl, s2⟩
  have HZ := Lib.hid (Blk.new w2 73 #[.string ⟨#[]⟩, .nilFunc, .nilFunc, .nilFunc, .nilFunc])
  have HS2 := Lib.hid (HS0.out.trans s2)
  have hb2 := HB0.out.same s2
  have hlt := hb2.lt
  have hb3 := (hb2.same ((Same.refl w2).alloc (.cells #[.string ⟨#[]⟩, .nilFunc, .nilFunc, .nilFunc, .nilFunc] 73)))
  have HB := Lib.hid (Blk.chg hb3 (chg_setRow (Chg.refl (fun i => i = w2.heap.size) _) (.inl rfl) #[.string ⟨#[102, 105, 102, 111]⟩, .func (.func 55) #[] #[], .func (.func 56) #[] #[], .func (.func 57) #[] #[], .func (.func 58) #[] #[]]) (by omega))
  have HF := Lib.hid (row_blk (cs := #[.string ⟨#[102, 105, 102, 111]⟩, .func (.func 55) #[] #[], .func (.func 56) #[] #[], .func (.func 57) #[] #[], .func (.func 58) #[] #[]]) HZ.out)
  have HS3 := Lib.hid (show Same w ((w2.alloc (.cells #[.string ⟨#[]⟩, .nilFunc, .nilFunc, .nilFunc, .nilFunc] 73)).setRow w2.heap.size #[.string ⟨#[102, 105, 102, 111]⟩, .func (.func 55) #[] #[], .func (.func 56) #[] #[], .func (.func 57) #[] #[], .func (.func 58) #[] #[]]) from chg_setRow (HS2.out.alloc _) (.inr HS2.out.size) _)
  clear s2 hb2 hb3 hlt HB0 HS0
  have d0 : ((w2.alloc (.cells #[.string ⟨#[]⟩, .nilFunc, .nilFunc, .nilFunc, .nilFunc] 73)).setRow w2.heap.size #[.string ⟨#[102, 105, 102, 111]⟩, .func (.func 55) #[] #[], .func (.func 56) #[] #[], .func (.func 57) #[] #[], .func (.func 58) #[] #[]]).cell? ⟨w.heap.size, 0, none⟩ = some (.int .i64 6) := HB.out.cell 0
  have d1 : ((w2.alloc (.cells #[.string ⟨#[]⟩, .nilFunc, .nilFunc, .nilFunc, .nilFunc] 73)).setRow w2.heap.size #[.string ⟨#[102, 105, 102, 111]⟩, .func (.func 55) #[] #[], .func (.func 56) #[] #[], .func (.func 57) #[] #[], .func (.func 58) #[] #[]]).cell? ⟨w.heap.size, 1, none⟩ = some (.int .i64 W) := HB.out.cell 1
  have d2 : ((w2.alloc (.cells #[.string ⟨#[]⟩, .nilFunc, .nilFunc, .nilFunc, .nilFunc] 73)).setRow w2.heap.size #[.string ⟨#[102, 105, 102, 111]⟩, .func (.func 55) #[] #[], .func (.func 56) #[] #[], .func (.func 57) #[] #[], .func (.func 58) #[] #[]]).cell? ⟨w.heap.size, 2, none⟩ = some (.int .i64 sl) := HB.out.cell 2
  have d3 : ((w2.alloc (.cells #[.string ⟨#[]⟩, .nilFunc, .nilFunc, .nilFunc, .nilFunc] 73)).setRow w2.heap.size #[.string ⟨#[102, 105, 102, 111]⟩, .func (.func 55) #[] #[], .func (.func 56) #[] #[], .func (.func 57) #[] #[], .func (.func 58) #[] #[]]).cell? ⟨w.heap.size, 3, none⟩ = some (.int .i64 cp) := HB.out.cell 3
  have d4 : ((w2.alloc (.cells #[.string ⟨#[]⟩, .nilFunc, .nilFunc, .nilFunc, .nilFunc] 73)).setRow w2.heap.size #[.string ⟨#[102, 105, 102, 111]⟩, .func (.func 55) #[] #[], .func (.func 56) #[] #[], .func (.func 57) #[] #[], .func (.func 58) #[] #[]]).cell? ⟨w.heap.size, 4, none⟩ = some (.int .u32 sa) := HB.out.cell 4
  have d5 : ((w2.alloc (.cells #[.string ⟨#[]⟩, .nilFunc, .nilFunc, .nilFunc, .nilFunc] 73)).setRow w2.heap.size #[.string ⟨#[102, 105, 102, 111]⟩, .func (.func 55) #[] #[], .func (.func 56) #[] #[], .func (.func 57) #[] #[], .func (.func 58) #[] #[]]).cell? ⟨w.heap.size, 5, none⟩ = some (.slice ia il ic) := HB.out.cell 5
  have d6 : ((w2.alloc (.cells #[.string ⟨#[]⟩, .nilFunc, .nilFunc, .nilFunc, .nilFunc] 73)).setRow w2.heap.size #[.string ⟨#[102, 105, 102, 111]⟩, .func (.func 55) #[] #[], .func (.func 56) #[] #[], .func (.func 57) #[] #[], .func (.func 58) #[] #[]]).cell? ⟨w.heap.size, 6, none⟩ = some (.int .i64 ow) := HB.out.cell 6
  have d7 : ((w2.alloc (.cells #[.string ⟨#[]⟩, .nilFunc, .nilFunc, .nilFunc, .nilFunc] 73)).setRow w2.heap.size #[.string ⟨#[102, 105, 102, 111]⟩, .func (.func 55) #[] #[], .func (.func 56) #[] #[], .func (.func 57) #[] #[], .func (.func 58) #[] #[]]).cell? ⟨w.heap.size, 7, none⟩ = some (.slice ra rl rc) := HB.out.cell 7
  have df : ((w2.alloc (.cells #[.string ⟨#[]⟩, .nilFunc, .nilFunc, .nilFunc, .nilFunc] 73)).setRow w2.heap.size #[.string ⟨#[102, 105, 102, 111]⟩, .func (.func 55) #[] #[], .func (.func 56) #[] #[], .func (.func 57) #[] #[], .func (.func 58) #[] #[]]).cell? ⟨w2.heap.size, 3, none⟩ = some (.func (.func 57) #[] #[]) := HF.out.cell 3
  go_wp2_with (refine wpList_store_row rfl 73 (.tmp 3) (.tmp 9) rfl w2.heap.size #[.string ⟨#[102, 105, 102, 111]⟩, .func (.func 55) #[] #[], .func (.func 56) #[] #[], .func (.func 57) #[] #[], .func (.func 58) #[] #[]] rfl rfl 73 #[.string ⟨#[]⟩, .nilFunc, .nilFunc, .nilFunc, .nilFunc] HZ.out face_size rfl one_6 ?_)
  refine (HC.out _ HS3.out).mono ?_
  rintro e w4 ⟨g, N, hN, rfl, s4, r4⟩
  have HSX := Lib.hid (HS3.out.trans s4)
  have HRX := Lib.hid r4
  have HNX := Lib.hid hN
  clear s4 r4 hN
  go_wp2_with fail
  go_ret
  exact lay_mk HNX.out HSX.out HRX.out
theorem lay_any (k wd sl cp sa ow : Int) (ia ra : Option Addr) (il ic rl rc : Nat) (init : List Int) (w : World) (hr : rightF k wd sl cp sa il rl = true) (hi : Row w ia (init.map (Value.int .u32))) (hl : init.length = il) (hsa : 0 ≤ sa ∧ sa < 4294967296) :
    Calls Try.prog 21 #[.agg #[.int .i64 k, .int .i64 wd, .int .i64 sl, .int .i64 cp, .int .u32 sa, .slice ia il ic, .int .i64 ow, .slice ra rl rc]] w (LayP w (layF k wd.toNat sl.toNat rl sa init)) := by
  have hk : k = 1 ∨ k = 2 ∨ k = 3 ∨ k = 4 ∨ k = 5 ∨ k = 6 := by
    by_cases h : k < 1 ∨ 6 < k
    · rw [right_none wd sl cp sa il rl h] at hr
      cases hr
    · omega
  have hw : 1 ≤ wd ∧ 0 ≤ sl := by
    rcases hk with rfl | rfl | rfl | rfl | rfl | rfl
    · rw [right_1] at hr; have := Fo.HQ hr; omega
    · rw [right_2] at hr; have := Ch.HQ hr; omega
    · rw [right_3] at hr; have := Sq.HQ hr; omega
    · rw [right_4] at hr; have := Rg.HQ hr; omega
    · rw [right_5] at hr; have := Cb.HQ hr; omega
    · rw [right_6] at hr; have := Ff.HQ hr; omega
  obtain ⟨W, rfl⟩ : ∃ W : Nat, wd = W := ⟨wd.toNat, by omega⟩
  obtain ⟨S, rfl⟩ : ∃ S : Nat, sl = S := ⟨sl.toNat, by omega⟩
  rw [Int.toNat_natCast, Int.toNat_natCast]
  rcases hk with rfl | rfl | rfl | rfl | rfl | rfl
  · exact olay_1 W S cp sa ow ia ra il ic rl rc init w (by rw [right_1] at hr; exact hr) hi hl
  · exact olay_2 W S cp sa ow ia ra il ic rl rc init w (by rw [right_2] at hr; exact hr) hi hl
  · exact olay_3 W S cp sa ow ia ra il ic rl rc init w (by rw [right_3] at hr; exact hr) hi hl
  · exact olay_4 W S cp sa ow ia ra il ic rl rc init w (by rw [right_4] at hr; exact hr) hi hl
  · exact olay_5 W S cp sa ow ia ra il ic rl rc init w (by rw [right_5] at hr; exact hr) hi hl
  · exact olay_6 W S cp sa ow ia ra il ic rl rc init w (by rw [right_6] at hr; exact hr) hi hl
theorem rlay_any (k wd sl cp sa ow : Int) (ia ra : Option Addr) (il ic rl rc : Nat) (init : List Int) (w : World) (hr : rightF k wd sl cp sa il rl = true) (hi : Row w ia (init.map (Value.int .u32))) (hl : init.length = il) (hsa : 0 ≤ sa ∧ sa < 4294967296) :
    Calls Try.prog 26 #[.agg #[.int .i64 k, .int .i64 wd, .int .i64 sl, .int .i64 cp, .int .u32 sa, .slice ia il ic, .int .i64 ow, .slice ra rl rc]] w (LayP w (layF k wd.toNat sl.toNat rl sa init)) := by
  have hk : k = 1 ∨ k = 2 ∨ k = 3 ∨ k = 4 ∨ k = 5 ∨ k = 6 := by
    by_cases h : k < 1 ∨ 6 < k
    · rw [right_none wd sl cp sa il rl h] at hr
      cases hr
    · omega
  have hw : 1 ≤ wd ∧ 0 ≤ sl := by
    rcases hk with rfl | rfl | rfl | rfl | rfl | rfl
    · rw [right_1] at hr; have := Fo.HQ hr; omega
    · rw [right_2] at hr; have := Ch.HQ hr; omega
    · rw [right_3] at hr; have := Sq.HQ hr; omega
    · rw [right_4] at hr; have := Rg.HQ hr; omega
    · rw [right_5] at hr; have := Cb.HQ hr; omega
    · rw [right_6] at hr; have := Ff.HQ hr; omega
  obtain ⟨W, rfl⟩ : ∃ W : Nat, wd = W := ⟨wd.toNat, by omega⟩
  obtain ⟨S, rfl⟩ : ∃ S : Nat, sl = S := ⟨sl.toNat, by omega⟩
  rw [Int.toNat_natCast, Int.toNat_natCast]
  rcases hk with rfl | rfl | rfl | rfl | rfl | rfl
  · exact rly_1 W S cp sa ow ia ra il ic rl rc init w (by rw [right_1] at hr; exact hr) hi hl
  · exact rly_2 W S cp sa ow ia ra il ic rl rc init w (by rw [right_2] at hr; exact hr) hi hl
  · exact rly_3 W S cp sa ow ia ra il ic rl rc init w (by rw [right_3] at hr; exact hr) hi hl
  · exact rly_4 W S cp sa ow ia ra il ic rl rc init w (by rw [right_4] at hr; exact hr) hi hl
  · exact rly_5 W S cp sa ow ia ra il ic rl rc init w (by rw [right_5] at hr; exact hr) hi hl
  · exact rly_6 W S cp sa ow ia ra il ic rl rc init w (by rw [right_6] at hr; exact hr) hi hl
theorem lay_size (k wd sl cp sa : Int) (il rl : Nat) (init : List Int) (hr : rightF k wd sl cp sa il rl = true) : ((layF k wd.toNat sl.toNat rl sa init).length : Int) = sizeF k wd sl cp sa il rl := by
  have hk : k = 1 ∨ k = 2 ∨ k = 3 ∨ k = 4 ∨ k = 5 ∨ k = 6 := by
    by_cases h : k < 1 ∨ 6 < k
    · rw [right_none wd sl cp sa il rl h] at hr
      cases hr
    · omega
  have hw : 1 ≤ wd ∧ 0 ≤ sl := by
    rcases hk with rfl | rfl | rfl | rfl | rfl | rfl
    · rw [right_1] at hr; have := Fo.HQ hr; omega
    · rw [right_2] at hr; have := Ch.HQ hr; omega
    · rw [right_3] at hr; have := Sq.HQ hr; omega
    · rw [right_4] at hr; have := Rg.HQ hr; omega
    · rw [right_5] at hr; have := Cb.HQ hr; omega
    · rw [right_6] at hr; have := Ff.HQ hr; omega
  obtain ⟨W, rfl⟩ : ∃ W : Nat, wd = W := ⟨wd.toNat, by omega⟩
  obtain ⟨S, rfl⟩ : ∃ S : Nat, sl = S := ⟨sl.toNat, by omega⟩
  rw [Int.toNat_natCast, Int.toNat_natCast]
  unfold sizeF
  rw [if_pos hr]
  rcases hk with rfl | rfl | rfl | rfl | rfl | rfl
  · rw [lay_1, Fo.lay_len]; simp
  · rw [lay_2, Ch.lay_len]; simp
  · rw [lay_3, Sq.lay_len]; simp
  · rw [lay_4, Rg.lay_len]; simp
  · rw [lay_5, Cb.lay_len]; simp
  · rw [lay_6, Ff.lay_len]; simp
set_option maxRecDepth 100000 in
theorem olayn_1 (wd sl cp sa ow : Int) (ia ra : Option Addr) (il ic rl rc : Nat) (w : World) (hr : Fo.rightB wd sl cp sa il rl = false) :
    Calls Try.prog 21 #[.agg #[.int .i64 1, .int .i64 wd, .int .i64 sl, .int .i64 cp, .int .u32 sa, .slice ia il ic, .int .i64 ow, .slice ra rl rc]] w fun e w' => e = .returned (.slice none 0 0) ∧ Same w w' := by
  have HC := Lib.hid (fun w' => Fo.lay_no 1 wd sl cp sa ow ia ra il ic rl rc w' (.inr hr))
  have hb0 := Blk.new w 47 #[.int .i64 1, .int .i64 wd, .int .i64 sl, .int .i64 cp, .int .u32 sa, .slice ia il ic, .int .i64 ow, .slice ra rl rc]
  have HS0 := Lib.hid ((Same.refl w).alloc (.cells #[.int .i64 1, .int .i64 wd, .int .i64 sl, .int .i64 cp, .int .u32 sa, .slice ia il ic, .int .i64 ow, .slice ra rl rc] 47))
  have HB0 := Lib.hid hb0
  clear hb0 hr
  go_enter Try.func21, Try.ntmps21
  go_wp2_with fail
  refine (face_1 _).mono ?_
  rintro e w2 ⟨rfl, s2⟩
  have HZ := Lib.hid (Blk.new w2 73 #[.string ⟨#[]⟩, .nilFunc, .nilFunc, .nilFunc, .nilFunc])
  have HS2 := Lib.hid (HS0.out.trans s2)
  have hb2 := HB0.out.same s2
  have hlt := hb2.lt
  have hb3 := (hb2.same ((Same.refl w2).alloc (.cells #[.string ⟨#[]⟩, .nilFunc, .nilFunc, .nilFunc, .nilFunc] 73)))
  have HB := Lib.hid (Blk.chg hb3 (chg_setRow (Chg.refl (fun i => i = w2.heap.size) _) (.inl rfl) #[.string ⟨#[102, 111, 117, 114]⟩, .func (.func 35) #[] #[], .func (.func 36) #[] #[], .func (.func 37) #[] #[], .func (.func 38) #[] #[]]) (by omega))
  have HF := Lib.hid (row_blk (cs := #[.string ⟨#[102, 111, 117, 114]⟩, .func (.func 35) #[] #[], .func (.func 36) #[] #[], .func (.func 37) #[] #[], .func (.func 38) #[] #[]]) HZ.out)
  have HS3 := Lib.hid (show Same w ((w2.alloc (.cells #[.string ⟨#[]⟩, .nilFunc, .nilFunc, .nilFunc, .nilFunc] 73)).setRow w2.heap.size #[.string ⟨#[102, 111, 117, 114]⟩, .func (.func 35) #[] #[], .func (.func 36) #[] #[], .func (.func 37) #[] #[], .func (.func 38) #[] #[]]) from chg_setRow (HS2.out.alloc _) (.inr HS2.out.size) _)
  clear s2 hb2 hb3 hlt HB0 HS0
  have d0 : ((w2.alloc (.cells #[.string ⟨#[]⟩, .nilFunc, .nilFunc, .nilFunc, .nilFunc] 73)).setRow w2.heap.size #[.string ⟨#[102, 111, 117, 114]⟩, .func (.func 35) #[] #[], .func (.func 36) #[] #[], .func (.func 37) #[] #[], .func (.func 38) #[] #[]]).cell? ⟨w.heap.size, 0, none⟩ = some (.int .i64 1) := HB.out.cell 0
  have d1 : ((w2.alloc (.cells #[.string ⟨#[]⟩, .nilFunc, .nilFunc, .nilFunc, .nilFunc] 73)).setRow w2.heap.size #[.string ⟨#[102, 111, 117, 114]⟩, .func (.func 35) #[] #[], .func (.func 36) #[] #[], .func (.func 37) #[] #[], .func (.func 38) #[] #[]]).cell? ⟨w.heap.size, 1, none⟩ = some (.int .i64 wd) := HB.out.cell 1
  have d2 : ((w2.alloc (.cells #[.string ⟨#[]⟩, .nilFunc, .nilFunc, .nilFunc, .nilFunc] 73)).setRow w2.heap.size #[.string ⟨#[102, 111, 117, 114]⟩, .func (.func 35) #[] #[], .func (.func 36) #[] #[], .func (.func 37) #[] #[], .func (.func 38) #[] #[]]).cell? ⟨w.heap.size, 2, none⟩ = some (.int .i64 sl) := HB.out.cell 2
  have d3 : ((w2.alloc (.cells #[.string ⟨#[]⟩, .nilFunc, .nilFunc, .nilFunc, .nilFunc] 73)).setRow w2.heap.size #[.string ⟨#[102, 111, 117, 114]⟩, .func (.func 35) #[] #[], .func (.func 36) #[] #[], .func (.func 37) #[] #[], .func (.func 38) #[] #[]]).cell? ⟨w.heap.size, 3, none⟩ = some (.int .i64 cp) := HB.out.cell 3
  have d4 : ((w2.alloc (.cells #[.string ⟨#[]⟩, .nilFunc, .nilFunc, .nilFunc, .nilFunc] 73)).setRow w2.heap.size #[.string ⟨#[102, 111, 117, 114]⟩, .func (.func 35) #[] #[], .func (.func 36) #[] #[], .func (.func 37) #[] #[], .func (.func 38) #[] #[]]).cell? ⟨w.heap.size, 4, none⟩ = some (.int .u32 sa) := HB.out.cell 4
  have d5 : ((w2.alloc (.cells #[.string ⟨#[]⟩, .nilFunc, .nilFunc, .nilFunc, .nilFunc] 73)).setRow w2.heap.size #[.string ⟨#[102, 111, 117, 114]⟩, .func (.func 35) #[] #[], .func (.func 36) #[] #[], .func (.func 37) #[] #[], .func (.func 38) #[] #[]]).cell? ⟨w.heap.size, 5, none⟩ = some (.slice ia il ic) := HB.out.cell 5
  have d6 : ((w2.alloc (.cells #[.string ⟨#[]⟩, .nilFunc, .nilFunc, .nilFunc, .nilFunc] 73)).setRow w2.heap.size #[.string ⟨#[102, 111, 117, 114]⟩, .func (.func 35) #[] #[], .func (.func 36) #[] #[], .func (.func 37) #[] #[], .func (.func 38) #[] #[]]).cell? ⟨w.heap.size, 6, none⟩ = some (.int .i64 ow) := HB.out.cell 6
  have d7 : ((w2.alloc (.cells #[.string ⟨#[]⟩, .nilFunc, .nilFunc, .nilFunc, .nilFunc] 73)).setRow w2.heap.size #[.string ⟨#[102, 111, 117, 114]⟩, .func (.func 35) #[] #[], .func (.func 36) #[] #[], .func (.func 37) #[] #[], .func (.func 38) #[] #[]]).cell? ⟨w.heap.size, 7, none⟩ = some (.slice ra rl rc) := HB.out.cell 7
  have df : ((w2.alloc (.cells #[.string ⟨#[]⟩, .nilFunc, .nilFunc, .nilFunc, .nilFunc] 73)).setRow w2.heap.size #[.string ⟨#[102, 111, 117, 114]⟩, .func (.func 35) #[] #[], .func (.func 36) #[] #[], .func (.func 37) #[] #[], .func (.func 38) #[] #[]]).cell? ⟨w2.heap.size, 3, none⟩ = some (.func (.func 37) #[] #[]) := HF.out.cell 3
  go_wp2_with (refine wpList_store_row rfl 73 (.tmp 3) (.tmp 9) rfl w2.heap.size #[.string ⟨#[102, 111, 117, 114]⟩, .func (.func 35) #[] #[], .func (.func 36) #[] #[], .func (.func 37) #[] #[], .func (.func 38) #[] #[]] rfl rfl 73 #[.string ⟨#[]⟩, .nilFunc, .nilFunc, .nilFunc, .nilFunc] HZ.out face_size rfl one_1 ?_)
  refine (HC.out _).mono ?_
  rintro e w4 ⟨rfl, s4⟩
  go_wp2_with fail
  go_ret
  exact ⟨rfl, HS3.out.trans s4⟩
set_option maxRecDepth 100000 in
theorem olayn_2 (wd sl cp sa ow : Int) (ia ra : Option Addr) (il ic rl rc : Nat) (w : World) (hr : Ch.rightB wd sl cp sa il rl = false) (hsa : 0 ≤ sa ∧ sa < 4294967296 := by assumption) :
    Calls Try.prog 21 #[.agg #[.int .i64 2, .int .i64 wd, .int .i64 sl, .int .i64 cp, .int .u32 sa, .slice ia il ic, .int .i64 ow, .slice ra rl rc]] w fun e w' => e = .returned (.slice none 0 0) ∧ Same w w' := by
  have HC := Lib.hid (fun w' => Ch.lay_no 2 wd sl cp sa ow ia ra il ic rl rc w' (.inr hr))
  have hb0 := Blk.new w 47 #[.int .i64 2, .int .i64 wd, .int .i64 sl, .int .i64 cp, .int .u32 sa, .slice ia il ic, .int .i64 ow, .slice ra rl rc]
  have HS0 := Lib.hid ((Same.refl w).alloc (.cells #[.int .i64 2, .int .i64 wd, .int .i64 sl, .int .i64 cp, .int .u32 sa, .slice ia il ic, .int .i64 ow, .slice ra rl rc] 47))
  have HB0 := Lib.hid hb0
  clear hb0 hr
  go_enter Try.func21, Try.ntmps21
  go_wp2_with fail
  refine (face_2 _).mono ?_
  rintro e w2 ⟨rfl, s2⟩
  have HZ := Lib.hid (Blk.new w2 73 #[.string ⟨#[]⟩, .nilFunc, .nilFunc, .nilFunc, .nilFunc])
  have HS2 := Lib.hid (HS0.out.trans s2)
  have hb2 := HB0.out.same s2
  have hlt := hb2.lt
  have hb3 := (hb2.same ((Same.refl w2).alloc (.cells #[.string ⟨#[]⟩, .nilFunc, .nilFunc, .nilFunc, .nilFunc] 73)))
  have HB := Lib.hid (Blk.chg hb3 (chg_setRow (Chg.refl (fun i => i = w2.heap.size) _) (.inl rfl) #[.string ⟨#[99, 104, 101, 110]⟩, .func (.func 39) #[] #[], .func (.func 40) #[] #[], .func (.func 41) #[] #[], .func (.func 42) #[] #[]]) (by omega))
  have HF := Lib.hid (row_blk (cs := #[.string ⟨#[99, 104, 101, 110]⟩, .func (.func 39) #[] #[], .func (.func 40) #[] #[], .func (.func 41) #[] #[], .func (.func 42) #[] #[]]) HZ.out)
  have HS3 := Lib.hid (show Same w ((w2.alloc (.cells #[.string ⟨#[]⟩, .nilFunc, .nilFunc, .nilFunc, .nilFunc] 73)).setRow w2.heap.size #[.string ⟨#[99, 104, 101, 110]⟩, .func (.func 39) #[] #[], .func (.func 40) #[] #[], .func (.func 41) #[] #[], .func (.func 42) #[] #[]]) from chg_setRow (HS2.out.alloc _) (.inr HS2.out.size) _)
  clear s2 hb2 hb3 hlt HB0 HS0
  have d0 : ((w2.alloc (.cells #[.string ⟨#[]⟩, .nilFunc, .nilFunc, .nilFunc, .nilFunc] 73)).setRow w2.heap.size #[.string ⟨#[99, 104, 101, 110]⟩, .func (.func 39) #[] #[], .func (.func 40) #[] #[], .func (.func 41) #[] #[], .func (.func 42) #[] #[]]).cell? ⟨w.heap.size, 0, none⟩ = some (.int .i64 2) := HB.out.cell 0
  have d1 : ((w2.alloc (.cells #[.string ⟨#[]⟩, .nilFunc, .nilFunc, .nilFunc, .nilFunc] 73)).setRow w2.heap.size #[.string ⟨#[99, 104, 101, 110]⟩, .func (.func 39) #[] #[], .func (.func 40) #[] #[], .func (.func 41) #[] #[], .func (.func 42) #[] #[]]).cell? ⟨w.heap.size, 1, none⟩ = some (.int .i64 wd) := HB.out.cell 1
  have d2 : ((w2.alloc (.cells #[.string ⟨#[]⟩, .nilFunc, .nilFunc, .nilFunc, .nilFunc] 73)).setRow w2.heap.size #[.string ⟨#[99, 104, 101, 110]⟩, .func (.func 39) #[] #[], .func (.func 40) #[] #[], .func (.func 41) #[] #[], .func (.func 42) #[] #[]]).cell? ⟨w.heap.size, 2, none⟩ = some (.int .i64 sl) := HB.out.cell 2
  have d3 : ((w2.alloc (.cells #[.string ⟨#[]⟩, .nilFunc, .nilFunc, .nilFunc, .nilFunc] 73)).setRow w2.heap.size #[.string ⟨#[99, 104, 101, 110]⟩, .func (.func 39) #[] #[], .func (.func 40) #[] #[], .func (.func 41) #[] #[], .func (.func 42) #[] #[]]).cell? ⟨w.heap.size, 3, none⟩ = some (.int .i64 cp) := HB.out.cell 3
  have d4 : ((w2.alloc (.cells #[.string ⟨#[]⟩, .nilFunc, .nilFunc, .nilFunc, .nilFunc] 73)).setRow w2.heap.size #[.string ⟨#[99, 104, 101, 110]⟩, .func (.func 39) #[] #[], .func (.func 40) #[] #[], .func (.func 41) #[] #[], .func (.func 42) #[] #[]]).cell? ⟨w.heap.size, 4, none⟩ = some (.int .u32 sa) := HB.out.cell 4
  have d5 : ((w2.alloc (.cells #[.string ⟨#[]⟩, .nilFunc, .nilFunc, .nilFunc, .nilFunc] 73)).setRow w2.heap.size #[.string ⟨#[99, 104, 101, 110]⟩, .func (.func 39) #[] #[], .func (.func 40) #[] #[], .func (.func 41) #[] #[], .func (.func 42) #[] #[]]).cell? ⟨w.heap.size, 5, none⟩ = some (.slice ia il ic) := HB.out.cell 5
  have d6 : ((w2.alloc (.cells #[.string ⟨#[]⟩, .nilFunc, .nilFunc, .nilFunc, .nilFunc] 73)).setRow w2.heap.size #[.string ⟨#[99, 104, 101, 110]⟩, .func (.func 39) #[] #[], .func (.func 40) #[] #[], .func (.func 41) #[] #[], .func (.func 42) #[] #[]]).cell? ⟨w.heap.size, 6, none⟩ = some (.int .i64 ow) := HB.out.cell 6
  have d7 : ((w2.alloc (.cells #[.string ⟨#[]⟩, .nilFunc, .nilFunc, .nilFunc, .nilFunc] 73)).setRow w2.heap.size #[.string ⟨#[99, 104, 101, 110]⟩, .func (.func 39) #[] #[], .func (.func 40) #[] #[], .func (.func 41) #[] #[], .func (.func 42) #[] #[]]).cell? ⟨w.heap.size, 7, none⟩ = some (.slice ra rl rc) := HB.out.cell 7
  have df : ((w2.alloc (.cells #[.string ⟨#[]⟩, .nilFunc, .nilFunc, .nilFunc, .nilFunc] 73)).setRow w2.heap.size #[.string ⟨#[99, 104, 101, 110]⟩, .func (.func 39) #[] #[], .func (.func 40) #[] #[], .func (.func 41) #[] #[], .func (.func 42) #[] #[]]).cell? ⟨w2.heap.size, 3, none⟩ = some (.func (.func 41) #[] #[]) := HF.out.cell 3
  go_wp2_with (refine wpList_store_row rfl 73 (.tmp 3) (.tmp 9) rfl w2.heap.size #[.string ⟨#[99, 104, 101, 110]⟩, .func (.func 39) #[] #[], .func (.func 40) #[] #[], .func (.func 41) #[] #[], .func (.func 42) #[] #[]] rfl rfl 73 #[.string ⟨#[]⟩, .nilFunc, .nilFunc, .nilFunc, .nilFunc] HZ.out face_size rfl one_2 ?_)
  refine (HC.out _).mono ?_
  rintro e w4 ⟨rfl, s4⟩
  go_wp2_with fail
  go_ret
  exact ⟨rfl, HS3.out.trans s4⟩
set_option maxRecDepth 100000 in
theorem olayn_3 (wd sl cp sa ow : Int) (ia ra : Option Addr) (il ic rl rc : Nat) (w : World) (hr : Sq.rightB wd sl cp sa il rl = false) (hsa : 0 ≤ sa ∧ sa < 4294967296 := by assumption) :
    Calls Try.prog 21 #[.agg #[.int .i64 3, .int .i64 wd, .int .i64 sl, .int .i64 cp, .int .u32 sa, .slice ia il ic, .int .i64 ow, .slice ra rl rc]] w fun e w' => e = .returned (.slice none 0 0) ∧ Same w w' := by
  have HC := Lib.hid (fun w' => Sq.lay_no 3 wd sl cp sa ow ia ra il ic rl rc w' (.inr hr))
  have hb0 := Blk.new w 47 #[.int .i64 3, .int .i64 wd, .int .i64 sl, .int .i64 cp, .int .u32 sa, .slice ia il ic, .int .i64 ow, .slice ra rl rc]
  have HS0 := Lib.hid ((Same.refl w).alloc (.cells #[.int .i64 3, .int .i64 wd, .int .i64 sl, .int .i64 cp, .int .u32 sa, .slice ia il ic, .int .i64 ow, .slice ra rl rc] 47))
  have HB0 := Lib.hid hb0
  clear hb0 hr
  go_enter Try.func21, Try.ntmps21
  go_wp2_with fail
  refine (face_3 _).mono ?_
  rintro e w2 ⟨rfl, s2⟩
  have HZ := Lib.hid (Blk.new w2 73 #[.string ⟨#[]⟩, .nilFunc, .nilFunc, .nilFunc, .nilFunc])
  have HS2 := Lib.hid (HS0.out.trans s2)
  have hb2 := HB0.out.same s2
  have hlt := hb2.lt
  have hb3 := (hb2.same ((Same.refl w2).alloc (.cells #[.string ⟨#[]⟩, .nilFunc, .nilFunc, .nilFunc, .nilFunc] 73)))
  have HB := Lib.hid (Blk.chg hb3 (chg_setRow (Chg.refl (fun i => i = w2.heap.size) _) (.inl rfl) #[.string ⟨#[115, 101, 113]⟩, .func (.func 43) #[] #[], .func (.func 44) #[] #[], .func (.func 45) #[] #[], .func (.func 46) #[] #[]]) (by omega))
  have HF := Lib.hid (row_blk (cs := #[.string ⟨#[115, 101, 113]⟩, .func (.func 43) #[] #[], .func (.func 44) #[] #[], .func (.func 45) #[] #[], .func (.func 46) #[] #[]]) HZ.out)
  have HS3 := Lib.hid (show Same w ((w2.alloc (.cells #[.string ⟨#[]⟩, .nilFunc, .nilFunc, .nilFunc, .nilFunc] 73)).setRow w2.heap.size #[.string ⟨#[115, 101, 113]⟩, .func (.func 43) #[] #[], .func (.func 44) #[] #[], .func (.func 45) #[] #[], .func (.func 46) #[] #[]]) from chg_setRow (HS2.out.alloc _) (.inr HS2.out.size) _)
  clear s2 hb2 hb3 hlt HB0 HS0
  have d0 : ((w2.alloc (.cells #[.string ⟨#[]⟩, .nilFunc, .nilFunc, .nilFunc, .nilFunc] 73)).setRow w2.heap.size #[.string ⟨#[115, 101, 113]⟩, .func (.func 43) #[] #[], .func (.func 44) #[] #[], .func (.func 45) #[] #[], .func (.func 46) #[] #[]]).cell? ⟨w.heap.size, 0, none⟩ = some (.int .i64 3) := HB.out.cell 0
  have d1 : ((w2.alloc (.cells #[.string ⟨#[]⟩, .nilFunc, .nilFunc, .nilFunc, .nilFunc] 73)).setRow w2.heap.size #[.string ⟨#[115, 101, 113]⟩, .func (.func 43) #[] #[], .func (.func 44) #[] #[], .func (.func 45) #[] #[], .func (.func 46) #[] #[]]).cell? ⟨w.heap.size, 1, none⟩ = some (.int .i64 wd) := HB.out.cell 1
  have d2 : ((w2.alloc (.cells #[.string ⟨#[]⟩, .nilFunc, .nilFunc, .nilFunc, .nilFunc] 73)).setRow w2.heap.size #[.string ⟨#[115, 101, 113]⟩, .func (.func 43) #[] #[], .func (.func 44) #[] #[], .func (.func 45) #[] #[], .func (.func 46) #[] #[]]).cell? ⟨w.heap.size, 2, none⟩ = some (.int .i64 sl) := HB.out.cell 2
  have d3 : ((w2.alloc (.cells #[.string ⟨#[]⟩, .nilFunc, .nilFunc, .nilFunc, .nilFunc] 73)).setRow w2.heap.size #[.string ⟨#[115, 101, 113]⟩, .func (.func 43) #[] #[], .func (.func 44) #[] #[], .func (.func 45) #[] #[], .func (.func 46) #[] #[]]).cell? ⟨w.heap.size, 3, none⟩ = some (.int .i64 cp) := HB.out.cell 3
  have d4 : ((w2.alloc (.cells #[.string ⟨#[]⟩, .nilFunc, .nilFunc, .nilFunc, .nilFunc] 73)).setRow w2.heap.size #[.string ⟨#[115, 101, 113]⟩, .func (.func 43) #[] #[], .func (.func 44) #[] #[], .func (.func 45) #[] #[], .func (.func 46) #[] #[]]).cell? ⟨w.heap.size, 4, none⟩ = some (.int .u32 sa) := HB.out.cell 4
  have d5 : ((w2.alloc (.cells #[.string ⟨#[]⟩, .nilFunc, .nilFunc, .nilFunc, .nilFunc] 73)).setRow w2.heap.size #[.string ⟨#[115, 101, 113]⟩, .func (.func 43) #[] #[], .func (.func 44) #[] #[], .func (.func 45) #[] #[], .func (.func 46) #[] #[]]).cell? ⟨w.heap.size, 5, none⟩ = some (.slice ia il ic) := HB.out.cell 5
  have d6 : ((w2.alloc (.cells #[.string ⟨#[]⟩, .nilFunc, .nilFunc, .nilFunc, .nilFunc] 73)).setRow w2.heap.size #[.string ⟨#[115, 101, 113]⟩, .func (.func 43) #[] #[], .func (.func 44) #[] #[], .func (.func 45) #[] #[], .func (.func 46) #[] #[]]).cell? ⟨w.heap.size, 6, none⟩ = some (.int .i64 ow) := HB.out.cell 6
  have d7 : ((w2.alloc (.cells #[.string ⟨#[]⟩, .nilFunc, .nilFunc, .nilFunc, .nilFunc] 73)).setRow w2.heap.size #[.string ⟨#[115, 101, 113]⟩, .func (.func 43) #[] #[], .func (.func 44) #[] #[], .func (.func 45) #[] #[], .func (.func 46) #[] #[]]).cell? ⟨w.heap.size, 7, none⟩ = some (.slice ra rl rc) := HB.out.cell 7
  have df : ((w2.alloc (.cells #[.string ⟨#[]⟩, .nilFunc, .nilFunc, .nilFunc, .nilFunc] 73)).setRow w2.heap.size #[.string ⟨#[115, 101, 113]⟩, .func (.func 43) #[] #[], .func (.func 44) #[] #[], .func (.func 45) #[] #[], .func (.func 46) #[] #[]]).cell? ⟨w2.heap.size, 3, none⟩ = some (.func (.func 45) #[] #[]) := HF.out.cell 3
  go_wp2_with (refine wpList_store_row rfl 73 (.tmp 3) (.tmp 9) rfl w2.heap.size #[.string ⟨#[115, 101, 113]⟩, .func (.func 43) #[] #[], .func (.func 44) #[] #[], .func (.func 45) #[] #[], .func (.func 46) #[] #[]] rfl rfl 73 #[.string ⟨#[]⟩, .nilFunc, .nilFunc, .nilFunc, .nilFunc] HZ.out face_size rfl one_3 ?_)
  refine (HC.out _).mono ?_
  rintro e w4 ⟨rfl, s4⟩
  go_wp2_with fail
  go_ret
  exact ⟨rfl, HS3.out.trans s4⟩
set_option maxRecDepth 100000 in
theorem olayn_4 (wd sl cp sa ow : Int) (ia ra : Option Addr) (il ic rl rc : Nat) (w : World) (hr : Rg.rightB wd sl cp sa il rl = false) (hsa : 0 ≤ sa ∧ sa < 4294967296 := by assumption) :
    Calls Try.prog 21 #[.agg #[.int .i64 4, .int .i64 wd, .int .i64 sl, .int .i64 cp, .int .u32 sa, .slice ia il ic, .int .i64 ow, .slice ra rl rc]] w fun e w' => e = .returned (.slice none 0 0) ∧ Same w w' := by
  have HC := Lib.hid (fun w' => Rg.lay_no 4 wd sl cp sa ow ia ra il ic rl rc w' (.inr hr))
  have hb0 := Blk.new w 47 #[.int .i64 4, .int .i64 wd, .int .i64 sl, .int .i64 cp, .int .u32 sa, .slice ia il ic, .int .i64 ow, .slice ra rl rc]
  have HS0 := Lib.hid ((Same.refl w).alloc (.cells #[.int .i64 4, .int .i64 wd, .int .i64 sl, .int .i64 cp, .int .u32 sa, .slice ia il ic, .int .i64 ow, .slice ra rl rc] 47))
  have HB0 := Lib.hid hb0
  clear hb0 hr
  go_enter Try.func21, Try.ntmps21
  go_wp2_with fail
  refine (face_4 _).mono ?_
  rintro e w2 ⟨rfl, s2⟩
  have HZ := Lib.hid (Blk.new w2 73 #[.string ⟨#[]⟩, .nilFunc, .nilFunc, .nilFunc, .nilFunc])
  have HS2 := Lib.hid (HS0.out.trans s2)
  have hb2 := HB0.out.same s2
  have hlt := hb2.lt
  have hb3 := (hb2.same ((Same.refl w2).alloc (.cells #[.string ⟨#[]⟩, .nilFunc, .nilFunc, .nilFunc, .nilFunc] 73)))
  have HB := Lib.hid (Blk.chg hb3 (chg_setRow (Chg.refl (fun i => i = w2.heap.size) _) (.inl rfl) #[.string ⟨#[114, 105, 110, 103]⟩, .func (.func 47) #[] #[], .func (.func 48) #[] #[], .func (.func 49) #[] #[], .func (.func 50) #[] #[]]) (by omega))
  have HF := Lib.hid (row_blk (cs := #[.string ⟨#[114, 105, 110, 103]⟩, .func (.func 47) #[] #[], .func (.func 48) #[] #[], .func (.func 49) #[] #[], .func (.func 50) #[] #[]]) HZ.out)
  have HS3 := Lib.hid (show Same w ((w2.alloc (.cells #[.string ⟨#[]⟩, .nilFunc, .nilFunc, .nilFunc, .nilFunc] 73)).setRow w2.heap.size #[.string ⟨#[114, 105, 110, 103]⟩, .func (.func 47) #[] #[], .func (.func 48) #[] #[], .func (.func 49) #[] #[], .func (.func 50) #[] #[]]) from chg_setRow (HS2.out.alloc _) (.inr HS2.out.size) _)
  clear s2 hb2 hb3 hlt HB0 HS0
  have d0 : ((w2.alloc (.cells #[.string ⟨#[]⟩, .nilFunc, .nilFunc, .nilFunc, .nilFunc] 73)).setRow w2.heap.size #[.string ⟨#[114, 105, 110, 103]⟩, .func (.func 47) #[] #[], .func (.func 48) #[] #[], .func (.func 49) #[] #[], .func (.func 50) #[] #[]]).cell? ⟨w.heap.size, 0, none⟩ = some (.int .i64 4) := HB.out.cell 0
  have d1 : ((w2.alloc (.cells #[.string ⟨#[]⟩, .nilFunc, .nilFunc, .nilFunc, .nilFunc] 73)).setRow w2.heap.size #[.string ⟨#[114, 105, 110, 103]⟩, .func (.func 47) #[] #[], .func (.func 48) #[] #[], .func (.func 49) #[] #[], .func (.func 50) #[] #[]]).cell? ⟨w.heap.size, 1, none⟩ = some (.int .i64 wd) := HB.out.cell 1
  have d2 : ((w2.alloc (.cells #[.string ⟨#[]⟩, .nilFunc, .nilFunc, .nilFunc, .nilFunc] 73)).setRow w2.heap.size #[.string ⟨#[114, 105, 110, 103]⟩, .func (.func 47) #[] #[], .func (.func 48) #[] #[], .func (.func 49) #[] #[], .func (.func 50) #[] #[]]).cell? ⟨w.heap.size, 2, none⟩ = some (.int .i64 sl) := HB.out.cell 2
  have d3 : ((w2.alloc (.cells #[.string ⟨#[]⟩, .nilFunc, .nilFunc, .nilFunc, .nilFunc] 73)).setRow w2.heap.size #[.string ⟨#[114, 105, 110, 103]⟩, .func (.func 47) #[] #[], .func (.func 48) #[] #[], .func (.func 49) #[] #[], .func (.func 50) #[] #[]]).cell? ⟨w.heap.size, 3, none⟩ = some (.int .i64 cp) := HB.out.cell 3
  have d4 : ((w2.alloc (.cells #[.string ⟨#[]⟩, .nilFunc, .nilFunc, .nilFunc, .nilFunc] 73)).setRow w2.heap.size #[.string ⟨#[114, 105, 110, 103]⟩, .func (.func 47) #[] #[], .func (.func 48) #[] #[], .func (.func 49) #[] #[], .func (.func 50) #[] #[]]).cell? ⟨w.heap.size, 4, none⟩ = some (.int .u32 sa) := HB.out.cell 4
  have d5 : ((w2.alloc (.cells #[.string ⟨#[]⟩, .nilFunc, .nilFunc, .nilFunc, .nilFunc] 73)).setRow w2.heap.size #[.string ⟨#[114, 105, 110, 103]⟩, .func (.func 47) #[] #[], .func (.func 48) #[] #[], .func (.func 49) #[] #[], .func (.func 50) #[] #[]]).cell? ⟨w.heap.size, 5, none⟩ = some (.slice ia il ic) := HB.out.cell 5
  have d6 : ((w2.alloc (.cells #[.string ⟨#[]⟩, .nilFunc, .nilFunc, .nilFunc, .nilFunc] 73)).setRow w2.heap.size #[.string ⟨#[114, 105, 110, 103]⟩, .func (.func 47) #[] #[], .func (.func 48) #[] #[], .func (.func 49) #[] #[], .func (.func 50) #[] #[]]).cell? ⟨w.heap.size, 6, none⟩ = some (.int .i64 ow) := HB.out.cell 6
  have d7 : ((w2.alloc (.cells #[.string ⟨#[]⟩, .nilFunc, .nilFunc, .nilFunc, .nilFunc] 73)).setRow w2.heap.size #[.string ⟨#[114, 105, 110, 103]⟩, .func (.func 47) #[] #[], .func (.func 48) #[] #[], .func (.func 49) #[] #[], .func (.func 50) #[] #[]]).cell? ⟨w.heap.size, 7, none⟩ = some (.slice ra rl rc) := HB.out.cell 7
  have df : ((w2.alloc (.cells #[.string ⟨#[]⟩, .nilFunc, .nilFunc, .nilFunc, .nilFunc] 73)).setRow w2.heap.size #[.string ⟨#[114, 105, 110, 103]⟩, .func (.func 47) #[] #[], .func (.func 48) #[] #[], .func (.func 49) #[] #[], .func (.func 50) #[] #[]]).cell? ⟨w2.heap.size, 3, none⟩ = some (.func (.func 49) #[] #[]) := HF.out.cell 3
  go_wp2_with (refine wpList_store_row rfl 73 (.tmp 3) (.tmp 9) rfl w2.heap.size #[.string ⟨#[114, 105, 110, 103]⟩, .func (.func 47) #[] #[], .func (.func 48) #[] #[], .func (.func 49) #[] #[], .func (.func 50) #[] #[]] rfl rfl 73 #[.string ⟨#[]⟩, .nilFunc, .nilFunc, .nilFunc, .nilFunc] HZ.out face_size rfl one_4 ?_)
  refine (HC.out _).mono ?_
  rintro e w4 ⟨rfl, s4⟩
  go_wp2_with fail
  go_ret
  exact ⟨rfl, HS3.out.trans s4⟩
set_option maxRecDepth 100000 in
theorem olayn_5 (wd sl cp sa ow : Int) (ia ra : Option Addr) (il ic rl rc : Nat) (w : World) (hr : Cb.rightB wd sl cp sa il rl = false) (hsa : 0 ≤ sa ∧ sa < 4294967296 := by assumption) :
    Calls Try.prog 21 #[.agg #[.int .i64 5, .int .i64 wd, .int .i64 sl, .int .i64 cp, .int .u32 sa, .slice ia il ic, .int .i64 ow, .slice ra rl rc]] w fun e w' => e = .returned (.slice none 0 0) ∧ Same w w' := by
  have HC := Lib.hid (fun w' => Cb.lay_no 5 wd sl cp sa ow ia ra il ic rl rc w' (.inr hr))
  have hb0 := Blk.new w 47 #[.int .i64 5, .int .i64 wd, .int .i64 sl, .int .i64 cp, .int .u32 sa, .slice ia il ic, .int .i64 ow, .slice ra rl rc]
  have HS0 := Lib.hid ((Same.refl w).alloc (.cells #[.int .i64 5, .int .i64 wd, .int .i64 sl, .int .i64 cp, .int .u32 sa, .slice ia il ic, .int .i64 ow, .slice ra rl rc] 47))
  have HB0 := Lib.hid hb0
  clear hb0 hr
  go_enter Try.func21, Try.ntmps21
  go_wp2_with fail
  refine (face_5 _).mono ?_
  rintro e w2 ⟨rfl, s2⟩
  have HZ := Lib.hid (Blk.new w2 73 #[.string ⟨#[]⟩, .nilFunc, .nilFunc, .nilFunc, .nilFunc])
  have HS2 := Lib.hid (HS0.out.trans s2)
  have hb2 := HB0.out.same s2
  have hlt := hb2.lt
  have hb3 := (hb2.same ((Same.refl w2).alloc (.cells #[.string ⟨#[]⟩, .nilFunc, .nilFunc, .nilFunc, .nilFunc] 73)))
  have HB := Lib.hid (Blk.chg hb3 (chg_setRow (Chg.refl (fun i => i = w2.heap.size) _) (.inl rfl) #[.string ⟨#[99, 97, 98]⟩, .func (.func 51) #[] #[], .func (.func 52) #[] #[], .func (.func 53) #[] #[], .func (.func 54) #[] #[]]) (by omega))
  have HF := Lib.hid (row_blk (cs := #[.string ⟨#[99, 97, 98]⟩, .func (.func 51) #[] #[], .func (.func 52) #[] #[], .func (.func 53) #[] #[], .func (.func 54) #[] #[]]) HZ.out)
  have HS3 := Lib.hid (show Same w ((w2.alloc (.cells #[.string ⟨#[]⟩, .nilFunc, .nilFunc, .nilFunc, .nilFunc] 73)).setRow w2.heap.size #[.string ⟨#[99, 97, 98]⟩, .func (.func 51) #[] #[], .func (.func 52) #[] #[], .func (.func 53) #[] #[], .func (.func 54) #[] #[]]) from chg_setRow (HS2.out.alloc _) (.inr HS2.out.size) _)
  clear s2 hb2 hb3 hlt HB0 HS0
  have d0 : ((w2.alloc (.cells #[.string ⟨#[]⟩, .nilFunc, .nilFunc, .nilFunc, .nilFunc] 73)).setRow w2.heap.size #[.string ⟨#[99, 97, 98]⟩, .func (.func 51) #[] #[], .func (.func 52) #[] #[], .func (.func 53) #[] #[], .func (.func 54) #[] #[]]).cell? ⟨w.heap.size, 0, none⟩ = some (.int .i64 5) := HB.out.cell 0
  have d1 : ((w2.alloc (.cells #[.string ⟨#[]⟩, .nilFunc, .nilFunc, .nilFunc, .nilFunc] 73)).setRow w2.heap.size #[.string ⟨#[99, 97, 98]⟩, .func (.func 51) #[] #[], .func (.func 52) #[] #[], .func (.func 53) #[] #[], .func (.func 54) #[] #[]]).cell? ⟨w.heap.size, 1, none⟩ = some (.int .i64 wd) := HB.out.cell 1
  have d2 : ((w2.alloc (.cells #[.string ⟨#[]⟩, .nilFunc, .nilFunc, .nilFunc, .nilFunc] 73)).setRow w2.heap.size #[.string ⟨#[99, 97, 98]⟩, .func (.func 51) #[] #[], .func (.func 52) #[] #[], .func (.func 53) #[] #[], .func (.func 54) #[] #[]]).cell? ⟨w.heap.size, 2, none⟩ = some (.int .i64 sl) := HB.out.cell 2
  have d3 : ((w2.alloc (.cells #[.string ⟨#[]⟩, .nilFunc, .nilFunc, .nilFunc, .nilFunc] 73)).setRow w2.heap.size #[.string ⟨#[99, 97, 98]⟩, .func (.func 51) #[] #[], .func (.func 52) #[] #[], .func (.func 53) #[] #[], .func (.func 54) #[] #[]]).cell? ⟨w.heap.size, 3, none⟩ = some (.int .i64 cp) := HB.out.cell 3
  have d4 : ((w2.alloc (.cells #[.string ⟨#[]⟩, .nilFunc, .nilFunc, .nilFunc, .nilFunc] 73)).setRow w2.heap.size #[.string ⟨#[99, 97, 98]⟩, .func (.func 51) #[] #[], .func (.func 52) #[] #[], .func (.func 53) #[] #[], .func (.func 54) #[] #[]]).cell? ⟨w.heap.size, 4, none⟩ = some (.int .u32 sa) := HB.out.cell 4
  have d5 : ((w2.alloc (.cells #[.string ⟨#[]⟩, .nilFunc, .nilFunc, .nilFunc, .nilFunc] 73)).setRow w2.heap.size #[.string ⟨#[99, 97, 98]⟩, .func (.func 51) #[] #[], .func (.func 52) #[] #[], .func (.func 53) #[] #[], .func (.func 54) #[] #[]]).cell? ⟨w.heap.size, 5, none⟩ = some (.slice ia il ic) := HB.out.cell 5
  have d6 : ((w2.alloc (.cells #[.string ⟨#[]⟩, .nilFunc, .nilFunc, .nilFunc, .nilFunc] 73)).setRow w2.heap.size #[.string ⟨#[99, 97, 98]⟩, .func (.func 51) #[] #[], .func (.func 52) #[] #[], .func (.func 53) #[] #[], .func (.func 54) #[] #[]]).cell? ⟨w.heap.size, 6, none⟩ = some (.int .i64 ow) := HB.out.cell 6
  have d7 : ((w2.alloc (.cells #[.string ⟨#[]⟩, .nilFunc, .nilFunc, .nilFunc, .nilFunc] 73)).setRow w2.heap.size #[.string ⟨#[99, 97, 98]⟩, .func (.func 51) #[] #[], .func (.func 52) #[] #[], .func (.func 53) #[] #[], .func (.func 54) #[] #[]]).cell? ⟨w.heap.size, 7, none⟩ = some (.slice ra rl rc) := HB.out.cell 7
  have df : ((w2.alloc (.cells #[.string ⟨#[]⟩, .nilFunc, .nilFunc, .nilFunc, .nilFunc] 73)).setRow w2.heap.size #[.string ⟨#[99, 97, 98]⟩, .func (.func 51) #[] #[], .func (.func 52) #[] #[], .func (.func 53) #[] #[], .func (.func 54) #[] #[]]).cell? ⟨w2.heap.size, 3, none⟩ = some (.func (.func 53) #[] #[]) := HF.out.cell 3
  go_wp2_with (refine wpList_store_row rfl 73 (.tmp 3) (.tmp 9) rfl w2.heap.size #[.string ⟨#[99, 97, 98]⟩, .func (.func 51) #[] #[], .func (.func 52) #[] #[], .func (.func 53) #[] #[], .func (.func 54) #[] #[]] rfl rfl 73 #[.string ⟨#[]⟩, .nilFunc, .nilFunc, .nilFunc, .nilFunc] HZ.out face_size rfl one_5 ?_)
  refine (HC.out _).mono ?_
  rintro e w4 ⟨rfl, s4⟩
  go_wp2_with fail
  go_ret
  exact ⟨rfl, HS3.out.trans s4⟩
set_option maxRecDepth 100000 in
theorem olayn_6 (wd sl cp sa ow : Int) (ia ra : Option Addr) (il ic rl rc : Nat) (w : World) (hr : Ff.rightB wd sl cp sa il rl = false) (hsa : 0 ≤ sa ∧ sa < 4294967296 := by assumption) :
    Calls Try.prog 21 #[.agg #[.int .i64 6, .int .i64 wd, .int .i64 sl, .int .i64 cp, .int .u32 sa, .slice ia il ic, .int .i64 ow, .slice ra rl rc]] w fun e w' => e = .returned (.slice none 0 0) ∧ Same w w' := by
  have HC := Lib.hid (fun w' => Ff.lay_no 6 wd sl cp sa ow ia ra il ic rl rc w' (.inr hr))
  have hb0 := Blk.new w 47 #[.int .i64 6, .int .i64 wd, .int .i64 sl, .int .i64 cp, .int .u32 sa, .slice ia il ic, .int .i64 ow, .slice ra rl rc]
  have HS0 := Lib.hid ((Same.refl w).alloc (.cells #[.int .i64 6, .int .i64 wd, .int .i64 sl, .int .i64 cp, .int .u32 sa, .slice ia il ic, .int .i64 ow, .slice ra rl rc] 47))
  have HB0 := Lib.hid hb0
  clear hb0 hr
  go_enter Try.func21, Try.ntmps21
  go_wp2_with fail
  refine (face_6 _).mono ?_
  rintro e w2 ⟨rfl, s2⟩
  have HZ := Lib.hid (Blk.new w2 73 #[.string ⟨#[]⟩, .nilFunc, .nilFunc, .nilFunc, .nilFunc])
  have HS2 := Lib.hid (HS0.out.trans s2)
  have hb2 := HB0.out.same s2
  have hlt := hb2.lt
  have hb3 := (hb2.same ((Same.refl w2).alloc (.cells #[.string ⟨#[]⟩, .nilFunc, .nilFunc, .nilFunc, .nilFunc] 73)))
  have HB := Lib.hid (Blk.chg hb3 (chg_setRow (Chg.refl (fun i => i = w2.heap.size) _) (.inl rfl) #[.string ⟨#[102, 105, 102, 111]⟩, .func (.func 55) #[] #[], .func (.func 56) #[] #[], .func (.func 57) #[] #[], .func (.func 58) #[] #[]]) (by omega))
  have HF := Lib.hid (row_blk (cs := #[.string ⟨#[102, 105, 102, 111]⟩, .func (.func 55) #[] #[], .func (.func 56) #[] #[], .func (.func 57) #[] #[], .func (.func 58) #[] #[]]) HZ.out)
  have HS3 := Lib.hid (show Same w ((w2.alloc (.cells #[.string ⟨#[]⟩, .nilFunc, .nilFunc, .nilFunc, .nilFunc] 73)).setRow w2.heap.size #[.string ⟨#[102, 105, 102, 111]⟩, .func (.func 55) #[] #[], .func (.func 56) #[] #[], .func (.func 57) #[] #[], .func (.func 58) #[] #[]]) from chg_setRow (HS2.out.alloc _) (.inr HS2.out.size) _)
  clear s2 hb2 hb3 hlt HB0 HS0
  have d0 : ((w2.alloc (.cells #[.string ⟨#[]⟩, .nilFunc, .nilFunc, .nilFunc, .nilFunc] 73)).setRow w2.heap.size #[.string ⟨#[102, 105, 102, 111]⟩, .func (.func 55) #[] #[], .func (.func 56) #[] #[], .func (.func 57) #[] #[], .func (.func 58) #[] #[]]).cell? ⟨w.heap.size, 0, none⟩ = some (.int .i64 6) := HB.out.cell 0
  have d1 : ((w2.alloc (.cells #[.string ⟨#[]⟩, .nilFunc, .nilFunc, .nilFunc, .nilFunc] 73)).setRow w2.heap.size #[.string ⟨#[102, 105, 102, 111]⟩, .func (.func 55) #[] #[], .func (.func 56) #[] #[], .func (.func 57) #[] #[], .func (.func 58) #[] #[]]).cell? ⟨w.heap.size, 1, none⟩ = some (.int .i64 wd) := HB.out.cell 1
  have d2 : ((w2.alloc (.cells #[.string ⟨#[]⟩, .nilFunc, .nilFunc, .nilFunc, .nilFunc] 73)).setRow w2.heap.size #[.string ⟨#[102, 105, 102, 111]⟩, .func (.func 55) #[] #[], .func (.func 56) #[] #[], .func (.func 57) #[] #[], .func (.func 58) #[] #[]]).cell? ⟨w.heap.size, 2, none⟩ = some (.int .i64 sl) := HB.out.cell 2
  have d3 : ((w2.alloc (.cells #[.string ⟨#[]⟩, .nilFunc, .nilFunc, .nilFunc, .nilFunc] 73)).setRow w2.heap.size #[.string ⟨#[102, 105, 102, 111]⟩, .func (.func 55) #[] #[], .func (.func 56) #[] #[], .func (.func 57) #[] #[], .func (.func 58) #[] #[]]).cell? ⟨w.heap.size, 3, none⟩ = some (.int .i64 cp) := HB.out.cell 3
  have d4 : ((w2.alloc (.cells #[.string ⟨#[]⟩, .nilFunc, .nilFunc, .nilFunc, .nilFunc] 73)).setRow w2.heap.size #[.string ⟨#[102, 105, 102, 111]⟩, .func (.func 55) #[] #[], .func (.func 56) #[] #[], .func (.func 57) #[] #[], .func (.func 58) #[] #[]]).cell? ⟨w.heap.size, 4, none⟩ = some (.int .u32 sa) := HB.out.cell 4
  have d5 : ((w2.alloc (.cells #[.string ⟨#[]⟩, .nilFunc, .nilFunc, .nilFunc, .nilFunc] 73)).setRow w2.heap.size #[.string ⟨#[102, 105, 102, 111]⟩, .func (.func 55) #[] #[], .func (.func 56) #[] #[], .func (.func 57) #[] #[], .func (.func 58) #[] #[]]).cell? ⟨w.heap.size, 5, none⟩ = some (.slice ia il ic) := HB.out.cell 5
  have d6 : ((w2.alloc (.cells #[.string ⟨#[]⟩, .nilFunc, .nilFunc, .nilFunc, .nilFunc] 73)).setRow w2.heap.size #[.string ⟨#[102, 105, 102, 111]⟩, .func (.func 55) #[] #[], .func (.func 56) #[] #[], .func (.func 57) #[] #[], .func (.func 58) #[] #[]]).cell? ⟨w.heap.size, 6, none⟩ = some (.int .i64 ow) := HB.out.cell 6
  have d7 : ((w2.alloc (.cells #[.string ⟨#[]⟩, .nilFunc, .nilFunc, .nilFunc, .nilFunc] 73)).setRow w2.heap.size #[.string ⟨#[102, 105, 102, 111]⟩, .func (.func 55) #[] #[], .func (.func 56) #[] #[], .func (.func 57) #[] #[], .func (.func 58) #[] #[]]).cell? ⟨w.heap.size, 7, none⟩ = some (.slice ra rl rc) := HB.out.cell 7
  have df : ((w2.alloc (.cells #[.string ⟨#[]⟩, .nilFunc, .nilFunc, .nilFunc, .nilFunc] 73)).setRow w2.heap.size #[.string ⟨#[102, 105, 102, 111]⟩, .func (.func 55) #[] #[], .func (.func 56) #[] #[], .func (.func 57) #[] #[], .func (.func 58) #[] #[]]).cell? ⟨w2.heap.size, 3, none⟩ = some (.func (.func 57) #[] #[]) := HF.out.cell 3
  go_wp2_with (refine wpList_store_row rfl 73 (.tmp 3) (.tmp 9) rfl w2.heap.size #[.string ⟨#[102, 105, 102, 111]⟩, .func (.func 55) #[] #[], .func (.func 56) #[] #[], .func (.func 57) #[] #[], .func (.func 58) #[] #[]] rfl rfl 73 #[.string ⟨#[]⟩, .nilFunc, .nilFunc, .nilFunc, .nilFunc] HZ.out face_size rfl one_6 ?_)
  refine (HC.out _).mono ?_
  rintro e w4 ⟨rfl, s4⟩
  go_wp2_with fail
  go_ret
  exact ⟨rfl, HS3.out.trans s4⟩
set_option maxRecDepth 100000 in
theorem olayn_none (k : Int) (wd sl cp sa ow : Int) (ia ra : Option Addr) (il ic rl rc : Nat) (w : World) (h : k < 1 ∨ 6 < k) :
    Calls Try.prog 21 #[.agg #[.int .i64 k, .int .i64 wd, .int .i64 sl, .int .i64 cp, .int .u32 sa, .slice ia il ic, .int .i64 ow, .slice ra rl rc]] w fun e w' => e = .returned (.slice none 0 0) ∧ Same w w' := by
  have hb0 := Blk.new w 47 #[.int .i64 k, .int .i64 wd, .int .i64 sl, .int .i64 cp, .int .u32 sa, .slice ia il ic, .int .i64 ow, .slice ra rl rc]
  have HS0 := Lib.hid ((Same.refl w).alloc (.cells #[.int .i64 k, .int .i64 wd, .int .i64 sl, .int .i64 cp, .int .u32 sa, .slice ia il ic, .int .i64 ow, .slice ra rl rc] 47))
  have d0 := hb0.cell 0
  have HFN := Lib.hid (fun w' => face_none k h w')
  clear hb0 h
  go_enter Try.func21, Try.ntmps21
  go_wp2_with fail
  refine (HFN.out _).mono ?_
  rintro e w2 ⟨rfl, s2⟩
  have HZ := Lib.hid (Blk.new w2 73 #[.string ⟨#[]⟩, .nilFunc, .nilFunc, .nilFunc, .nilFunc])
  have HS2 := Lib.hid (HS0.out.trans s2)
  have HS3 := Lib.hid (show Same w ((w2.alloc (.cells #[.string ⟨#[]⟩, .nilFunc, .nilFunc, .nilFunc, .nilFunc] 73)).setRow w2.heap.size #[.string ⟨#[]⟩, .nilFunc, .nilFunc, .nilFunc, .nilFunc]) from chg_setRow (HS2.out.alloc _) (.inr HS2.out.size) _)
  clear s2 HS0
  go_wp2_with (refine wpList_store_row rfl 73 (.tmp 3) (.tmp 9) rfl w2.heap.size #[.string ⟨#[]⟩, .nilFunc, .nilFunc, .nilFunc, .nilFunc] rfl rfl 73 #[.string ⟨#[]⟩, .nilFunc, .nilFunc, .nilFunc, .nilFunc] HZ.out face_size rfl one_0 ?_)
  go_ret
  exact ⟨rfl, HS3.out⟩
theorem olay_no (k : Int) (wd sl cp sa ow : Int) (ia ra : Option Addr) (il ic rl rc : Nat) (w : World) (hr : rightF k wd sl cp sa il rl = false) (hsa : 0 ≤ sa ∧ sa < 4294967296) :
    Calls Try.prog 21 #[.agg #[.int .i64 k, .int .i64 wd, .int .i64 sl, .int .i64 cp, .int .u32 sa, .slice ia il ic, .int .i64 ow, .slice ra rl rc]] w fun e w' => e = .returned (.slice none 0 0) ∧ Same w w' := by
  by_cases h : k < 1 ∨ 6 < k
  · exact olayn_none k wd sl cp sa ow ia ra il ic rl rc w h
  rcases (show k = 1 ∨ k = 2 ∨ k = 3 ∨ k = 4 ∨ k = 5 ∨ k = 6 by omega) with rfl | rfl | rfl | rfl | rfl | rfl
  · exact olayn_1 wd sl cp sa ow ia ra il ic rl rc w (by rw [right_1] at hr; exact hr)
  · exact olayn_2 wd sl cp sa ow ia ra il ic rl rc w (by rw [right_2] at hr; exact hr)
  · exact olayn_3 wd sl cp sa ow ia ra il ic rl rc w (by rw [right_3] at hr; exact hr)
  · exact olayn_4 wd sl cp sa ow ia ra il ic rl rc w (by rw [right_4] at hr; exact hr)
  · exact olayn_5 wd sl cp sa ow ia ra il ic rl rc w (by rw [right_5] at hr; exact hr)
  · exact olayn_6 wd sl cp sa ow ia ra il ic rl rc w (by rw [right_6] at hr; exact hr)
theorem sizef_no {k wd sl cp sa : Int} {il rl : Nat} (hr : rightF k wd sl cp sa il rl = false) : sizeF k wd sl cp sa il rl = 0 := by
  unfold sizeF
  rw [hr, if_neg Bool.false_ne_true]
set_option maxRecDepth 100000 in
theorem rlay_no (k : Int) (wd sl cp sa ow : Int) (ia ra : Option Addr) (il ic rl rc : Nat) (w : World) (hr : rightF k wd sl cp sa il rl = false) (hsa : 0 ≤ sa ∧ sa < 4294967296) :
    Calls Try.prog 26 #[.agg #[.int .i64 k, .int .i64 wd, .int .i64 sl, .int .i64 cp, .int .u32 sa, .slice ia il ic, .int .i64 ow, .slice ra rl rc]] w fun e w' => (∃ A c, e = .returned (.slice A 0 c)) ∧ Same w w' := by
  have hb0 := Blk.new w 47 #[.int .i64 k, .int .i64 wd, .int .i64 sl, .int .i64 cp, .int .u32 sa, .slice ia il ic, .int .i64 ow, .slice ra rl rc]
  have HB0 := Lib.hid hb0
  have HS0 := Lib.hid ((Same.refl w).alloc (.cells #[.int .i64 k, .int .i64 wd, .int .i64 sl, .int .i64 cp, .int .u32 sa, .slice ia il ic, .int .i64 ow, .slice ra rl rc] 47))
  obtain ⟨d0, d1, d2, d3, d4, d5, d6, d7⟩ := Ob.obj_cells hb0
  have SZ := Lib.hid (fun w' => rsize_any k wd sl cp sa ow ia ra il ic rl rc w' hsa)
  rw [sizef_no hr] at SZ
  have RT := Lib.hid (fun w' => rright_any k wd sl cp sa ow ia ra il ic rl rc w' hsa)
  rw [hr] at RT
  have hmk : ∀ W : World, (Instr.makeSlice 39 (.int .i64 0) (.int .i64 0)).run Try.prog W = .ok (.slice (some ⟨W.heap.size, 0, none⟩) 0 0) (W.alloc (.cells (Ob.zeros 0) 44)) := fun W => Ob.make_any 0 (by omega) W
  clear hb0 hr
  go_enter Try.func26, Try.ntmps26
  go_wp2_with fail
  refine (SZ.out _).mono ?_
  rintro e w1 ⟨rfl, s1⟩
  have HS1 := Lib.hid (HS0.out.trans s1)
  have HB1 := HB0.out.same s1
  clear s1 d0 d1 d2 d3 d4 d5 d6 d7
  have hb2 := HB1.same ((Same.refl w1).alloc (.cells (Ob.zeros 0) 44))
  obtain ⟨d0, d1, d2, d3, d4, d5, d6, d7⟩ := Ob.obj_cells hb2
  have HS2 := Lib.hid (HS1.out.alloc (.cells (Ob.zeros 0) 44))
  go_wp2_with fail
  refine (RT.out _).mono ?_
  rintro e w3 ⟨rfl, s3⟩
  have HS3 := Lib.hid (HS2.out.trans s3)
  clear s3
  go_wp2_with fail
  go_ret
  exact ⟨⟨_, _, rfl⟩, HS3.out⟩

end Go.Proofs.Ytaclphhbdfoaeaa.Fc
