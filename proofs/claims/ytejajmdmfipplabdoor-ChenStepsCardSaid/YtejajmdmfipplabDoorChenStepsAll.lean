/-

  The walk of the law ChenSteps, whatever the case.
-/
import Derived.Test.YtejajmdmfipplabDoorChenSteps
set_option linter.unusedSimpArgs false
set_option linter.unusedVariables false
namespace Go.Proofs.YtejajmdmfipplabDoor.Ch
open Go.ChangeShapes Go.WideShapes Go.ChangeAt Go.RowKit Ws Mm Pa

theorem steps_walk (k wd sl cp sa ow : Int) (ia ra : Option Addr) (il ic rl rc : Nat) (at_ op rd : Int) (A : Option Addr) (m c : Nat) (LA : Option Addr) (n lc : Nat) (pa : Option Addr) (pn pc : Nat) (rec ls : List Int) (pokes : List (List Int)) (w : World)
    (hrec : rec.length = m) (hrow : Row w A (rec.map (Value.int .u32))) (hwd : Op.Wd rec) (hls : ls.length = n) (hlrow : Row w LA (ls.map (Value.int .u32))) (hlwd : Op.Wd ls) (hpk : Fl.Rows w pa [.i64, .i64, .u32] pokes) (hpl : pokes.length = pn) (hsa : 0 ≤ sa ∧ sa < 4294967296 := by assumption) (hT : TZ w := by assumption) :
    Calls Tryd.prog 4 #[.agg #[.int .i64 k, .int .i64 wd, .int .i64 sl, .int .i64 cp, .int .u32 sa, .slice ia il ic, .int .i64 ow, .slice ra rl rc, .int .i64 at_, .int .i64 op, .int .i64 rd, .slice A m c, .slice LA n lc, .slice pa pn pc]] w fun e w' => e = .returned (.bool true) ∧ Same w w' := by
  cases hli : lightB il rl m n pn
  · exact steps_big k wd sl cp sa ow ia ra il ic rl rc at_ op rd A m c LA n lc pa pn pc w hli
  · by_cases hc : bcode (decide (k = 2) && rightB wd sl cp sa il rl) at_ op rd wd rl m = 0
    · obtain ⟨o, hb, ho⟩ := begins_of hc
      exact steps_yes k wd sl cp sa ow ia ra il ic rl rc at_ op rd A m c LA n lc pa pn pc rec ls pokes w hli o hb ho hrec hrow hwd hls hlrow hlwd hc hpk hpl
    · exact steps_no k wd sl cp sa ow ia ra il ic rl rc at_ op rd A m c LA n lc pa pn pc w hli _ rfl hc

end Go.Proofs.YtejajmdmfipplabDoor.Ch
