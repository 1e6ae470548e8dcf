/-

  How an operation on a counter and one record begins, as the document's chapters tell it.
-/
import Derived.Test.YtikjkmomokhanabGreatSeqBegin
set_option linter.unusedSimpArgs false
set_option linter.unusedVariables false
namespace Go.Proofs.YtikjkmomokhanabGreat.Sq
open Go.ChangeShapes Go.WideShapes Go.ChangeAt Go.RowKit Ws Mm Pa
open Go.Proofs.YtikjkmomokhanabGreat.Ob (obegin_wr obegin_rd)

theorem list8 : ∀ (l : List Int), l.length = 8 → ∃ r0 r1 r2 r3 r4 r5 r6 r7, l = [r0, r1, r2, r3, r4, r5, r6, r7]
  | [a, b, c, d, e, f, g, h], _ => ⟨a, b, c, d, e, f, g, h, rfl⟩

/-- an operation has begun -/
def Begun (o : Op.Im) (size : Nat) (rec : List Int) (w : World) (e : Ending) (w' : World) : Prop :=
  ∃ g p, e = .returned (.tuple #[.pointer (some ⟨g, 0, none⟩), .int .i64 0]) ∧ Same w w' ∧ w.heap.size ≤ g ∧ FB w' g 150 o size (Op.start rec) p

theorem begin_wr (W at_ cap : Nat) (sa ow : Int) (ia ra : Option Addr) (il ic rl rc : Nat) (rec : List Int) (A : Option Addr) (c : Nat) (w : World) (hr : rightB W 0 cap sa il rl = true) (hrec : rec.length = W) (hrow : Row w A (rec.map (Value.int .u32))) (hsa : 0 ≤ sa ∧ sa < 4294967296 := by assumption) :
    Calls Tryz.prog 89 #[.agg #[.int .i64 3, .int .i64 W, .int .i64 0, .int .i64 cap, .int .u32 sa, .slice ia il ic, .int .i64 ow, .slice ra rl rc], .int .i64 at_, .int .i64 2, .int .i64 0, .slice A W c] w (Begun ⟨at_, W, rl, 0, cap, 0, true⟩ (1 + W) rec w) := by
  have hq := HQ hr
  have h8 : (rec ++ List.replicate (8 - rec.length) (0 : Int)).length = 8 := by simp; omega
  obtain ⟨r0, r1, r2, r3, r4, r5, r6, r7, hl⟩ := list8 _ h8
  have hsz : ((1 : Int) + (W : Int)) = ((1 + W : Nat) : Int) := by omega
  have HB : ∀ w2, Same w w2 → Calls Tryz.prog 118 #[.agg #[.int .i64 3, .int .i64 W, .int .i64 0, .int .i64 cap, .int .u32 sa, .slice ia il ic, .int .i64 ow, .slice ra rl rc], .int .i64 ((1 : Int) + (W : Int)), .int .i64 at_, .int .i64 2, .int .i64 0, .slice A W c] w2 fun e w' => e = .returned (.tuple #[.agg #[.bool false, .int .i64 0, .int .i64 W, .int .i64 1, .int .i64 0, .int .i64 at_, .int .i64 ((1 : Int) + (W : Int)), .int .u32 r0, .int .u32 r1, .int .u32 r2, .int .u32 r3, .int .u32 r4, .int .u32 r5, .int .u32 r6, .int .u32 r7, .int .i64 cap, .int .i64 0, .bool true, .int .i64 0], .int .i64 0]) ∧ Same w2 w' := by
    intro w2 s
    have := obegin_wr 3 W 0 cap sa ow ia ra il ic rl rc ((1 : Int) + (W : Int)) at_ 0 A W c w2 (by simp; omega) (by omega) (.inr (.inr (.inl rfl))) hq.1 (by omega) (by omega) rfl (by simp) rec hrec (by omega) (hrow.same s)
    rw [hl] at this
    exact this
  refine (begin_ok 3 W 0 cap sa ow ia ra il ic rl rc at_ 2 ((1 : Int) + (W : Int)) 0 ((1 : Int) + (W : Int)) false r0 r1 r2 r3 r4 r5 r6 r7 A W c w (fun w2 => size_yes W 0 cap sa ow ia ra il ic rl rc w2 hr) HB).mono ?_
  rintro e w' ⟨g, rfl, s, hg, hb⟩
  refine ⟨g, ⟨false, 0, W, 1, 0, at_, (1 : Int) + (W : Int), [r0, r1, r2, r3, r4, r5, r6, r7], cap, 0, true, 0⟩, rfl, s, hg, ⟨rfl, hb⟩, ⟨rfl, rfl, rfl, rfl, hsz, ?_, by simp [Op.start]; omega, rfl, rfl, rfl, fun _ => ⟨rfl, rfl⟩, fun _ => by simp [Op.start]⟩⟩
  rw [← hl]
  simp [Op.start]

theorem begin_rd (W at_ cap rdr : Nat) (sa ow : Int) (ia ra : Option Addr) (il ic rl rc : Nat) (A : Option Addr) (c : Nat) (w : World) (hr : rightB W 0 cap sa il rl = true) (hrd : rdr < rl) (hsa : 0 ≤ sa ∧ sa < 4294967296 := by assumption) :
    Calls Tryz.prog 89 #[.agg #[.int .i64 3, .int .i64 W, .int .i64 0, .int .i64 cap, .int .u32 sa, .slice ia il ic, .int .i64 ow, .slice ra rl rc], .int .i64 at_, .int .i64 1, .int .i64 rdr, .slice A 0 c] w (Begun ⟨at_, W, rl, 0, cap, rdr, false⟩ (1 + W) [] w) := by
  have hq := HQ hr
  have hsz : ((1 : Int) + (W : Int)) = ((1 + W : Nat) : Int) := by omega
  have HB : ∀ w2, Same w w2 → Calls Tryz.prog 118 #[.agg #[.int .i64 3, .int .i64 W, .int .i64 0, .int .i64 cap, .int .u32 sa, .slice ia il ic, .int .i64 ow, .slice ra rl rc], .int .i64 ((1 : Int) + (W : Int)), .int .i64 at_, .int .i64 1, .int .i64 rdr, .slice A 0 c] w2 fun e w' => e = .returned (.tuple #[.agg #[.bool true, .int .i64 rdr, .int .i64 W, .int .i64 1, .int .i64 0, .int .i64 at_, .int .i64 ((1 : Int) + (W : Int)), .int .u32 0, .int .u32 0, .int .u32 0, .int .u32 0, .int .u32 0, .int .u32 0, .int .u32 0, .int .u32 0, .int .i64 cap, .int .i64 0, .bool true, .int .i64 0], .int .i64 0]) ∧ Same w2 w' := by
    intro w2 s
    exact obegin_rd 3 W 0 cap sa ow ia ra il ic rl rc ((1 : Int) + (W : Int)) at_ rdr A 0 c w2 (by simp; omega) (by omega) (.inr (.inr (.inl rfl))) hq.1 (by omega) (by omega) (by omega) (by simp) [] rfl (by omega) (Row.nil _ _)
  refine (begin_ok 3 W 0 cap sa ow ia ra il ic rl rc at_ 1 ((1 : Int) + (W : Int)) rdr ((1 : Int) + (W : Int)) true 0 0 0 0 0 0 0 0 A 0 c w (fun w2 => size_yes W 0 cap sa ow ia ra il ic rl rc w2 hr) HB).mono ?_
  rintro e w' ⟨g, rfl, s, hg, hb⟩
  exact ⟨g, ⟨true, rdr, W, 1, 0, at_, (1 : Int) + (W : Int), [0, 0, 0, 0, 0, 0, 0, 0], cap, 0, true, 0⟩, rfl, s, hg, ⟨rfl, hb⟩, ⟨rfl, rfl, rfl, rfl, hsz, rfl, by simp [Op.start], rfl, rfl, rfl, fun _ => ⟨rfl, rfl⟩, fun _ => by simp [Op.start]⟩⟩

end Go.Proofs.YtikjkmomokhanabGreat.Sq
