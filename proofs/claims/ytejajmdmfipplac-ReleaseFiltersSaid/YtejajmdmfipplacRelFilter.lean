/-

  The program's Filter, and the document's (layer 27).
-/
import Derived.Test.YtejajmdmfipplacRelParted
set_option linter.unusedVariables false
set_option linter.unusedSimpArgs false
namespace Go.Proofs.Ytejajmdmfipplac.Rl
open Go.ChangeShapes Go.WideShapes Go.ChangeAt Go.RowKit Ws

def BD (ts : List Int) : Prop := ∀ x ∈ ts, -9223372036854775808 ≤ x ∧ x ≤ 9223372036854775807
set_option maxRecDepth 100000 in
theorem filter_any (P : Int) (ts : List Int) (A : Option Addr) (n c : Nat) (w : World) (hl : ts.length = n) (hn : n ≤ 1000) (hr : Row w A (ts.map (Value.int .i64))) (hb : BD ts) :
    Calls Try.prog 5 #[.int .i64 P, .slice A n c] w (Told w (runTo P ts n).1 (runTo P ts n).2) := by
  have hs := (Same.refl w).alloc (.cells #[.int .i64 P, .bool false, .int .i64 0] 33)
  have HS := Lib.hid hs
  have hA : ∀ b o, A = some ⟨b, o, none⟩ → n ≠ 0 → ¬ b = w.heap.size := by
    intro b o h h0 e
    obtain ⟨b', o', h', hc⟩ := hr.at_ (k := 0) (by rw [List.length_map]; omega)
    rw [h] at h'
    injection h' with h'
    injection h' with h' _
    subst h'
    have := World.block_lt_of_cell? w _ hc
    simp only at this
    omega
  by_cases h0 : n = 0
  · have ht : ts = [] := List.eq_nil_of_length_eq_zero (by omega)
    subst ht
    subst h0
    have PA := Lib.hid (parted_any P [] none 0 0 w.heap.size _ rfl (by omega) (Row.nil _ _) (fun b o h => by cases h) (fun x h => by simp at h) (Blk.new w 33 #[.int .i64 P, .bool false, .int .i64 0]))
    have PB := Lib.hid (parted_zero P A c w.heap.size (w.alloc (.cells #[.int .i64 P, .bool false, .int .i64 0] 33)))
    clear hr hb hA hs PA
    go_enter Try.func5, Try.ntmps5
    go_wp2_with fail
    refine PB.out.mono ?_
    rintro e w2 ⟨A1, c1, A2, c2, rfl, r1, r2, s2⟩
    have R1 := Lib.hid r1
    have R2 := Lib.hid r2
    have S2 := Lib.hid (HS.out.more s2 (fun i e => by omega))
    clear r1 r2 s2 PB
    generalize hm1 : (runTo P [] 0).1.length = m1 at *
    generalize hm2 : (runTo P [] 0).2.length = m2 at *
    have M1 := Lib.hid hm1
    have M2 := Lib.hid hm2
    clear hm1 hm2
    go_wp2_with fail
    go_ret2
    exact ⟨A1, c1, A2, c2, by rw [M1.out, M2.out]; rfl, R1.out, R2.out, S2.out⟩
  · have PA := Lib.hid (parted_any P ts A n c w.heap.size _ hl hn (hr.same hs) (fun b o h => hA b o h h0) hb (Blk.new w 33 #[.int .i64 P, .bool false, .int .i64 0]))
    clear hl hr hb hA hs
    go_enter Try.func5, Try.ntmps5
    go_wp2_with fail
    refine PA.out.mono ?_
    rintro e w2 ⟨A1, c1, A2, c2, rfl, r1, r2, s2⟩
    have R1 := Lib.hid r1
    have R2 := Lib.hid r2
    have S2 := Lib.hid (HS.out.more s2 (fun i e => by omega))
    clear r1 r2 s2 PA
    generalize hm1 : (runTo P ts n).1.length = m1 at *
    generalize hm2 : (runTo P ts n).2.length = m2 at *
    have M1 := Lib.hid hm1
    have M2 := Lib.hid hm2
    clear hm1 hm2
    go_wp2_with fail
    go_ret2
    exact ⟨A1, c1, A2, c2, by rw [M1.out, M2.out]; rfl, R1.out, R2.out, S2.out⟩

end Go.Proofs.Ytejajmdmfipplac.Rl
