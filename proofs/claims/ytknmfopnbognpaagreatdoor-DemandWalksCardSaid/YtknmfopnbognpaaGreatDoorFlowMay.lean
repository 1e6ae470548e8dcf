/-

  The document's Fine, May and Next (layer 10).
-/
import Derived.Test.YtknmfopnbognpaaGreatDoorFlowUse
import Derived.Test.YtknmfopnbognpaaGreatDoorRefFlowCk
set_option linter.unusedVariables false
set_option linter.unusedSimpArgs false
namespace Go.Proofs.YtknmfopnbognpaaGreatDoor.Fw
open Go.ChangeShapes Go.WideShapes Go.ChangeAt Go.RowKit Ws Fp
open Go.Proofs.YtknmfopnbognpaaGreatDoor.Is (Tabs ins rightB leadB)

theorem rfine_any (A : Option Addr) (m c : Nat) (p : List Ins) (w : World) (hl : p.length = m) (hm : m ≤ 5000) (hp : Prg w A p) :
    Calls Tryz.prog 5 #[.slice A m c] w fun e w' => e = .returned (.bool (okB p)) ∧ Same w w' := by
  have CK := Lib.hid (rcheck_any A m c p w hl hm hp)
  have hE : (ckE p == 0) = okB p := by unfold okB; rw [Bool.eq_iff_iff]; simp
  have HE := Lib.hid hE
  clear hl hp hE
  go_enter Tryz.func5, Tryz.ntmps5
  go_wp2_with fail
  refine CK.out.mono ?_
  rintro e w1 ⟨rfl, s1⟩
  go_wp2_with fail
  go_ret
  exact ⟨ret_bool HE.out, s1⟩
theorem lead_iff (op : Int) : leadB op = decide (op = 14 ∨ op = 15 ∨ op = 16) := by
  unfold leadB
  rw [Bool.eq_iff_iff]
  simp
  try omega
theorem int_info : (Tryz.prog.info? 3).map (fun i => (i.zero, i.size, i.bytes)) = some (some (.int .i64 0), 1, 8) := by kernel_rfl
theorem own_nil (w : World) (B : Nat) (e : TypeId) : Own w B e none 0 [] := ⟨by simp, .inl ⟨rfl, rfl⟩⟩
/-- the first j places to which one may come from k -/
def waysTo (p : List Ins) (k j : Nat) : List Int := ((List.range j).filter fun t : Nat => mayB p k (t : Int)).map fun t : Nat => (t : Int)
theorem waysTo_next (p : List Ins) (k j : Nat) : waysTo p k (j + 1) = waysTo p k j ++ (if mayB p k (j : Int) = true then [(j : Int)] else []) := by
  unfold waysTo
  rw [List.range_succ, List.filter_append, List.map_append]
  congr 1
  by_cases h : mayB p k (j : Int) = true
  · rw [if_pos h]
    simp [h]
  · rw [if_neg h]
    simp [h]
theorem waysTo_len (p : List Ins) (k j : Nat) : (waysTo p k j).length ≤ j := by
  unfold waysTo
  rw [List.length_map]
  have := List.length_filter_le (fun t : Nat => mayB p k (t : Int)) (List.range j)
  rw [List.length_range] at this
  exact this
theorem nums_mk {w w' : World} {l : List Int} {A : Option Addr} {n c : Nat} (hn : n = l.length) (hr : Row w' A (l.map (Value.int .i64))) (hs : Same w w') : Nums w l (.returned (.slice A n c)) w' := by
  subst hn
  exact ⟨A, c, rfl, hr, hs⟩
end Go.Proofs.YtknmfopnbognpaaGreatDoor.Fw
