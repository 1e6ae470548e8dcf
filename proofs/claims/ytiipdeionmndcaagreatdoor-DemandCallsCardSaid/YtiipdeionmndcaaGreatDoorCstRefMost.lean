/-

  The document's Part and Most on layer 12 of a program that may be.
-/
import Derived.Test.YtiipdeionmndcaaGreatDoorCstRefPart
import Derived.Test.YtiipdeionmndcaaGreatDoorCstMost
set_option linter.unusedVariables false
set_option linter.unusedSimpArgs false
namespace Go.Proofs.YtiipdeionmndcaaGreatDoor.Cs
open Go.ChangeShapes Go.WideShapes Go.ChangeAt Go.RowKit Ws
open Go.Proofs.YtiipdeionmndcaaGreatDoor.Fp (Ins at_ Fine at_some lp loopsL nextL hasB)
open Go.Proofs.YtiipdeionmndcaaGreatDoor.Fw (Prg Spn spanCells spn_of)

theorem part_ref (A : Option Addr) (m c : Nat) (p : List Ins) (Wt : Option Addr) (cW : Nat) (ws : List Int) (hl : p.length = m) (hm : m ≤ 64) (hwl : ws.length = m) (hnx : ∀ k, k < m → Fp.rnextL p k = nextL p k) :
    ∀ (f : Nat) (l : List (Int × Int)) (a b : Nat) (LA : Option Addr) (n cL : Nat) (w : World), Prg w A p → Row w Wt (ws.map (Value.int .i64)) → l.length = n → n < f → n ≤ 64 → Row w LA (spanCells l) → (∀ x ∈ l, Lok p x) → a ≤ b → b < m →
      Calls Tryz.prog 37 #[.slice A m c, .slice Wt m cW, .slice LA n cL, .agg #[.int .i64 a, .int .i64 b]] w fun e w' => e = .returned (.agg #[.int .i64 (partF p ws f l (a, b)).thru, .int .i64 (partF p ws f l (a, b)).fin]) ∧ Same w w'
  | 0, l, a, b, LA, n, cL, w, _, _, _, h, _, _, _, _, _ => absurd h (Nat.not_lt_zero _)
  | f + 1, l, a, b, LA, n, cL, w, hp, hW, hln, hnf, hn, hL, hok, hab, hbm => by
    have h := part_step A m c p Wt cW ws LA n cL l a b (fun x => partF p ws f (innerL l x) x) w hl hm hp hW hwl hln hn hL hok hab hbm hnx (fun x hx W B cB s r => by
      have hlk := hok x hx
      have hsh := inner_short hx
      obtain ⟨x1, x2⟩ := x
      obtain ⟨h1, h2, h3, h4, h5⟩ := hlk
      simp only at h1 h2 h3
      obtain ⟨a', rfl⟩ : ∃ a' : Nat, x1 = (a' : Int) := ⟨x1.toNat, by omega⟩
      obtain ⟨b', rfl⟩ : ∃ b' : Nat, x2 = (b' : Int) := ⟨x2.toNat, by omega⟩
      exact part_ref A m c p Wt cW ws hl hm hwl hnx f (innerL l (a', b')) a' b' B _ cB W (hp.same s) (hW.same s) rfl (by omega) (by omega) r (fun y hy => hok y (innerL_mem.1 hy).1) (by omega) (by omega))
    have e : partF p ws (f + 1) l ((a : Int), (b : Int)) = (partT (fun x => partF p ws f (innerL l x) x) p ws (innerL l ((a : Int), (b : Int))) a (b + 1 - a)).all := by
      rw [partF]
      simp only [Int.toNat_natCast]
      rw [show ((b : Int) + 1 - (a : Int)).toNat = b + 1 - a by omega]
    rw [e]
    exact h
theorem way_field (x y : Int) (w : World) : (Instr.field 78 (.agg #[.int .i64 x, .int .i64 y]) 1).run Tryz.prog w = .ok (.int .i64 y) w := by kernel_rfl
theorem lok_loops {p : List Ins} (hF : Fine Fw.rightI p) (hn : ∀ j, j < p.length → 0 ≤ (at_ p j).n) (hC : ∀ k, k < p.length → (at_ p k).op = 16 → 0 ≤ (at_ p k).c ∧ (at_ p k).c < 1099511627776) : ∀ x ∈ loopsL p, Lok p x := by
  intro x hx
  obtain ⟨j, hj, rfl⟩ := mem_lp hx
  have h1 := lp_in hF hn hj
  have h2 := lp_back hF hn hj
  have h3 := hC (lp (loopsL p) j).2.toNat (by omega) h2
  exact ⟨h1.1, by omega, h1.2.2, h3.1, h3.2⟩
set_option maxRecDepth 100000 in
theorem rmost_any (A : Option Addr) (m c : Nat) (p : List Ins) (Wt : Option Addr) (cW : Nat) (ws : List Int) (w : World) (hl : p.length = m) (hp : Prg w A p) (hW : Row w Wt (ws.map (Value.int .i64))) (hwl : ws.length = m) (hok : Fw.okB p = true) :
    Calls Tryz.prog 21 #[.slice A m c, .slice Wt m cW] w fun e w' => e = .returned (.int .i64 (weighW btG p ws)) ∧ Same w w' := by
  have hF := Fw.okB_fine hok
  have hnn := hp.nn
  have hsz := hF.size
  have hm1 : 1 ≤ m ∧ m ≤ 64 := by omega
  have hC : ∀ k, k < p.length → (at_ p k).op = 16 → 0 ≤ (at_ p k).c ∧ (at_ p k).c < 1099511627776 := by
    intro k hk ho
    have := back_c (hF.right k hk) ho
    omega
  have hPW := part_weigh hF hnn hC ws
  have hln : (loopsL p).length ≤ 64 := Nat.le_trans (Fp.loopsTo_len p.length) (by omega)
  have LO := Lib.hid (Fw.rloops_any A m c p w hl (by omega) hp)
  have PT := Lib.hid (fun W (s : Same w W) LA cL (r : Row W LA (spanCells (loopsL p))) => part_ref A m c p Wt cW ws hl hm1.2 hwl (fun k hk => Fp.rnext_eq hF hnn (by omega)) ((loopsL p).length + 1) (loopsL p) 0 (m - 1) LA (loopsL p).length cL W (hp.same s) (hW.same s) rfl (Nat.lt_succ_self _) hln r (lok_loops hF hnn hC) (by omega) (by omega))
  rw [show ((m - 1 : Nat) : Int) = (m : Int) - 1 by omega, show ((0 : Nat) : Int) = 0 from rfl] at PT
  rw [hl] at hPW
  have HPW := Lib.hid hPW
  have f1 : IntKind.i64.wrap ((m : Int) - 1) = (m : Int) - 1 := Go.IntWalk.i64_in _ (by omega)
  clear hp hW hl hwl hok hF hnn hsz hC hPW
  unfold Fw.LoopsPost at LO
  go_enter Tryz.func21, Tryz.ntmps21
  go_wp2_with fail
  refine LO.out.mono ?_
  rintro e w1 ⟨LA, cL, rfl, ho, s1⟩
  have PT1 := Lib.hid (PT.out w1 s1 LA cL ho.row)
  have WF := way_field
  have S1 := Lib.hid s1
  clear ho s1 LO PT
  go_wp2_with fail
  refine PT1.out.mono ?_
  rintro e w2 ⟨rfl, s2⟩
  have S2 := Lib.hid (S1.out.trans s2)
  clear s2
  go_wp2_with fail
  go_ret
  exact ⟨by rw [HPW.out]; rfl, S2.out⟩
end Go.Proofs.YtiipdeionmndcaaGreatDoor.Cs
