/-

  The document's words of an object of the kind ring at the beginning.
-/
import Derived.Test.YtaclphhbdfoaeaaJRingWords
set_option linter.unusedSimpArgs false
set_option linter.unusedVariables false
namespace Go.Proofs.Ytaclphhbdfoaeaa.Rg
open Go.ChangeShapes Go.WideShapes Go.ChangeAt Go.RowKit Ws Mm Pa
open Go.Proofs.Ytaclphhbdfoaeaa.Ob

theorem lay_no (k wd sl cp sa ow : Int) (ia ra : Option Addr) (il ic rl rc : Nat) (w : World) (hr : k ≠ 4 ∨ rightB wd sl cp sa il rl = false) (hsa : 0 ≤ sa ∧ sa < 4294967296 := by assumption) :
    Calls Try.prog 49 #[.agg #[.int .i64 k, .int .i64 wd, .int .i64 sl, .int .i64 cp, .int .u32 sa, .slice ia il ic, .int .i64 ow, .slice ra rl rc]] w fun e w' => e = .returned (.slice none 0 0) ∧ Same w w' := by
  have HR : ∀ w', Calls Try.prog 47 #[.agg #[.int .i64 k, .int .i64 wd, .int .i64 sl, .int .i64 cp, .int .u32 sa, .slice ia il ic, .int .i64 ow, .slice ra rl rc]] w' fun e w'' => e = .returned (.bool false) ∧ Same w' w'' := by
    intro w'
    by_cases hk : k = 4
    · subst hk
      have := right_any wd sl cp sa ow ia ra il ic rl rc w'
      rcases hr with hr | hr
      · exact absurd rfl hr
      · rw [hr] at this
        exact this
    · exact right_not k wd sl cp sa ow ia ra il ic rl rc hk w'
  clear hr
  go_enter Try.func49, Try.ntmps49
  go_wp2_with fail
  refine (HR _).mono ?_
  rintro e w1 ⟨rfl, s1⟩
  go_wp2_with fail
  go_ret
  exact ⟨rfl, Same.trans ((Same.refl _).alloc _) s1⟩

theorem own_cell {w : World} {B g c : Nat} {e : TypeId} {l : List Int} (h : Own w B e (some ⟨g, 0, none⟩) c (l.map (Value.int .u32))) (j : Nat) (hj : j < l.length) :
    w.cell? ⟨g, j, none⟩ = some (.int .u32 (Op.gd l j)) ∧ w.frozen? ⟨g, j, none⟩ = false := by
  obtain ⟨g', hg', _, _, hf⟩ := h.thaw (by simp; omega)
  injection hg' with hg'
  injection hg' with hg'
  subst hg'
  obtain ⟨b, o, hA, hc⟩ := h.row j (.int .u32 l[j]) (by simp [hj])
  injection hA with hA
  injection hA with e1 e2
  subst e1
  subst e2
  rw [Nat.zero_add] at hc
  refine ⟨?_, hf j⟩
  rw [hc]
  unfold Op.gd
  rw [List.getD_eq_getElem?_getD, List.getElem?_eq_getElem hj]
  rfl
theorem objZ {w w' : World} {q : Nat} {T : TypeId} {W sl : Nat} {cp sa ow : Int} {ia ra : Option Addr} {il ic rl rc : Nat} {S : Nat → Prop} (h : Blk w q T #[.int .i64 4, .int .i64 W, .int .i64 sl, .int .i64 cp, .int .u32 sa, .slice ia il ic, .int .i64 ow, .slice ra rl rc]) (s : Chg S w w') (hn : ¬ S q) : w'.cell? ⟨q, 0, none⟩ = some (.int .i64 4) ∧ w'.cell? ⟨q, 1, none⟩ = some (.int .i64 W) ∧ w'.cell? ⟨q, 2, none⟩ = some (.int .i64 sl) ∧ w'.cell? ⟨q, 3, none⟩ = some (.int .i64 cp) ∧ w'.cell? ⟨q, 4, none⟩ = some (.int .u32 sa) ∧ w'.cell? ⟨q, 5, none⟩ = some (.slice ia il ic) ∧ w'.cell? ⟨q, 6, none⟩ = some (.int .i64 ow) ∧ w'.cell? ⟨q, 7, none⟩ = some (.slice ra rl rc) ∧ Chg S w w' := by
  obtain ⟨a, b, c, d, e, f, g, i⟩ := obj_cells (h.chg s hn)
  exact ⟨a, b, c, d, e, f, g, i, s⟩

set_option maxHeartbeats 1000000 in
set_option maxRecDepth 100000 in
theorem rlay_yes (W sl : Nat) (cp sa ow : Int) (ia ra : Option Addr) (il ic rl rc : Nat) (init : List Int) (w : World) (hr : rightB W sl cp sa il rl = true) (hi : Row w ia (init.map (Value.int .u32))) (hl : init.length = il) (hsa : 0 ≤ sa ∧ sa < 4294967296 := by assumption) :
    Calls Try.prog 26 #[.agg #[.int .i64 4, .int .i64 W, .int .i64 sl, .int .i64 cp, .int .u32 sa, .slice ia il ic, .int .i64 ow, .slice ra rl rc]] w fun e w' => ∃ g, e = .returned (.slice (some ⟨g, 0, none⟩) (1 + sl * W) (1 + sl * W)) ∧ Same w w' ∧ Own w' w.heap.size 44 (some ⟨g, 0, none⟩) (1 + sl * W) ((lay0 W sl sa init).map (Value.int .u32)) := by
  have hq := HQ hr
  have hpl := place_in W sl sa (by omega) (by omega)
  obtain ⟨n, hn⟩ : ∃ n, n = 1 + sl * W := ⟨_, rfl⟩
  rw [← hn] at hpl
  have hn128 : sl * W ≤ 16 * 8 := Nat.mul_le_mul (by omega) (by omega)
  have hm0 := Int.emod_nonneg sa (show (sl : Int) ≠ 0 by omega)
  have hm1 := Int.emod_lt_of_pos sa (show (0 : Int) < sl by omega)
  obtain ⟨mm, hmm⟩ : ∃ mm : Nat, mm = (sa % (sl : Int)).toNat := ⟨_, rfl⟩
  have emm : sa.tmod (sl : Int) = (mm : Int) := by rw [Int.tmod_eq_emod_of_nonneg hsa.1, hmm]; omega
  have hms : mm < sl := by omega
  have hmw : mm * W ≤ 16 * 8 := Nat.mul_le_mul (by omega) (by omega)
  obtain ⟨y, hy⟩ : ∃ y : Nat, y = mm * W := ⟨_, rfl⟩
  have hyi : (mm : Int) * (W : Int) = (y : Int) := by rw [hy, Int.natCast_mul]
  obtain ⟨K, hK⟩ : ∃ K : Nat, K = 1 + (sa % (sl : Int)).toNat * W := ⟨_, rfl⟩
  have hKy : K = 1 + y := by rw [hK, hy, hmm]
  rw [← hK] at hpl
  have HK := Lib.hid hK
  have HKY := Lib.hid hKy
  have HPL := Lib.hid hpl
  have HN1 := Lib.hid hn128
  have HYI := Lib.hid hyi
  have HEM := Lib.hid emm
  have HMS := Lib.hid (And.intro hms hmw)
  have HY := Lib.hid hy
  have hmk := make_any n (by omega)
  have HZ := fun w' => rsize_yes W sl cp sa ow ia ra il ic rl rc w' hr
  rw [show (1 : Int) + (sl : Int) * (W : Int) = (n : Int) by rw [← Int.natCast_mul]; omega] at HZ
  have hb := Blk.new w 47 #[.int .i64 4, .int .i64 W, .int .i64 sl, .int .i64 cp, .int .u32 sa, .slice ia il ic, .int .i64 ow, .slice ra rl rc]
  have s0 := (Same.refl w).alloc (.cells #[.int .i64 4, .int .i64 W, .int .i64 sl, .int .i64 cp, .int .u32 sa, .slice ia il ic, .int .i64 ow, .slice ra rl rc] 47)
  have HB := Lib.hid hb
  have HR := fun w' => rright_any W sl cp sa ow ia ra il ic rl rc w'
  rw [hr] at HR
  have HQ2 := Lib.hid hq
  have HN := Lib.hid hn
  have HL := Lib.hid hl
  rw [← hn]
  clear hb hq hr hn hl hpl hn128 hm0 hm1 hmm emm hms hmw hy hyi hK hKy
  go_enter Try.func26, Try.ntmps26
  go_wp2_with fail
  refine (HZ _).mono ?_
  rintro e w1 ⟨rfl, s1⟩
  have S1 := Lib.hid (s0.trans s1)
  have HB1 := Lib.hid (HB.out.same s1)
  clear s0 s1 HB HZ
  have hqs := HB1.out.lt
  have hqw := Nat.le_refl w.heap.size
  have HIB : Hid (∀ (b o : Nat), ia = some ⟨b, o, none⟩ → init.map (Value.int .u32) ≠ [] → b < w.heap.size) := Lib.hid (fun b o hA hne => by
    obtain ⟨b', o', hA', hc⟩ := hi.at_ (k := 0) (by rcases h : init.map (Value.int .u32) with _ | ⟨x, r⟩; exact absurd h hne; simp)
    rw [hA] at hA'
    injection hA' with hA'
    injection hA' with e1 e2
    subst e1
    exact World.block_lt_of_cell? w _ hc)
  generalize hqe : w.heap.size = q at *
  have S2 := Lib.hid (S1.out.alloc (.cells (zeros n) 44))
  have HB2 := Lib.hid (HB1.out.same ((Same.refl w1).alloc (.cells (zeros n) 44)))
  have BN := Lib.hid (Blk.new w1 44 (zeros n))
  obtain ⟨d0, d1, d2, d3, d4, d5, d6, d7⟩ := obj_cells HB2.out
  clear S1 HB1
  go_wp2_with fail
  generalize w1.alloc (.cells (zeros n) 44) = w2 at *
  generalize w1.heap.size = g at *
  refine (HR _).mono ?_
  rintro e w3 ⟨rfl, s3⟩
  have S3 := Lib.hid (S2.out.trans s3)
  have HB3 := Lib.hid (HB2.out.same s3)
  have BN3 := Lib.hid (BN.out.same s3)
  obtain ⟨d0, d1, d2, d3, d4, d5, d6, d7⟩ := obj_cells HB3.out
  clear S2 HB2 BN HR
  have f0 : (0 : Int) < n := by have := HPL.out; omega
  have f0' : 0 < n := by omega
  have z0 : w3.cell? ⟨g, 0, none⟩ = some (.int .u32 0) := by
    have h := BN3.out.cell 0
    rw [h, ← Array.getElem?_toList, zeros_list, List.getElem?_map, List.getElem?_replicate, if_pos f0']
    rfl
  have t0 := BN3.out.thaw 0
  have q3 := HEM.out
  have q0 : (0 : Int) < sl := by have := HQ2.out; omega
  generalize hsx : (sl : Int) = sx at *
  have q1 : ¬ sx = 0 := by omega
  have q2 : (sx == 0) = false := by simp; omega
  have q4 : IntKind.i64.wrap sa = sa := Go.IntWalk.i64_in _ (by omega)
  have q5 : IntKind.i64.wrap (mm : Int) = mm := Go.IntWalk.i64_in _ (by have := HMS.out; have := HQ2.out; omega)
  have q6 : wrap64 sa = sa := by unfold wrap64; omega
  have q7 : wrap64 (mm : Int) = mm := by have := HMS.out; have := HQ2.out; unfold wrap64; omega
  go_wp2_with fail
  clear q0 q1 q2 q3 q4 q5 q6 q7
  subst hsx
  have z1 : (zeros n).setIfInBounds 0 (.int .u32 sa) = (((List.replicate n (0 : Int)).set 0 sa).map (Value.int .u32)).toArray := by
    apply Array.ext'
    rw [Array.toList_setIfInBounds, zeros_list]
    show (List.map (Value.int .u32) (List.replicate n 0)).set 0 (Value.int .u32 sa) = List.map (Value.int .u32) ((List.replicate n 0).set 0 sa)
    rw [List.map_set]
  have O4 : Own (w3.setCell ⟨g, 0, none⟩ (.int .u32 sa)) g 44 (some ⟨g, 0, none⟩) n ((Op.lay ((List.replicate n 0).set 0 sa) K (init.take 0)).map (Value.int .u32)) := by
    refine own_blk ?_ (by simp [Op.lay]) (by unfold maxLen; have := HN.out; have := HN1.out; omega) (Nat.le_refl _)
    have := BN3.out.put 0 (.int .u32 sa)
    rw [z1] at this
    exact this
  have C4 : Chg (fun i => i = g) w3 (w3.setCell ⟨g, 0, none⟩ (.int .u32 sa)) := (Chg.refl (fun i => i = g) w3).set (p := ⟨g, 0, none⟩) (.inl rfl) _
  have HO4 := Lib.hid O4
  have HC4 := Lib.hid C4
  have hi3 := Lib.hid (hi.same S3.out)
  clear O4 C4 z0 z1 t0 hi s3
  have HB4 := Lib.hid (HB3.out.chg HC4.out (by show ¬ q = g; omega))
  obtain ⟨d0, d1, d2, d3, d4, d5, d6, d7⟩ := obj_cells HB4.out
  generalize w3.setCell ⟨g, 0, none⟩ (.int .u32 sa) = w4 at *
  have g1 : W = il := by have := HQ2.out; omega
  have HW := Lib.hid g1
  have g2 : il ≤ 8 := by have := HQ2.out; omega
  clear g1
  go_wp2_with fail
  go_loopg [37] il (fun gk i wx => ∃ k : Nat, k + gk = il ∧ i = .int .i64 k ∧ Chg (fun b => b = g) w4 wx ∧ Own wx g 44 (some ⟨g, 0, none⟩) n ((Op.lay ((List.replicate n 0).set 0 sa) K (init.take k)).map (Value.int .u32)))
  case atStart => exact ⟨0, by omega, rfl, Chg.refl _ _, HO4.out⟩
  case round =>
    obtain ⟨k, hk, rfl, hC, hO⟩ := hrel
    have HC := Lib.hid hC
    have HO := Lib.hid hO
    clear hC hO d0 d1 d2 d3 d4 d5 d6 d7
    have b0 : (0 : Int) ≤ k := by omega
    cases gk with
    | zero =>
      have hkl : k = il := by omega
      have hge : ¬ (k : Int) < il := by omega
      have HKK := Lib.hid hkl
      clear hkl
      go_wp2_with fail
      go_ret
      have e : (Op.lay ((List.replicate n 0).set 0 sa) K (init.take k)) = lay0 W sl sa init := by
        rw [HKK.out, List.take_of_length_le (by have := HL.out; omega), HN.out, HK.out]
        rfl
      rw [e] at HO
      refine ⟨g, rfl, S3.out.more (HC4.out.trans HC.out) (fun i hi => by omega), HO.out.base (by omega)⟩
    | succ gk =>
      have hlt : (k : Int) < il := by omega
      have hkl : k < init.length := by have := HL.out; omega
      have hrow := hi3.out.chg (HC4.out.trans HC.out) (fun b o hA hne he => by
        have := HIB.out b o hA hne
        omega)
      obtain ⟨b, off, hA, hcell⟩ := hrow k _ (by rw [List.getElem?_map, List.getElem?_eq_getElem hkl]; rfl)
      obtain ⟨v, hv⟩ : ∃ v, v = init[k] := ⟨_, rfl⟩
      rw [← hv] at hcell
      have HV := Lib.hid hv
      have HB5 := Lib.hid (HB4.out.chg HC.out (by show ¬ q = g; omega))
      obtain ⟨d0, d1, d2, d3, d4, d5, d6, d7⟩ := obj_cells HB5.out
      have hAA := hA
      subst hA
      clear hv hrow
      have yb : (y : Int) ≤ 128 := by have := HMS.out; have := HY.out; omega
      have e1 := HYI.out
      have e2 : IntKind.i64.wrap (y : Int) = y := Go.IntWalk.i64_in _ (by omega)
      have e3 : IntKind.i64.wrap (1 + (y : Int)) = K := by rw [Go.IntWalk.i64_in _ (by omega)]; have := HKY.out; omega
      have e4 : IntKind.i64.wrap (K : Int) = K := Go.IntWalk.i64_in _ (by have := HKY.out; omega)
      have kb : (K : Int) ≤ 129 := by have := HKY.out; omega
      have f3 : IntKind.i64.wrap ((K : Int) + (k : Int)) = K + k := Go.IntWalk.i64_in _ (by omega)
      have f4 : ((K : Int) + (k : Int)).toNat = K + k := by omega
      have f5 : (0 : Int) ≤ (K : Int) + k := by omega
      have f6 : (K : Int) + (k : Int) < n := by have := HPL.out; have := HW.out; omega
      go_wp2_with fail
      have hll : K + k < (Op.lay ((List.replicate n 0).set 0 sa) K (init.take k)).length := by rw [Op.lay_length, List.length_set, List.length_replicate]; omega
      have HLL := Lib.hid hll
      clear hll
      go_region_held3 (fun w' => w'.cell? ⟨q, 0, none⟩ = some (.int .i64 4) ∧ w'.cell? ⟨q, 1, none⟩ = some (.int .i64 W) ∧ w'.cell? ⟨q, 2, none⟩ = some (.int .i64 sl) ∧ w'.cell? ⟨q, 3, none⟩ = some (.int .i64 cp) ∧ w'.cell? ⟨q, 4, none⟩ = some (.int .u32 sa) ∧ w'.cell? ⟨q, 5, none⟩ = some (.slice (some ⟨b, off, none⟩) il ic) ∧ w'.cell? ⟨q, 6, none⟩ = some (.int .i64 ow) ∧ w'.cell? ⟨q, 7, none⟩ = some (.slice ra rl rc) ∧ Chg (fun b => b = g) wr w')
        (first | assumption | exact objZ HB5.out (Chg.refl (fun b => b = g) wr).drew (show ¬ q = g by omega) | (rcases ‹_ ∧ _ ∧ _ ∧ _ ∧ _ ∧ _ ∧ _ ∧ _ ∧ Chg (fun b => b = g) wr _› with ⟨_, _, _, _, _, _, _, _, x9⟩; first | exact objZ HB5.out (x9.trans (hs.chg _)) (show ¬ q = g by omega) | exact objZ HB5.out (x9.set (p := ⟨g, K + k, none⟩) (.inl rfl) _) (show ¬ q = g by omega)))
        (first | (go_at_call 31; ((with_reducible refine (rhead_any W sl cp sa _ _ ra il ic rl rc _).mono ?_); rintro e w' ⟨rfl, hs⟩; have O6 := HO.out.same (Same.trans (Same.refl wr).drew hs); have HO6 := Lib.hid O6; have z6 := (own_cell O6 (K + k) HLL.out).1; have t6 := (own_cell O6 (K + k) HLL.out).2; clear O6)))
      rcases ‹_ ∧ _ ∧ _ ∧ _ ∧ _ ∧ _ ∧ _ ∧ _ ∧ Chg (fun b => b = g) wr _› with ⟨_, _, _, _, _, _, _, _, x9⟩
      have O7 := HO6.out.put (K + k) (.int .u32 v)
      have eL : ((Op.lay ((List.replicate n 0).set 0 sa) K (init.take k)).map (Value.int .u32)).set (K + k) (.int .u32 v) = (Op.lay ((List.replicate n 0).set 0 sa) K (init.take (k + 1))).map (Value.int .u32) := by
        rw [← List.map_set, HV.out, List.take_succ_eq_append_getElem hkl, Op.lay_snoc, List.length_take, Nat.min_eq_left (by omega)]
      rw [eL] at O7
      have HO7 := Lib.hid O7
      have HX9 := Lib.hid x9
      clear O7 eL x9 z6 t6 d0 d1 d2 d3 d4 d5 d6 d7 e1 e2 e3 e4 f3 f4 f5 f6 hcell
      generalize w'.setCell ⟨g, K + k, none⟩ (.int .u32 v) = w7 at *
      go_wp2
      go_roundg gk
      case rel => exact ⟨k + 1, by omega, by go_num, HC.out.trans HX9.out, HO7.out⟩
      case measure => omega

end Go.Proofs.Ytaclphhbdfoaeaa.Rg
