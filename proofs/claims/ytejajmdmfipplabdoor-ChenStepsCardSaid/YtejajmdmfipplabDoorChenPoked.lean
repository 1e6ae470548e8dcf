/-

  What others do to a memory ahead of a turn (the law's Poked).
-/
import Derived.Test.YtejajmdmfipplabDoorChenCase
import Derived.Deep.CutBlock
set_option linter.unusedSimpArgs false
set_option linter.unusedVariables false
namespace Go.Proofs.YtejajmdmfipplabDoor.Ch
open Go.ChangeShapes Go.WideShapes Go.ChangeAt Go.RowKit Ws Mm Pa

/-- a poke, if it is this turn's -/
def poke1 (turn : Int) (l : List Int) (r : List Int) : List Int := if r.getD 0 0 = turn ∧ 0 ≤ r.getD 1 0 ∧ r.getD 1 0 < l.length then l.set (r.getD 1 0).toNat (r.getD 2 0) else l
def poked (turn : Int) (ps : List (List Int)) (l : List Int) : List Int := ps.foldl (poke1 turn) l
theorem poke1_length (turn : Int) (l r : List Int) : (poke1 turn l r).length = l.length := by
  unfold poke1
  split
  · rw [List.length_set]
  · rfl
theorem poked_length (turn : Int) (ps : List (List Int)) : ∀ l, (poked turn ps l).length = l.length := by
  induction ps with
  | nil => intro l; rfl
  | cons p ps ih => intro l; exact (ih _).trans (poke1_length _ _ _)
theorem poke1_wd (turn : Int) (l r : List Int) (h : Op.Wd l) (hr : 0 ≤ r.getD 2 0 ∧ r.getD 2 0 < 4294967296) : Op.Wd (poke1 turn l r) := by
  unfold poke1
  split
  · intro x hx
    rcases List.mem_or_eq_of_mem_set hx with hx | rfl
    · exact h x hx
    · exact hr
  · exact h
theorem poked_wd (turn : Int) (ps : List (List Int)) (hp : ∀ r ∈ ps, 0 ≤ r.getD 2 0 ∧ r.getD 2 0 < 4294967296) : ∀ l, Op.Wd l → Op.Wd (poked turn ps l) := by
  induction ps with
  | nil => intro l h; exact h
  | cons p ps ih => intro l h; exact ih (fun r hr => hp r (List.mem_cons_of_mem _ hr)) _ (poke1_wd _ _ _ h (hp p List.mem_cons_self))
theorem poked_snoc (turn : Int) (ps : List (List Int)) (r l : List Int) : poked turn (ps ++ [r]) l = poke1 turn (poked turn ps l) r := by
  unfold poked
  rw [List.foldl_append]
  rfl
theorem pk_wd {w : World} {A : Option Addr} {ps : List (List Int)} (h : Fl.Rows w A [.i64, .i64, .u32] ps) : ∀ r ∈ ps, 0 ≤ r.getD 2 0 ∧ r.getD 2 0 < 4294967296 := by
  intro r hr
  obtain ⟨i, hi, e⟩ := List.mem_iff_getElem.1 hr
  have := (h i r (by rw [List.getElem?_eq_getElem hi, e])).1.2 2 .u32 rfl
  exact Fl.u32_bd this

set_option maxHeartbeats 2000000 in
set_option maxRecDepth 100000 in
theorem poked_any (k wd sl cp sa ow : Int) (ia ra : Option Addr) (il ic rl rc : Nat) (at_ op rd : Int) (A : Option Addr) (m c : Nat) (LA : Option Addr) (n lc : Nat) (pa : Option Addr) (pn pc : Nat) (pokes : List (List Int)) (turn : Int) {R : Nat → Prop} {gm : Nat} {st : Int} (lm l0 : List Int) (AL : Option Addr) (cl B : Nat) (w : World)
    (hpk : Fl.Rows w pa [.i64, .i64, .u32] pokes) (hpl : pokes.length = pn) (hpm : pn ≤ 100) (hpR : pokes ≠ [] → ∀ b o, pa = some ⟨b, o, none⟩ → ¬ R b) (hpA : pokes ≠ [] → ∀ b o, pa = some ⟨b, o, none⟩ → ∀ g, AL = some ⟨g, 0, none⟩ → b ≠ g)
    (hm : Mem w R gm lm st) (hlm : lm.length = l0.length) (hl : Own w B 22 AL cl (l0.map (Value.int .u32))) (hAR : ∀ g, AL = some ⟨g, 0, none⟩ → ¬ R g) (hsa : 0 ≤ sa ∧ sa < 4294967296 := by assumption) :
    Calls Tryd.prog 23 #[.agg #[.int .i64 k, .int .i64 wd, .int .i64 sl, .int .i64 cp, .int .u32 sa, .slice ia il ic, .int .i64 ow, .slice ra rl rc, .int .i64 at_, .int .i64 op, .int .i64 rd, .slice A m c, .slice LA n lc, .slice pa pn pc], .int .i64 turn, .pointer (some ⟨gm, 0, none⟩), .slice AL l0.length cl] w fun e w' => e = .returned (.tuple #[]) ∧ ∃ st', Mem w' R gm (poked turn pokes lm) st' ∧ Own w' B 22 AL cl ((poked turn pokes l0).map (Value.int .u32)) ∧ Chg (fun i => R i ∨ AL = some ⟨i, 0, none⟩) w w' := by
  have hb := Blk.new w 48 #[.int .i64 k, .int .i64 wd, .int .i64 sl, .int .i64 cp, .int .u32 sa, .slice ia il ic, .int .i64 ow, .slice ra rl rc, .int .i64 at_, .int .i64 op, .int .i64 rd, .slice A m c, .slice LA n lc, .slice pa pn pc]
  have s0 := (Same.refl w).alloc (.cells #[.int .i64 k, .int .i64 wd, .int .i64 sl, .int .i64 cp, .int .u32 sa, .slice ia il ic, .int .i64 ow, .slice ra rl rc, .int .i64 at_, .int .i64 op, .int .i64 rd, .slice A m c, .slice LA n lc, .slice pa pn pc] 48)
  obtain ⟨len, hlen⟩ : ∃ len, len = l0.length := ⟨_, rfl⟩
  have HB0 := Lib.hid hb
  have HS0 := Lib.hid s0
  have HPK := Lib.hid hpk
  have HM := Lib.hid (hm.same s0)
  have HL := Lib.hid (hl.same s0)
  have HPL := Lib.hid hpl
  have HPR := Lib.hid hpR
  have HPA := Lib.hid hpA
  have HAR := Lib.hid hAR
  have HLEN := Lib.hid hlen
  have HSH := Lib.hid hm.short
  have HLM := Lib.hid hlm
  rw [← hlen]
  clear hb s0 hpk hm hl hlm hpl hpR hpA hAR hlen
  go_enter Tryd.func23, Tryd.ntmps23
  obtain ⟨⟨d0, d1, d2, d3, d4, d5, d6, d7⟩, d8, d9, d10, d11, d12, d13⟩ := case_cells HB0.out (Same.refl _)
  go_wp2_with fail
  obtain ⟨W0, hW0⟩ : ∃ W0, W0 = w.alloc (.cells #[.int .i64 k, .int .i64 wd, .int .i64 sl, .int .i64 cp, .int .u32 sa, .slice ia il ic, .int .i64 ow, .slice ra rl rc, .int .i64 at_, .int .i64 op, .int .i64 rd, .slice A m c, .slice LA n lc, .slice pa pn pc] 48) := ⟨_, rfl⟩
  rw [← hW0] at HM HL HS0 HB0 ⊢
  have HPW := Lib.hid (HPK.out.same HS0.out)
  clear hW0 HPK d0 d1 d2 d3 d4 d5 d6 d7 d8 d9 d10 d11 d12 d13
  go_loopg [13] pn (fun gk i wx => ∃ k : Nat, k + gk = pn ∧ i = .int .i64 k ∧ ∃ st', Mem wx R gm (poked turn (pokes.take k) lm) st' ∧ Own wx B 22 AL cl ((poked turn (pokes.take k) l0).map (Value.int .u32)) ∧ Fl.Rows wx pa [.i64, .i64, .u32] pokes ∧ Chg (fun i => R i ∨ AL = some ⟨i, 0, none⟩) W0 wx)
  case atStart => exact ⟨0, by omega, rfl, st, HM.out, HL.out, HPW.out, Chg.refl _ _⟩
  case round =>
    obtain ⟨k, hk, rfl, st', mm, oo, pk, cc⟩ := hrel
    have HMR := Lib.hid mm
    have HOR := Lib.hid oo
    have HPK := Lib.hid pk
    have HCC := Lib.hid cc
    clear mm oo pk cc HM HL HPW HB0
    cases gk with
    | zero =>
      obtain rfl : k = pn := by omega
      have hkk : ¬ (k : Int) < k := by omega
      go_wp2_with fail
      go_end0
      have e : pokes.take k = pokes := List.take_of_length_le (by have := HPL.out; omega)
      rw [e] at HMR HOR
      exact ⟨rfl, ⟨st', HMR.out⟩, HOR.out, (HS0.out.chg _).trans HCC.out⟩
    | succ gk =>
      have hkk : (k : Int) < pn := by omega
      have hkn : k < pn := by omega
      obtain ⟨x, hx⟩ : ∃ x, pokes[k]? = some x := ⟨_, List.getElem?_eq_getElem (by have := HPL.out; omega)⟩
      obtain ⟨fit, b, off, hA, hc⟩ := HPK.out k x hx
      have hx3 : x.length = 3 := fit.1
      obtain ⟨t, a, u, rfl⟩ : ∃ t a u, x = [t, a, u] := by
        match x, hx3 with
        | [t, a, u], _ => exact ⟨t, a, u, rfl⟩
      have c0 := hc 0 _ rfl
      have c1 := hc 1 _ rfl
      have c2 := hc 2 _ rfl
      simp only [List.length_cons, List.length_nil, Nat.zero_add, Nat.add_zero, Nat.reduceAdd] at c0 c1 c2
      have HX := Lib.hid hx
      have HNP : Hid (pokes ≠ []) := Lib.hid (fun h => by rw [h] at hx; cases hx)
      clear hc fit hx3 hx
      have HA := hA
      subst hA
      go_upto_region 4 with fail
      have bq := Blk.new wr 103 #[.int .i64 t, .int .i64 a, .int .u32 u]
      have sq := (Same.refl wr).alloc (.cells #[.int .i64 t, .int .i64 a, .int .u32 u] 103)
      have q0 := bq.cell 0
      have q1 := bq.cell 1
      have q2 := bq.cell 2
      simp only [List.getElem?_toArray, List.getElem?_cons_zero, List.getElem?_cons_succ] at q0 q1 q2
      have HBQ := Lib.hid bq
      have HSQ := Lib.hid sq
      have HM1 := Lib.hid (HMR.out.same sq)
      have HO1 := Lib.hid (HOR.out.same sq)
      have HP1 := Lib.hid (HPK.out.same sq)
      have HC1 := Lib.hid (HCC.out.trans (sq.chg _))
      have HQL := Lib.hid bq.lt
      have HTK : Hid (poked turn (pokes.take (k + 1)) l0 = poke1 turn (poked turn (pokes.take k) l0) [t, a, u]) := Lib.hid (by
        have hx := HX.out
        obtain ⟨hk2, e⟩ := List.getElem?_eq_some_iff.1 hx
        rw [List.take_succ_eq_append_getElem hk2, e, poked_snoc])
      have HTM : Hid (poked turn (pokes.take (k + 1)) lm = poke1 turn (poked turn (pokes.take k) lm) [t, a, u]) := Lib.hid (by
        have hx := HX.out
        obtain ⟨hk2, e⟩ := List.getElem?_eq_some_iff.1 hx
        rw [List.take_succ_eq_append_getElem hk2, e, poked_snoc])
      have HPL2 := Lib.hid (poked_length turn (pokes.take k) l0)
      have HPM2 := Lib.hid (poked_length turn (pokes.take k) lm)
      have HOLT : Hid (∀ g, AL = some ⟨g, 0, none⟩ → 0 < (poked turn (pokes.take k) l0).length → g < wr.heap.size) := Lib.hid (by
        intro g hg hlen
        obtain ⟨g', hg', _, hlt, _⟩ := HOR.out.thaw (by simpa using hlen)
        rw [hg] at hg'
        injection hg' with hg'
        injection hg' with hg'
        omega)
      clear bq sq c0 c1 c2 HMR HOR HPK HCC HX
      generalize wr.alloc (.cells #[.int .i64 t, .int .i64 a, .int .u32 u] 103) = W1 at *
      generalize wr.heap.size = qn at *
      generalize poked turn (pokes.take k) l0 = lk at *
      generalize poked turn (pokes.take k) lm = mk at *
      by_cases h1 : t = turn
      · subst h1
        by_cases h2 : 0 ≤ a
        · by_cases h3 : a < (len : Int)
          · obtain ⟨j, rfl⟩ := Int.eq_ofNat_of_zero_le h2
            have hj : j < lk.length := by have := HPL2.out; have := HLEN.out; omega
            obtain ⟨gl, hgl, _, hlt, hth⟩ := HO1.out.thaw (by simp; omega)
            have hpoke : poke1 t lk [t, (j : Int), u] = lk.set j u := by
              unfold poke1
              rw [if_pos ⟨rfl, by simp, by simpa using hj⟩]
              simp
            have hmj : j < mk.length := by have := HPM2.out; have := HPL2.out; have := HLM.out; omega
            have hpokm : poke1 t mk [t, (j : Int), u] = mk.set j u := by
              unfold poke1
              rw [if_pos ⟨rfl, by simp, by simpa using hmj⟩]
              simp
            have HPO := Lib.hid (HTK.out.trans hpoke)
            have HPM := Lib.hid (HTM.out.trans hpokm)
            have HMJ := Lib.hid hmj
            clear hpoke hpokm hmj
            subst hgl
            obtain ⟨y1, y2⟩ := own_cell HO1.out j hj
            have O2 := HO1.out.put j (.int .u32 u)
            rw [← List.map_set] at O2
            have C2 := (Chg.refl (fun i => i = gl) W1).set (p := ⟨gl, j, none⟩) (.inl rfl) (.int .u32 u)
            have HM2 := Lib.hid (HM1.out.chg C2 (fun i hi he => HAR.out gl rfl (he ▸ hi)))
            have HP2 := Lib.hid (HP1.out.chg C2 (fun b' o' hb he => HPA.out HNP.out b' o' hb gl rfl he))
            have HC2 := Lib.hid (HC1.out.trans (C2.weak fun i _ hi => Or.inr (by rw [show i = gl from hi])))
            have HO2 := Lib.hid O2
            have HJ := Lib.hid hj
            have HNE : Hid (¬ qn = gl) := Lib.hid (by have := HOLT.out gl rfl (by omega); omega)
            have HB2 := Lib.hid (HBQ.out.chg C2 HNE.out)
            have f1 : (j : Int) < len := h3
            clear O2 C2 hj hth hlt HM1 HO1 HP1 HC1
            go_upto_region 6 with fail
            clear q0 q1 q2
            generalize W1.setCell ⟨gl, j, none⟩ (.int .u32 u) = W2 at *
            have q1 := HB2.out.cell 1
            have q2 := HB2.out.cell 2
            simp only [List.getElem?_toArray, List.getElem?_cons_zero, List.getElem?_cons_succ] at q1 q2
            go_wp2_with fail
            refine (write_at W2 HM2.out (j : Int) u (by omega) (by have := HMJ.out; omega)).mono ?_
            rintro e W3 ⟨rfl, m3, c3⟩
            have HM3 := Lib.hid m3
            have HO3 := Lib.hid (HO2.out.chg c3 (fun g' hg' hR => HAR.out g' hg' hR))
            have HP3 := Lib.hid (HP2.out.chg c3 (fun b' o' hb => HPR.out HNP.out b' o' hb))
            have HC3 := Lib.hid (HC2.out.trans (c3.weak fun i _ hi => Or.inl hi))
            clear m3 c3 HM2 HO2 HP2 HC2
            go_wp2
            go_roundg gk
            case measure => omega
            case rel => exact ⟨k + 1, by omega, by go_num, _, by rw [HPM.out]; simpa using HM3.out, by rw [HPO.out]; exact HO3.out, HP3.out, HC3.out⟩
          · have hb3 : decide (a < (len : Int)) = false := by simpa using h3
            have hpoke : poke1 t lk [t, a, u] = lk := by
              unfold poke1
              rw [if_neg (by have := HPL2.out; have := HLEN.out; simp; omega)]
            have hpokm : poke1 t mk [t, a, u] = mk := by
              unfold poke1
              rw [if_neg (by have := HPM2.out; have := HLM.out; have := HLEN.out; simp; omega)]
            have HPO := Lib.hid (HTK.out.trans hpoke)
            have HPM := Lib.hid (HTM.out.trans hpokm)
            clear hpoke hpokm
            go_wp2_with fail
            go_roundg gk
            case measure => omega
            case rel => exact ⟨k + 1, by omega, by go_num, st', by rw [HPM.out]; exact HM1.out, by rw [HPO.out]; exact HO1.out, HP1.out, HC1.out⟩
        · have hb2 : decide (0 ≤ a) = false := by simpa using h2
          have hpoke : ∀ l, poke1 t l [t, a, u] = l := fun l => by
            unfold poke1
            rw [if_neg (by simp; omega)]
          have HPO := Lib.hid (HTK.out.trans (hpoke _))
          have HPM := Lib.hid (HTM.out.trans (hpoke _))
          clear hpoke
          go_wp2_with fail
          go_roundg gk
          case measure => omega
          case rel => exact ⟨k + 1, by omega, by go_num, st', by rw [HPM.out]; exact HM1.out, by rw [HPO.out]; exact HO1.out, HP1.out, HC1.out⟩
      · have hb1 : (t == turn) = false := by simpa using h1
        have hpoke : ∀ l, poke1 turn l [t, a, u] = l := fun l => by
          unfold poke1
          rw [if_neg (by simp; omega)]
        have HPO := Lib.hid (HTK.out.trans (hpoke _))
        have HPM := Lib.hid (HTM.out.trans (hpoke _))
        clear hpoke
        go_wp2_with fail
        go_roundg gk
        case measure => omega
        case rel => exact ⟨k + 1, by omega, by go_num, st', by rw [HPM.out]; exact HM1.out, by rw [HPO.out]; exact HO1.out, HP1.out, HC1.out⟩

end Go.Proofs.YtejajmdmfipplabDoor.Ch
