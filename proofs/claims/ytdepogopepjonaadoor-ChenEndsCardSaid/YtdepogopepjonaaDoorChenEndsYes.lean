/-

  The walk of the law ChenEnds, where the object lies within the memory.
-/
import Derived.Test.YtdepogopepjonaaDoorChenEnds
set_option linter.unusedSimpArgs false
set_option linter.unusedVariables false
namespace Go.Proofs.YtdepogopepjonaaDoor.Ch
open Go.ChangeShapes Go.WideShapes Go.ChangeAt Go.RowKit Ws Mm Pa

theorem u32_parts : ∃ i, Tryd.prog.info? 22 = some i ∧ i.zero = some (.int .u32 0) ∧ i.size = 1 ∧ i.bytes = 4 := by
  have h := u32_info
  cases hi : Tryd.prog.info? 22 with
  | none => rw [hi] at h; cases h
  | some i =>
    rw [hi] at h
    simp at h
    exact ⟨i, rfl, h.1, h.2.1, h.2.2⟩
theorem own_base {w : World} {B : Nat} {e : TypeId} {A : Option Addr} {c : Nat} {l : List Value} (h : Own w B e A c l) : ∀ g, A = some ⟨g, 0, none⟩ → B ≤ g := by
  intro g hg
  rcases h.2 with ⟨h2, _⟩ | ⟨g2, cap, cur, hv, hb, _⟩
  · injection h2 with h2
    rw [hg] at h2
    cases h2
  · have : A = some ⟨g2, 0, none⟩ := by injection hv
    rw [hg] at this
    injection this with this
    injection this with this
    omega
theorem rows_low {w : World} {A : Option Addr} {ks : List IntKind} {rows : List (List Int)} (h : Fl.Rows w A ks rows) (hk : 0 < ks.length) (hne : rows ≠ []) : ∀ b o, A = some ⟨b, o, none⟩ → b < w.heap.size := by
  intro b o hA
  obtain ⟨r, rs, rfl⟩ := List.exists_cons_of_ne_nil hne
  obtain ⟨fit, b', o', hA', hc⟩ := h 0 r rfl
  rw [hA] at hA'
  injection hA' with hA'
  injection hA' with e1 e2
  subst e1
  have hl : 0 < (Fl.cellsOf ks r).length := by
    unfold Fl.cellsOf
    rw [List.length_zipWith, fit.1]
    omega
  exact World.block_lt_of_cell? w _ (hc 0 _ (List.getElem?_eq_getElem hl))

/-- how the loop of the law stands -/
structure EJ (R : Nat → Prop) (g gm : Nat) (o : Op.Im) (size most n : Nat) (A : Option Addr) (c B : Nat) (w0 : World) (k : Nat) (wx : World) (s : Op.St) (l la : List Int) (p : Pt) (st : Int) : Prop where
  fb : FB wx g 75 o size s p
  mem : Mem wx R gm l st
  own : Own wx B 22 A c (la.map (Value.int .u32))
  lv : Op.Live Op.chenOk Op.chenRank o most s
  wd : Op.Wd l
  len : l.length = n
  len2 : la.length = n
  steps : s.steps = k
  rank : Op.chenRank o s + k ≤ most
  same : Same w0 wx

set_option maxHeartbeats 4000000 in
set_option maxRecDepth 100000 in
theorem ends_yes (k wd sl cp sa ow : Int) (ia ra : Option Addr) (il ic rl rc : Nat) (at_ op rd : Int) (A : Option Addr) (m c : Nat) (LA : Option Addr) (n lc : Nat) (pa : Option Addr) (pn pc : Nat) (rec ls : List Int) (pokes : List (List Int)) (w : World) (hli : lightB il rl m n pn = true) (o : Op.Im) (hb : Begins k wd sl cp sa il rl at_ op rd m o) (ho : o = ⟨o.at_, o.width, rl, o.slots, o.cap, o.reader, o.wr⟩)
    (hrec : rec.length = m) (hrow : Row w A (rec.map (Value.int .u32))) (hwd : Op.Wd rec) (hls : ls.length = n) (hlrow : Row w LA (ls.map (Value.int .u32))) (hlwd : Op.Wd ls) (hpk : Fl.Rows w pa [.i64, .i64, .u32] pokes) (hpl : pokes.length = pn) (hfit : at_ ≤ (n : Int) ∧ ((1 + o.n + Op.csl o * o.width : Nat) : Int) ≤ (n : Int) - at_) (hsa : 0 ≤ sa ∧ sa < 4294967296 := by assumption) (hT : TZ w := by assumption) :
    Calls Tryd.prog 5 #[.agg #[.int .i64 k, .int .i64 wd, .int .i64 sl, .int .i64 cp, .int .u32 sa, .slice ia il ic, .int .i64 ow, .slice ra rl rc, .int .i64 at_, .int .i64 op, .int .i64 rd, .slice A m c, .slice LA n lc, .slice pa pn pc]] w fun e w' => e = .returned (.bool true) ∧ Same w w' := by
  have HTZ := Lib.hid hT
  have HTL : Hid (0 < w.heap.size) := Lib.hid hT.lt
  clear hT
  have hb := Blk.new w 36 #[.int .i64 k, .int .i64 wd, .int .i64 sl, .int .i64 cp, .int .u32 sa, .slice ia il ic, .int .i64 ow, .slice ra rl rc, .int .i64 at_, .int .i64 op, .int .i64 rd, .slice A m c, .slice LA n lc, .slice pa pn pc]
  have s0 := (Same.refl w).alloc (.cells #[.int .i64 k, .int .i64 wd, .int .i64 sl, .int .i64 cp, .int .u32 sa, .slice ia il ic, .int .i64 ow, .slice ra rl rc, .int .i64 at_, .int .i64 op, .int .i64 rd, .slice A m c, .slice LA n lc, .slice pa pn pc] 36)
  have HB0 := Lib.hid hb
  have HS0 := Lib.hid s0
  have LI := fun w' => light_any k wd sl cp sa ow ia ra il ic rl rc at_ op rd A m c LA n lc pa pn pc w'
  rw [hli] at LI
  clear hb s0
  have hn : n ≤ 400 := by
    unfold lightB at hli
    have := of_decide_eq_true hli
    omega
  have hpn : pn ≤ 100 := by
    unfold lightB at hli
    have := of_decide_eq_true hli
    omega
  have al := hb.al
  have lv0 : Op.Live Op.chenOk Op.chenRank o (Op.chenMost o) (Op.start rec) := by
    refine Op.chen_first o rec hwd (fun h => ?_) (fun h => ?_)
    · have := hb.len
      have := hb.width
      rw [h] at *
      simp at *
      omega
    · have := hb.len
      rw [h] at this
      simp at this
      exact List.eq_nil_of_length_eq_zero (by omega)
  have hmul : True := trivial
  have hmost : Op.chenMost o ≤ 1000 := by
    have := al.1.2
    have := al.2.1.2
    unfold Op.chenMost
    split <;> omega
  have hpos : True := trivial
  have hmin : 0 < Op.chenMost o := by
    unfold Op.chenMost
    split <;> omega
  obtain ⟨size, hsize⟩ : ∃ size, size = 1 + o.n + Op.csl o * o.width := ⟨_, rfl⟩
  have hn_ : o.n = rl := by rw [ho]
  have hcsl : ((rl : Int) + 2) = ((Op.csl o : Nat) : Int) := by unfold Op.csl; omega
  have hsz : (size : Int) = 1 + (rl : Int) + ((rl : Int) + 2) * wd := by rw [hb.width, hcsl, ← Int.natCast_mul]; omega
  have hat := hb.at_
  have SZ : ∀ w', Calls Tryd.prog 12 #[.agg #[.int .i64 k, .int .i64 wd, .int .i64 sl, .int .i64 cp, .int .u32 sa, .slice ia il ic, .int .i64 ow, .slice ra rl rc]] w' fun e w'' => e = .returned (.int .i64 (size : Int)) ∧ Same w' w'' := by
    intro w'
    have hk := hb.kind
    subst hk
    rw [hsz]
    exact size_yes wd sl cp sa ow ia ra il ic rl rc w' hb.right
  have hbo : boundI wd cp rl op = (Op.chenMost o : Int) := by
    have := hb.width
    unfold boundI Op.chenMost
    cases hwr : o.wr
    · have h1 := hb.op
      rw [hwr] at h1
      simp at h1
      rw [if_neg (by omega), if_pos h1, if_neg (by simp)]
      have := hb.cap
      omega
    · have h1 := hb.op
      rw [hwr] at h1
      simp at h1
      rw [if_pos h1, if_pos rfl]
      omega
  have BD : ∀ w', Calls Tryd.prog 14 #[.agg #[.int .i64 k, .int .i64 wd, .int .i64 sl, .int .i64 cp, .int .u32 sa, .slice ia il ic, .int .i64 ow, .slice ra rl rc], .int .i64 op] w' fun e w'' => e = .returned (.int .i64 (Op.chenMost o : Int)) ∧ Same w' w'' := by
    intro w'
    have hk := hb.kind
    subst hk
    rw [← hbo]
    exact bound_yes wd sl cp sa ow ia ra il ic rl rc op w' hb.right
  have BY := fun w' (s : Same w w') => begin_yes ow ia ra ic rc A c rec w' hb ho hrec (hrow.same s)
  rw [← hsize] at BY
  have HN : Hid (n ≤ 4096) := Lib.hid (by omega)
  have HL := Lib.hid hls
  have HLR := Lib.hid hlrow
  have HLW := Lib.hid hlwd
  have HPK := Lib.hid hpk
  have HPL := Lib.hid hpl
  have HPN := Lib.hid hpn
  have n400 := hn
  rw [← hsize] at hfit
  have HFIT : Hid (o.at_ + size ≤ n) := Lib.hid (by omega)
  have s73 : (size : Int) ≤ 53 := by have := Nat.mul_le_mul (show Op.csl o ≤ 6 by have := al.2.1.2; unfold Op.csl; omega) al.1.2; have := al.2.1.2; omega
  have s0' : (0 : Int) ≤ size := by omega
  have at0 : 0 ≤ at_ := by omega
  have hfb : decide ((n : Int) < at_) = false := by simp; omega
  have hfs : decide ((n : Int) - at_ < size) = false := by simp; omega
  have f1 : IntKind.i64.wrap ((n : Int) - at_) = n - at_ := Go.IntWalk.i64_in _ (by omega)
  obtain ⟨most, hmo⟩ : ∃ most, most = Op.chenMost o := ⟨_, rfl⟩
  rw [← hmo] at lv0 hmost hmin BD
  have hmi : (0 : Int) < most := by omega
  have HMO := Lib.hid hmost
  have HLV := Lib.hid lv0
  have HAL := Lib.hid al
  have STEP := fun {R : Nat → Prop} {g gm : Nat} {p : Pt} {l : List Int} {st : Int} {s : Op.St} (w' : World) (hS : Same w w') (hwn : ∀ i, R i ∨ i = g → w.heap.size ≤ i) (h : FB w' g 75 o size s p) (hm : Mem w' R gm l st) (hg : ¬ R g) (hl : Op.Wd l) (lv : Op.Live Op.chenOk Op.chenRank o most s) => step_any w' (HTZ.out.same hS) ⟨fun hr => by have := hwn _ (.inl hr); have := HTL.out; omega, fun e => by have := hwn g (.inr rfl); have := HTL.out; omega⟩ h hm hg hl lv hmost al hsize
  have LSTEP := fun (x : Op.St × List Int) (lv : Op.Live Op.chenOk Op.chenRank o most x.1) (hl : Op.Wd x.2) => Op.chenLaw.step (size := size) al lv hl
  have POS := fun (s : Op.St) (lv : Op.Live Op.chenOk Op.chenRank o most s) (h : s.over = false) => Op.chenLaw.pos o s al lv.ok h
  clear hmul hpos hn hpn hls hlrow hlwd lv0 al hli hb ho hrec hrow hwd hmost hmin hsize hsz hat hbo hfit hpk hpl hmo
  go_enter Tryd.func5, Tryd.ntmps5
  obtain ⟨⟨d0, d1, d2, d3, d4, d5, d6, d7⟩, d8, d9, d10, d11, d12, d13⟩ := case_cells HB0.out (Same.refl _)
  go_wp2_with fail
  refine (LI _).mono ?_
  rintro e v1 ⟨rfl, s1⟩
  have HB1 := Lib.hid (HB0.out.same s1)
  have HS1 := Lib.hid (HS0.out.trans s1)
  clear s1 d0 d1 d2 d3 d4 d5 d6 d7 d8 d9 d10 d11 d12 d13 HB0 HS0
  obtain ⟨⟨d0, d1, d2, d3, d4, d5, d6, d7⟩, d8, d9, d10, d11, d12, d13⟩ := case_cells HB1.out (Same.refl _)
  go_wp2_with fail
  refine (BY _ HS1.out).mono ?_
  rintro e v2 ⟨g, p, rfl, s2, hg, fb⟩
  have HB2 := Lib.hid (HB1.out.same s2)
  have HG : Hid (w.heap.size ≤ g) := Lib.hid (Nat.le_trans HS1.out.size hg)
  have HS2 := Lib.hid (HS1.out.trans s2)
  have HF2 := Lib.hid fb
  clear s2 hg fb d0 d1 d2 d3 d4 d5 d6 d7 d8 d9 d10 d11 d12 d13 HB1 HS1
  obtain ⟨⟨d0, d1, d2, d3, d4, d5, d6, d7⟩, d8, d9, d10, d11, d12, d13⟩ := case_cells HB2.out (Same.refl _)
  go_upto_region 4 with fail
  obtain ⟨q, hq⟩ : ∃ q, q = w.heap.size := ⟨_, rfl⟩
  rw [← hq] at HB2 ⊢
  have HQ := Lib.hid hq
  clear d0 d1 d2 d3 d4 d5 d6 d7 d8 d9 d10 d11 d12 d13 hq
  go_region_held3 (fun w' => w'.cell? ⟨q, 0, none⟩ = some (.int .i64 k) ∧ w'.cell? ⟨q, 1, none⟩ = some (.int .i64 wd) ∧ w'.cell? ⟨q, 2, none⟩ = some (.int .i64 sl) ∧ w'.cell? ⟨q, 3, none⟩ = some (.int .i64 cp) ∧ w'.cell? ⟨q, 4, none⟩ = some (.int .u32 sa) ∧ w'.cell? ⟨q, 5, none⟩ = some (.slice ia il ic) ∧ w'.cell? ⟨q, 6, none⟩ = some (.int .i64 ow) ∧ w'.cell? ⟨q, 7, none⟩ = some (.slice ra rl rc) ∧ w'.cell? ⟨q, 8, none⟩ = some (.int .i64 at_) ∧ w'.cell? ⟨q, 12, none⟩ = some (.slice LA n lc) ∧ Same v2 w')
    (first | (with_reducible assumption) | (with_reducible exact caseE HB2.out (Same.refl _).drew) | (rcases ‹_ ∧ _ ∧ _ ∧ _ ∧ _ ∧ _ ∧ _ ∧ _ ∧ _ ∧ _ ∧ Same v2 _› with ⟨_, _, _, _, _, _, _, _, _, _, x9⟩; (with_reducible exact caseE HB2.out (x9.trans hs))))
    (first | (go_at_call 12; ((with_reducible refine (SZ _).mono ?_); rintro e w' ⟨rfl, hs⟩)))
  rcases ‹_ ∧ _ ∧ _ ∧ _ ∧ _ ∧ _ ∧ _ ∧ _ ∧ _ ∧ _ ∧ Same v2 _› with ⟨_, _, _, _, _, _, _, _, _, _, x9⟩
  have HS3 := Lib.hid (HS2.out.trans x9)
  have HF3 := Lib.hid (HF2.out.same x9)
  have HB3 := Lib.hid (HB2.out.same x9)
  clear HB2 HS2 HF2 x9
  obtain ⟨⟨d0, d1, d2, d3, d4, d5, d6, d7⟩, d8, d9, d10, d11, d12, d13⟩ := case_cells HB3.out (Same.refl _)
  go_wp2_with fail
  refine (memory_any LA n lc ls _ HL.out HN.out (HLR.out.same HS3.out)).mono ?_
  rintro e v4 ⟨gm, rfl, s4, m4⟩
  obtain ⟨R, hR⟩ : ∃ R : Nat → Prop, R = fun i => w'.heap.size ≤ i ∧ i < v4.heap.size := ⟨_, rfl⟩
  have HM4 : Hid (Mem v4 R gm ls 0) := Lib.hid (by rw [hR]; exact m4.within)
  have HGR : Hid (¬ R g) := Lib.hid (by rw [hR]; intro h; have := HF3.out.blk.lt; omega)
  have HG4 : Hid (g < v4.heap.size) := Lib.hid (by have := HF3.out.blk.lt; have := s4.size; omega)
  have HRW : Hid (∀ i, R i → w.heap.size ≤ i ∧ q < i) := Lib.hid (by
    rw [hR]
    intro i hi
    exact ⟨Nat.le_trans HS3.out.size hi.1, by have := HB3.out.lt; omega⟩)
  have HR4 : Hid (∀ i, R i → i < v4.heap.size) := Lib.hid (by
    rw [hR]
    intro i hi
    exact hi.2)
  have HQG : Hid (q ≠ g) := Lib.hid (fun h => (HB3.out.ne HF3.out.blk.blk (by decide)) h)
  have HS4 := Lib.hid (HS3.out.trans s4)
  have HF4 := Lib.hid (HF3.out.same s4)
  have HB4 := Lib.hid (HB3.out.same s4)
  clear s4 m4 hR d0 d1 d2 d3 d4 d5 d6 d7 d8 d9 d10 d11 d12 d13 HB3 HS3 HF3
  obtain ⟨⟨d0, d1, d2, d3, d4, d5, d6, d7⟩, d8, d9, d10, d11, d12, d13⟩ := case_cells HB4.out ((Same.refl v4).alloc (.cells #[] 22))
  obtain ⟨i0, hi, hz0, hz1, hz2⟩ := u32_parts
  go_wp2_with (at_builtin; refine wpList_app rfl (.tmp 69) (.tmp 71) 23 rfl v4.heap.size 22 i0 _ 4 Tryd.underlying23 hi hz0 hz1 hz2 rfl _ _ _ [] rfl rfl (own_none v4 22) LA n lc (ls.map (Value.int .u32)) rfl ?c1 ?c2 (words_one ls) ?c3 (by omega) ?c4 ?c5)
  case c1 => rw [List.length_map]; exact HL.out
  case c2 => exact (HLR.out.same HS4.out).same ((Same.refl _).alloc _)
  case c3 => have := HL.out; have := HN.out; simp; omega
  case c4 => simp
  intro A1 c1 w5 ho5 hc5 _
  have s5 : Same v4 w5 := Same.more ((Same.refl v4).alloc (.cells #[] 22)) hc5 (fun i hi => by
    have hi : v4.heap.size = i := by simpa using hi
    omega)
  have HO5 := Lib.hid ho5
  have HS5 := Lib.hid (HS4.out.trans s5)
  have HF5 := Lib.hid (HF4.out.same s5)
  have HM5 := Lib.hid (HM4.out.same s5)
  have HB5 := Lib.hid (HB4.out.same s5)
  have HAR : Hid (∀ b, A1 = some ⟨b, 0, none⟩ → ¬ R b) := Lib.hid (fun b hb h => by have := own_base HO5.out b hb; have := HR4.out b h; omega)
  have HAG : Hid (∀ b, A1 = some ⟨b, 0, none⟩ → b ≠ g) := Lib.hid (fun b hb h => by have := own_base HO5.out b hb; have := HG4.out; omega)
  have HAW : Hid (∀ b, A1 = some ⟨b, 0, none⟩ → w.heap.size ≤ b ∧ q < b) := Lib.hid (fun b hb => by have := own_base HO5.out b hb; have := HS4.out.size; have := HB4.out.lt; exact ⟨by omega, by omega⟩)
  clear s5 ho5 hc5 d0 d1 d2 d3 d4 d5 d6 d7 d8 d9 d10 d11 d12 d13 HB4 HS4 HF4 HM4
  generalize v4.heap.size = B at *
  obtain ⟨⟨d0, d1, d2, d3, d4, d5, d6, d7⟩, d8, d9, d10, d11, d12, d13⟩ := case_cells HB5.out (Same.refl _)
  go_wp2_with fail
  refine (BD _).mono ?_
  rintro e w6 ⟨rfl, s6⟩
  have HO6 := Lib.hid (HO5.out.same s6)
  have HS6 := Lib.hid (HS5.out.trans s6)
  have HF6 := Lib.hid (HF5.out.same s6)
  have HM6 := Lib.hid (HM5.out.same s6)
  have HB6 := Lib.hid (HB5.out.same s6)
  clear s6 d0 d1 d2 d3 d4 d5 d6 d7 d8 d9 d10 d11 d12 d13 HB5 HS5 HF5 HM5 HO5 BD SZ
  have ej0 : EJ R g gm o size most n A1 c1 B w 0 w6 (Op.start rec) ls ls p 0 := ⟨HF6.out, HM6.out, HO6.out, HLV.out, HLW.out, HL.out, HL.out, rfl, by have := HLV.out.most; simp [Op.start] at this ⊢; exact this, HS6.out⟩
  have HEJ0 := Lib.hid ej0
  clear ej0 HF6 HM6 HO6 HS6
  go_upto_block 0 with fail
  go_cut [] from 78 to 103 (fun wx => ∃ (kk : Nat) (s : Op.St) (l la : List Int) (p : Pt) (st : Int), EJ R g gm o size most n A1 c1 B w kk wx s l la p st ∧ s.over = true)
  case first =>
    go_wp2_with fail
    go_loopg [8] most (fun gk i wx => ∃ kk : Nat, kk + gk = most ∧ i = .int .i64 kk ∧ Blk wx q 36 #[.int .i64 k, .int .i64 wd, .int .i64 sl, .int .i64 cp, .int .u32 sa, .slice ia il ic, .int .i64 ow, .slice ra rl rc, .int .i64 at_, .int .i64 op, .int .i64 rd, .slice A m c, .slice LA n lc, .slice pa pn pc] ∧ ∃ (s : Op.St) (l la : List Int) (p : Pt) (st : Int), EJ R g gm o size most n A1 c1 B w kk wx s l la p st)
    case atStart => exact ⟨0, by omega, rfl, HB6.out, _, _, _, _, _, HEJ0.out⟩
    case round =>
      obtain ⟨kk, hk, rfl, hb, s, l, la, p, st, ej⟩ := hrel
      have HEJ := Lib.hid ej
      have HBR := Lib.hid hb
      have HK := Lib.hid hk
      have k1000 : (kk : Int) ≤ 1000 := by have := HMO.out; omega
      clear hb ej hk HEJ0 HB6
      cases hov : s.over
      · have hpos := POS s HEJ.out.lv hov
        have hkm : (kk : Int) < most := by have := HEJ.out.rank; omega
        have hgo : ∀ l' : List Int, l'.length = n → Op.goes o size s l' = true := fun l' hl' => by
          unfold Op.goes
          rw [hov, hl']
          simp
          exact HFIT.out
        have OV := over_any wr HEJ.out.fb
        rw [hov] at OV
        have PK := poked_any k wd sl cp sa ow ia ra il ic rl rc at_ op rd A m c LA n lc pa pn pc pokes (kk : Int) l la A1 c1 B wr (HPK.out.same HEJ.out.same) HPL.out HPN.out (fun hne b o' hb hR => by have := rows_low HPK.out (by decide) hne b o' hb; have := (HRW.out b hR).1; omega)
          (fun hne b o' hb g' hg' he => by have := rows_low HPK.out (by decide) hne b o' hb; have := (HAW.out g' hg').1; omega) HEJ.out.mem (HEJ.out.len.trans HEJ.out.len2.symm) HEJ.out.own HAR.out
        rw [HEJ.out.len2] at PK
        have HGO := Lib.hid hgo
        have HOV := Lib.hid OV
        have HPKD := Lib.hid PK
        have HPW := Lib.hid (pk_wd HPK.out)
        clear hov OV PK hgo hpos
        obtain ⟨⟨d0, d1, d2, d3, d4, d5, d6, d7⟩, d8, d9, d10, d11, d12, d13⟩ := case_cells HBR.out (Same.refl _)
        cases gk with
        | zero => have := HK.out; omega
        | succ gk =>
          go_wp2_with fail
          refine HOV.out.mono ?_
          rintro e w' ⟨rfl, rfl⟩
          go_wp2_with fail
          refine HPKD.out.mono ?_
          rintro e w7 ⟨rfl, st7, m7, o7, c7⟩
          have HM7 := Lib.hid m7
          have HO7 := Lib.hid o7
          have HF7 := Lib.hid (HEJ.out.fb.chg c7 (fun h => by rcases h with h | h; exact HGR.out h; exact HAG.out g h rfl))
          have HB7 := Lib.hid (HBR.out.chg c7 (fun h => by rcases h with h | h; have := (HRW.out q h).2; omega; have := (HAW.out q h).2; omega))
          have HS7 := Lib.hid (HEJ.out.same.more c7 (fun i h => by rcases h with h | h; exact (HRW.out i h).1; exact (HAW.out i h).1))
          have HL7 : Hid ((poked (kk : Int) pokes l).length = n) := Lib.hid ((poked_length _ _ _).trans HEJ.out.len)
          have HL7' : Hid ((poked (kk : Int) pokes la).length = n) := Lib.hid ((poked_length _ _ _).trans HEJ.out.len2)
          have HW7 := Lib.hid (poked_wd (kk : Int) pokes HPW.out l HEJ.out.wd)
          have HLVK := Lib.hid HEJ.out.lv
          have HSTK := Lib.hid HEJ.out.steps
          have HRKK := Lib.hid HEJ.out.rank
          clear m7 o7 c7 HEJ HBR d0 d1 d2 d3 d4 d5 d6 d7 d8 d9 d10 d11 d12 d13 HOV HPKD HPW
          generalize poked (kk : Int) pokes l = l7 at *
          generalize poked (kk : Int) pokes la = la7 at *
          have GO := HGO.out l7 HL7.out
          have ST := STEP w7 HS7.out (fun i hi => by rcases hi with hi | hi; exact (HRW.out i hi).1; rw [hi]; exact HG.out) HF7.out HM7.out HGR.out HW7.out HLVK.out
          unfold Asked at ST
          rw [GO] at ST
          obtain ⟨k1, k2, k3, k4⟩ := LSTEP (s, l7) HLVK.out HW7.out
          obtain ⟨k5, k6⟩ := k4 GO
          have HK1 := Lib.hid k1
          have HK2 := Lib.hid k2
          have HK3 := Lib.hid k3
          have HK5 := Lib.hid k5
          have HK6 := Lib.hid k6
          have HST := Lib.hid ST
          clear GO ST k1 k2 k3 k4 k5 k6 HGO
          generalize Op.stepF Op.chen o size (s, l7) = x7 at *
          go_wp2_with fail
          refine HST.out.mono ?_
          rintro e w8 ⟨rfl, p8, fb8, m8, c8⟩
          have hs8 : ((x7.1.steps : Nat) : Int) = (kk : Int) + 1 := by have h1 := HK5.out; have h2 := HSTK.out; omega
          have SS := steps_any w8 fb8
          rw [hs8] at SS
          have ej8 : EJ R g gm o size most n A1 c1 B w (kk + 1) w8 x7.1 x7.2 la7 p8 _ := ⟨fb8, m8, HO7.out.chg c8 (fun b hb h => by rcases h with h | h; exact HAR.out b hb h; exact HAG.out b hb h), HK1.out, HK2.out, HK3.out.trans HL7.out, HL7'.out, by have h1 := HK5.out; have h2 := HSTK.out; omega, by have h1 := HK6.out; have h2 := HRKK.out; omega, HS7.out.more c8 (fun i h => by rcases h with h | h; exact (HRW.out i h).1; rw [h]; exact HG.out)⟩
          have HEJ8 := Lib.hid ej8
          have HB8 := Lib.hid (HB7.out.chg c8 (fun h => by rcases h with h | h; have := (HRW.out q h).2; omega; exact HQG.out h))
          have HSS := Lib.hid SS
          clear fb8 m8 c8 hs8 SS ej8 HST HF7 HM7 HO7 HB7 HS7
          go_wp2_with fail
          refine HSS.out.mono ?_
          rintro e w' ⟨rfl, rfl⟩
          go_wp2
          go_roundg gk
          case rel => exact ⟨kk + 1, by have := HK.out; omega, by simp, HB8.out, _, _, _, _, _, HEJ8.out⟩
          case measure => omega
      · have OV := over_any wr HEJ.out.fb
        rw [hov] at OV
        have HOV := Lib.hid OV
        have HVV := Lib.hid hov
        clear OV hov
        by_cases hkm : (kk : Int) < most
        · go_wp2_with fail
          refine HOV.out.mono ?_
          rintro e w' ⟨rfl, rfl⟩
          go_wp2_with fail
          go_meet
          case rel => exact ⟨kk, s, l, la, p, st, HEJ.out, HVV.out⟩
        · go_wp2_with fail
          go_meet
          case rel => exact ⟨kk, s, l, la, p, st, HEJ.out, HVV.out⟩
  case rest =>
    obtain ⟨kk, s, l, la, p, st, ej, hov⟩ := hcut
    have OV := over_any wc ej.fb
    rw [hov] at OV
    have HOV := Lib.hid OV
    have HST := Lib.hid (step_over wc ej.fb (some ⟨gm, 0, none⟩) hov)
    have HS := Lib.hid ej.same
    clear ej hov OV HEJ0 HB6
    go_wp2_with fail
    refine HOV.out.mono ?_
    rintro e w' ⟨rfl, rfl⟩
    go_wp2_with fail
    refine HST.out.mono ?_
    rintro e w8 ⟨rfl, s8⟩
    have HS8 := Lib.hid (HS.out.trans s8)
    clear s8
    go_wp2_with fail
    refine (awake_any _ (HTZ.out.same (HS8.out))).mono ?_
    rintro e w9 ⟨rfl, s9⟩
    go_wp2
    go_ret
    exact ⟨rfl, HS8.out.trans s9⟩

theorem ends_walk (k wd sl cp sa ow : Int) (ia ra : Option Addr) (il ic rl rc : Nat) (at_ op rd : Int) (A : Option Addr) (m c : Nat) (LA : Option Addr) (n lc : Nat) (pa : Option Addr) (pn pc : Nat) (rec ls : List Int) (pokes : List (List Int)) (w : World)
    (hrec : rec.length = m) (hrow : Row w A (rec.map (Value.int .u32))) (hwd : Op.Wd rec) (hls : ls.length = n) (hlrow : Row w LA (ls.map (Value.int .u32))) (hlwd : Op.Wd ls) (hpk : Fl.Rows w pa [.i64, .i64, .u32] pokes) (hpl : pokes.length = pn) (hsa : 0 ≤ sa ∧ sa < 4294967296 := by assumption) (hT : TZ w := by assumption) :
    Calls Tryd.prog 5 #[.agg #[.int .i64 k, .int .i64 wd, .int .i64 sl, .int .i64 cp, .int .u32 sa, .slice ia il ic, .int .i64 ow, .slice ra rl rc, .int .i64 at_, .int .i64 op, .int .i64 rd, .slice A m c, .slice LA n lc, .slice pa pn pc]] w fun e w' => e = .returned (.bool true) ∧ Same w w' := by
  cases hli : lightB il rl m n pn
  · exact ends_big k wd sl cp sa ow ia ra il ic rl rc at_ op rd A m c LA n lc pa pn pc w hli
  · by_cases hc : bcode (decide (k = 2) && rightB wd sl cp sa il rl) at_ op rd wd rl m = 0
    · obtain ⟨o, hb, ho⟩ := begins_of hc
      by_cases hfit : at_ ≤ (n : Int) ∧ ((1 + o.n + Op.csl o * o.width : Nat) : Int) ≤ (n : Int) - at_
      · exact ends_yes k wd sl cp sa ow ia ra il ic rl rc at_ op rd A m c LA n lc pa pn pc rec ls pokes w hli o hb ho hrec hrow hwd hls hlrow hlwd hpk hpl hfit
      · exact ends_out k wd sl cp sa ow ia ra il ic rl rc at_ op rd A m c LA n lc pa pn pc rec ls w hli o hb ho hrec hrow hwd hls hlrow hlwd hfit
    · exact ends_no k wd sl cp sa ow ia ra il ic rl rc at_ op rd A m c LA n lc pa pn pc w hli _ rfl hc

end Go.Proofs.YtdepogopepjonaaDoor.Ch
