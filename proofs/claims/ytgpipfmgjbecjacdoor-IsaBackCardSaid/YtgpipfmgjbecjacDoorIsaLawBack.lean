/-
  The walk of the law IsaBack: right instructions come back from their bytes, and bytes that are instructions' from these.
-/
import Derived.Test.YtgpipfmgjbecjacDoorIsaLawCode
set_option linter.unusedVariables false
namespace Go.Proofs.YtgpipfmgjbecjacDoor.Is
open Go.ChangeShapes Go.WideShapes Go.ChangeAt Go.RowKit Ws Cd Bt

theorem hi_small {o k : Nat} (hk : k < 3) : hiL.getD (hasC o k) 0 ≤ 255 := by
  by_cases ho : o < 22
  · have h : ((List.range 22).all fun o => (List.range 3).all fun k => decide (hiL.getD (hasC o k) 0 ≤ 255)) = true := by decide
    exact of_decide_eq_true (List.all_eq_true.1 (List.all_eq_true.1 h o (List.mem_range.2 ho)) k (List.mem_range.2 hk))
  · have : hasC o k = 0 := by
      unfold hasC
      rw [getD_out hasL o [] (by simpa [hasL] using ho)]
      simp
    rw [this]
    decide

theorem fit_byte {o k : Nat} {x : Int} (hk : k < 3) (h : fitB (hasC o k) x = true) : 0 ≤ x ∧ x ≤ 255 := by
  unfold fitB at h
  have h := of_decide_eq_true h
  have := hi_small (o := o) hk
  omega

theorem right_bytes {i : Ins} (h : i.right = true) : (0 ≤ i.op ∧ i.op < 22) ∧ (0 ≤ i.a ∧ i.a ≤ 255) ∧ (0 ≤ i.b ∧ i.b ≤ 255) ∧ (0 ≤ i.c ∧ i.c ≤ 255) := by
  unfold Ins.right rightB at h
  simp only [Bool.and_eq_true] at h
  obtain ⟨h0, h1, h2, h3, _⟩ := h
  exact ⟨of_decide_eq_true h0, fit_byte (by decide) h1, fit_byte (by decide) h2, fit_byte (by decide) h3⟩

theorem of_enc {i : Ins} (h : i.right = true) (hk : i.ok) (r : List Int) : ofB (enc1 i ++ r) = i := by
  obtain ⟨h0, h1, h2, h3⟩ := right_bytes h
  obtain ⟨op, a, b, c, n⟩ := i
  obtain ⟨k0, k1⟩ := hk
  rw [enc1_eq]
  show ofB (_ :: _ :: _ :: _ :: _ :: _ :: _ :: _ :: r) = _
  rw [ofB_eq]
  simp only at h0 h1 h2 h3 k0 k1
  simp only [Ins.mk.injEq]
  refine ⟨by omega, by omega, by omega, by omega, by omega⟩

theorem enc_drop : ∀ (p : List Ins) (k : Nat), (encL p).drop (8 * k) = encL (p.drop k) := by
  intro p
  induction p with
  | nil => intro k; simp [encL]
  | cons x p ih =>
    intro k
    cases k with
    | zero => simp
    | succ k =>
      have e : encL (x :: p) = enc1 x ++ encL p := by simp [encL]
      rw [e, List.drop_append, List.drop_of_length_le (by rw [enc1_len]; omega), enc1_len, List.nil_append, show 8 * (k + 1) - 8 = 8 * k by omega, ih]
      rfl

theorem ins_enc {p : List Ins} (hr : allRight p = true) (ho : ∀ x ∈ p, x.ok) {k : Nat} {x : Ins} (hx : p[k]? = some x) : insAt (encL p) k = x := by
  unfold insAt
  rw [enc_drop]
  have hlt : k < p.length := by
    rcases Nat.lt_or_ge k p.length with h | h
    · exact h
    · rw [List.getElem?_eq_none h] at hx; cases hx
  have e : p.drop k = x :: p.drop (k + 1) := by
    rw [List.drop_eq_getElem_cons hlt]
    congr 1
    rw [List.getElem?_eq_getElem hlt] at hx
    injection hx
  have e2 : encL (x :: p.drop (k + 1)) = enc1 x ++ encL (p.drop (k + 1)) := by simp [encL]
  rw [e, e2]
  have hm := List.mem_of_getElem? hx
  exact of_enc (by unfold allRight at hr; exact List.all_eq_true.1 hr x hm) (ho x hm) _

theorem dec_enc {p : List Ins} (hr : allRight p = true) (ho : ∀ x ∈ p, x.ok) : decV (encL p) = p ∧ errV (encL p) = 0 := by
  have hl : (encL p).length / 8 = p.length := by rw [encL_len]; omega
  have hm : (encL p).length % 8 = 0 := by rw [encL_len]; omega
  have hb : badAt (encL p) = none := by
    refine bad_none fun j hj => ?_
    rw [hl] at hj
    rw [ins_enc hr ho (List.getElem?_eq_getElem hj)]
    unfold allRight at hr
    exact List.all_eq_true.1 hr _ (List.getElem_mem hj)
  unfold decV errV
  rw [hb]
  simp only
  rw [if_pos hm, if_pos hm]
  refine ⟨?_, rfl⟩
  rw [hl]
  apply List.ext_getElem?
  intro k
  unfold decP
  rw [List.getElem?_map]
  by_cases hk : k < p.length
  · rw [List.getElem?_range hk, Option.map_some, List.getElem?_eq_getElem hk, ins_enc hr ho (List.getElem?_eq_getElem hk)]
  · rw [List.getElem?_eq_none (by simpa using Nat.le_of_not_lt hk), List.getElem?_eq_none (by omega)]
    rfl

theorem enc_of {l : List Int} (hb : By l) (h8 : 8 ≤ l.length) : enc1 (ofB l) = l.take 8 := by
  obtain ⟨b0, b1, b2, b3, b4, b5, b6, b7, r, rfl⟩ := eight h8
  have h0 := hb b0 (by simp)
  have h1 := hb b1 (by simp)
  have h2 := hb b2 (by simp)
  have h3 := hb b3 (by simp)
  have h4 := hb b4 (by simp)
  have h5 := hb b5 (by simp)
  have h6 := hb b6 (by simp)
  have h7 := hb b7 (by simp)
  rw [ofB_eq, enc1_eq]
  simp only [List.take_succ_cons, List.take_zero, List.cons.injEq, and_true]
  refine ⟨by omega, by omega, by omega, by omega, by omega, by omega, by omega, by omega⟩

theorem enc_dec {l : List Int} (hb : By l) : ∀ (k : Nat), 8 * k ≤ l.length → encL (decP l k) = l.take (8 * k) := by
  intro k
  induction k with
  | zero => intro _; simp [decP, encL]
  | succ k ih =>
    intro h
    have e : encL (decP l (k + 1)) = encL (decP l k) ++ enc1 (insAt l k) := by rw [decP_succ]; simp [encL]
    rw [e, ih (by omega)]
    unfold insAt
    rw [enc_of (By.drop hb _) (by rw [List.length_drop]; omega), show 8 * (k + 1) = 8 * k + 8 by omega, List.take_add]

theorem back_bytes {l : List Int} (hb : By l) (h : errV l = 0) : allRight (decV l) = true ∧ encL (decV l) = l := by
  unfold errV at h
  unfold decV
  cases hbad : badAt l with
  | some k => rw [hbad] at h; cases h
  | none =>
    rw [hbad] at h
    simp only at h ⊢
    by_cases hm : l.length % 8 = 0
    · rw [if_pos hm]
      refine ⟨?_, ?_⟩
      · unfold allRight
        rw [List.all_eq_true]
        intro x hx
        obtain ⟨j, hj, rfl⟩ := List.mem_map.1 hx
        unfold badAt at hbad
        rw [List.find?_range_eq_none] at hbad
        have := hbad j (List.mem_range.1 hj)
        simpa using this
      · rw [enc_dec hb _ (by omega), List.take_of_length_le (by omega)]
    · rw [if_neg hm] at h
      cases h
theorem back_none {l : List Int} (h : errV l ≠ 0) : decV l = [] := by
  unfold errV at h
  unfold decV
  cases hbad : badAt l with
  | some k => rfl
  | none =>
    rw [hbad] at h
    simp only at h ⊢
    by_cases hm : l.length % 8 = 0
    · rw [if_pos hm] at h
      exact absurd rfl h
    · rw [if_neg hm]

theorem all_step {l : List Ins} {k : Nat} {x : Ins} (hx : l[k]? = some x) : allRight (l.take (k + 1)) = (allRight (l.take k) && rightB x.op x.a x.b x.c x.n) := by
  unfold allRight
  rw [List.take_add_one, hx, List.all_append]
  simp [Ins.right]

def BackRel (w : World) (p : List Ins) (k : Nat) (r i : Value) (wx : World) : Prop :=
  i = .int .i64 k ∧ r = .bool (allRight (p.take k)) ∧ Same w wx

set_option maxRecDepth 100000 in
set_option maxHeartbeats 4000000 in
theorem lback_small (A C : Option Addr) (n m c d : Nat) (p : List Ins) (b : List Int) (w : World) (hp : p.length = n) (hb : b.length = m) (hn : n ≤ 100) (hm : m ≤ 1000) (h1 : Code w A p) (h2 : Row w C (by8 b)) (hby : By b) (ht : Tabs w) :
    Calls Tryd.prog 5 #[.slice A n c, .slice C m d] w fun e w' => e = .returned (.bool true) ∧ Same w w' := by
  have e1 : ¬ (100 : Int) < (n : Int) := by omega
  have e2 : ¬ (1000 : Int) < (m : Int) := by omega
  have hok : ∀ x ∈ p, x.ok := fun x hx => by
    obtain ⟨i, hi⟩ := List.mem_iff_getElem?.1 hx
    exact (h1 i x hi).1
  have HP := Lib.hid hp
  have HB := Lib.hid hb
  have HT := Lib.hid ht
  have HBY := Lib.hid hby
  have H1 := Lib.hid h1
  have H2 := Lib.hid h2
  have HOK := Lib.hid hok
  clear hp hb ht hby h1 h2 hok
  go_enter Tryd.func5, Tryd.ntmps5
  go_wp2_with fail
  go_loopg [5, 29] n (fun gk r i wx => ∃ k : Nat, k + gk = n ∧ BackRel w p k r i wx)
  case atStart => exact ⟨0, by omega, rfl, rfl, Same.refl _⟩
  case round =>
    obtain ⟨k, hkg, rfl, rfl, sx⟩ := hrel
    cases gk with
    | succ gk =>
      have hkk : (k : Int) < n := by omega
      obtain ⟨x, hx⟩ : ∃ x, p[k]? = some x := ⟨_, List.getElem?_eq_getElem (by have := HP.out; omega)⟩
      obtain ⟨hok, bb, o, rfl, c0, c1, c2, c3, c4⟩ := (H1.out.same sx).at_ hx
      have HS := Lib.hid (all_step hx)
      have HX := Lib.hid hx
      clear hx
      cases ha : allRight (p.take k)
      · rw [ha] at HS
        have HA := Lib.hid ha
        clear ha
        go_wp2_with fail
        go_roundg gk
        case measure => omega
        case rel => exact ⟨k + 1, by omega, by go_num, by rw [HS.out]; rfl, sx.alloc _⟩
      · rw [ha] at HS
        have HA := Lib.hid ha
        clear ha
        go_wp2_with fail
        refine (right_any x.op x.a x.b x.c x.n hok _ ((HT.out.same sx).same ((Same.refl _).alloc _))).mono ?_
        rintro e w1 ⟨rfl, s1⟩
        have sx1 := sx.trans (Same.trans ((Same.refl _).alloc _) s1)
        clear s1
        go_wp2_with fail
        go_roundg gk
        case measure => omega
        case rel => exact ⟨k + 1, by omega, by go_num, by rw [HS.out]; rfl, sx1⟩
    | zero =>
      obtain rfl : k = n := by omega
      have hkk : ¬ (k : Int) < k := by omega
      have hall : allRight (p.take k) = allRight p := by rw [List.take_of_length_le (by have := HP.out; omega)]
      rw [hall]
      clear hall
      have q0 : ((0 : Int) != 0) = false := rfl
      obtain ⟨er, her⟩ : ∃ er, er = errV b := ⟨_, rfl⟩
      obtain ⟨ms, hms⟩ : ∃ ms, ms = decV b := ⟨_, rfl⟩
      obtain ⟨nm, hnm⟩ : ∃ nm, nm = ms.length := ⟨_, rfl⟩
      have U2 := Lib.hid (show ∀ (w : World) (e : Ending) (w' : World), DecPost w b e w' → ∃ A c, e = .returned (.tuple #[.slice A nm c, .int .i64 (placeV b), .int .i64 er]) ∧ Code w' A ms ∧ Same w w' from fun _ _ _ h => by rw [her, hnm, hms]; exact dec_uni h)
      have NM := Lib.hid hnm
      have M1 := Lib.hid (show ms.length ≤ 1000 by rw [hms]; have := decV_len b; have := HB.out; omega)
      have HMS := Lib.hid hms
      have HER := Lib.hid her
      clear hnm hms her
      have fin : ∀ (a : Act) (w4 : World), Same w w4 → True := fun _ _ _ => trivial
      clear fin
      cases ht : allRight p
      · have hx : encV p = [] := by unfold encV; rw [ht]; rfl
        have HTT := Lib.hid ht
        have HXX := Lib.hid hx
        clear ht hx
        go_wp2_with fail
        refine (encode_any A k c p _ HP.out (by omega) (H1.out.same sx) (HT.out.same sx)).mono ?_
        intro e w1 hq
        obtain ⟨X, cx, rfl, rx, s1⟩ := enc_uni hq
        clear hq
        rw [HXX.out, HTT.out]
        rw [HXX.out] at rx
        have t1 := sx.trans s1
        clear s1
        go_wp2_with fail
        refine (decode_any X 0 cx [] _ rfl (by omega) (fun x hx => by simp at hx) (Row.nil _ _) (HT.out.same t1)).mono ?_
        intro e w2 hq
        obtain ⟨L, cl, rfl, rl, s2⟩ := dec_uni hq
        clear hq
        rw [show decV [] = [] from rfl, show placeV [] = 0 from rfl, show errV [] = 0 from rfl]
        have t2 := t1.trans s2
        clear s2 t1 rx rl
        go_wp2_with fail
        refine (decode_any C m d b _ HB.out (by omega) HBY.out (H2.out.same t2) (HT.out.same t2)).mono ?_
        intro e w3 hq
        obtain ⟨M, cm, rfl, rm, s3⟩ := U2.out _ _ _ hq
        clear hq
        have t3 := t2.trans s3
        clear s3 t2
        go_wp2_with fail
        refine (encode_any M nm cm ms _ NM.out.symm (by have := M1.out; have := NM.out; omega) rm (HT.out.same t3)).mono ?_
        intro e w5 hq
        obtain ⟨Y, cy, rfl, ry, s5⟩ := enc_uni hq
        clear hq
        have t5 := t3.trans s5
        clear s5
        by_cases he : errV b = 0
        · have hbb := back_bytes HBY.out he
          rw [← HMS.out] at hbb
          have hev : encV ms = b := by unfold encV; rw [hbb.1]; exact hbb.2
          rw [hev, hbb.1, HB.out]
          rw [hev] at ry
          have her0 : er = 0 := HER.out.trans he
          subst her0
          clear hbb hev
          go_wp2_with fail
          refine (bytes_eq Y C m m cy d b b _ HB.out HB.out ry (H2.out.same t5) HBY.out HBY.out).mono ?_
          rintro e w6 ⟨rfl, rfl⟩
          rw [decide_eq_true rfl]
          go_wp2_with fail
          refine (iawake _ (HT.out.same t5)).mono ?_
          rintro e w7 ⟨rfl, s7⟩
          go_wp2_with fail
          go_ret
          exact ⟨rfl, t5.trans s7⟩
        · have hm0 : ms = [] := HMS.out.trans (back_none he)
          have hn0 : nm = 0 := by rw [NM.out, hm0]; rfl
          have hz : (er != 0) = true := by rw [HER.out]; simp [he]
          subst hn0
          clear hm0 he
          go_wp2_with fail
          refine (iawake _ (HT.out.same t5)).mono ?_
          rintro e w7 ⟨rfl, s7⟩
          go_wp2_with fail
          go_ret
          exact ⟨rfl, t5.trans s7⟩
      · have hx : encV p = encL p := by unfold encV; rw [ht]; rfl
        have hde := dec_enc ht HOK.out
        have HTT := Lib.hid ht
        have HXX := Lib.hid hx
        have HDE := Lib.hid hde
        clear ht hx hde
        go_wp2_with fail
        refine (encode_any A k c p _ HP.out (by omega) (H1.out.same sx) (HT.out.same sx)).mono ?_
        intro e w1 hq
        obtain ⟨X, cx, rfl, rx, s1⟩ := enc_uni hq
        clear hq
        rw [HXX.out, HTT.out]
        rw [HXX.out] at rx
        have t1 := sx.trans s1
        clear s1
        go_wp2_with fail
        refine (decode_any X (encL p).length cx (encL p) _ rfl (by rw [encL_len]; have := HP.out; omega) (encL_by p) rx (HT.out.same t1)).mono ?_
        intro e w2 hq
        obtain ⟨L, cl, rfl, rl, s2⟩ := dec_uni hq
        clear hq
        rw [HDE.out.1, HDE.out.2, HP.out]
        rw [HDE.out.1] at rl
        have t2 := t1.trans s2
        clear s2 t1 rx
        go_wp2_with fail
        refine (code_same L A k cl c p _ HP.out (by omega) rl (H1.out.same t2)).mono ?_
        rintro e w3 ⟨rfl, q, rfl⟩
        have t3 := t2.drewN q
        clear t2 rl
        go_wp2_with fail
        refine (decode_any C m d b _ HB.out (by omega) HBY.out (H2.out.same t3) (HT.out.same t3)).mono ?_
        intro e w4 hq
        obtain ⟨M, cm, rfl, rm, s4⟩ := U2.out _ _ _ hq
        clear hq
        have t4 := t3.trans s4
        clear s4 t3
        go_wp2_with fail
        refine (encode_any M nm cm ms _ NM.out.symm (by have := M1.out; have := NM.out; omega) rm (HT.out.same t4)).mono ?_
        intro e w5 hq
        obtain ⟨Y, cy, rfl, ry, s5⟩ := enc_uni hq
        clear hq
        have t5 := t4.trans s5
        clear s5
        by_cases he : errV b = 0
        · have hbb := back_bytes HBY.out he
          rw [← HMS.out] at hbb
          have hev : encV ms = b := by unfold encV; rw [hbb.1]; exact hbb.2
          rw [hev, hbb.1, HB.out]
          rw [hev] at ry
          have her0 : er = 0 := HER.out.trans he
          subst her0
          clear hbb hev
          go_wp2_with fail
          refine (bytes_eq Y C m m cy d b b _ HB.out HB.out ry (H2.out.same t5) HBY.out HBY.out).mono ?_
          rintro e w6 ⟨rfl, rfl⟩
          rw [decide_eq_true rfl]
          go_wp2_with fail
          refine (iawake _ (HT.out.same t5)).mono ?_
          rintro e w7 ⟨rfl, s7⟩
          go_wp2_with fail
          go_ret
          exact ⟨rfl, t5.trans s7⟩
        · have hm0 : ms = [] := HMS.out.trans (back_none he)
          have hn0 : nm = 0 := by rw [NM.out, hm0]; rfl
          have hz : (er != 0) = true := by rw [HER.out]; simp [he]
          subst hn0
          clear hm0 he
          go_wp2_with fail
          refine (iawake _ (HT.out.same t5)).mono ?_
          rintro e w7 ⟨rfl, s7⟩
          go_wp2_with fail
          go_ret
          exact ⟨rfl, t5.trans s7⟩

set_option maxRecDepth 100000 in
theorem lback_big (A C : Option Addr) (n m c d : Nat) (w : World) (h : 100 < n ∨ 1000 < m) (ht : Tabs w) :
    Calls Tryd.prog 5 #[.slice A n c, .slice C m d] w fun e w' => e = .returned (.bool true) ∧ Same w w' := by
  have HT := Lib.hid ht
  clear ht
  by_cases h1 : 100 < n
  · have e1 : (100 : Int) < (n : Int) := by omega
    go_enter Tryd.func5, Tryd.ntmps5
    go_wp2_with fail
    refine (iawake _ HT.out).mono ?_
    rintro e w7 ⟨rfl, s7⟩
    go_wp2_with fail
    go_ret
    exact ⟨rfl, s7⟩
  · have e1 : ¬ (100 : Int) < (n : Int) := by omega
    have e2 : (1000 : Int) < (m : Int) := by omega
    have e3 : decide ((1000 : Int) < (m : Int)) = true := decide_eq_true e2
    go_enter Tryd.func5, Tryd.ntmps5
    go_wp2_with fail
    refine (iawake _ HT.out).mono ?_
    rintro e w7 ⟨rfl, s7⟩
    go_wp2_with fail
    go_ret
    exact ⟨rfl, s7⟩

theorem lback_walk (A C : Option Addr) (n m c d : Nat) (rows : List (List Int)) (b : List Int) (w : World) (hr : Fl.Rows w A [.i64, .i64, .i64, .i64, .u32] rows) (hl : rows.length = n) (hb : b.length = m) (h2 : Row w C (b.map (Value.int .u8))) (hx : ∀ x ∈ b, (Lit.int .u8 x).wf = true) (ht : Tabs w) :
    Calls Tryd.prog 5 #[.slice A n c, .slice C m d] w fun e w' => e = .returned (.bool true) ∧ Same w w' := by
  by_cases h : n ≤ 100 ∧ m ≤ 1000
  · obtain ⟨p, hp, hc⟩ := code_in hr
    exact lback_small A C n m c d p b w (hp.trans hl) hb h.1 h.2 hc h2 (bytes_in hx) ht
  · exact lback_big A C n m c d w (by omega) ht

end Go.Proofs.YtgpipfmgjbecjacDoor.Is
