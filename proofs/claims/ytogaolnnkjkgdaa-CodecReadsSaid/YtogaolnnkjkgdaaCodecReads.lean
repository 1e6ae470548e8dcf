/-
  The walk of the law CodecReads: it returns true whatever the bytes and the asks are.
-/
import Derived.Test.YtogaolnnkjkgdaaCodecRef
namespace Go.Proofs.Ytogaolnnkjkgdaa.Cd
open Go.ChangeShapes Go.WideShapes Go.ChangeAt Go.RowKit Ws

/-- the asks: pairs of ints, one behind the other -/
def Asks (w : World) (A : Option Addr) (l : List (Int × Int)) : Prop :=
  ∀ (j : Nat) (p : Int × Int), l[j]? = some p → ∃ b o, A = some ⟨b, o, none⟩ ∧ w.cell? ⟨b, o + j * 2, none⟩ = some (.int .i64 p.1) ∧ w.cell? ⟨b, o + j * 2 + 1, none⟩ = some (.int .i64 p.2)
theorem Asks.same {w w' : World} {A : Option Addr} {l : List (Int × Int)} (h : Asks w A l) (hc : Same w w') : Asks w' A l := fun j p hj => by
  obtain ⟨b, o, hA, h1, h2⟩ := h j p hj
  exact ⟨b, o, hA, hc.cell h1, hc.cell h2⟩

theorem left_q {R : Nat → Prop} {g : Nat} {l : List Int} {k : Nat} {bad : Bool} (w : World) (h : Rd w R g l k bad) :
    Calls Try.prog 31 #[.pointer (some ⟨g, 0, none⟩)] w fun e w' => e = .returned (.int .i64 (if bad then 0 else ((l.length - k : Nat) : Int))) ∧ ∃ q, w' = w.drewN q := by
  have hf := h.fits
  cases bad with
  | true =>
    go_enter Try.func31, Try.ntmps31
    go_wp2_with fail
    refine (err_any w h).mono ?_
    rintro e w' ⟨rfl, rfl⟩
    go_wp2_with fail
    go_ret
    exact ⟨rfl, 0, rfl⟩
  | false =>
    have hx : ((l.length - k : Nat) : Int) = l.length - k := by omega
    have HX := Lib.hid hx
    clear hx
    go_enter Try.func31, Try.ntmps31
    go_wp2_with fail
    refine (err_any w h).mono ?_
    rintro e w' ⟨rfl, rfl⟩
    go_wp2_with fail
    refine (left_any w h).mono ?_
    rintro e w' ⟨rfl, q, rfl⟩
    go_wp2_with fail
    go_ret
    exact ⟨ret_int HX.out.symm, q, rfl⟩
theorem done_q {R : Nat → Prop} {g : Nat} {l : List Int} {k : Nat} {bad : Bool} (w : World) (h : Rd w R g l k bad) :
    Calls Try.prog 32 #[.pointer (some ⟨g, 0, none⟩)] w fun e w' => e = .returned (.int .i64 (doneOf l k bad)) ∧ ∃ q, w' = w.drewN q := by
  have hf := h.fits
  cases bad with
  | true =>
    go_enter Try.func32, Try.ntmps32
    go_wp2_with fail
    refine (err_any w h).mono ?_
    rintro e w' ⟨rfl, rfl⟩
    go_wp2_with fail
    go_ret
    exact ⟨rfl, 0, rfl⟩
  | false =>
    by_cases hk : k < l.length
    all_goals
      have hx : (0 < (l.length : Int) - k) ↔ k < l.length := by omega
      have hx2 : k < l.length → (0 : Int) < (l.length : Int) - k := fun h => by omega
      have hx3 : ¬ k < l.length → ¬ (0 : Int) < (l.length : Int) - k := fun h => by omega
      first | (have hy := hx2 hk) | (have hy := hx3 hk)
      have HX : doneOf l k false = if k < l.length then 3 else 0 := by unfold doneOf; simp
      first | rw [if_pos hk] at HX | rw [if_neg hk] at HX
      have HH := Lib.hid HX
      clear HX hk hx hx2 hx3
      go_enter Try.func32, Try.ntmps32
      go_wp2_with fail
      refine (err_any w h).mono ?_
      rintro e w' ⟨rfl, rfl⟩
      go_wp2_with fail
      refine (left_any w h).mono ?_
      rintro e w' ⟨rfl, q, rfl⟩
      go_wp2_with fail
      go_ret
      exact ⟨ret_int HH.out.symm, q, rfl⟩

theorem reads_big (A C : Option Addr) (m c n d : Nat) (w : World) (h : 2000 < m ∨ 60 < n) :
    Calls Try.prog 6 #[.slice A m c, .slice C n d] w fun e w' => e = .returned (.bool true) ∧ Same w w' := by
  by_cases h0 : 2000 < m
  all_goals
    have h1 : (2000 : Int) < (m : Int) ∨ (60 : Int) < (n : Int) := by omega
    first | (have h2 : (2000 : Int) < (m : Int) := by omega) | (have h2 : (60 : Int) < (n : Int) := by omega)
    clear h1
    go_enter Try.func6, Try.ntmps6
    go_wp2_with fail
    refine (cawake _).mono ?_
    rintro e w1 ⟨rfl, s1⟩
    go_wp2
    go_ret
    exact ⟨rfl, s1⟩

theorem rdone_any {R : Nat → Prop} {g : Nat} {L : List Int} {k : Nat} (w : World) (h : Rf w R g (L.drop k)) :
    Calls Try.prog 33 #[.pointer (some ⟨g, 0, none⟩)] w fun e w' => e = .returned (.int .i64 (doneOf L k false)) ∧ w = w' := by
  have e : (if 0 < (L.drop k).length then (3 : Int) else 0) = doneOf L k false := by
    by_cases hk : k < L.length
    · rw [if_pos (by rw [List.length_drop]; omega)]
      unfold doneOf
      rw [if_neg (by simp), if_pos hk]
    · rw [if_neg (by rw [List.length_drop]; omega)]
      unfold doneOf
      rw [if_neg (by simp), if_neg hk]
  rw [← e]
  exact rdone_ok w h
theorem rf_open {R : Nat → Prop} {w : World} {g : Nat} {L : List Int} {k : Nat} (h : Rf w R g (L.drop k)) :
    ∃ b o c, w.cell? ⟨g, 0, none⟩ = some (.slice (some ⟨b, o, none⟩) (L.length - k) c) ∧ w.cell? ⟨g, 1, none⟩ = some (.bool false) := by
  obtain ⟨_, _, b, o, c, hb, _⟩ := h
  rw [List.length_drop] at hb
  exact ⟨b, o, c, by simpa using hb.cell 0, by simpa using hb.cell 1⟩

theorem bytes_badz {R : Nat → Prop} {g : Nat} {l : List Int} {k : Nat} (n : Int) (w : World) (h : Rd w R g l k true) :
    Calls Try.prog 29 #[.pointer (some ⟨g, 0, none⟩), .int .i64 n] w fun e w' => ∃ A c, e = .returned (.slice A 0 c) ∧ Same w w' := by
  go_enter Try.func29, Try.ntmps29
  go_wp2_with fail
  refine (next_bad n w h).mono ?_
  rintro e w' ⟨rfl, rfl⟩
  go_wp2_with fail
  refine (clone_bytes none 0 0 [] w (Row.nil _ _) rfl (by omega)).mono ?_
  rintro e w2 ⟨A', c', rfl, s2, ho⟩
  go_wp2
  go_ret
  exact ⟨A', c', rfl, s2⟩
def BytesAsk (w : World) (R : Nat → Prop) (g : Nat) (L : List Int) (k : Nat) (n : Int) (bad : Bool) (e : Ending) (w' : World) : Prop :=
  ∃ A m c, e = .returned (.slice A m c) ∧ (askTold L k n bad).length = m ∧ Row w' A (by8 (askTold L k n bad)) ∧ (∀ b o, A = some ⟨b, o, none⟩ → by8 (askTold L k n bad) ≠ [] → w.heap.size ≤ b) ∧ Rd w' R g L (askAfter L k n bad).1 (askAfter L k n bad).2 ∧ Chg R w w'
theorem bytes_ask {R : Nat → Prop} {g : Nat} {L : List Int} {k : Nat} {bad : Bool} (n : Int) (w : World) (h : Rd w R g L k bad) :
    Calls Try.prog 29 #[.pointer (some ⟨g, 0, none⟩), .int .i64 n] w (BytesAsk w R g L k n bad) := by
  unfold BytesAsk
  by_cases hn : n < 0
  · have e1 : askTold L k n bad = [] := by unfold askTold; rw [if_pos hn]
    have e2 : askAfter L k n bad = (k, true) := by unfold askAfter; rw [if_pos hn]
    rw [e1, e2]
    cases bad with
    | true => exact (bytes_badz n w h).mono fun e w' ⟨A, c, he, hs⟩ => ⟨A, 0, c, he, rfl, Row.nil _ _, fun _ _ _ hne => absurd rfl hne, h.same hs, hs.chg R⟩
    | false => exact (bytes_out n (.inl hn) w h).mono fun e w' ⟨A, c, he, hd, hc⟩ => ⟨A, 0, c, he, rfl, Row.nil _ _, fun _ _ _ hne => absurd rfl hne, hd, hc⟩
  · obtain ⟨m, rfl⟩ := Int.eq_ofNat_of_zero_le (show 0 ≤ n by omega)
    rw [(ask_nat L k m bad).1, (ask_nat L k m bad).2]
    refine (bytes_any m w h).mono fun e w' ⟨A, m', c, he, hm, ho, hd, hc⟩ => ⟨A, m', c, he, hm, ho.row, fun b o hA hne => ?_, hd, hc⟩
    obtain ⟨g', hg', hB, _⟩ := ho.thaw (List.length_pos_iff.2 hne)
    rw [hA] at hg'
    injection hg' with hg'
    injection hg' with hg'
    omega
theorem askTold_by {L : List Int} (h : By L) (k : Nat) (n : Int) (bad : Bool) : By (askTold L k n bad) := by
  unfold askTold
  split
  · exact fun x hx => by simp at hx
  · exact told_by h _ _ _

/-- at the head of each round: both readers, and what was there is as it was -/
def ReadRel (w : World) (B : Nat) (R1 R2 : Nat → Prop) (g1 g2 : Nat) (L : List Int) (n : Nat) (i : Value) (wr : World) : Prop :=
  ∃ (q k : Nat) (bad : Bool), q ≤ n ∧ i = .int .i64 q ∧ Rd wr R1 g1 L k bad ∧ Re wr R2 g2 L k bad ∧ Same w wr ∧ B ≤ wr.heap.size

set_option maxHeartbeats 1000000 in
set_option maxRecDepth 100000 in
theorem reads_small (A C : Option Addr) (m c n d : Nat) (L : List Int) (asks : List (Int × Int)) (w : World) (hl : L.length = m) (hm : m ≤ 2000) (hr : Row w A (by8 L)) (hb : By L) (hn : asks.length = n) (hn2 : n ≤ 60) (ha : Asks w C asks) :
    Calls Try.prog 6 #[.slice A m c, .slice C n d] w fun e w' => e = .returned (.bool true) ∧ Same w w' := by
  obtain ⟨i0, hi, hz0, hz1, hz2⟩ := info_parts u8_info
  have h1 : ¬ (2000 : Int) < (m : Int) := by omega
  have h2 : ¬ (60 : Int) < (n : Int) := by omega
  have HL := Lib.hid hl
  have HN := Lib.hid hn
  have LM := Lib.hid (show (by8 L).length = m by rw [by8_len, hl])
  clear hl hn
  go_enter Try.func6, Try.ntmps6
  go_wp2_with fail
  refine (new_any A m c L w HL.out (by omega) hr).mono ?_
  rintro e w1 ⟨g1, rfl, s1, d1⟩
  go_wp2_with (first
    | (at_builtin; refine wpList_app rfl (.tmp 21) (.tmp 22) 27 rfl w1.heap.size 5 i0 _ 1 Try.underlying27 hi hz0 hz1 hz2 rfl _ _ _ [] rfl rfl (own_none w1 5) A m c (by8 L) rfl LM.out ((hr.same s1).same ((Same.refl _).alloc _)) (by8_one _) (by rw [LM.out]; simp; omega) (by omega) (by simp) ?k1)
    | fail)
  case k1 =>
    intro A2 c2 w2 o2 h2' hA2
    obtain ⟨gb, rfl⟩ : ∃ gb, A2 = some ⟨gb, 0, none⟩ := by rcases hA2 with h | h <;> exact ⟨_, h⟩
    clear hA2
    have s2 : Same w1 w2 := Same.more ((Same.refl w1).alloc (.cells #[] 5)) h2' (fun i hi => by
      have hi : w1.heap.size = i := by simpa using hi
      omega)
    clear h2'
    have z1 := s1.size
    have z2 := s2.size
    have dd := ((d1.within).same s2).same ((Same.refl w2).alloc (.cells #[.slice (some ⟨gb, 0, none⟩) m c2, .bool false] 33))
    have lo := own_lt o2
    have hsz : w2.heap.size < (w2.alloc (.cells #[.slice (some ⟨gb, 0, none⟩) m c2, .bool false] 33)).heap.size := by simp
    have ee : Re (w2.alloc (.cells #[.slice (some ⟨gb, 0, none⟩) m c2, .bool false] 33)) (fun i => w1.heap.size ≤ i ∧ i ≤ w2.heap.size) w2.heap.size L 0 false := by
      have hl := HL.out
      have ll := lo.2.2
      rw [by8_len, hl] at ll
      have hrf : Rf (w2.alloc (.cells #[.slice (some ⟨gb, 0, none⟩) m c2, .bool false] 33)) (fun i => w1.heap.size ≤ i ∧ i ≤ w2.heap.size) w2.heap.size (L.drop 0) :=
        ⟨⟨z2, Nat.le_refl _⟩, by rw [List.drop_zero]; omega, gb, 0, c2, by rw [List.drop_zero, hl]; exact Blk.new _ _ _, by rw [List.drop_zero]; exact o2.row.same ((Same.refl _).alloc _), by rw [List.drop_zero]; omega, by omega, ⟨lo.1, by omega⟩, by omega⟩
      exact hrf
    have tt : Same w (w2.alloc (.cells #[.slice (some ⟨gb, 0, none⟩) m c2, .bool false] 33)) := (s1.trans s2).alloc _
    go_wp2
    generalize w2.alloc (.cells #[.slice (some ⟨gb, 0, none⟩) m c2, .bool false] 33) = wl at *
    have hR1 : ∀ i, (fun i => w.heap.size ≤ i ∧ i < w1.heap.size) i → w.heap.size ≤ i := fun i h => h.1
    have hR2 : ∀ i, (fun i => w1.heap.size ≤ i ∧ i ≤ w2.heap.size) i → w.heap.size ≤ i := fun i h => by have := h.1; omega
    have hdis : ∀ i, (fun i => w.heap.size ≤ i ∧ i < w1.heap.size) i → ¬ (fun i => w1.heap.size ≤ i ∧ i ≤ w2.heap.size) i := fun i h k => by have := h.2; have := k.1; omega
    have hL1 : ∀ i, (fun i => w.heap.size ≤ i ∧ i < w1.heap.size) i → i < w2.heap.size + 1 := fun i h => by have := h.2; omega
    have hL2 : ∀ i, (fun i => w1.heap.size ≤ i ∧ i ≤ w2.heap.size) i → i < w2.heap.size + 1 := fun i h => by have := h.2; omega
    have hBB : w2.heap.size + 1 ≤ wl.heap.size := hsz
    clear hsz lo o2 s2 z1 z2 d1 s1 h1 h2
    generalize (fun i => w.heap.size ≤ i ∧ i < w1.heap.size) = R1 at *
    generalize (fun i => w1.heap.size ≤ i ∧ i ≤ w2.heap.size) = R2 at *
    generalize w2.heap.size = g2 at *
    obtain ⟨B, hB⟩ : ∃ B, B = g2 + 1 := ⟨_, rfl⟩
    rw [← hB] at hL1 hL2 hBB
    clear hB
    go_loopw [8, 9, 28, 34, 42, 50, 57] (fun _ _ i _ _ _ _ wr => ReadRel w B R1 R2 g1 g2 L n i wr) (fun _ _ i _ _ _ _ _ => n - (intOf i).toNat)
    case atStart => exact ⟨0, 0, false, Nat.zero_le _, rfl, dd, ee, tt, hBB⟩
    case round =>
      obtain ⟨q, K, bad, hq, rfl, dr, er, hs, hBr⟩ := hrel
      clear dd ee tt
      have hKL := dr.fits
      by_cases hlt : q < n
      · have hqn : (q : Int) < n := by omega
        obtain ⟨p, hp⟩ : ∃ p, asks[q]? = some p := ⟨_, List.getElem?_eq_getElem (by have := HN.out; omega)⟩
        obtain ⟨b, o, rfl, y1, y2⟩ := (ha.same hs) q p hp
        obtain ⟨kd, nn⟩ := p
        clear hp
        by_cases k0 : kd = 0
        · subst k0
          go_wp2_with fail
          refine (u8_any _ (dr.same ((Same.refl _).alloc _)) hb).mono ?_
          rintro e w3 ⟨rfl, d3, c3⟩
          have e3 := er.chg (((Chg.refl R1 wr).alloc _).trans c3) (fun i a b => hdis i b a)
          have t3 := (hs.alloc (.cells #[.int .i64 0, .int .i64 nn] 35)).more c3 hR1
          go_wp2_with fail
          refine (rnum_any hKL hb 1 (by omega) _ e3).mono ?_
          rintro e w4 ⟨rfl, e4, c4⟩
          have d4 := d3.chg c4 hdis
          have t4 := t3.more c4 hR2
          have hB4 : B ≤ w4.heap.size := Nat.le_trans hBr (Nat.le_trans (((Chg.refl R1 wr).alloc _).trans c3).size c4.size)
          have nl := num_lt (told_by hb K 1 bad) (told_len _ _ _ _) (by omega)
          clear d3 c3 e3 t3 c4 y1 y2 dr er hs
          generalize told L K 1 bad = tl at *
          generalize after L K 1 bad = af at *
          obtain ⟨K4, bad4⟩ := af
          cases bad4 with
          | true =>
            have e5 : Rb w4 R2 g2 := e4
            have x0 : w4.cell? ⟨g2, 0, none⟩ = some (.slice none 0 0) := by simpa using e5.2.cell 0
            have x1 : w4.cell? ⟨g2, 1, none⟩ = some (.bool true) := by simpa using e5.2.cell 1
            go_wp2_with fail
            go_quiet ((first | (go_at_call 31; exact Calls.quiet_of (left_q _ (d4.same ((Same.refl _).drewN _)))) | (go_at_call 32; exact Calls.quiet_of (done_q _ (d4.same ((Same.refl _).drewN _)))) | (go_at_call 33; exact Calls.quiet_of_same ((rdone_bad _ (e5.chg ((Chg.refl R1 _).drewN _) fun i a b => hdis i b a)).mono fun _ _ h => ⟨h.1, h.2.symm⟩)) | (go_at_call 34; exact Calls.quiet_of_same ((err_any _ (d4.same ((Same.refl _).drewN _))).mono fun _ _ h => ⟨h.1, h.2.symm⟩))))
            go_wp2_with fail
            go_roundw
            case rel => exact ⟨q + 1, K4, true, by omega, by go_num, d4.same ((Same.refl _).drewN _), e4.chg ((Chg.refl R1 _).drewN _) (fun i a b => hdis i b a), t4.drewN _, hB4⟩
            case measure => simp [intOf]; omega
          | false =>
            have e5 : Rf w4 R2 g2 (L.drop K4) := e4
            obtain ⟨b2, o2, c2', x0, x1⟩ := rf_open e5
            go_wp2_with fail
            go_quiet ((first | (go_at_call 31; exact Calls.quiet_of (left_q _ (d4.same ((Same.refl _).drewN _)))) | (go_at_call 32; exact Calls.quiet_of (done_q _ (d4.same ((Same.refl _).drewN _)))) | (go_at_call 33; exact Calls.quiet_of_same ((rdone_any _ (e5.chg ((Chg.refl R1 _).drewN _) fun i a b => hdis i b a)).mono fun _ _ h => ⟨h.1, h.2.symm⟩)) | (go_at_call 34; exact Calls.quiet_of_same ((err_any _ (d4.same ((Same.refl _).drewN _))).mono fun _ _ h => ⟨h.1, h.2.symm⟩))))
            go_wp2_with fail
            go_roundw
            case rel => exact ⟨q + 1, K4, false, by omega, by go_num, d4.same ((Same.refl _).drewN _), e4.chg ((Chg.refl R1 _).drewN _) (fun i a b => hdis i b a), t4.drewN _, hB4⟩
            case measure => simp [intOf]; omega
        by_cases k1 : kd = 1
        · subst k1
          go_wp2_with fail
          refine (u16_any _ (dr.same ((Same.refl _).alloc _)) hb).mono ?_
          rintro e w3 ⟨rfl, d3, c3⟩
          have e3 := er.chg (((Chg.refl R1 wr).alloc _).trans c3) (fun i a b => hdis i b a)
          have t3 := (hs.alloc (.cells #[.int .i64 1, .int .i64 nn] 35)).more c3 hR1
          go_wp2_with fail
          refine (rnum_any hKL hb 2 (by omega) _ e3).mono ?_
          rintro e w4 ⟨rfl, e4, c4⟩
          have d4 := d3.chg c4 hdis
          have t4 := t3.more c4 hR2
          have hB4 : B ≤ w4.heap.size := Nat.le_trans hBr (Nat.le_trans (((Chg.refl R1 wr).alloc _).trans c3).size c4.size)
          have nl := num_lt (told_by hb K 2 bad) (told_len _ _ _ _) (by omega)
          clear d3 c3 e3 t3 c4 y1 y2 dr er hs
          generalize told L K 2 bad = tl at *
          generalize after L K 2 bad = af at *
          obtain ⟨K4, bad4⟩ := af
          cases bad4 with
          | true =>
            have e5 : Rb w4 R2 g2 := e4
            have x0 : w4.cell? ⟨g2, 0, none⟩ = some (.slice none 0 0) := by simpa using e5.2.cell 0
            have x1 : w4.cell? ⟨g2, 1, none⟩ = some (.bool true) := by simpa using e5.2.cell 1
            go_wp2_with fail
            go_quiet ((first | (go_at_call 31; exact Calls.quiet_of (left_q _ (d4.same ((Same.refl _).drewN _)))) | (go_at_call 32; exact Calls.quiet_of (done_q _ (d4.same ((Same.refl _).drewN _)))) | (go_at_call 33; exact Calls.quiet_of_same ((rdone_bad _ (e5.chg ((Chg.refl R1 _).drewN _) fun i a b => hdis i b a)).mono fun _ _ h => ⟨h.1, h.2.symm⟩)) | (go_at_call 34; exact Calls.quiet_of_same ((err_any _ (d4.same ((Same.refl _).drewN _))).mono fun _ _ h => ⟨h.1, h.2.symm⟩))))
            go_wp2_with fail
            go_roundw
            case rel => exact ⟨q + 1, K4, true, by omega, by go_num, d4.same ((Same.refl _).drewN _), e4.chg ((Chg.refl R1 _).drewN _) (fun i a b => hdis i b a), t4.drewN _, hB4⟩
            case measure => simp [intOf]; omega
          | false =>
            have e5 : Rf w4 R2 g2 (L.drop K4) := e4
            obtain ⟨b2, o2, c2', x0, x1⟩ := rf_open e5
            go_wp2_with fail
            go_quiet ((first | (go_at_call 31; exact Calls.quiet_of (left_q _ (d4.same ((Same.refl _).drewN _)))) | (go_at_call 32; exact Calls.quiet_of (done_q _ (d4.same ((Same.refl _).drewN _)))) | (go_at_call 33; exact Calls.quiet_of_same ((rdone_any _ (e5.chg ((Chg.refl R1 _).drewN _) fun i a b => hdis i b a)).mono fun _ _ h => ⟨h.1, h.2.symm⟩)) | (go_at_call 34; exact Calls.quiet_of_same ((err_any _ (d4.same ((Same.refl _).drewN _))).mono fun _ _ h => ⟨h.1, h.2.symm⟩))))
            go_wp2_with fail
            go_roundw
            case rel => exact ⟨q + 1, K4, false, by omega, by go_num, d4.same ((Same.refl _).drewN _), e4.chg ((Chg.refl R1 _).drewN _) (fun i a b => hdis i b a), t4.drewN _, hB4⟩
            case measure => simp [intOf]; omega
        by_cases k2 : kd = 2
        · subst k2
          go_wp2_with fail
          refine (u32_any _ (dr.same ((Same.refl _).alloc _)) hb).mono ?_
          rintro e w3 ⟨rfl, d3, c3⟩
          have e3 := er.chg (((Chg.refl R1 wr).alloc _).trans c3) (fun i a b => hdis i b a)
          have t3 := (hs.alloc (.cells #[.int .i64 2, .int .i64 nn] 35)).more c3 hR1
          go_wp2_with fail
          refine (rnum_any hKL hb 4 (by omega) _ e3).mono ?_
          rintro e w4 ⟨rfl, e4, c4⟩
          have d4 := d3.chg c4 hdis
          have t4 := t3.more c4 hR2
          have hB4 : B ≤ w4.heap.size := Nat.le_trans hBr (Nat.le_trans (((Chg.refl R1 wr).alloc _).trans c3).size c4.size)
          have nl := num_lt (told_by hb K 4 bad) (told_len _ _ _ _) (by omega)
          clear d3 c3 e3 t3 c4 y1 y2 dr er hs
          generalize told L K 4 bad = tl at *
          generalize after L K 4 bad = af at *
          obtain ⟨K4, bad4⟩ := af
          cases bad4 with
          | true =>
            have e5 : Rb w4 R2 g2 := e4
            have x0 : w4.cell? ⟨g2, 0, none⟩ = some (.slice none 0 0) := by simpa using e5.2.cell 0
            have x1 : w4.cell? ⟨g2, 1, none⟩ = some (.bool true) := by simpa using e5.2.cell 1
            go_wp2_with fail
            go_quiet ((first | (go_at_call 31; exact Calls.quiet_of (left_q _ (d4.same ((Same.refl _).drewN _)))) | (go_at_call 32; exact Calls.quiet_of (done_q _ (d4.same ((Same.refl _).drewN _)))) | (go_at_call 33; exact Calls.quiet_of_same ((rdone_bad _ (e5.chg ((Chg.refl R1 _).drewN _) fun i a b => hdis i b a)).mono fun _ _ h => ⟨h.1, h.2.symm⟩)) | (go_at_call 34; exact Calls.quiet_of_same ((err_any _ (d4.same ((Same.refl _).drewN _))).mono fun _ _ h => ⟨h.1, h.2.symm⟩))))
            go_wp2_with fail
            go_roundw
            case rel => exact ⟨q + 1, K4, true, by omega, by go_num, d4.same ((Same.refl _).drewN _), e4.chg ((Chg.refl R1 _).drewN _) (fun i a b => hdis i b a), t4.drewN _, hB4⟩
            case measure => simp [intOf]; omega
          | false =>
            have e5 : Rf w4 R2 g2 (L.drop K4) := e4
            obtain ⟨b2, o2, c2', x0, x1⟩ := rf_open e5
            go_wp2_with fail
            go_quiet ((first | (go_at_call 31; exact Calls.quiet_of (left_q _ (d4.same ((Same.refl _).drewN _)))) | (go_at_call 32; exact Calls.quiet_of (done_q _ (d4.same ((Same.refl _).drewN _)))) | (go_at_call 33; exact Calls.quiet_of_same ((rdone_any _ (e5.chg ((Chg.refl R1 _).drewN _) fun i a b => hdis i b a)).mono fun _ _ h => ⟨h.1, h.2.symm⟩)) | (go_at_call 34; exact Calls.quiet_of_same ((err_any _ (d4.same ((Same.refl _).drewN _))).mono fun _ _ h => ⟨h.1, h.2.symm⟩))))
            go_wp2_with fail
            go_roundw
            case rel => exact ⟨q + 1, K4, false, by omega, by go_num, d4.same ((Same.refl _).drewN _), e4.chg ((Chg.refl R1 _).drewN _) (fun i a b => hdis i b a), t4.drewN _, hB4⟩
            case measure => simp [intOf]; omega
        by_cases k3 : kd = 3
        · subst k3
          have hzB : B ≤ wr.heap.size := hBr
          have hA0 := (Same.refl wr).alloc (.cells #[.int .i64 3, .int .i64 nn] 35)
          have x0 : (wr.alloc (.cells #[.int .i64 3, .int .i64 nn] 35)).cell? ⟨wr.heap.size, 1, none⟩ = some (.int .i64 nn) := (Same.refl _).new rfl
          have t0 := hs.trans hA0
          have d0 := dr.same hA0
          have e0 := er.chg ((Chg.refl R1 wr).alloc (.cells #[.int .i64 3, .int .i64 nn] 35)) (fun i a b => hdis i b a)
          have hB0 : B ≤ (wr.alloc (.cells #[.int .i64 3, .int .i64 nn] 35)).heap.size := Nat.le_trans hBr hA0.size
          have hby := askTold_by hb K nn bad
          go_wp2_with fail
          clear y1 y2 dr er hs hA0
          generalize wr.alloc (.cells #[.int .i64 3, .int .i64 nn] 35) = w0 at *
          generalize wr.heap.size = hz at *
          go_region_held3 (fun w' => w'.cell? ⟨hz, 1, none⟩ = some (.int .i64 nn) ∧ Same w w')
            (first | assumption | exact ⟨x0, t0.drew⟩ | exact ⟨x9, t4⟩ | exact ⟨x8, t8⟩)
            (first
              | (go_at_call 29; refine (bytes_ask nn _ (d0.same ((Same.refl _).drew))).mono ?_; rintro e w8 ⟨Ay, my, cy, rfl, hmy, ry, hyb, d8, c8⟩; have HMY := Lib.hid hmy; clear hmy; have e8 := e0.chg (((Chg.refl R1 w0).drew).trans c8) (fun i a b => hdis i b a); have t8 : Same w w8 := Same.more t0.drew c8 hR1; have x8 : w8.cell? ⟨hz, 1, none⟩ = some (.int .i64 nn) := c8.cell x0 (fun h => by have h1 : hz < B := hL1 _ h; omega); have hB8 : B ≤ w8.heap.size := Nat.le_trans hB0 c8.size)
              | (go_at_call 30; refine (take_any hKL nn _ e8).mono ?_; rintro e w4 ⟨Az, mz, cz, rfl, hmz, rz, e4, c4⟩; have HMZ := Lib.hid hmz; clear hmz; have d4 := d8.chg c4 hdis; have t4 : Same w w4 := t8.more c4 hR2; have ry4 := ry.chg c4 (fun b o hA hne h => by have h1 := hL2 _ h; have h2 := hyb b o hA hne; have h3 : w0.heap.size ≤ b := h2; omega); have x9 : w4.cell? ⟨hz, 1, none⟩ = some (.int .i64 nn) := c4.cell x8 (fun h => by have h1 : hz < B := hL2 _ h; omega); have hB4 : B ≤ w4.heap.size := Nat.le_trans hB8 c4.size)
              | (go_at_call 28; refine (bytes_eq _ _ my mz _ _ (askTold L K nn bad) (askTold L K nn bad) _ HMY.out HMZ.out ry4 rz hby hby).mono ?_; rintro e w9 ⟨rfl, rfl⟩; rw [decide_eq_true rfl]))
          rcases ‹_ ∧ Same w _› with ⟨_, _⟩
          clear d8 e8 t8 x8 hB8 ry4 ry rz hyb c8 c4 d0 e0 t0 hby
          generalize askAfter L K nn bad = af at *
          obtain ⟨K4, bad4⟩ := af
          cases bad4 with
          | true =>
            have e5 : Rb w4 R2 g2 := e4
            have x0 : w4.cell? ⟨g2, 0, none⟩ = some (.slice none 0 0) := by simpa using e5.2.cell 0
            have x1 : w4.cell? ⟨g2, 1, none⟩ = some (.bool true) := by simpa using e5.2.cell 1
            go_wp2_with fail
            go_quiet ((first | (go_at_call 31; exact Calls.quiet_of (left_q _ (d4.same ((Same.refl _).drewN _)))) | (go_at_call 32; exact Calls.quiet_of (done_q _ (d4.same ((Same.refl _).drewN _)))) | (go_at_call 33; exact Calls.quiet_of_same ((rdone_bad _ (e5.chg ((Chg.refl R1 _).drewN _) fun i a b => hdis i b a)).mono fun _ _ h => ⟨h.1, h.2.symm⟩)) | (go_at_call 34; exact Calls.quiet_of_same ((err_any _ (d4.same ((Same.refl _).drewN _))).mono fun _ _ h => ⟨h.1, h.2.symm⟩))))
            go_wp2_with fail
            go_roundw
            case rel => exact ⟨q + 1, K4, true, by omega, by go_num, d4.same ((Same.refl _).drewN _), e4.chg ((Chg.refl R1 _).drewN _) (fun i a b => hdis i b a), t4.drewN _, hB4⟩
            case measure => simp [intOf]; omega
          | false =>
            have e5 : Rf w4 R2 g2 (L.drop K4) := e4
            obtain ⟨b2, o2, c2', x0, x1⟩ := rf_open e5
            go_wp2_with fail
            go_quiet ((first | (go_at_call 31; exact Calls.quiet_of (left_q _ (d4.same ((Same.refl _).drewN _)))) | (go_at_call 32; exact Calls.quiet_of (done_q _ (d4.same ((Same.refl _).drewN _)))) | (go_at_call 33; exact Calls.quiet_of_same ((rdone_any _ (e5.chg ((Chg.refl R1 _).drewN _) fun i a b => hdis i b a)).mono fun _ _ h => ⟨h.1, h.2.symm⟩)) | (go_at_call 34; exact Calls.quiet_of_same ((err_any _ (d4.same ((Same.refl _).drewN _))).mono fun _ _ h => ⟨h.1, h.2.symm⟩))))
            go_wp2_with fail
            go_roundw
            case rel => exact ⟨q + 1, K4, false, by omega, by go_num, d4.same ((Same.refl _).drewN _), e4.chg ((Chg.refl R1 _).drewN _) (fun i a b => hdis i b a), t4.drewN _, hB4⟩
            case measure => simp [intOf]; omega
        · have k0' : (kd == 0) = false := by simpa using k0
          have k1' : (kd == 1) = false := by simpa using k1
          have k2' : (kd == 2) = false := by simpa using k2
          have k3' : (kd == 3) = false := by simpa using k3
          clear k0 k1 k2 k3
          have ha4 := (Same.refl wr).alloc (.cells #[.int .i64 kd, .int .i64 nn] 35)
          have d4 := dr.same ha4
          have e4 := er.chg ((Chg.refl R1 wr).alloc (.cells #[.int .i64 kd, .int .i64 nn] 35)) (fun i a b => hdis i b a)
          have t4 := hs.trans ha4
          have hB4 : B ≤ (wr.alloc (.cells #[.int .i64 kd, .int .i64 nn] 35)).heap.size := Nat.le_trans hBr ha4.size
          go_wp2_with fail
          clear y1 y2 dr er hs ha4
          generalize wr.alloc (.cells #[.int .i64 kd, .int .i64 nn] 35) = w4 at *
          cases bad with
          | true =>
            have e5 : Rb w4 R2 g2 := e4
            have x0 : w4.cell? ⟨g2, 0, none⟩ = some (.slice none 0 0) := by simpa using e5.2.cell 0
            have x1 : w4.cell? ⟨g2, 1, none⟩ = some (.bool true) := by simpa using e5.2.cell 1
            go_wp2_with fail
            go_quiet ((first | (go_at_call 31; exact Calls.quiet_of (left_q _ (d4.same ((Same.refl _).drewN _)))) | (go_at_call 32; exact Calls.quiet_of (done_q _ (d4.same ((Same.refl _).drewN _)))) | (go_at_call 33; exact Calls.quiet_of_same ((rdone_bad _ (e5.chg ((Chg.refl R1 _).drewN _) fun i a b => hdis i b a)).mono fun _ _ h => ⟨h.1, h.2.symm⟩)) | (go_at_call 34; exact Calls.quiet_of_same ((err_any _ (d4.same ((Same.refl _).drewN _))).mono fun _ _ h => ⟨h.1, h.2.symm⟩))))
            go_wp2_with fail
            go_roundw
            case rel => exact ⟨q + 1, K, true, by omega, by go_num, d4.same ((Same.refl _).drewN _), e4.chg ((Chg.refl R1 _).drewN _) (fun i a b => hdis i b a), t4.drewN _, hB4⟩
            case measure => simp [intOf]; omega
          | false =>
            have e5 : Rf w4 R2 g2 (L.drop K) := e4
            obtain ⟨b2, o2, c2', x0, x1⟩ := rf_open e5
            go_wp2_with fail
            go_quiet ((first | (go_at_call 31; exact Calls.quiet_of (left_q _ (d4.same ((Same.refl _).drewN _)))) | (go_at_call 32; exact Calls.quiet_of (done_q _ (d4.same ((Same.refl _).drewN _)))) | (go_at_call 33; exact Calls.quiet_of_same ((rdone_any _ (e5.chg ((Chg.refl R1 _).drewN _) fun i a b => hdis i b a)).mono fun _ _ h => ⟨h.1, h.2.symm⟩)) | (go_at_call 34; exact Calls.quiet_of_same ((err_any _ (d4.same ((Same.refl _).drewN _))).mono fun _ _ h => ⟨h.1, h.2.symm⟩))))
            go_wp2_with fail
            go_roundw
            case rel => exact ⟨q + 1, K, false, by omega, by go_num, d4.same ((Same.refl _).drewN _), e4.chg ((Chg.refl R1 _).drewN _) (fun i a b => hdis i b a), t4.drewN _, hB4⟩
            case measure => simp [intOf]; omega
      · have hqn : ¬ (q : Int) < n := by omega
        go_wp2_with fail
        refine (cawake _).mono ?_
        rintro e w5 ⟨rfl, s5⟩
        go_wp2
        go_ret
        exact ⟨rfl, hs.trans s5⟩

theorem reads_walk (A C : Option Addr) (m c n d : Nat) (zs : List Int) (asks : List (Int × Int)) (w : World) (h : Came .u8 w A m c zs) (hn : asks.length = n) (ha : Asks w C asks) :
    Calls Try.prog 6 #[.slice A m c, .slice C n d] w fun e w' => e = .returned (.bool true) ∧ Below w.heap.size w w' := by
  obtain ⟨L, hl, hr, hb, _⟩ := came_row h
  by_cases hbig : 2000 < m ∨ 60 < n
  · exact (reads_big A C m c n d w hbig).mono fun e w' ⟨he, hs⟩ => ⟨he, hs.below⟩
  · exact (reads_small A C m c n d L asks w hl (by omega) hr hb hn (by omega) ha).mono fun e w' ⟨he, hs⟩ => ⟨he, hs.below⟩

end Go.Proofs.Ytogaolnnkjkgdaa.Cd
