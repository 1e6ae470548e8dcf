/-
  The walk of the law CodecOwn: it returns true whatever the bytes and the number are.
-/
import Derived.Test.YtogaolnnkjkgdaaCodecLaws
namespace Go.Proofs.Ytogaolnnkjkgdaa.Cd
open Go.ChangeShapes Go.WideShapes Go.ChangeAt Go.RowKit Ws

def inc (x : Int) : Int := (x + 1) % 256

theorem own_cell {w : World} {B g c : Nat} {l : List Int} (h : Own w B 5 (some ⟨g, 0, none⟩) c (by8 l)) (k : Nat) (hk : k < l.length) :
    w.cell? ⟨g, k, none⟩ = some (.int .u8 l[k]) ∧ w.frozen? ⟨g, k, none⟩ = false ∧ B ≤ g := by
  obtain ⟨g', hg', hB, _, hf⟩ := h.thaw (by rw [by8_len]; omega)
  injection hg' with hg'
  injection hg' with hg'
  subst hg'
  obtain ⟨b, o, hA, hc⟩ := h.row.at_ (k := k) (by rw [by8_len]; exact hk)
  injection hA with hA
  injection hA with h1 h2
  subst h1
  subst h2
  refine ⟨?_, hf k, hB⟩
  rw [Nat.zero_add] at hc
  simpa [by8] using hc

theorem by8_set (l : List Int) (k : Nat) (x : Int) : (by8 l).set k (.int .u8 x) = by8 (l.set k x) := by simp [by8, List.map_set]

def OwnRel2 (w0 : World) (B m : Nat) (A : Option Addr) (c : Nat) (i : Value) (wr : World) : Prop :=
  ∃ (k : Nat) (l' : List Int), k ≤ m ∧ i = .int .i64 k ∧ l'.length = m ∧ By l' ∧ Own wr B 5 A c (by8 l') ∧ Chg (fun i => B ≤ i) w0 wr
theorem own_step2 {w0 wr : World} {B m g c k : Nat} {l' : List Int} (hk : k < m) (hl : l'.length = m) (hb : By l') (ho : Own wr B 5 (some ⟨g, 0, none⟩) c (by8 l')) (hc : Chg (fun i => B ≤ i) w0 wr) (x : Int) :
    OwnRel2 w0 B m (some ⟨g, 0, none⟩) c (.int .i64 ((k : Int) + 1)) (wr.setCell ⟨g, k, none⟩ (.int .u8 (x % 256))) := by
  refine ⟨k + 1, l'.set k (x % 256), by omega, by go_num, by rw [List.length_set]; exact hl, ?_, ?_, hc.set (.inl (own_lt ho).1) _⟩
  · intro y hy
    rcases List.mem_or_eq_of_mem_set hy with h | h
    · exact hb y h
    · omega
  · rw [← by8_set]
    exact ho.put k _

theorem big_own (A : Option Addr) (m c : Nat) (n : Int) (w : World) (hm : 500 < m) :
    Calls Try.prog 8 #[.slice A m c, .int .i64 n] w fun e w' => e = .returned (.bool true) ∧ Same w w' := by
  have h1 : (500 : Int) < (m : Int) := by omega
  go_enter Try.func8, Try.ntmps8
  go_wp2_with fail
  refine (cawake _).mono ?_
  rintro e w1 ⟨rfl, s1⟩
  go_wp2
  go_ret
  exact ⟨rfl, s1⟩

/-- a loop that changes a row of the call's own, byte by byte: all else is as it was -/
def OwnRel (w0 : World) (B m g c : Nat) (i : Value) (wr : World) : Prop :=
  ∃ (k : Nat) (l' : List Int), k ≤ m ∧ i = .int .i64 k ∧ l'.length = m ∧ By l' ∧ Own wr B 5 (some ⟨g, 0, none⟩) c (by8 l') ∧ Chg (fun i => i = g) w0 wr
theorem own_step {w0 wr : World} {B m g c k : Nat} {l' : List Int} (hk : k < m) (hl : l'.length = m) (hb : By l') (ho : Own wr B 5 (some ⟨g, 0, none⟩) c (by8 l')) (hc : Chg (fun i => i = g) w0 wr) (x : Int) :
    OwnRel w0 B m g c (.int .i64 ((k : Int) + 1)) (wr.setCell ⟨g, k, none⟩ (.int .u8 (x % 256))) := by
  refine ⟨k + 1, l'.set k (x % 256), by omega, by go_num, by rw [List.length_set]; exact hl, ?_, ?_, hc.set (.inl rfl) _⟩
  · intro y hy
    rcases List.mem_or_eq_of_mem_set hy with h | h
    · exact hb y h
    · omega
  · rw [← by8_set]
    exact ho.put k _

set_option maxHeartbeats 1000000 in
set_option maxRecDepth 100000 in
theorem own_small (A : Option Addr) (m c : Nat) (l : List Int) (n : Int) (w : World) (hl : l.length = m) (hm : m ≤ 500) (hr : Row w A (by8 l)) (hb : By l) :
    Calls Try.prog 8 #[.slice A m c, .int .i64 n] w fun e w' => e = .returned (.bool true) ∧ Same w w' := by
  obtain ⟨i0, hi, hz0, hz1, hz2⟩ := info_parts u8_info
  have h1 : ¬ (500 : Int) < (m : Int) := by omega
  have HL := Lib.hid hl
  have LM := Lib.hid (show (by8 l).length = m by rw [by8_len, hl])
  clear hl
  go_enter Try.func8, Try.ntmps8
  go_wp2_with (first
    | (at_builtin; refine wpList_app rfl (.tmp 16) (.tmp 17) 27 rfl w.heap.size 5 i0 _ 1 Try.underlying27 hi hz0 hz1 hz2 rfl _ _ _ [] rfl rfl (own_none w 5) A m c (by8 l) rfl LM.out (hr.same ((Same.refl _).alloc _)) (by8_one _) (by rw [LM.out]; simp; omega) (by omega) (by simp) ?k1)
    | fail)
  case k1 =>
    intro A1 c1 w1 o1 h1' hA1
    obtain ⟨ga, rfl⟩ : ∃ ga, A1 = some ⟨ga, 0, none⟩ := by rcases hA1 with h | h <;> exact ⟨_, h⟩
    clear hA1
    have t1 : Same w w1 := Same.more ((Same.refl w).alloc (.cells #[] 5)) h1' (fun i hi => by
      have hi : w.heap.size = i := by simpa using hi
      omega)
    clear h1'
    have r1 := o1.row
    go_wp2_with (first
      | (at_builtin; refine wpList_app rfl (.tmp 19) (.tmp 20) 27 rfl w1.heap.size 5 i0 _ 1 Try.underlying27 hi hz0 hz1 hz2 rfl _ _ _ [] rfl rfl (own_none w1 5) A m c (by8 l) rfl LM.out ((hr.same t1).same ((Same.refl _).alloc _)) (by8_one _) (by rw [LM.out]; simp; omega) (by omega) (by simp) ?k2)
      | fail)
    case k2 =>
      intro A2 c2 w2 o2 h2' hA2
      obtain ⟨gb, rfl⟩ : ∃ gb, A2 = some ⟨gb, 0, none⟩ := by rcases hA2 with h | h <;> exact ⟨_, h⟩
      clear hA2
      have s2 : Same w1 w2 := Same.more ((Same.refl w1).alloc (.cells #[] 5)) h2' (fun i hi => by
        have hi : w1.heap.size = i := by simpa using hi
        omega)
      clear h2'
      have t2 := t1.trans s2
      have r2 := r1.same s2
      go_wp2_with fail
      have la := own_lt o1
      have lb := own_lt o2
      refine (new_any _ m c2 l w2 HL.out (by omega) o2.row).mono ?_
      rintro e w3 ⟨g, rfl, s3, d3⟩
      have t3 := t2.trans s3
      have r3 := r2.same s3
      have o3 := o2.same s3
      go_wp2
      go_loopw [8, 26] (fun _ i wr => OwnRel w3 w1.heap.size m gb c2 i wr) (fun _ i _ => m - (intOf i).toNat)
      case atStart => exact ⟨0, l, Nat.zero_le _, rfl, HL.out, hb, o3, Chg.refl _ _⟩
      case round =>
        obtain ⟨k, l', hk, rfl, hl', hb', ho', hc'⟩ := hrel
        by_cases hlt : k < m
        · obtain ⟨e1, f1, _⟩ := own_cell ho' k (by omega)
          obtain ⟨x, hx⟩ : ∃ x, x = l'[k] := ⟨_, rfl⟩
          rw [← hx] at e1
          have hst := own_step hlt hl' hb' ho' hc' (x + 1)
          have HS := Lib.hid hst
          clear hst hx hl' o3 o1 o2 hb' ho' hc'
          have hkm : (k : Int) < m := by omega
          go_wp2
          go_roundw
          case rel => exact HS.out
          case measure => simp [intOf]; omega
        · have hc4 := hc'
          have t4 : Same w wr := t3.more hc4 fun i hi => by
            have := t1.size
            omega
          have r4 := r3.chg hc4 fun b o hA _ hh => by
            injection hA with hA
            injection hA with hA
            omega
          have d4 := d3.chg hc4 fun i hi hh => by omega
          have z1 := s2.size
          have z2 := s3.size
          have z3 := hc4.size
          clear ho' hc' hc4 hl' hb'
          have hkm : ¬ (k : Int) < m := by omega
          go_wp2_with fail
          refine (u8_nil _).mono ?_
          rintro e w5 ⟨rfl, rfl⟩
          go_wp2_with fail
          refine (u16_nil _).mono ?_
          rintro e w5 ⟨rfl, rfl⟩
          go_wp2_with fail
          refine (u32_nil _).mono ?_
          rintro e w5 ⟨rfl, rfl⟩
          go_wp2_with fail
          refine (bytes_nil _ _).mono ?_
          rintro e w5 ⟨Az, cz, rfl, s5⟩
          go_wp2_with fail
          refine (left_nil _).mono ?_
          rintro e w6 ⟨rfl, rfl⟩
          go_wp2_with fail
          refine (err_nil _).mono ?_
          rintro e w6 ⟨rfl, rfl⟩
          go_wp2_with fail
          refine (done_nil _).mono ?_
          rintro e w6 ⟨rfl, rfl⟩
          have t5 := t4.trans s5
          have r5 := r4.same s5
          have d5 := d4.same s5
          have gsz := t5.size
          have z4 := s5.size
          have hB : ∀ {wa wb : World}, Same w wa → Chg (fun i => w2.heap.size ≤ i) wa wb → Same w wb := fun s c => Same.more s c fun i hi => by
            have := t2.size
            omega
          by_cases hout : n < 0 ∨ (m : Int) < n
          · have hL : n < 0 ∨ (l.length : Int) - (0 : Nat) < n := by have := HL.out; omega
            by_cases hn0 : n < 0
            all_goals
              go_wp2_with fail
              refine (bytes_out n hL _ d5).mono ?_
              rintro e w6 ⟨Ab, cb, rfl, d6, c6⟩
              have t6 := hB t5 c6
              go_wp2_with fail
              refine (left_is _ d6).mono ?_
              rintro e w7 ⟨rfl, s7⟩
              have d7 := d6.same s7
              have t7 := t6.trans s7
              rw [show (if true = true then (0 : Int) else ((l.length - 0 : Nat) : Int)) = 0 from rfl]
              go_wp2_with fail
              refine (done_is _ d7).mono ?_
              rintro e w8 ⟨rfl, s8⟩
              have t8 := t7.trans s8
              rw [show doneOf l 0 true = 2 from rfl]
              go_wp2_with fail
              refine (cawake _).mono ?_
              rintro e w9 ⟨rfl, s9⟩
              go_wp2
              go_ret
              exact ⟨rfl, t8.trans s9⟩
          · obtain ⟨j, rfl⟩ := Int.eq_ofNat_of_zero_le (show 0 ≤ n by omega)
            have hj : ¬ (m : Int) < (j : Int) := by omega
            have hj0 : ¬ (j : Int) < 0 := by omega
            clear hout
            have djm : j ≤ m := by omega
            go_wp2_with fail
            have d5w := d5.within
            refine (bytes_any j _ d5w).mono ?_
            rintro e w6 ⟨Ax, mx, cx, rfl, hmx, ox, d6, c6⟩
            have tj : told l 0 j false = l.take j ∧ after l 0 j false = (j, false) := by
              unfold told after
              have := HL.out
              rw [if_pos ⟨rfl, by omega⟩, if_pos ⟨rfl, by omega⟩]
              exact ⟨by rw [List.drop_zero], by rw [Nat.zero_add]⟩
            rw [tj.1] at hmx ox
            rw [tj.2] at d6
            have hmj : mx = j := by rw [← hmx, List.length_take]; have := HL.out; omega
            clear tj hmx
            subst hmj
            have t6 := hB t5 (c6.weak fun i _ hi => hi.1)
            have r6 := r5.chg c6 fun b o hA _ hh => by
              injection hA with hA
              injection hA with hA
              have := hh.1
              omega
            clear c6 d5 d5w d4 d3 r5 r4 r3 r2 r1 o3 o1 o2
            have z5 : w1.heap.size ≤ w5.heap.size := by omega
            clear z1 z2 z3 z4 hk
            go_wp2
            go_loopw [11, 102] (fun _ i wr => OwnRel2 w6 w5.heap.size mx Ax cx i wr) (fun _ i _ => mx - (intOf i).toNat)
            case atStart => exact ⟨0, l.take mx, Nat.zero_le _, rfl, by rw [List.length_take]; have := HL.out; omega, fun x hx => hb x (List.mem_of_mem_take hx), ox, Chg.refl _ _⟩
            case round =>
              obtain ⟨q, lq, hq, rfl, hlq, hbq, hoq, hcq⟩ := hrel
              by_cases hlt2 : q < mx
              · obtain ⟨gx, rfl, _, _, _⟩ := hoq.thaw (by rw [by8_len]; omega)
                obtain ⟨e1, f1, _⟩ := own_cell hoq q (by omega)
                obtain ⟨x, hx⟩ : ∃ x, x = lq[q] := ⟨_, rfl⟩
                rw [← hx] at e1
                have HS := Lib.hid (own_step2 hlt2 hlq hbq hoq hcq (x + 1))
                clear hx hlq hbq hoq hcq ox r6 d6
                have hqm : (q : Int) < mx := by omega
                go_wp2
                go_roundw
                case rel => exact HS.out
                case measure => simp [intOf]; omega
              · have t7 := t6.more hcq fun i hi => by omega
                have r7 := r6.chg hcq fun b o hA _ hh => by
                  injection hA with hA
                  injection hA with hA
                  omega
                have d7 := d6.chg hcq fun i hi hh => by
                  have := hi.2
                  omega
                have hsz7 := hcq.size
                clear hoq hcq hlq hbq r6 d6 ox
                have hqm : ¬ (q : Int) < mx := by omega
                have hdl := Lib.hid (show (l.drop mx).length = m - mx by rw [List.length_drop, HL.out])
                have hbd : By (l.drop mx) := fun x hx => hb x (List.mem_of_mem_drop hx)
                have lc : m ≤ c1 ∧ c1 ≤ 9223372036854775807 := by
                  have h1 := la.2.2
                  rw [by8_len, HL.out] at h1
                  exact h1
                have tj : told l mx (m - mx) false = l.drop mx := by
                  unfold told
                  have := HL.out
                  rw [if_pos ⟨rfl, by omega⟩, List.take_of_length_le (by rw [List.length_drop]; omega)]
                have TJ := Lib.hid tj
                clear tj
                have step8 : ∀ (W1 W2 : World) (my : Nat) (Ay : Option Addr) (cy : Nat), Same w W1 → Row W1 (some ⟨ga, 0, none⟩) (by8 l) → (told l mx (m - mx) false).length = my → Own W2 W1.heap.size 5 Ay cy (by8 (told l mx (m - mx) false)) →
                    Chg (fun i => w2.heap.size ≤ i ∧ i < w5.heap.size) W1 W2 → Same w W2 ∧ Row W2 (some ⟨ga, 0, none⟩) (by8 l) ∧ my = m - mx ∧ Row W2 Ay (by8 (l.drop mx)) := by
                  intro W1 W2 my Ay cy h1 h2 h3 h4 h5
                  rw [TJ.out] at h3 h4
                  refine ⟨hB h1 (h5.weak fun i _ hi => hi.1), h2.chg h5 fun b o hA _ hh => ?_, by rw [← h3, hdl.out], h4.row⟩
                  injection hA with hA
                  injection hA with hA
                  have := hh.1
                  omega
                have S8 := Lib.hid step8
                clear step8
                have rsub : ∀ W : World, Row W (some ⟨ga, 0, none⟩) (by8 l) → Row W (some ⟨ga, mx, none⟩) (by8 (l.drop mx)) := fun W h => by
                  have rs := h.sub mx
                  rw [Nat.zero_add, ← by8_drop] at rs
                  exact rs
                have RS := Lib.hid rsub
                clear rsub
                have lc1 : (mx : Int) ≤ m := by omega
                have lc2 : (m : Int) ≤ c1 := by omega
                have lc3 : (0 : Int) ≤ mx := by omega
                have hmm : IntKind.i64.wrap ((m : Int) - mx) = ((m - mx : Nat) : Int) := by
                  rw [Go.IntWalk.i64_in _ (by omega)]
                  omega
                have t7' : Same w wr.drew := t7.drew
                by_cases hck : c1 = mx
                · have hl0 : l.drop mx = [] := List.eq_nil_of_length_eq_zero (by rw [hdl.out]; omega)
                  have HN := Lib.hid hl0
                  clear hl0
                  have hck' := hck.symm
                  clear hck
                  subst hck'
                  have hmx : mx = m := by omega
                  subst hmx
                  rw [Nat.sub_self] at S8 hdl
                  clear hmm lc1 lc2
                  go_wp2_with fail
                  go_region_held3 (fun w' => Same w w' ∧ Row w' (some ⟨ga, 0, none⟩) (by8 l))
                    (first | assumption | exact ⟨t7', r7.drew⟩ | exact ⟨t8, r8⟩ | exact ⟨t8, r8⟩ | exact ⟨Same.trans t8 si, Row.same r8 si⟩)
                    (first
                      | (go_at_call 29; refine (bytes_any 0 _ (d7.same ((Same.refl _).drew))).mono ?_; rintro e w8 ⟨Ay, my, cy, rfl, hmy, oy, d8, c8⟩; obtain ⟨t8, r8, rfl, ry⟩ := S8.out _ _ _ _ _ t7' r7.drew hmy oy c8; clear hmy oy d8 c8)
                      | (go_at_call 28; refine (bytes_eq _ _ 0 0 _ _ (l.drop mx) (l.drop mx) _ hdl.out hdl.out ry (by rw [HN.out]; exact Row.nil _ _) hbd hbd).mono ?_; rintro e w9 ⟨rfl, rfl⟩; rw [decide_eq_true rfl])
                      | (go_at_call 22; refine (cawake _).mono ?_; rintro e w10 ⟨rfl, si⟩))
                  rcases ‹Same w _ ∧ Row _ _ _› with ⟨z, _⟩
                  go_wp2
                  go_ret
                  exact ⟨rfl, z⟩
                · go_wp2_with fail
                  go_region_held3 (fun w' => Same w w' ∧ Row w' (some ⟨ga, 0, none⟩) (by8 l))
                    (first | assumption | exact ⟨t7', r7.drew⟩ | exact ⟨t8, r8⟩ | exact ⟨t8, r8⟩ | exact ⟨Same.trans t8 si, Row.same r8 si⟩)
                    (first
                      | (go_at_call 29; refine (bytes_any (m - mx) _ (d7.same ((Same.refl _).drew))).mono ?_; rintro e w8 ⟨Ay, my, cy, rfl, hmy, oy, d8, c8⟩; obtain ⟨t8, r8, rfl, ry⟩ := S8.out _ _ _ _ _ t7' r7.drew hmy oy c8; clear hmy oy d8 c8)
                      | (go_at_call 28; refine (bytes_eq _ _ (m - mx) (m - mx) _ _ (l.drop mx) (l.drop mx) _ hdl.out hdl.out ry (RS.out _ r8) hbd hbd).mono ?_; rintro e w9 ⟨rfl, rfl⟩; rw [decide_eq_true rfl])
                      | (go_at_call 22; refine (cawake _).mono ?_; rintro e w10 ⟨rfl, si⟩))
                  rcases ‹Same w _ ∧ Row _ _ _› with ⟨z, _⟩
                  go_wp2
                  go_ret
                  exact ⟨rfl, z⟩

theorem own_walk (A : Option Addr) (m c : Nat) (zs : List Int) (n : Int) (w : World) (h : Came .u8 w A m c zs) :
    Calls Try.prog 8 #[.slice A m c, .int .i64 n] w fun e w' => e = .returned (.bool true) ∧ Below w.heap.size w w' := by
  obtain ⟨l, hl, hr, hb, _⟩ := came_row h
  by_cases hm : m ≤ 500
  · exact (own_small A m c l n w hl hm hr hb).mono fun e w' ⟨he, hs⟩ => ⟨he, hs.below⟩
  · exact (big_own A m c n w (by omega)).mono fun e w' ⟨he, hs⟩ => ⟨he, hs.below⟩

end Go.Proofs.Ytogaolnnkjkgdaa.Cd
