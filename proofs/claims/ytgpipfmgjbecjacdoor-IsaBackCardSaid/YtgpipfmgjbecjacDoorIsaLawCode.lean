/-
  What the laws on instructions' bytes hold against each other; what is encoded is decoded again, and the other way round.
-/
import Derived.Test.YtgpipfmgjbecjacDoorIsaLawRight
import Derived.Laws.StructEq
set_option linter.unusedVariables false
namespace Go.Proofs.YtgpipfmgjbecjacDoor.Is
open Go.ChangeShapes Go.WideShapes Go.ChangeAt Go.RowKit Ws Cd Bt

theorem Code.drewN {w : World} {A : Option Addr} {l : List Ins} (h : Code w A l) (n : Nat) : Code (w.drewN n) A l := h

set_option maxRecDepth 100000 in
set_option maxHeartbeats 1000000 in
theorem code_same (A C : Option Addr) (n c d : Nat) (l : List Ins) (w : World) (hl : l.length = n) (hn : n ≤ 1048576) (h1 : Code w A l) (h2 : Code w C l) :
    Calls Tryd.prog 26 #[.slice A n c, .slice C n d] w fun e w' => e = .returned (.bool true) ∧ ∃ q, w' = w.drewN q := by
  have HL := Lib.hid hl
  have H1 := Lib.hid h1
  have H2 := Lib.hid h2
  have hnn : ((n : Int) != (n : Int)) = false := by simp
  clear hl h1 h2
  go_enter Tryd.func26, Tryd.ntmps26
  go_wp2_with fail
  go_loopg [13] n (fun gk i wx => ∃ k : Nat, k + gk = n ∧ i = .int .i64 k ∧ ∃ q, wx = w.drewN q)
  case atStart => exact ⟨0, by omega, rfl, 0, rfl⟩
  case round =>
    obtain ⟨k, hkg, rfl, q, rfl⟩ := hrel
    cases gk with
    | zero =>
      obtain rfl : k = n := by omega
      have hkk : ¬ (k : Int) < k := by omega
      go_wp2_with fail
      go_ret
      exact ⟨rfl, q, rfl⟩
    | succ gk =>
      have hkk : (k : Int) < n := by omega
      have hkn : k < n := by omega
      obtain ⟨x, hx⟩ : ∃ x, l[k]? = some x := ⟨_, List.getElem?_eq_getElem (by have := HL.out; omega)⟩
      obtain ⟨_, b, o, rfl, c0, c1, c2, c3, c4⟩ := H1.out.at_ hx
      obtain ⟨_, b', o', rfl, d0, d1, d2, d3, d4⟩ := H2.out.at_ hx
      clear hx
      go_wp2_with fail
      go_quiet (fail)
      go_wp2_with fail
      go_roundg gk
      case measure => omega
      case rel => exact ⟨k + 1, by omega, by go_num, q + nq, by simp⟩

/-- what Encode gives, and what Decode gives -/
def encV (l : List Ins) : List Int := if allRight l then encL l else []
theorem encV_by (l : List Ins) : By (encV l) := by
  unfold encV
  split
  · exact encL_by l
  · exact fun x hx => by simp at hx
theorem encV_len (l : List Ins) : (encV l).length ≤ l.length * 8 := by
  unfold encV
  split
  · exact Nat.le_of_eq (encL_len l)
  · simp
def EncUni (w : World) (l : List Ins) (e : Ending) (w' : World) : Prop :=
  ∃ A c, e = .returned (.tuple #[.slice A (encV l).length c, .bool (allRight l)]) ∧ Row w' A (by8 (encV l)) ∧ Same w w'
theorem enc_uni {w : World} {l : List Ins} {e : Ending} {w' : World} (h : EncPost w l e w') : EncUni w l e w' := by
  rcases h with ⟨ha, A, c, rfl, hr, hs⟩ | ⟨ha, rfl, hs⟩
  · have e : encV l = encL l := by unfold encV; rw [if_pos ha]
    exact ⟨A, c, by rw [e, encL_len, ha], by rw [e]; exact hr, hs⟩
  · have e : encV l = [] := by unfold encV; rw [if_neg (by rw [ha]; decide)]
    exact ⟨none, 0, by rw [e, ha]; rfl, by rw [e]; exact Row.nil _ _, hs⟩

def decV (l : List Int) : List Ins := match badAt l with
  | some _ => []
  | none => if l.length % 8 = 0 then decP l (l.length / 8) else []
def placeV (l : List Int) : Int := match badAt l with
  | some k => (k : Int)
  | none => if l.length % 8 = 0 then 0 else ((l.length / 8 : Nat) : Int)
def errV (l : List Int) : Int := match badAt l with
  | some _ => 4
  | none => if l.length % 8 = 0 then 0 else 2
def DecUni (w : World) (l : List Int) (e : Ending) (w' : World) : Prop :=
  ∃ A c, e = .returned (.tuple #[.slice A (decV l).length c, .int .i64 (placeV l), .int .i64 (errV l)]) ∧ Code w' A (decV l) ∧ Same w w'
theorem dec_uni {w : World} {l : List Int} {e : Ending} {w' : World} (h : DecPost w l e w') : DecUni w l e w' := by
  obtain ⟨hs, h⟩ := h
  unfold DecUni decV placeV errV
  cases hb : badAt l with
  | some k =>
    rw [hb] at h
    exact ⟨none, 0, h, Code.nil _ _, hs⟩
  | none =>
    rw [hb] at h
    simp only at h ⊢
    by_cases hm : l.length % 8 = 0
    · rw [if_pos hm] at h
      obtain ⟨A, c, he, hc⟩ := h
      rw [if_pos hm, if_pos hm, if_pos hm]
      exact ⟨A, c, by rw [decP_len]; exact he, hc, hs⟩
    · rw [if_neg hm] at h
      rw [if_neg hm, if_neg hm, if_neg hm]
      exact ⟨none, 0, h, Code.nil _ _, hs⟩
theorem decV_len (l : List Int) : (decV l).length ≤ l.length := by
  unfold decV
  split
  · simp
  · split
    · rw [decP_len]; omega
    · simp

/-- the law's arguments: a program that came in -/
theorem code_in {w : World} {A : Option Addr} {rows : List (List Int)} (h : Fl.Rows w A [.i64, .i64, .i64, .i64, .u32] rows) : ∃ l : List Ins, l.length = rows.length ∧ Code w A l := by
  refine ⟨rows.map fun r => ⟨r.getD 0 0, r.getD 1 0, r.getD 2 0, r.getD 3 0, r.getD 4 0⟩, by simp, ?_⟩
  intro i x hx
  rw [List.getElem?_map] at hx
  cases hr : rows[i]? with
  | none => rw [hr] at hx; cases hx
  | some r =>
    rw [hr] at hx
    injection hx with hx
    obtain ⟨hf, b, o, hA, hc⟩ := h i r hr
    obtain ⟨hl, hw⟩ := hf
    match r, hl with
    | [op, a, bb, c, n], _ =>
      subst hx
      exact ⟨u32_of (hw 4 .u32 rfl), b, o, hA, fun j v hv => hc j v hv⟩

theorem bytes_in {l : List Int} (h : ∀ x ∈ l, (Lit.int .u8 x).wf = true) : By l := by
  intro x hx
  have := h x hx
  simp only [Lit.wf, IntKind.min, IntKind.max, IntKind.signed, IntKind.bits, Bool.and_eq_true] at this
  simp at this
  omega

set_option maxRecDepth 100000 in
set_option maxHeartbeats 2000000 in
theorem lbytes_small (A C : Option Addr) (n m c d : Nat) (p : List Ins) (b : List Int) (w : World) (hp : p.length = n) (hb : b.length = m) (hn : n ≤ 100) (hm : m ≤ 1000) (hd : m ≤ d) (hdm : d ≤ 9223372036854775807) (h1 : Code w A p) (h2 : Row w C (by8 b)) (hby : By b) (ht : Tabs w) :
    Calls Tryd.prog 4 #[.slice A n c, .slice C m d] w fun e w' => e = .returned (.bool true) ∧ Same w w' := by
  have e1 : ¬ (100 : Int) < (n : Int) := by omega
  have e2 : ¬ (1000 : Int) < (m : Int) := by omega
  have HP := Lib.hid hp
  have HB := Lib.hid hb
  have HT := Lib.hid ht
  have HBY := Lib.hid hby
  have HX := Lib.hid (show (encV p).length ≤ 65536 by have := encV_len p; omega)
  have HM := Lib.hid (show (decV b).length ≤ 1048576 by have := decV_len b; omega)
  clear hp hb ht hby
  obtain ⟨t, htt⟩ : ∃ t, t = allRight p := ⟨_, rfl⟩
  obtain ⟨xs, hxs⟩ : ∃ xs, xs = encV p := ⟨_, rfl⟩
  obtain ⟨nx, hnx⟩ : ∃ nx, nx = xs.length := ⟨_, rfl⟩
  obtain ⟨ms, hms⟩ : ∃ ms, ms = decV b := ⟨_, rfl⟩
  obtain ⟨nm, hnm⟩ : ∃ nm, nm = ms.length := ⟨_, rfl⟩
  obtain ⟨pl, hpl⟩ : ∃ pl, pl = placeV b := ⟨_, rfl⟩
  obtain ⟨er, her⟩ : ∃ er, er = errV b := ⟨_, rfl⟩
  have U1 := Lib.hid (show ∀ (w : World) (e : Ending) (w' : World), EncPost w p e w' → ∃ A c, e = .returned (.tuple #[.slice A nx c, .bool t]) ∧ Row w' A (by8 xs) ∧ Same w w' from fun _ _ _ h => by rw [htt, hnx, hxs]; exact enc_uni h)
  have U2 := Lib.hid (show ∀ (w : World) (e : Ending) (w' : World), DecPost w b e w' → ∃ A c, e = .returned (.tuple #[.slice A nm c, .int .i64 pl, .int .i64 er]) ∧ Code w' A ms ∧ Same w w' from fun _ _ _ h => by rw [hpl, her, hnm, hms]; exact dec_uni h)
  have BX := Lib.hid (show By xs by rw [hxs]; exact encV_by p)
  have NX := Lib.hid hnx
  have NM := Lib.hid hnm
  have M1 := Lib.hid (show nm ≤ 1048576 by rw [hnm, hms]; exact HM.out)
  have g1 : (pl == pl) = true := by simp
  have g2 : (er == er) = true := by simp
  have H1 := Lib.hid h1
  have H2 := Lib.hid h2
  clear htt hxs hnx hms hnm hpl her h1 h2
  go_enter Tryd.func4, Tryd.ntmps4
  go_wp2_with fail
  refine (encode_any A n c p _ HP.out (by omega) H1.out HT.out).mono ?_
  intro e w1 hq
  obtain ⟨X, cx, rfl, rx, s1⟩ := U1.out _ _ _ hq
  clear hq
  go_wp2_with fail
  refine (rencode_any A n c p _ HP.out (by omega) (H1.out.same s1)).mono ?_
  intro e w2 hq
  obtain ⟨Y, cy, rfl, ry, s2⟩ := U1.out _ _ _ hq
  clear hq
  have t2 := s1.trans s2
  go_wp2_with fail
  refine (decode_any C m d b _ HB.out (by omega) HBY.out (H2.out.same t2) (HT.out.same t2)).mono ?_
  intro e w3 hq
  obtain ⟨L, cl, rfl, rl, s3⟩ := U2.out _ _ _ hq
  clear hq
  have t3 := t2.trans s3
  go_wp2_with fail
  refine (rdecode_any C m d b _ HB.out (by omega) hd hdm HBY.out (H2.out.same t3)).mono ?_
  intro e w4 hq
  obtain ⟨M, cm, rfl, rm, s4⟩ := U2.out _ _ _ hq
  clear hq
  have t4 := t3.trans s4
  go_wp2_with fail
  refine (bytes_eq X Y nx nx cx cy xs xs _ NX.out.symm NX.out.symm (rx.same (s2.trans (s3.trans s4))) (ry.same (s3.trans s4)) BX.out BX.out).mono ?_
  rintro e w5 ⟨rfl, rfl⟩
  rw [decide_eq_true rfl]
  have rl4 := rl.same s4
  clear rx ry rl s1 s2 s3 s4 t2 t3
  cases t
  all_goals
    go_wp2_with fail
    refine (code_same L M nm cl cm ms _ NM.out.symm M1.out rl4 rm).mono ?_
    rintro e w6 ⟨rfl, q, rfl⟩
    have t6 := t4.drewN q
    go_wp2_with fail
    refine (iawake _ (HT.out.same t6)).mono ?_
    rintro e w7 ⟨rfl, s7⟩
    go_wp2_with fail
    go_ret
    exact ⟨rfl, t6.trans s7⟩

set_option maxRecDepth 100000 in
theorem lbytes_big (A C : Option Addr) (n m c d : Nat) (w : World) (h : 100 < n ∨ 1000 < m) (ht : Tabs w) :
    Calls Tryd.prog 4 #[.slice A n c, .slice C m d] w fun e w' => e = .returned (.bool true) ∧ Same w w' := by
  have HT := Lib.hid ht
  clear ht
  by_cases h1 : 100 < n
  · have e1 : (100 : Int) < (n : Int) := by omega
    go_enter Tryd.func4, Tryd.ntmps4
    go_wp2_with fail
    refine (iawake _ HT.out).mono ?_
    rintro e w7 ⟨rfl, s7⟩
    go_wp2_with fail
    go_ret
    exact ⟨rfl, s7⟩
  · have e1 : ¬ (100 : Int) < (n : Int) := by omega
    have e2 : (1000 : Int) < (m : Int) := by omega
    have e3 : decide ((1000 : Int) < (m : Int)) = true := decide_eq_true e2
    go_enter Tryd.func4, Tryd.ntmps4
    go_wp2_with fail
    refine (iawake _ HT.out).mono ?_
    rintro e w7 ⟨rfl, s7⟩
    go_wp2_with fail
    go_ret
    exact ⟨rfl, s7⟩

theorem lbytes_walk (A C : Option Addr) (n m c d : Nat) (rows : List (List Int)) (b : List Int) (w : World) (hr : Fl.Rows w A [.i64, .i64, .i64, .i64, .u32] rows) (hl : rows.length = n) (hb : b.length = m) (h2 : Row w C (b.map (Value.int .u8))) (hx : ∀ x ∈ b, (Lit.int .u8 x).wf = true) (hd : m ≤ d) (hdm : d ≤ maxLen) (ht : Tabs w) :
    Calls Tryd.prog 4 #[.slice A n c, .slice C m d] w fun e w' => e = .returned (.bool true) ∧ Same w w' := by
  by_cases h : n ≤ 100 ∧ m ≤ 1000
  · obtain ⟨p, hp, hc⟩ := code_in hr
    unfold maxLen at hdm
    exact lbytes_small A C n m c d p b w (hp.trans hl) hb h.1 h.2 hd (by omega) hc h2 (bytes_in hx) ht
  · exact lbytes_big A C n m c d w (by omega) ht

end Go.Proofs.YtgpipfmgjbecjacDoor.Is
