/-

  How an operation on four slots begins, whatever is asked for; and a step of it, whether it goes or not.
-/
import Derived.Test.YtejajmdmfipplabDoorChenGo
import Derived.Test.YtejajmdmfipplabDoorChenShapes
import Derived.Test.YtejajmdmfipplabDoorOpCab
set_option linter.unusedSimpArgs false
set_option linter.unusedVariables false
namespace Go.Proofs.YtejajmdmfipplabDoor.Ch
open Go.ChangeShapes Go.WideShapes Go.ChangeAt Go.RowKit Ws Mm Pa
open Go.Proofs.YtejajmdmfipplabDoor.Ob (obegin_arg1 obegin_arg2 obegin_call obegin_range_wr obegin_range_rd obegin_form_wr obegin_form_rd)

/-- why an operation does not begin; 0: it does -/
def bcode (r : Bool) (at_ op reader wd : Int) (rl m : Nat) : Int :=
  if r = false then 1 else if at_ < 0 then 1 else if op ≠ 2 ∧ op ≠ 1 then 9 else
  if op = 2 then (if reader ≠ 0 then 5 else if (m : Int) ≠ wd then 4 else 0)
  else (if ¬ (0 ≤ reader ∧ reader ≤ (rl : Int) - 1) then 5 else if (m : Int) ≠ 0 then 4 else 0)

theorem begin_no (k wd sl cp sa ow : Int) (ia ra : Option Addr) (il ic rl rc : Nat) (at_ op reader : Int) (A : Option Addr) (m c : Nat) (w : World) (hm : m ≤ 5000) (code : Int) (hcode : bcode (decide (k = 2) && rightB wd sl cp sa il rl) at_ op reader wd rl m = code) (hne : code ≠ 0) (hsa : 0 ≤ sa ∧ sa < 4294967296 := by assumption) :
    Calls Tryd.prog 15 #[.agg #[.int .i64 k, .int .i64 wd, .int .i64 sl, .int .i64 cp, .int .u32 sa, .slice ia il ic, .int .i64 ow, .slice ra rl rc], .int .i64 at_, .int .i64 op, .int .i64 reader, .slice A m c] w fun e w' => e = .returned (.tuple #[.pointer none, .int .i64 code]) ∧ Same w w' := by
  have hc : (code != 0) = true := by simpa using hne
  cases hr : (decide (k = 2) && rightB wd sl cp sa il rl)
  · rw [hr] at hcode
    unfold bcode at hcode
    rw [if_pos rfl] at hcode
    subst hcode
    have hn : k ≠ 2 ∨ rightB wd sl cp sa il rl = false := by
      by_cases hk : k = 2
      · right
        simpa [hk] using hr
      · exact .inl hk
    exact begin_err k wd sl cp sa ow ia ra il ic rl rc at_ op reader 0 1 A m c w hc (fun W => size_none k wd sl cp sa ow ia ra il ic rl rc W hn) (fun W _ => obegin_arg1 k wd sl cp sa ow ia ra il ic rl rc 0 at_ op reader A m c W rfl)
  · rw [hr] at hcode
    rw [Bool.and_eq_true] at hr
    obtain ⟨hk, hr⟩ := hr
    have hk : k = 2 := by simpa using hk
    subst hk
    have hq := HQ hr
    have hmn := Int.mul_nonneg (show (0 : Int) ≤ (rl : Int) + 2 by omega) (show 0 ≤ wd by omega)
    have hz : ((1 : Int) + (rl : Int) + ((rl : Int) + 2) * wd == 0) = false := by simp; omega
    unfold bcode at hcode
    rw [if_neg (by simp)] at hcode
    by_cases ha : at_ < 0
    · rw [if_pos ha] at hcode
      subst hcode
      exact begin_err 2 wd sl cp sa ow ia ra il ic rl rc at_ op reader _ 1 A m c w hc (fun W => size_yes wd sl cp sa ow ia ra il ic rl rc W hr) (fun W _ => obegin_arg2 2 wd sl cp sa ow ia ra il ic rl rc _ at_ op reader A m c W hz ha)
    rw [if_neg ha] at hcode
    by_cases hop : op ≠ 2 ∧ op ≠ 1
    · rw [if_pos hop] at hcode
      subst hcode
      exact begin_err 2 wd sl cp sa ow ia ra il ic rl rc at_ op reader _ 9 A m c w hc (fun W => size_yes wd sl cp sa ow ia ra il ic rl rc W hr) (fun W _ => obegin_call 2 wd sl cp sa ow ia ra il ic rl rc _ at_ op reader A m c W hz (by omega) (.inr (.inl rfl)) (by simpa using hop.1) (by simpa using hop.2))
    rw [if_neg hop] at hcode
    by_cases h2 : op = 2
    · subst h2
      rw [if_pos rfl] at hcode
      by_cases h5 : reader ≠ 0
      · rw [if_pos h5] at hcode
        subst hcode
        exact begin_err 2 wd sl cp sa ow ia ra il ic rl rc at_ 2 reader _ 5 A m c w hc (fun W => size_yes wd sl cp sa ow ia ra il ic rl rc W hr) (fun W _ => obegin_range_wr 2 wd sl cp sa ow ia ra il ic rl rc _ at_ reader A m c W hz (by omega) (.inr (.inl rfl)) h5)
      rw [if_neg h5] at hcode
      by_cases h4 : (m : Int) ≠ wd
      · rw [if_pos h4] at hcode
        subst hcode
        exact begin_err 2 wd sl cp sa ow ia ra il ic rl rc at_ 2 reader _ 4 A m c w hc (fun W => size_yes wd sl cp sa ow ia ra il ic rl rc W hr) (fun W _ => obegin_form_wr 2 wd sl cp sa ow ia ra il ic rl rc _ at_ reader A m c W hz (by omega) (.inr (.inl rfl)) hq.1 (by omega) hm (by simpa using h5) (by simpa using h4))
      rw [if_neg h4] at hcode
      exact absurd hcode.symm hne
    · have h1 : op = 1 := by omega
      subst h1
      rw [if_neg h2] at hcode
      by_cases h5 : ¬ (0 ≤ reader ∧ reader ≤ (rl : Int) - 1)
      · rw [if_pos h5] at hcode
        subst hcode
        exact begin_err 2 wd sl cp sa ow ia ra il ic rl rc at_ 1 reader _ 5 A m c w hc (fun W => size_yes wd sl cp sa ow ia ra il ic rl rc W hr) (fun W _ => obegin_range_rd 2 wd sl cp sa ow ia ra il ic rl rc _ at_ reader A m c W hz (by omega) (.inr (.inl rfl)) hq.1 (by omega) hm h5)
      rw [if_neg h5] at hcode
      by_cases h4 : (m : Int) ≠ 0
      · rw [if_pos h4] at hcode
        subst hcode
        exact begin_err 2 wd sl cp sa ow ia ra il ic rl rc at_ 1 reader _ 4 A m c w hc (fun W => size_yes wd sl cp sa ow ia ra il ic rl rc W hr) (fun W _ => obegin_form_rd 2 wd sl cp sa ow ia ra il ic rl rc _ at_ reader A m c W hz (by omega) (.inr (.inl rfl)) hq.1 (by omega) hm (by simpa using h5) (by simpa using h4))
      rw [if_neg h4] at hcode
      exact absurd hcode.symm hne

/-- an operation that begins: its numbers -/
structure Begins (k wd sl cp sa : Int) (il rl : Nat) (at_ op reader : Int) (m : Nat) (o : Op.Im) : Prop where
  kind : k = 2
  right : rightB wd sl cp sa il rl = true
  slots : sl = o.slots
  cap : cp = o.cap
  reader : reader = o.reader
  rdr : o.reader < rl
  wrdr : o.wr = true → o.reader = 0
  width : wd = o.width
  at_ : at_ = o.at_
  al : Op.chenAl o
  op : op = if o.wr then 2 else 1
  len : (m : Int) = if o.wr then wd else 0

theorem begins_of {k wd sl cp sa : Int} {il rl : Nat} {at_ op reader : Int} {m : Nat} (h : bcode (decide (k = 2) && rightB wd sl cp sa il rl) at_ op reader wd rl m = 0) : ∃ o : Op.Im, Begins k wd sl cp sa il rl at_ op reader m o ∧ o = ⟨o.at_, o.width, rl, o.slots, o.cap, o.reader, o.wr⟩ := by
  unfold bcode at h
  cases hr : (decide (k = 2) && rightB wd sl cp sa il rl)
  · rw [hr, if_pos rfl] at h
    cases h
  rw [hr, if_neg (by simp)] at h
  rw [Bool.and_eq_true] at hr
  obtain ⟨hk, hr⟩ := hr
  have hk : k = 2 := by simpa using hk
  have hq := HQ hr
  by_cases ha : at_ < 0
  · rw [if_pos ha] at h
    cases h
  rw [if_neg ha] at h
  by_cases hop : op ≠ 2 ∧ op ≠ 1
  · rw [if_pos hop] at h
    cases h
  rw [if_neg hop] at h
  by_cases h2 : op = 2
  · rw [if_pos h2] at h
    by_cases h5 : reader ≠ 0
    · rw [if_pos h5] at h
      cases h
    rw [if_neg h5] at h
    by_cases h4 : (m : Int) ≠ wd
    · rw [if_pos h4] at h
      cases h
    exact ⟨⟨at_.toNat, wd.toNat, rl, sl.toNat, cp.toNat, 0, true⟩, ⟨hk, hr, by simp only; omega, by simp only; omega, by simp only; omega, by simp only; omega, fun _ => rfl, by simp only; omega, by simp only; omega, ⟨⟨by simp only; omega, by simp only; omega⟩, ⟨by simp only; omega, by simp only; omega⟩, by simp only; omega⟩, by simp [h2], by simp; omega⟩, rfl⟩
  · rw [if_neg h2] at h
    by_cases h5 : ¬ (0 ≤ reader ∧ reader ≤ (rl : Int) - 1)
    · rw [if_pos h5] at h
      cases h
    rw [if_neg h5] at h
    by_cases h4 : (m : Int) ≠ 0
    · rw [if_pos h4] at h
      cases h
    exact ⟨⟨at_.toNat, wd.toNat, rl, sl.toNat, cp.toNat, reader.toNat, false⟩, ⟨hk, hr, by simp only; omega, by simp only; omega, by simp only; omega, by simp only; omega, fun h => (by cases h), by simp only; omega, by simp only; omega, ⟨⟨by simp only; omega, by simp only; omega⟩, ⟨by simp only; omega, by simp only; omega⟩, by simp only; omega⟩, by simp; omega, by simp; omega⟩, rfl⟩

theorem begin_yes {k wd sl cp sa : Int} {il rl : Nat} {at_ op reader : Int} {m : Nat} {o : Op.Im} (ow : Int) (ia ra : Option Addr) (ic rc : Nat) (A : Option Addr) (c : Nat) (rec : List Int) (w : World) (h : Begins k wd sl cp sa il rl at_ op reader m o) (ho : o = ⟨o.at_, o.width, rl, o.slots, o.cap, o.reader, o.wr⟩) (hrec : rec.length = m) (hrow : Row w A (rec.map (Value.int .u32))) (hsa : 0 ≤ sa ∧ sa < 4294967296 := by assumption) :
    Calls Tryd.prog 15 #[.agg #[.int .i64 k, .int .i64 wd, .int .i64 sl, .int .i64 cp, .int .u32 sa, .slice ia il ic, .int .i64 ow, .slice ra rl rc], .int .i64 at_, .int .i64 op, .int .i64 reader, .slice A m c] w (Begun o (1 + o.n + Op.csl o * o.width) rec w) := by
  obtain ⟨rfl, hr, rfl, rfl, rfl, hrd, hwd, rfl, rfl, hal, hop, hlen⟩ := h
  obtain ⟨a, W, n, s, cpn, rdr, wr⟩ := o
  injection ho with _ _ h1 _ _ _ _
  subst h1
  cases wr
  · simp only [Bool.false_eq_true, if_false] at hop hlen
    subst hop
    have : m = 0 := by omega
    subst this
    have : rec = [] := List.eq_nil_of_length_eq_zero hrec
    subst this
    exact begin_rd W s a cpn rdr sa ow ia ra il ic _ rc A c w hr hrd
  · simp only [if_true] at hop hlen
    subst hop
    have hr0 := hwd rfl
    simp only at hr0
    subst hr0
    have : m = W := by omega
    subst this
    exact begin_wr m s a cpn sa ow ia ra il ic _ rc rec A c w hr hrec hrow

/-- a step was asked for: what came of it -/
def Asked (R : Nat → Prop) (g gm : Nat) (T : TypeId) (o : Op.Im) (size : Nat) (s : Op.St) (l : List Int) (st : Int) (w : World) (e : Ending) (w' : World) : Prop :=
  e = .returned (.bool (Op.goes o size s l)) ∧ ∃ p', FB w' g T o size (Op.stepF Op.chen o size (s, l)).1 p' ∧ Mem w' R gm (Op.stepF Op.chen o size (s, l)).2 (if Op.goes o size s l then wrap64 (st + 1) else st) ∧ Chg (fun i => R i ∨ i = g) w w'

theorem step_any {R : Nat → Prop} {g gm : Nat} {T : TypeId} {p : Pt} {l : List Int} {st : Int} {o : Op.Im} {size most : Nat} {s : Op.St} (w : World) (hT : TZ w) (hgT : ¬ R 2 ∧ g ≠ 2) (h : FB w g T o size s p) (m : Mem w R gm l st) (hg : ¬ R g) (hl : Op.Wd l) (lv : Op.Live Op.chenOk Op.chenRank o most s) (hm : most ≤ 1000) (hw : Op.chenAl o) (hsz : size = 1 + o.n + Op.csl o * o.width) :
    Calls Tryd.prog 21 #[.pointer (some ⟨g, 0, none⟩), .pointer (some ⟨gm, 0, none⟩)] w (Asked R g gm T o size s l st w) := by
  unfold Asked
  cases hgo : Op.goes o size s l
  · rw [Op.stepF_no hgo, if_neg (by simp)]
    have done : ∀ {e : Ending} {w' : World}, (e = .returned (.bool false) ∧ Same w w') → e = .returned (.bool false) ∧ ∃ p', FB w' g T o size s p' ∧ Mem w' R gm l st ∧ Chg (fun i => R i ∨ i = g) w w' := fun ⟨he, hs⟩ => ⟨he, p, h.same hs, m.same hs, hs.chg _⟩
    unfold Op.goes at hgo
    cases hov : s.over
    · rw [hov] at hgo
      have hfit : ¬ o.at_ + size ≤ l.length := by simpa using hgo
      exact (step_out w h m hfit).mono fun e w' hh => done hh
    · exact (step_over w h _ hov).mono fun e w' hh => done hh
  · rw [Op.stepF_yes hgo, if_pos rfl]
    obtain ⟨hov, hfit⟩ := Op.goes_over hgo
    exact (step_go w hT hgT h m hg hl lv.ok hw hfit hsz hov (by have := lv.most; omega)).mono fun e w' ⟨he, p', h1, h2, h3⟩ => ⟨he, p', h1, h2, h3⟩

end Go.Proofs.YtejajmdmfipplabDoor.Ch
