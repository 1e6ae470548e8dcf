/-

  The document's own operation on four slots: a step of it, whether it goes or not; and how it begins for the law.
-/
import Derived.Test.YtejajmdmfipplabDoorRefChenStep
import Derived.Test.YtejajmdmfipplabDoorRefBegin
import Derived.Test.YtejajmdmfipplabDoorChenAny
import Derived.Test.YtejajmdmfipplabDoorChenCase
set_option linter.unusedSimpArgs false
set_option linter.unusedVariables false
namespace Go.Proofs.YtejajmdmfipplabDoor.Ch
open Go.ChangeShapes Go.WideShapes Go.ChangeAt Go.RowKit Ws Mm Pa
open Go.Proofs.YtejajmdmfipplabDoor.Rf (Ox RB RBegun rfCells)

theorem dc_rc (o : Op.Im) (s : Op.St) : (Rf.dc o s).rc = s.rc := by unfold Rf.dc; split <;> rfl
theorem dc_code (o : Op.Im) (s : Op.St) : (Rf.dc o s).code = s.code := by unfold Rf.dc; split <;> rfl
theorem dc_start (o : Op.Im) (rec : List Int) : Rf.dc o (Op.start rec) = Op.start rec := by unfold Rf.dc; split <;> rfl
/-- a step of the document's was asked for: what came of it -/
def RAsked (N : Nat → Prop) (gl g : Nat) (x : Ox) (o : Op.Im) (op rd : Int) (AA : Option Addr) (Bl cl size : Nat) (s : Op.St) (l : List Int) (w : World) (e : Ending) (w' : World) : Prop :=
  e = .returned (.bool (Op.goes o size s l)) ∧ (∃ A c, RB N gl w' g x o.at_ op rd (Rf.dc o (Op.stepF Op.chen o size (s, l)).1) A c) ∧ Own w' Bl 22 AA cl ((Op.stepF Op.chen o size (s, l)).2.map (Value.int .u32)) ∧ Chg (fun i => ¬ N i) w w'

theorem rstep_any {N : Nat → Prop} {gl g : Nat} {x : Ox} {o : Op.Im} {op rd : Int} {AA : Option Addr} {Bl cl size most : Nat} {s : Op.St} {A : Option Addr} {c : Nat} {l : List Int} (w : World) (h : RB N gl w g x o.at_ op rd (Rf.dc o s) A c) (hl : Own w Bl 22 AA cl (l.map (Value.int .u32))) (n : Nat) (hA : o.at_ + size ≤ n → AA = some ⟨gl, 0, none⟩)
    (hgl : g ≠ gl) (hN : ∀ i, N i → i < w.heap.size) (hNl : ¬ N gl) (hnl : l.length = n) (hn : n ≤ 5000) (hx : x.k = 2 ∧ x.wd = o.width ∧ x.cp = o.cap ∧ x.sl = o.slots ∧ x.rl = o.n) (hr : rightB x.wd x.sl x.cp x.sa x.il x.rl = true) (hwl : Op.Wd l) (lv : Op.Live Op.chenOk Op.chenRank o most s) (hm : most ≤ 1000) (hop : op = if o.wr then 2 else 1) (hrdr : rd = o.reader) (hW : Op.chenAl o) (hxs : 0 ≤ x.sa ∧ x.sa < 4294967296) (hsz : size = 1 + o.n + Op.csl o * o.width) :
    Calls Tryd.prog 25 #[.pointer (some ⟨g, 0, none⟩), .slice AA n cl] w (RAsked N gl g x o op rd AA Bl cl size s l w) := by
  unfold RAsked
  cases hgo : Op.goes o size s l
  · rw [Op.stepF_no hgo]
    have done : ∀ {e : Ending} {w' : World}, (e = .returned (.bool false) ∧ Same w w') → e = .returned (.bool false) ∧ (∃ A c, RB N gl w' g x o.at_ op rd (Rf.dc o s) A c) ∧ Own w' Bl 22 AA cl (l.map (Value.int .u32)) ∧ Chg (fun i => ¬ N i) w w' := fun ⟨he, hs⟩ => ⟨he, ⟨_, _, h.same hs⟩, hl.same hs, hs.chg _⟩
    unfold Op.goes at hgo
    cases hov : s.over
    · rw [hov] at hgo
      have hov' : (Rf.dc o s).over = false := (Rf.dc_over o s).trans hov
      have hfit : ¬ o.at_ + size ≤ n := by simpa [hnl] using hgo
      by_cases hf : o.at_ ≤ n
      · exact (Rf.rstep_out w h AA n cl hn hov' hf hx.1 hr hxs (by rw [hx.2.1, show ((x.rl : Int) + 2) = ((Op.csl o : Nat) : Int) by have := hx.2.2.2.2; unfold Op.csl; omega, ← Int.natCast_mul]; have := hx.2.2.2.2; omega)).mono fun e w' hh => done hh
      · exact (Rf.rstep_far w h AA n cl hn hov' (by omega)).mono fun e w' hh => done hh
    · exact (Rf.rstep_over w h _ ((Rf.dc_over o s).trans hov)).mono fun e w' hh => done hh
  · rw [Op.stepF_yes hgo]
    obtain ⟨hov, hfit⟩ := Op.goes_over hgo
    rw [hnl] at hfit
    have hAA := hA hfit
    subst hAA
    refine (Rf.rstep_go w h hl hgl hN hNl n hnl hn hov (by rw [← hsz]; exact hfit) hx hr hwl lv.ok hop hrdr hW hxs (by have := lv.most; omega)).mono fun e w' hh => hh

theorem lbegin_no (k wd sl cp sa ow : Int) (ia ra : Option Addr) (il ic rl rc : Nat) (at_ op rd : Int) (A : Option Addr) (m c : Nat) (LA : Option Addr) (n lc : Nat) (pa : Option Addr) (pn pc : Nat) (w : World) (hm : m ≤ 5000) (code : Int) (hcode : bcode (decide (k = 2) && rightB wd sl cp sa il rl) at_ op rd wd rl m = code) (hne : code ≠ 0) (hsa : 0 ≤ sa ∧ sa < 4294967296 := by assumption) :
    Calls Tryd.prog 16 #[.agg #[.int .i64 k, .int .i64 wd, .int .i64 sl, .int .i64 cp, .int .u32 sa, .slice ia il ic, .int .i64 ow, .slice ra rl rc, .int .i64 at_, .int .i64 op, .int .i64 rd, .slice A m c, .slice LA n lc, .slice pa pn pc], .int .i64 2] w fun e w' => e = .returned (.tuple #[.pointer none, .int .i64 code]) ∧ Same w w' := by
  have hb := Blk.new w 48 #[.int .i64 k, .int .i64 wd, .int .i64 sl, .int .i64 cp, .int .u32 sa, .slice ia il ic, .int .i64 ow, .slice ra rl rc, .int .i64 at_, .int .i64 op, .int .i64 rd, .slice A m c, .slice LA n lc, .slice pa pn pc]
  have s0 := (Same.refl w).alloc (.cells #[.int .i64 k, .int .i64 wd, .int .i64 sl, .int .i64 cp, .int .u32 sa, .slice ia il ic, .int .i64 ow, .slice ra rl rc, .int .i64 at_, .int .i64 op, .int .i64 rd, .slice A m c, .slice LA n lc, .slice pa pn pc] 48)
  have HB0 := Lib.hid hb
  have HS0 := Lib.hid s0
  clear hb s0
  by_cases hk : k = 2
  · subst hk
    have hc : Rf.bcode (rightB wd sl cp sa il rl) at_ op rd wd rl m = code := by
      rw [← hcode]
      simp only [decide_true, Bool.true_and]
      rfl
    have BN := fun w' => Rf.rbegin_no (x := ⟨2, wd, sl, cp, sa, ia, il, ic, ow, ra, rl, rc⟩) (r := rightB wd sl cp sa il rl) at_ op rd A m c w' (show (2 : Int) ≠ 6 by decide) (fun w'' => rright_any wd sl cp sa ow ia ra il ic rl rc w'') hm (fun h => by have := HQ h; simp only; omega) code hc hne
    clear hc hcode hne
    go_enter Tryd.func16, Tryd.ntmps16
    obtain ⟨⟨d0, d1, d2, d3, d4, d5, d6, d7⟩, d8, d9, d10, d11, d12, d13⟩ := case_cells HB0.out (Same.refl _)
    go_wp2_with fail
    refine (BN _).mono ?_
    rintro e v1 ⟨rfl, s1⟩
    have HS1 := Lib.hid (HS0.out.trans s1)
    go_wp2
    go_ret2
    exact ⟨rfl, HS1.out⟩
  · have hb : (k != 2) = true := by simpa using hk
    have hc : code = 1 := by
      rw [← hcode]
      unfold bcode
      rw [if_pos (by simp [hk])]
    subst hc
    clear hcode
    go_enter Tryd.func16, Tryd.ntmps16
    obtain ⟨⟨d0, d1, d2, d3, d4, d5, d6, d7⟩, d8, d9, d10, d11, d12, d13⟩ := case_cells HB0.out (Same.refl _)
    go_wp2
    go_ret2
    exact ⟨rfl, HS0.out⟩

theorem lbegin_yes (k wd sl cp sa ow : Int) (ia ra : Option Addr) (il ic rl rc : Nat) (at_ op rd : Int) (A : Option Addr) (m c : Nat) (LA : Option Addr) (n lc : Nat) (pa : Option Addr) (pn pc : Nat) (rec : List Int) (w : World) (hm : m ≤ 5000) (hcode : bcode (decide (k = 2) && rightB wd sl cp sa il rl) at_ op rd wd rl m = 0) (hrec : rec.length = m) (hrow : Row w A (rec.map (Value.int .u32))) (hsa : 0 ≤ sa ∧ sa < 4294967296 := by assumption) :
    Calls Tryd.prog 16 #[.agg #[.int .i64 k, .int .i64 wd, .int .i64 sl, .int .i64 cp, .int .u32 sa, .slice ia il ic, .int .i64 ow, .slice ra rl rc, .int .i64 at_, .int .i64 op, .int .i64 rd, .slice A m c, .slice LA n lc, .slice pa pn pc], .int .i64 2] w (RBegun ⟨2, wd, sl, cp, sa, ia, il, ic, ow, ra, rl, rc⟩ at_ op rd rec w) := by
  have hb := Blk.new w 48 #[.int .i64 k, .int .i64 wd, .int .i64 sl, .int .i64 cp, .int .u32 sa, .slice ia il ic, .int .i64 ow, .slice ra rl rc, .int .i64 at_, .int .i64 op, .int .i64 rd, .slice A m c, .slice LA n lc, .slice pa pn pc]
  have s0 := (Same.refl w).alloc (.cells #[.int .i64 k, .int .i64 wd, .int .i64 sl, .int .i64 cp, .int .u32 sa, .slice ia il ic, .int .i64 ow, .slice ra rl rc, .int .i64 at_, .int .i64 op, .int .i64 rd, .slice A m c, .slice LA n lc, .slice pa pn pc] 48)
  have HB0 := Lib.hid hb
  have HS0 := Lib.hid s0
  clear hb s0
  by_cases hk : k = 2
  · subst hk
    have hc : Rf.bcode (rightB wd sl cp sa il rl) at_ op rd wd rl m = 0 := by
      rw [← hcode]
      simp only [decide_true, Bool.true_and]
      rfl
    have BN := fun w' (s : Same w w') => Rf.rbegin_yes (x := ⟨2, wd, sl, cp, sa, ia, il, ic, ow, ra, rl, rc⟩) (r := rightB wd sl cp sa il rl) at_ op rd A m c rec w' (show (2 : Int) ≠ 6 by decide) (fun w'' => rright_any wd sl cp sa ow ia ra il ic rl rc w'') hm (fun h => by have := HQ h; simp only; omega) hrec (hrow.same s) hc
    clear hc hcode hrec hrow
    go_enter Tryd.func16, Tryd.ntmps16
    obtain ⟨⟨d0, d1, d2, d3, d4, d5, d6, d7⟩, d8, d9, d10, d11, d12, d13⟩ := case_cells HB0.out (Same.refl _)
    go_wp2_with fail
    refine (BN _ HS0.out).mono ?_
    rintro e v1 ⟨g, A1, c1, rfl, s1, hg, b1, o1⟩
    have HS1 := Lib.hid (HS0.out.trans s1)
    have HG := Lib.hid hg
    have HB1 := Lib.hid b1
    have HO1 := Lib.hid o1
    clear s1 hg b1 o1
    go_wp2
    go_ret2
    exact ⟨g, A1, c1, rfl, HS1.out, Nat.le_trans HS0.out.size HG.out, HB1.out, HO1.out.base HS0.out.size⟩
  · exfalso
    unfold bcode at hcode
    rw [if_pos (by simp [hk])] at hcode
    cases hcode

end Go.Proofs.YtejajmdmfipplabDoor.Ch
