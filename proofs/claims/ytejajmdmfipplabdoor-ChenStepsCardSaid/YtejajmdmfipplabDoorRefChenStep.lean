/-
  The document's own operation on slots enough for all readers: a step as a whole.
-/
import Derived.Test.YtejajmdmfipplabDoorRefChenR
set_option linter.unusedSimpArgs false
set_option linter.unusedVariables false
namespace Go.Proofs.YtejajmdmfipplabDoor.Rf
open Go.ChangeShapes Go.WideShapes Go.ChangeAt Go.RowKit Ws Mm Pa
open Go.Proofs.YtejajmdmfipplabDoor.Op (St Im gd get put more)

section
variable {N : Nat → Prop} {gl : Nat} {g : Nat} {x : Ox} {op rd : Int} {s : St} {A : Option Addr} {c : Nat} {l : List Int} {Bl cl : Nat} {o : Im}

theorem rwrite_any (w : World) (h : RB N gl w g x o.at_ op rd (dc o s) A c) (hl : Own w Bl 22 (some ⟨gl, 0, none⟩) cl (l.map (Value.int .u32))) (hgl : g ≠ gl) (hN : ∀ i, N i → i < w.heap.size) (hNl : ¬ N gl)
    (n cc : Nat) (hsz : 1 + o.n + Op.csl o * o.width ≤ n) (hn : n ≤ 5000) (hcc : n ≤ cc) (hln : o.at_ + n ≤ l.length) (hwl : Op.Wd l) (ok : Op.chenOk o s) (hov : s.over = false) (hop : op = 2) (hrdr : rd = o.reader) (hwr : o.wr = true) (hx : x.k = 2 ∧ x.wd = o.width ∧ x.cp = o.cap ∧ x.sl = o.slots ∧ x.rl = o.n) (hW : Op.chenAl o) (hsa : 0 ≤ x.sa ∧ x.sa < 4294967296) :
    Calls Tryd.prog 56 #[.pointer (some ⟨g, 0, none⟩), .slice (some ⟨gl, o.at_, none⟩) n cc] w (Leaves N gl g x o.at_ op rd Bl cl (dc o (Op.chenW o s l).1, (Op.chenW o s l).2) w) := by
  have hr := ((ok.2.2.2.2.2 hov).2.1 hwr).1
  rcases h0 : s.row with _ | _ | _ | _ | _ | m
  · exact rew0 w h hl hgl hN hNl n cc hsz hn hcc hln hwl ok hov hop hrdr hwr h0 hx hW
  · by_cases hlt : s.i + 1 < o.n
    · exact rew1 w h hl hgl hN hNl n cc hsz hn hcc hln hwl ok hov hop hrdr hwr h0 hx hW hlt
    · exact rew1l w h hl hgl hN hNl n cc hsz hn hcc hln hwl ok hov hop hrdr hwr h0 hx hW hlt
  · exact rew2 w h hl hgl hN hNl n cc hsz hn hcc hln hwl ok hov hop hrdr hwr h0 hx hW
  · exact rew3 w h hl hgl hN hNl n cc hsz hn hcc hln hwl ok hov hop hrdr hwr h0 hx hW
  · by_cases hcas : gd l (o.at_ + (1 + s.i)) = (Op.csl o : Int) <;> by_cases hlt : s.i + 1 < o.n
    · exact rew4c w h hl hgl hN hNl n cc hsz hn hcc hln hwl ok hov hop hrdr hwr h0 hx hW hcas hlt
    · exact rew4cl w h hl hgl hN hNl n cc hsz hn hcc hln hwl ok hov hop hrdr hwr h0 hx hW hcas hlt
    · exact rew4n w h hl hgl hN hNl n cc hsz hn hcc hln hwl ok hov hop hrdr hwr h0 hx hW hcas hlt
    · exact rew4nl w h hl hgl hN hNl n cc hsz hn hcc hln hwl ok hov hop hrdr hwr h0 hx hW hcas hlt
  · omega
theorem rread_any (w : World) (h : RB N gl w g x o.at_ op rd (dc o s) A c) (hl : Own w Bl 22 (some ⟨gl, 0, none⟩) cl (l.map (Value.int .u32))) (hgl : g ≠ gl) (hN : ∀ i, N i → i < w.heap.size) (hNl : ¬ N gl)
    (n cc : Nat) (hsz : 1 + o.n + Op.csl o * o.width ≤ n) (hn : n ≤ 5000) (hcc : n ≤ cc) (hln : o.at_ + n ≤ l.length) (hwl : Op.Wd l) (ok : Op.chenOk o s) (hov : s.over = false) (hop : op = 1) (hrdr : rd = o.reader) (hwr : o.wr = false) (hx : x.k = 2 ∧ x.wd = o.width ∧ x.cp = o.cap ∧ x.sl = o.slots ∧ x.rl = o.n) (hW : Op.chenAl o) (hsa : 0 ≤ x.sa ∧ x.sa < 4294967296) :
    Calls Tryd.prog 57 #[.pointer (some ⟨g, 0, none⟩), .slice (some ⟨gl, o.at_, none⟩) n cc] w (Leaves N gl g x o.at_ op rd Bl cl (dc o (Op.chenR o s l).1, (Op.chenR o s l).2) w) := by
  have hr := ((ok.2.2.2.2.2 hov).2.2 hwr).1
  rcases h0 : s.row with _ | _ | _ | _ | _ | m
  · exact rer0 w h hl hgl hN hNl n cc hsz hn hcc hln hwl ok hov hop hrdr hwr h0 hx hW
  · exact rer1 w h hl hgl hN hNl n cc hsz hn hcc hln hwl ok hov hop hrdr hwr h0 hx hW
  · by_cases hcas : gd l (o.at_ + (1 + o.reader)) = (Op.csl o : Int)
    · exact rer2c w h hl hgl hN hNl n cc hsz hn hcc hln hwl ok hov hop hrdr hwr h0 hx hW hcas
    · exact rer2n w h hl hgl hN hNl n cc hsz hn hcc hln hwl ok hov hop hrdr hwr h0 hx hW hcas
  · exact rer3 w h hl hgl hN hNl n cc hsz hn hcc hln hwl ok hov hop hrdr hwr h0 hx hW
  · exact rer4 w h hl hgl hN hNl n cc hsz hn hcc hln hwl ok hov hop hrdr hwr h0 hx hW
  · omega

theorem dc_steps (o : Im) (s : St) : (dc o s).steps = s.steps := by unfold dc; split <;> rfl
/-- what a whole step leaves -/
def Stood (N : Nat → Prop) (gl g : Nat) (x : Ox) (at_ op rd : Int) (Bl cl : Nat) (r : St × List Int) (w : World) (e : Ending) (w' : World) : Prop :=
  e = .returned (.bool true) ∧ (∃ A c, RB N gl w' g x at_ op rd r.1 A c) ∧ Own w' Bl 22 (some ⟨gl, 0, none⟩) cl (r.2.map (Value.int .u32)) ∧ Chg (fun i => ¬ N i) w w'

theorem rstep_over (w : World) (h : RB N gl w g x o.at_ op rd s A c) (v : Value) (hov : s.over = true) :
    Calls Tryd.prog 25 #[.pointer (some ⟨g, 0, none⟩), v] w fun e w' => e = .returned (.bool false) ∧ Same w w' := by
  have c39 := h.tail.2
  rw [hov] at c39
  clear h hov
  go_enter Tryd.func25, Tryd.ntmps25
  go_wp2_with fail
  go_quiet (fail)
  go_wp2
  go_ret
  exact ⟨rfl, (Same.refl _).drewN _⟩

theorem objT {w w' : World} (h : RB N gl w g x o.at_ op rd s A c) (k : Same w w') : w'.cell? ⟨g, 0, none⟩ = some (.int .i64 x.k) ∧ w'.cell? ⟨g, 1, none⟩ = some (.int .i64 x.wd) ∧ w'.cell? ⟨g, 2, none⟩ = some (.int .i64 x.sl) ∧ w'.cell? ⟨g, 3, none⟩ = some (.int .i64 x.cp) ∧ w'.cell? ⟨g, 4, none⟩ = some (.int .u32 x.sa) ∧ w'.cell? ⟨g, 5, none⟩ = some (.slice x.ia x.il x.ic) ∧ w'.cell? ⟨g, 6, none⟩ = some (.int .i64 x.ow) ∧ w'.cell? ⟨g, 7, none⟩ = some (.slice x.ra x.rl x.rc) ∧ w'.cell? ⟨g, 8, none⟩ = some (.int .i64 o.at_) ∧ w'.cell? ⟨g, 39, none⟩ = some (.bool s.over) ∧ Same w w' := by
  obtain ⟨a0, a1, a2, a3, a4, a5, a6, a7⟩ := (h.same k).obj
  obtain ⟨a8, _⟩ := (h.same k).mid
  exact ⟨a0, a1, a2, a3, a4, a5, a6, a7, a8, (h.same k).tail.2, k⟩

set_option maxHeartbeats 1000000 in
set_option maxRecDepth 100000 in
theorem rstep_far (w : World) (h : RB N gl w g x o.at_ op rd s A c) (AA : Option Addr) (n cc : Nat) (hn : n ≤ 5000) (hov : s.over = false) (hf : n < o.at_) :
    Calls Tryd.prog 25 #[.pointer (some ⟨g, 0, none⟩), .slice AA n cc] w fun e w' => e = .returned (.bool false) ∧ Same w w' := by
  have c39 := h.tail.2
  have c8 := h.mid.1
  rw [hov] at c39
  clear h hov
  have h1 : (n : Int) < (o.at_ : Int) := by omega
  have h2 : decide ((n : Int) < (o.at_ : Int)) = true := by simpa using hf
  have h3 : decide (n < o.at_) = true := by simpa using hf
  go_enter Tryd.func25, Tryd.ntmps25
  go_wp2_with fail
  go_quiet (fail)
  go_wp2
  go_ret
  exact ⟨rfl, (Same.refl _).drewN _⟩

set_option maxHeartbeats 1000000 in
set_option maxRecDepth 100000 in
theorem rstep_out (w : World) (h : RB N gl w g x o.at_ op rd s A c) (AA : Option Addr) (n cc : Nat) (hn : n ≤ 5000) (hov : s.over = false) (hf : o.at_ ≤ n) (hx : x.k = 2) (hr : Ch.rightB x.wd x.sl x.cp x.sa x.il x.rl = true) (hsa : 0 ≤ x.sa ∧ x.sa < 4294967296) (hout : (n : Int) - o.at_ < 1 + (x.rl : Int) + ((x.rl : Int) + 2) * x.wd) :
    Calls Tryd.prog 25 #[.pointer (some ⟨g, 0, none⟩), .slice AA n cc] w fun e w' => e = .returned (.bool false) ∧ Same w w' := by
  have HZ : ∀ w', Calls Tryd.prog 52 #[.agg #[.int .i64 x.k, .int .i64 x.wd, .int .i64 x.sl, .int .i64 x.cp, .int .u32 x.sa, .slice x.ia x.il x.ic, .int .i64 x.ow, .slice x.ra x.rl x.rc]] w' fun e w'' => e = .returned (.int .i64 (1 + (x.rl : Int) + ((x.rl : Int) + 2) * x.wd)) ∧ Same w' w'' := fun w' => by rw [hx]; exact Ch.rsize_yes x.wd x.sl x.cp x.sa x.ow x.ia x.ra x.il x.ic x.rl x.rc w' hr hsa
  have hq := (Ch.HQ hr).1
  have HX := Lib.hid hx
  have HB := Lib.hid h
  have HOV := Lib.hid hov
  have ob := objT h (Same.refl w)
  rw [hov] at ob
  obtain ⟨a0, a1, a2, a3, a4, a5, a6, a7, a8, a9, _⟩ := ob
  have f1 : IntKind.i64.wrap ((n : Int) - o.at_) = (n : Int) - o.at_ := Go.IntWalk.i64_in _ (by omega)
  have h2 : decide ((n : Int) < (o.at_ : Int)) = false := by simp; omega
  have h3 : decide (n < o.at_) = false := by simp; omega
  have HOT : ∀ w', Same w w' → w'.cell? ⟨g, 0, none⟩ = some (.int .i64 x.k) ∧ w'.cell? ⟨g, 1, none⟩ = some (.int .i64 x.wd) ∧ w'.cell? ⟨g, 2, none⟩ = some (.int .i64 x.sl) ∧ w'.cell? ⟨g, 3, none⟩ = some (.int .i64 x.cp) ∧ w'.cell? ⟨g, 4, none⟩ = some (.int .u32 x.sa) ∧ w'.cell? ⟨g, 5, none⟩ = some (.slice x.ia x.il x.ic) ∧ w'.cell? ⟨g, 6, none⟩ = some (.int .i64 x.ow) ∧ w'.cell? ⟨g, 7, none⟩ = some (.slice x.ra x.rl x.rc) ∧ w'.cell? ⟨g, 8, none⟩ = some (.int .i64 o.at_) ∧ w'.cell? ⟨g, 39, none⟩ = some (.bool false) ∧ Same w w' := by
    intro w' hs
    have := objT h hs
    rw [hov] at this
    exact this
  have HT := Lib.hid HOT
  clear h hov hx hr HOT
  go_enter Tryd.func25, Tryd.ntmps25
  go_wp2_with fail
  go_region_held3 (fun w' => w'.cell? ⟨g, 0, none⟩ = some (.int .i64 x.k) ∧ w'.cell? ⟨g, 1, none⟩ = some (.int .i64 x.wd) ∧ w'.cell? ⟨g, 2, none⟩ = some (.int .i64 x.sl) ∧ w'.cell? ⟨g, 3, none⟩ = some (.int .i64 x.cp) ∧ w'.cell? ⟨g, 4, none⟩ = some (.int .u32 x.sa) ∧ w'.cell? ⟨g, 5, none⟩ = some (.slice x.ia x.il x.ic) ∧ w'.cell? ⟨g, 6, none⟩ = some (.int .i64 x.ow) ∧ w'.cell? ⟨g, 7, none⟩ = some (.slice x.ra x.rl x.rc) ∧ w'.cell? ⟨g, 8, none⟩ = some (.int .i64 o.at_) ∧ w'.cell? ⟨g, 39, none⟩ = some (.bool false) ∧ Same w w')
    (first | assumption | exact HT.out _ (Same.refl _).drew | (rcases ‹_ ∧ _ ∧ _ ∧ _ ∧ _ ∧ _ ∧ _ ∧ _ ∧ _ ∧ _ ∧ Same w _› with ⟨_, _, _, _, _, _, _, _, _, _, x9⟩; exact HT.out _ (x9.trans hs)))
    (first | (go_at_call 52; ((with_reducible refine (HZ _).mono ?_); rintro e w' ⟨rfl, hs⟩)))
  rcases ‹_ ∧ _ ∧ _ ∧ _ ∧ _ ∧ _ ∧ _ ∧ _ ∧ _ ∧ _ ∧ Same w _› with ⟨_, _, _, _, _, _, _, _, _, _, x9⟩
  go_wp2
  go_ret
  exact ⟨rfl, x9⟩

set_option maxHeartbeats 2000000 in
set_option maxRecDepth 100000 in
theorem rstep_go (w : World) (h : RB N gl w g x o.at_ op rd (dc o s) A c) (hl : Own w Bl 22 (some ⟨gl, 0, none⟩) cl (l.map (Value.int .u32))) (hgl : g ≠ gl) (hN : ∀ i, N i → i < w.heap.size) (hNl : ¬ N gl)
    (n : Nat) (hnl : l.length = n) (hn : n ≤ 5000) (hov : s.over = false) (hfit : o.at_ + (1 + o.n + Op.csl o * o.width) ≤ n) (hx : x.k = 2 ∧ x.wd = o.width ∧ x.cp = o.cap ∧ x.sl = o.slots ∧ x.rl = o.n) (hr : Ch.rightB x.wd x.sl x.cp x.sa x.il x.rl = true) (hwl : Op.Wd l) (ok : Op.chenOk o s) (hop : op = if o.wr then 2 else 1) (hrdr : rd = o.reader) (hW : Op.chenAl o) (hsa : 0 ≤ x.sa ∧ x.sa < 4294967296) (hs : s.steps ≤ 1000) :
    Calls Tryd.prog 25 #[.pointer (some ⟨g, 0, none⟩), .slice (some ⟨gl, 0, none⟩) n cl] w (Stood N gl g x o.at_ op rd Bl cl (dc o (Op.chen o s l).1, (Op.chen o s l).2) w) := by
  have HZ : ∀ w', Calls Tryd.prog 52 #[.agg #[.int .i64 x.k, .int .i64 x.wd, .int .i64 x.sl, .int .i64 x.cp, .int .u32 x.sa, .slice x.ia x.il x.ic, .int .i64 x.ow, .slice x.ra x.rl x.rc]] w' fun e w'' => e = .returned (.int .i64 (1 + (x.rl : Int) + ((x.rl : Int) + 2) * x.wd)) ∧ Same w' w'' := fun w' => by rw [hx.1]; exact Ch.rsize_yes x.wd x.sl x.cp x.sa x.ow x.ia x.ra x.il x.ic x.rl x.rc w' hr hsa
  have hq := (Ch.HQ hr).1
  have hcl := (own_lt hl).2.2
  have hcl1 := hcl.1
  have hcl2 := hcl.2
  rw [List.length_map, hnl] at hcl1
  have ob := objT h (Same.refl w)
  rw [show (dc o s).over = false from (dc_over o s).trans hov] at ob
  obtain ⟨a0, a1, a2, a3, a4, a5, a6, a7, a8, a9, _⟩ := ob
  have f1 : IntKind.i64.wrap ((n : Int) - o.at_) = (n : Int) - o.at_ := Go.IntWalk.i64_in _ (by omega)
  have h2 : decide ((n : Int) < (o.at_ : Int)) = false := by simp; omega
  have h3 : decide (n < o.at_) = false := by simp; omega
  have h4 : ¬ ((n : Int) - o.at_ < 1 + (x.rl : Int) + ((x.rl : Int) + 2) * x.wd) := by rw [hx.2.1, show ((x.rl : Int) + 2) = ((Op.csl o : Nat) : Int) by have := hx.2.2.2.2; unfold Op.csl; omega, ← Int.natCast_mul]; have := hx.2.2.2.2; omega
  have HOT : ∀ w', Same w w' → w'.cell? ⟨g, 0, none⟩ = some (.int .i64 x.k) ∧ w'.cell? ⟨g, 1, none⟩ = some (.int .i64 x.wd) ∧ w'.cell? ⟨g, 2, none⟩ = some (.int .i64 x.sl) ∧ w'.cell? ⟨g, 3, none⟩ = some (.int .i64 x.cp) ∧ w'.cell? ⟨g, 4, none⟩ = some (.int .u32 x.sa) ∧ w'.cell? ⟨g, 5, none⟩ = some (.slice x.ia x.il x.ic) ∧ w'.cell? ⟨g, 6, none⟩ = some (.int .i64 x.ow) ∧ w'.cell? ⟨g, 7, none⟩ = some (.slice x.ra x.rl x.rc) ∧ w'.cell? ⟨g, 8, none⟩ = some (.int .i64 o.at_) ∧ w'.cell? ⟨g, 39, none⟩ = some (.bool false) ∧ Same w w' := by
    intro w' hs
    have := objT h hs
    rw [show (dc o s).over = false from (dc_over o s).trans hov] at this
    exact this
  have HT := Lib.hid HOT
  have HB := Lib.hid h
  have HL := Lib.hid hl
  have HX := Lib.hid hx
  have HOV := Lib.hid hov
  have HOP := Lib.hid hop
  have HOK := Lib.hid ok
  have HWL := Lib.hid hwl
  have HNN := Lib.hid hN
  have HNL := Lib.hid hnl
  clear h hov hx hr HOT hcl hl hop ok hwl hN hnl
  go_enter Tryd.func25, Tryd.ntmps25
  go_wp2_with fail
  go_region_held3 (fun w' => w'.cell? ⟨g, 0, none⟩ = some (.int .i64 x.k) ∧ w'.cell? ⟨g, 1, none⟩ = some (.int .i64 x.wd) ∧ w'.cell? ⟨g, 2, none⟩ = some (.int .i64 x.sl) ∧ w'.cell? ⟨g, 3, none⟩ = some (.int .i64 x.cp) ∧ w'.cell? ⟨g, 4, none⟩ = some (.int .u32 x.sa) ∧ w'.cell? ⟨g, 5, none⟩ = some (.slice x.ia x.il x.ic) ∧ w'.cell? ⟨g, 6, none⟩ = some (.int .i64 x.ow) ∧ w'.cell? ⟨g, 7, none⟩ = some (.slice x.ra x.rl x.rc) ∧ w'.cell? ⟨g, 8, none⟩ = some (.int .i64 o.at_) ∧ w'.cell? ⟨g, 39, none⟩ = some (.bool false) ∧ Same w w')
    (first | assumption | exact HT.out _ (Same.refl _).drew | (rcases ‹_ ∧ _ ∧ _ ∧ _ ∧ _ ∧ _ ∧ _ ∧ _ ∧ _ ∧ _ ∧ Same w _› with ⟨_, _, _, _, _, _, _, _, _, _, x9⟩; exact HT.out _ (x9.trans hs)))
    (first | (go_at_call 52; ((with_reducible refine (HZ _).mono ?_); rintro e w' ⟨rfl, hs⟩)))
  rcases ‹_ ∧ _ ∧ _ ∧ _ ∧ _ ∧ _ ∧ _ ∧ _ ∧ _ ∧ _ ∧ Same w _› with ⟨_, _, _, _, _, _, _, _, _, _, x9⟩
  have S1 := Lib.hid x9
  have HB1 := Lib.hid (HB.out.same x9)
  have HL1 := Lib.hid (HL.out.same x9)
  clear x9 a0 a1 a2 a3 a4 a5 a6 a7 a8 a9 hs HT
  have c15 : w'.cell? ⟨g, 15, none⟩ = some (.int .i64 s.steps) := (dc_steps o s) ▸ HB1.out.mid.2.2.2.2.2.2.2.1
  have f15 := HB1.out.thaw 15
  have c8 := HB1.out.mid.1
  have es15 : (dc o s).steps = s.steps := by unfold dc; split <;> rfl
  have e15 : ((s.steps : Int) + 1) = ((s.steps + 1 : Nat) : Int) := by omega
  have B2 := HB1.out.set 15 (.int .i64 ((s.steps : Int) + 1)) (more (dc o s)) (by rw [e15, ← es15]; rfl) rfl rfl
  have hc2 := (Chg.refl (fun i => i = g) w').set (p := ⟨g, 15, none⟩) (.inl rfl) (.int .i64 ((s.steps : Int) + 1))
  have HL2 := Lib.hid (HL1.out.chg hc2 (fun b' hb he => hgl (by injection hb with hb; injection hb with hb; rw [hb]; exact he.symm)))
  have HC2 : Hid (Chg (fun i => ¬ N i) w (w'.setCell ⟨g, 15, none⟩ (.int .i64 ((s.steps : Int) + 1)))) := Lib.hid ((S1.out.chg _).trans (hc2.weak fun i _ hi => hi ▸ HB1.out.mine))
  have k8 := B2.mid.1
  have k9 := B2.mid.2.1
  have k0 := B2.obj.1
  rw [← dc_more] at B2
  have HB2 := Lib.hid B2
  have g1 : (0 : Int) ≤ o.at_ := by omega
  have g2 : (o.at_ : Int) ≤ n := by omega
  have g3 : ¬ cl = o.at_ := by omega
  have g4 : (n : Int) ≤ cl := by omega
  clear B2 hc2 HB1 HL1 S1 e15
  go_wp2_with fail
  generalize w'.setCell ⟨g, 15, none⟩ (.int .i64 ((s.steps : Int) + 1)) = w2 at *
  cases hwr : o.wr
  · have hop1 : op = 1 := by have := HOP.out; rw [hwr] at this; exact this
    have e4 : Op.chen o s l = Op.chenR o (more s) l := by unfold Op.chen; rw [if_neg (by simp [hwr])]
    subst hop1
    have E4 := Lib.hid e4
    have HWR := Lib.hid hwr
    have HX6 : Hid (x.k ≠ 6) := Lib.hid (by rw [HX.out.1]; decide)
    clear e4 hwr
    go_quiet ((go_at_call 53; exact Calls.quiet_of_same ((Ob.rwrites_reg _ HX6.out _).mono fun _ _ ⟨he, hw⟩ => ⟨he, hw.symm⟩)))
    have HB3 := Lib.hid (HB2.out.same ((Same.refl w2).drewN nq))
    have HL3 := Lib.hid (HL2.out.same ((Same.refl w2).drewN nq))
    have HC3 := Lib.hid (HC2.out.trans ((Chg.refl _ w2).drewN nq))
    clear HB2 HL2 HC2 k0 k8 k9
    generalize w2.drewN nq = w3 at *
    have k0 := HB3.out.obj.1
    rw [HX.out.1] at k0
    have HN3 : Hid (∀ i, N i → i < w3.heap.size) := Lib.hid (fun i hi => Nat.lt_of_lt_of_le (HNN.out i hi) HC3.out.size)
    go_wp2_with fail
    refine (rread_any _ HB3.out HL3.out hgl HN3.out hNl (n - o.at_) (cl - o.at_) (by omega) (by omega) (by omega) (by have := HNL.out; omega) HWL.out HOK.out HOV.out rfl hrdr HWR.out HX.out hW hsa).mono ?_
    rintro e w6 ⟨rfl, R6, L6, C6⟩
    have HR6 := Lib.hid R6
    have HL6 := Lib.hid L6
    have HC6 := Lib.hid C6
    clear R6 L6 C6
    go_wp2
    go_ret
    rw [E4.out]
    exact ⟨rfl, HR6.out, HL6.out, HC3.out.trans HC6.out⟩
  · have hop1 : op = 2 := by have := HOP.out; rw [hwr] at this; exact this
    have e4 : Op.chen o s l = Op.chenW o (more s) l := by unfold Op.chen; rw [if_pos hwr]
    subst hop1
    have E4 := Lib.hid e4
    have HWR := Lib.hid hwr
    have HX6 : Hid (x.k ≠ 6) := Lib.hid (by rw [HX.out.1]; decide)
    clear e4 hwr
    go_quiet ((go_at_call 53; exact Calls.quiet_of_same ((Ob.rwrites_reg _ HX6.out _).mono fun _ _ ⟨he, hw⟩ => ⟨he, hw.symm⟩)))
    have HB3 := Lib.hid (HB2.out.same ((Same.refl w2).drewN nq))
    have HL3 := Lib.hid (HL2.out.same ((Same.refl w2).drewN nq))
    have HC3 := Lib.hid (HC2.out.trans ((Chg.refl _ w2).drewN nq))
    clear HB2 HL2 HC2 k0 k8 k9
    generalize w2.drewN nq = w3 at *
    have k0 := HB3.out.obj.1
    rw [HX.out.1] at k0
    have HN3 : Hid (∀ i, N i → i < w3.heap.size) := Lib.hid (fun i hi => Nat.lt_of_lt_of_le (HNN.out i hi) HC3.out.size)
    go_wp2_with fail
    refine (rwrite_any _ HB3.out HL3.out hgl HN3.out hNl (n - o.at_) (cl - o.at_) (by omega) (by omega) (by omega) (by have := HNL.out; omega) HWL.out HOK.out HOV.out rfl hrdr HWR.out HX.out hW hsa).mono ?_
    rintro e w6 ⟨rfl, R6, L6, C6⟩
    have HR6 := Lib.hid R6
    have HL6 := Lib.hid L6
    have HC6 := Lib.hid C6
    clear R6 L6 C6
    go_wp2
    go_ret
    rw [E4.out]
    exact ⟨rfl, HR6.out, HL6.out, HC3.out.trans HC6.out⟩
end

end Go.Proofs.YtejajmdmfipplabDoor.Rf
