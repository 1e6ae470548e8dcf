/-
  Frames, and what an instruction makes of them (chapter 13): plain.
-/
import Derived.Test.YtiipdeionmndcaaDoorFlowEnd
import Derived.Test.YtiipdeionmndcaaDoorAluMath
set_option linter.unusedSimpArgs false
set_option linter.unusedVariables false
namespace Go.Proofs.YtiipdeionmndcaaDoor.Fr
open Fp (Ins at_ Fine check)

/-- a frame: the place, the registers, how often the loops went back -/
structure FS where
  pc : Int
  rg : List Nat
  tn : List Int
/-- with the words of the memory, and how many steps it made -/
structure SS where
  f : FS
  ws : List Nat
  st : Int
def mostI (i : Ins) : Int := if i.op = 16 then i.c else 0
def turnB (p : List Ins) (tn : List Int) (k : Nat) : Bool := decide (0 ≤ tn.getD k 0 ∧ tn.getD k 0 ≤ mostI (at_ p k))
def turnsB (p : List Ins) (tn : List Int) : Bool := (List.range tn.length).all (turnB p tn)
def placeB (p : List Ins) (f : FS) : Bool := decide (0 ≤ f.pc ∧ f.pc < p.length ∧ f.tn.length = p.length)
def rightF (ok : Bool) (p : List Ins) (f : FS) : Bool := ok && (placeB p f && turnsB p f.tn)
def kindI (i : Ins) : Int := if 17 ≤ i.op ∧ i.op ≤ 20 then 1 else if i.op = 21 then 2 else 0
def rgv (f : FS) (a : Int) : Nat := f.rg.getD a.toNat 0
def tnv (f : FS) : Int := f.tn.getD f.pc.toNat 0
def offN (ol : Int) (i : Ins) (f : FS) : Nat := (rgv f i.b + i.n.toNat) % 4294967296 % ol.toNat
def atN (oa ol : Int) (i : Ins) (f : FS) : Nat := oa.toNat + offN ol i f
def isMem (i : Ins) : Prop := i.op = 11 ∨ i.op = 12 ∨ i.op = 13
instance (i : Ins) : Decidable (isMem i) := by unfold isMem; infer_instance
/-- the registers behind a plain instruction -/
def rgI (oa ol : Int) (i : Ins) (s : SS) : List Nat :=
  if i.op = 1 then s.f.rg.set i.a.toNat i.n.toNat
  else if i.op = 2 then s.f.rg.set i.a.toNat (rgv s.f i.b)
  else if i.op = 11 then s.f.rg.set i.a.toNat (s.ws.getD (atN oa ol i s.f) 0)
  else if i.op = 13 then s.f.rg.set i.a.toNat (if s.ws.getD (atN oa ol i s.f) 0 = rgv s.f i.a then 1 else 0)
  else if 3 ≤ i.op ∧ i.op ≤ 10 then s.f.rg.set i.a.toNat (Al.doN i.op (rgv s.f i.b) (rgv s.f i.c))
  else s.f.rg
/-- the words behind it -/
def wsI (oa ol : Int) (i : Ins) (s : SS) : List Nat :=
  if i.op = 12 then s.ws.set (atN oa ol i s.f) (rgv s.f i.a)
  else if i.op = 13 then (if s.ws.getD (atN oa ol i s.f) 0 = rgv s.f i.a then s.ws.set (atN oa ol i s.f) (rgv s.f i.c) else s.ws)
  else s.ws
def backB (i : Ins) (f : FS) : Bool := decide (tnv f < i.c)
/-- the place behind it -/
def pcI (i : Ins) (f : FS) : Int :=
  if i.op = 14 then i.n
  else if i.op = 15 then (if rgv f i.a = 0 then i.n else f.pc + 1)
  else if i.op = 16 then (if backB i f then i.n else f.pc + 1)
  else f.pc + 1
def tnI (i : Ins) (f : FS) : List Int :=
  if i.op = 16 then (if backB i f then f.tn.set f.pc.toNat (tnv f + 1) else f.tn.set f.pc.toNat 0) else f.tn
def inst (oa ol : Int) (i : Ins) (s : SS) : SS :=
  { f := { pc := pcI i s.f, rg := rgI oa ol i s, tn := tnI i s.f }, ws := wsI oa ol i s, st := if isMem i then s.st + 1 else s.st }
def curI (p : List Ins) (f : FS) : Ins := at_ p f.pc.toNat
/-- one step of a frame that is right -/
def stepW (p : List Ins) (oa ol : Int) (s : SS) : SS := if kindI (curI p s.f) = 0 then inst oa ol (curI p s.f) s else s
def kindW (p : List Ins) (s : SS) : Int := kindI (curI p s.f)
/-- steps, as long as they are plain -/
def runW (p : List Ins) (oa ol : Int) : Nat → SS → SS × Nat × Int
  | 0, s => (s, 0, 0)
  | n + 1, s => if kindW p s = 0 then ((runW p oa ol n (inst oa ol (curI p s.f) s)).1, (runW p oa ol n (inst oa ol (curI p s.f) s)).2.1 + 1, (runW p oa ol n (inst oa ol (curI p s.f) s)).2.2) else (s, 0, kindW p s)

structure Wide (s : SS) : Prop where
  r8 : s.f.rg.length = 8
  rb : ∀ x ∈ s.f.rg, x < 4294967296
  wb : ∀ x ∈ s.ws, x < 4294967296
theorem getD_lt {l : List Nat} {k : Nat} (h : ∀ x ∈ l, x < 4294967296) : l.getD k 0 < 4294967296 := by
  rcases Nat.lt_or_ge k l.length with hk | hk
  · rw [List.getD_eq_getElem?_getD, List.getElem?_eq_getElem hk]
    exact h _ (List.getElem_mem hk)
  · rw [List.getD_eq_getElem?_getD, List.getElem?_eq_none hk]
    decide
theorem Wide.rg {s : SS} (h : Wide s) (a : Int) : rgv s.f a < 4294967296 := getD_lt h.rb
theorem set_lt {l : List Nat} {k v : Nat} (h : ∀ x ∈ l, x < 4294967296) (hv : v < 4294967296) : ∀ x ∈ l.set k v, x < 4294967296 := fun x hx => by
  rcases List.mem_or_eq_of_mem_set hx with h1 | h1
  · exact h x h1
  · rw [h1]; exact hv
theorem bw_small {op : Int} {b c : Nat} (hb : b < 4294967296) (hc : c < 4294967296) : Al.doN op b c < 4294967296 := by
  unfold Al.doN
  split
  · exact Nat.mod_lt _ (by decide)
  · split
    · exact Nat.mod_lt _ (by decide)
    · split
      · exact Nat.mod_lt _ (by decide)
      · split
        · exact Al.bw_lt op b c hb hc
        · split
          · split <;> decide
          · split
            · split <;> decide
            · decide
theorem Wide.inst {s : SS} (h : Wide s) (oa ol : Int) (i : Ins) (hi : i.ok) : Wide (inst oa ol i s) := by
  refine ⟨?_, ?_, ?_⟩
  · show (rgI oa ol i s).length = 8
    unfold rgI
    repeat' split
    all_goals simp [h.r8]
  · show ∀ x ∈ rgI oa ol i s, x < 4294967296
    unfold rgI
    have hn := hi
    unfold Fp.Ins.ok at hn
    split
    · exact set_lt h.rb (by omega)
    · split
      · exact set_lt h.rb (h.rg _)
      · split
        · exact set_lt h.rb (getD_lt h.wb)
        · split
          · exact set_lt h.rb (by split <;> decide)
          · split
            · exact set_lt h.rb (bw_small (h.rg _) (h.rg _))
            · exact h.rb
  · show ∀ x ∈ wsI oa ol i s, x < 4294967296
    unfold wsI
    split
    · exact set_lt h.wb (h.rg _)
    · split
      · split
        · exact set_lt h.wb (h.rg _)
        · exact h.wb
      · exact h.wb
theorem ws_len (oa ol : Int) (i : Ins) (s : SS) : (inst oa ol i s).ws.length = s.ws.length := by
  show (wsI oa ol i s).length = _
  unfold wsI
  repeat' split
  all_goals simp
theorem turns_iff {p : List Ins} {tn : List Int} : turnsB p tn = true ↔ ∀ k, k < tn.length → 0 ≤ tn.getD k 0 ∧ tn.getD k 0 ≤ mostI (at_ p k) := by
  unfold turnsB turnB
  simp only [List.all_eq_true, List.mem_range, decide_eq_true_eq]
theorem right_iff {ok : Bool} {p : List Ins} {f : FS} : rightF ok p f = true ↔ ok = true ∧ (0 ≤ f.pc ∧ f.pc < p.length ∧ f.tn.length = p.length) ∧ ∀ k, k < f.tn.length → 0 ≤ f.tn.getD k 0 ∧ f.tn.getD k 0 ≤ mostI (at_ p k) := by
  unfold rightF placeB
  rw [Bool.and_eq_true, Bool.and_eq_true, decide_eq_true_eq, turns_iff]
/-- a plain step leaves a frame right -/
theorem right_inst {right : Ins → Bool} {p : List Ins} {ok : Bool} (hf : Fine right p) (hn : ∀ j, j < p.length → 0 ≤ (at_ p j).n) {s : SS} (oa ol : Int) (h : rightF ok p s.f = true) (hk : kindW p s = 0) :
    rightF ok p (inst oa ol (curI p s.f) s).f = true := by
  obtain ⟨h0, ⟨h1, h2, h3⟩, h4⟩ := right_iff.1 h
  obtain ⟨k, hkp⟩ : ∃ k : Nat, s.f.pc = k := ⟨s.f.pc.toNat, by omega⟩
  have hkl : k < p.length := by omega
  have hcur : curI p s.f = at_ p k := by unfold curI; rw [hkp, Int.toNat_natCast]
  have htn : s.f.pc.toNat = k := by omega
  rw [hcur]
  have hop : (at_ p k).op ≠ 21 := by
    intro h21
    unfold kindW kindI at hk
    rw [hcur, h21] at hk
    simp at hk
  have hg := hf.goes hkl hop
  rw [right_iff]
  refine ⟨h0, ⟨?_, ?_, ?_⟩, ?_⟩
  · show 0 ≤ pcI (at_ p k) s.f
    have := hn k hkl
    unfold pcI
    repeat' split
    all_goals omega
  · show pcI (at_ p k) s.f < p.length
    unfold pcI
    split
    · next h => exact (hf.lead hkl (.inl h)).2
    · split
      · next h => have := (hf.lead hkl (.inr h)).2; split <;> omega
      · split
        · next h => have := hf.back hkl h; split <;> omega
        · omega
  · show (tnI (at_ p k) s.f).length = p.length
    unfold tnI
    repeat' split
    all_goals simp [h3]
  · show ∀ j, j < (tnI (at_ p k) s.f).length → _
    intro j hj
    have hl : (tnI (at_ p k) s.f).length = s.f.tn.length := by
      unfold tnI
      repeat' split
      all_goals simp
    rw [hl] at hj
    have hold := h4 j hj
    show 0 ≤ (tnI (at_ p k) s.f).getD j 0 ∧ (tnI (at_ p k) s.f).getD j 0 ≤ _
    have hs : ∀ v : Int, (s.f.tn.set k v).getD j 0 = if j = k then v else s.f.tn.getD j 0 := fun v => by
      rw [List.getD_eq_getElem?_getD, List.getElem?_set]
      by_cases hjk : j = k
      · subst hjk; simp [hj]
      · rw [if_neg (Ne.symm hjk), if_neg hjk, List.getD_eq_getElem?_getD]
    unfold tnI
    by_cases hb : (at_ p k).op = 16
    · rw [if_pos hb]
      have hkk := h4 k (by omega)
      have hm : mostI (at_ p k) = (at_ p k).c := by unfold mostI; rw [if_pos hb]
      have htv : tnv s.f = s.f.tn.getD k 0 := by unfold tnv; rw [htn]
      rw [hm] at hkk
      by_cases hbk : backB (at_ p k) s.f = true
      · rw [if_pos hbk, htn, hs]
        unfold backB at hbk
        simp only [decide_eq_true_eq] at hbk
        split
        · next h => subst h; rw [hm]; omega
        · exact hold
      · rw [if_neg hbk, htn, hs]
        split
        · next h => subst h; rw [hm]; omega
        · exact hold
    · rw [if_neg hb]
      exact hold
end Go.Proofs.YtiipdeionmndcaaDoor.Fr
