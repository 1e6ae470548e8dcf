/-

  Layer 32: what is wrong of a system first (system.Check), as a whole.
-/
import Derived.Test.YtfpefkpbiioofabDoorSysCall
set_option linter.unusedVariables false
set_option linter.unusedSimpArgs false
namespace Go.Proofs.YtfpefkpbiioofabDoor.Sy
open Go.ChangeShapes Go.WideShapes Go.ChangeAt Go.RowKit Ws
open Go.Proofs.YtfpefkpbiioofabDoor.Im (PT PO PS TsAt OsAt SysAt tcells ocells TWf OWf SysWf)
open Go.Proofs.YtfpefkpbiioofabDoor.Is (Tabs)
open Go.Proofs.YtfpefkpbiioofabDoor.Ly (three_same)

theorem firstN_no {R : Type} {f : Nat → Option R} {n : Nat} (h : firstN f n = none) : ∀ j, j < n → f j = none := by
  induction n with
  | zero => intro j hj; omega
  | succ n ih =>
    intro j hj
    have h2 : (firstN f n).or (f n) = none := h
    cases hf : firstN f n with
    | some r => rw [hf] at h2; cases h2
    | none =>
      rw [hf] at h2
      by_cases hjn : j = n
      · subst hjn; exact h2
      · exact ih hf j (by omega)
theorem firstN_is {R : Type} {f : Nat → Option R} {n : Nat} {r : R} (h : firstN f n = some r) : ∃ k, k < n ∧ f k = some r := by
  induction n with
  | zero => cases h
  | succ n ih =>
    have h2 : (firstN f n).or (f n) = some r := h
    cases hf : firstN f n with
    | some q =>
      rw [hf] at h2
      injection h2 with h2
      subst h2
      obtain ⟨k, h3, h4⟩ := ih hf
      exact ⟨k, by omega, h4⟩
    | none =>
      rw [hf] at h2
      exact ⟨n, by omega, h2⟩
/-- the instructions of tasks that have no fault are right -/
theorem right_code {ts : List PT} (h : ∀ j, j < ts.length → tkf ts j = none) : ∀ t ∈ ts, ∀ x ∈ t.code, Is.rightB x.op x.a x.b x.c x.n = true := by
  intro t ht x hx
  obtain ⟨j, hj, rfl⟩ := List.getElem_of_mem ht
  have h1 := h j hj
  unfold tkf at h1
  rw [List.getElem?_eq_getElem hj] at h1
  simp only at h1
  by_cases hz : tE ts[j] = 0
  · unfold tE Tp.fE at hz
    split at hz
    · have hf := Fp.fine_of (right := Fw.rightI) hz
      obtain ⟨i, hi, rfl⟩ := List.getElem_of_mem hx
      have h2 := hf.right i (by rw [List.length_map]; exact hi)
      have h3 : Fp.at_ (ts[j].code.map toP) i = toP ts[j].code[i] := Fp.at_eq (by rw [List.getElem?_map, List.getElem?_eq_getElem hi]; rfl)
      rw [h3] at h2
      exact h2
    · cases hz
  · rw [if_neg hz] at h1
    cases h1
theorem good_objs {os : List PO} (h : ∀ j, j < os.length → obf os j = none) : ∀ o ∈ os, OGood o := by
  intro o ho
  obtain ⟨j, hj, rfl⟩ := List.getElem_of_mem ho
  have h1 := h j hj
  unfold obf at h1
  rw [List.getElem?_eq_getElem hj] at h1
  simp only at h1
  by_cases hz : oR os[j] = true
  · exact good_of hz
  · rw [if_neg hz] at h1
    cases h1
theorem tasks_ok {ts : List PT} (h : (fTasks ts).2 = 0) : ∀ j, j < ts.length → tkf ts j = none := by
  unfold fTasks at h
  cases hf : firstN (tkf ts) ts.length with
  | none => exact firstN_no hf
  | some r =>
    obtain ⟨k, hk, hr⟩ := firstN_is hf
    rw [hf] at h
    unfold tkf at hr
    rw [List.getElem?_eq_getElem hk] at hr
    simp only at hr
    by_cases hz : tE ts[k] = 0
    · rw [if_pos hz] at hr; cases hr
    · rw [if_neg hz] at hr
      injection hr with hr
      rw [← hr] at h
      exact absurd h hz
theorem objs_ok {os : List PO} (h : (fObjs os).2 = 0) : ∀ j, j < os.length → obf os j = none := by
  unfold fObjs at h
  cases hf : firstN (obf os) os.length with
  | none => exact firstN_no hf
  | some r =>
    obtain ⟨k, hk, hr⟩ := firstN_is hf
    rw [hf] at h
    unfold obf at hr
    rw [List.getElem?_eq_getElem hk] at hr
    simp only at hr
    by_cases hz : oR os[k] = true
    · rw [if_pos hz] at hr; cases hr
    · rw [if_neg hz] at hr
      injection hr with hr
      rw [← hr] at h
      cases h
noncomputable def SF (s : PS) (n m : Nat) (re : Int) (j : Nat) : Spt × Int := if j = 0 then fNum n m else if j = 1 then fTasks s.ts else if j = 2 then fObjs s.os else if j = 3 then fUsers n s.os else if j = 4 then fCalls s else (nw, re)
theorem check_any (A B : Option Addr) (n c m d : Nat) (s : PS) (tks : List Tk.Task) (obs : List Ly.Objt) (w : World) (hs : SysAt w A n B m s) (hw : SysWf s) (htf : TFew s.ts 60) (hof : OFew s.os 60) (hT : Tabs w)
    (hl1 : tks.length = n) (hl2 : obs.length = m) (ht : Tk.Tasks w A tks) (ho : Ly.Objs w B obs) (hlen : ∀ L, Ly.lensF tks obs = some L → L.length = n + m ∧ ∀ x ∈ L, 0 ≤ x ∧ x ≤ 1000000) :
    Calls Tryd.prog 7 #[.agg #[.slice A n c, .slice B m d]] w (FltP w (chk (SF s n m (roomE tks obs)))) := by
  have hn60 : n ≤ 60 := by have := htf.1; have := hs.hn; omega
  have hm60 : m ≤ 60 := by have := hof.1; have := hs.hm; omega
  have hof5 : OFew s.os 5000 := ⟨by have := hof.1; omega, hof.2⟩
  exact check_of A B n c m d (SF s n m (roomE tks obs)) w
    (fun _ W _ => numbers_any A B n c m d W)
    (fun _ W h => tasks_any A B n c m d s.ts W hs.hn (by omega) (hs.ht.same h) htf.2 (hT.same h))
    (fun _ W h => objects_any A B n c m d s.os W hs.hm (hs.ho.same h) hof5 hw.os)
    (fun _ W h => users_any A B n c m d s.os W hs.hm (hs.ho.same h) hof5)
    (fun h0 W h => calls_any A B n c m d s W (hs.same h) (by omega) (fun p hp => ⟨htf.2 p hp, right_code (tasks_ok (h0 1 (by omega))) p hp⟩) (good_objs (objs_ok (h0 2 (by omega)))) hof5 (hT.same h))
    (fun _ W h => room_any A B n c m d tks obs W hl1 hl2 (by omega) (by omega) (ht.same h) (ho.same h) hlen)
end Go.Proofs.YtfpefkpbiioofabDoor.Sy
