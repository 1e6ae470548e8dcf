/-
  The walk of the law RecordUnstamps: it returns true whatever the words are.
-/
import Derived.Test.YtogaolnnkjkgdabDoorRecAwake
namespace Go.Proofs.YtogaolnnkjkgdabDoor.Rc
open Go.ChangeShapes Go.WideShapes Go.ChangeAt Go.RowKit Ws

/-- a slice of integers that came in -/
def Came (k : IntKind) (w : World) (a : Option Addr) (len cap : Nat) (zs : List Int) : Prop :=
  (a = none ∧ len = 0 ∧ cap = 0 ∧ zs = []) ∨
  ∃ x, a = some x ∧ len ≤ cap ∧ cap ≤ maxLen ∧ zs.length = cap ∧ (∀ i, i < zs.length → w.cell? (x.add i) = some (.int k (zs.getD i 0))) ∧ ∀ n ∈ zs, (Lit.int k n).wf = true

theorem came_row {w : World} {a : Option Addr} {len cap : Nat} {zs : List Int} (h : Came .u32 w a len cap zs) :
    ∃ l : List Int, l.length = len ∧ Row w a (w32 l) ∧ (∀ x ∈ l, 0 ≤ x ∧ x < 4294967296) ∧ len ≤ 9223372036854775807 := by
  rcases h with ⟨rfl, rfl, rfl, rfl⟩ | ⟨x, rfl, h1, h2, h3, h4, h5⟩
  · exact ⟨[], rfl, Row.nil _ _, fun x h => by simp at h, by omega⟩
  · refine ⟨zs.take len, by rw [List.length_take]; omega, ?_, ?_, by unfold maxLen at h2; omega⟩
    · intro j u hj
      unfold w32 at hj
      rw [List.getElem?_map, List.getElem?_take] at hj
      by_cases hlt : j < len
      · rw [if_pos hlt, List.getElem?_eq_getElem (by omega)] at hj
        simp at hj
        have hc := h4 j (by omega)
        obtain ⟨b, o, spot⟩ := x
        have hc0 := h4 0 (by omega)
        have hs : spot = none := by simpa [Addr.add] using World.cell?_spot hc0
        subst hs
        refine ⟨b, o, rfl, ?_⟩
        rw [← hj]
        have e : zs.getD j 0 = zs[j]'(by omega) := by simp [List.getD, List.getElem?_eq_getElem (show j < zs.length by omega)]
        rw [e] at hc
        cases j with
        | zero => simpa [Addr.add] using hc
        | succ j => simpa [Addr.add] using hc
      · rw [if_neg hlt] at hj
        cases hj
    · intro y hy
      have h := h5 y (List.mem_of_mem_take hy)
      simp only [Lit.wf, IntKind.min, IntKind.max, IntKind.signed, IntKind.bits, Bool.and_eq_true] at h
      simp at h
      omega

theorem unstamps_big (A : Option Addr) (n c : Nat) (w : World) (hn : 60 < n) :
    Calls Tryd.prog 3 #[.slice A n c] w fun e w' => e = .returned (.bool true) ∧ Same w w' := by
  have h1 : (60 : Int) < (n : Int) := by omega
  go_enter Tryd.func3, Tryd.ntmps3
  go_wp2_with fail
  refine (rawake _).mono ?_
  rintro e w1 ⟨rfl, s1⟩
  go_wp2
  go_ret
  exact ⟨rfl, s1⟩

theorem unstamps_nil (A : Option Addr) (c : Nat) (w : World) :
    Calls Tryd.prog 3 #[.slice A 0 c] w fun e w' => e = .returned (.bool true) ∧ Same w w' := by
  go_enter Tryd.func3, Tryd.ntmps3
  go_wp2_with fail
  refine (unstamp_any A 0 c [] w rfl (by omega) (Row.nil _ _) (fun x hx => by simp at hx)).mono ?_
  rintro e w1 ⟨rfl, s1⟩
  rw [show isStamp [] = false from rfl]
  go_wp2_with fail
  refine (rawake _).mono ?_
  rintro e w2 ⟨rfl, s2⟩
  go_wp2
  go_ret
  exact ⟨rfl, s1.trans s2⟩

theorem unstamps_small (A : Option Addr) (n c : Nat) (x : Int) (r : List Int) (w : World) (hn : (x :: r).length = n) (hn2 : n ≤ 60) (hr : Row w A (w32 (x :: r))) (hk : ∀ y ∈ x :: r, 0 ≤ y ∧ y < 4294967296) :
    Calls Tryd.prog 3 #[.slice A n c] w fun e w' => e = .returned (.bool true) ∧ Same w w' := by
  have h1 : ¬ (60 : Int) < (n : Int) := by omega
  have hx := hk x (by simp)
  obtain ⟨b, o, rfl, hc⟩ := hr.at_ (k := 0) (by rw [w32_len]; simp)
  have hc : w.cell? ⟨b, o, none⟩ = some (.int .u32 x) := by simpa [w32] using hc
  have hp : (0 : Int) < (n : Int) := by rw [← hn]; simp
  have hi : isStamp (x :: r) = decide (x :: r = stamp x (wide (n : Int))) := by
    unfold isStamp
    rw [hn]
    simp
  have HI := Lib.hid hi
  have HN := Lib.hid hn
  clear hi hn
  by_cases h8 : n ≤ 8
  · have h8' : (n : Int) ≤ 8 := by omega
    obtain ⟨v, hv⟩ : ∃ v, v = isStamp (x :: r) := ⟨_, rfl⟩
    have hd : decide (x :: r = stamp x (wide (n : Int))) = v := by rw [hv, HI.out]
    have HU := Lib.hid (unstamp_any _ n c (x :: r) w HN.out (by omega) hr hk)
    rw [← hv] at HU
    have HD := Lib.hid hd
    clear hv hd HI hk
    cases v
    all_goals
      go_enter Tryd.func3, Tryd.ntmps3
      go_wp2_with fail
      refine HU.out.mono ?_
      rintro e w1 ⟨rfl, s1⟩
      simp only [List.headD_cons, if_true, if_false, Bool.false_eq_true]
      have hc1 := s1.cell hc
      go_wp2_with fail
      refine (rstamp_any (n : Int) x hx w1).mono ?_
      rintro e w2 ⟨A2, c2, rfl, o2, s2⟩
      have s12 := s1.trans s2
      have hc2 := s2.cell hc1
      go_wp2_with fail
      refine (rsame_any _ A2 n (wide (n : Int)) c c2 (x :: r) (stamp x (wide (n : Int))) w2 HN.out (stamp_len _ _) (hr.same s12) o2.row (by omega) (by have := wide_le (n : Int); omega)).mono ?_
      rintro e w3 ⟨rfl, q, rfl⟩
      rw [HD.out]
      have s13 := s12.drewN q
      have hxx : (x == x) = true := by simp
      go_wp2_with fail
      refine (rawake _).mono ?_
      rintro e w4 ⟨rfl, s4⟩
      go_wp2
      go_ret
      exact ⟨rfl, s13.trans s4⟩
  · have h8' : ¬ (n : Int) ≤ 8 := by omega
    have hv : isStamp (x :: r) = false := by
      rw [HI.out, decide_eq_false_iff_not]
      intro h
      have h1 := congrArg List.length h
      rw [HN.out, stamp_len] at h1
      have := wide_le (n : Int)
      omega
    have HU := Lib.hid (unstamp_any _ n c (x :: r) w HN.out (by omega) hr hk)
    rw [hv] at HU
    clear hv HI hk
    go_enter Tryd.func3, Tryd.ntmps3
    go_wp2_with fail
    refine HU.out.mono ?_
    rintro e w1 ⟨rfl, s1⟩
    simp only [if_false, Bool.false_eq_true]
    go_wp2_with fail
    refine (rawake _).mono ?_
    rintro e w4 ⟨rfl, s4⟩
    go_wp2
    go_ret
    exact ⟨rfl, s1.trans s4⟩

theorem unstamps_walk (A : Option Addr) (n c : Nat) (zs : List Int) (w : World) (h : Came .u32 w A n c zs) :
    Calls Tryd.prog 3 #[.slice A n c] w fun e w' => e = .returned (.bool true) ∧ Below w.heap.size w w' := by
  obtain ⟨l, hl, hr, hk, _⟩ := came_row h
  by_cases hn : n ≤ 60
  · cases l with
    | nil =>
      have h0 : n = 0 := hl.symm
      subst h0
      exact (unstamps_nil A c w).mono fun e w' ⟨he, hs⟩ => ⟨he, hs.below⟩
    | cons x r => exact (unstamps_small A n c x r w hl hn hr hk).mono fun e w' ⟨he, hs⟩ => ⟨he, hs.below⟩
  · exact (unstamps_big A n c w (by omega)).mono fun e w' ⟨he, hs⟩ => ⟨he, hs.below⟩

end Go.Proofs.YtogaolnnkjkgdabDoor.Rc
