/-

  Package four: an operation's step as a whole, and what is told of it.
-/
import Derived.Test.YtikjkmomokhanabGreatSeqStep
set_option linter.unusedSimpArgs false
set_option linter.unusedVariables false
namespace Go.Proofs.YtikjkmomokhanabGreat.Sq
open Go.ChangeShapes Go.WideShapes Go.ChangeAt Go.RowKit Ws Mm Pa

section
variable {R : Nat → Prop} {g gm : Nat} {T : TypeId} {p : Pt} {l : List Int} {st : Int} {o : Op.Im} {size : Nat} {s : Op.St}

/-- block g is an operation of four slots that stands at s -/
structure FB (w : World) (g : Nat) (T : TypeId) (o : Op.Im) (size : Nat) (s : Op.St) (p : Pt) : Prop where
  blk : PB w g T p (exf s)
  imp : Imp o size s p
theorem FB.chg {S : Nat → Prop} {w w' : World} (h : FB w g T o size s p) (hc : Chg S w w') (hn : ¬ S g) : FB w' g T o size s p := ⟨h.1.chg hc hn, h.2⟩
theorem FB.same {w w' : World} (h : FB w g T o size s p) (hc : Same w w') : FB w' g T o size s p := ⟨h.1.same hc, h.2⟩

theorem fwrite_any (w : World) (h : FB w g T o size s p) (m : Mem w R gm l st) (hg : ¬ R g) (hl : Op.Wd l) (ok : Op.seqOk o s) (hw : Op.seqAl o) (hfit : o.at_ + size ≤ l.length) (hsz : size = 1 + o.width) (hov : s.over = false) (hs : s.steps ≤ 1000) (hwr : o.wr = true) :
    Calls Tryz.prog 182 #[.pointer (some ⟨g, 0, none⟩), .pointer (some ⟨gm, 0, none⟩)] w (Did R g gm T exf o size (Op.seq o s l) (wrap64 (st + 1)) w) := by
  have hr := (((ok.2.2.2 hov).2.2).1 hwr).2.1
  rcases h0 : s.row with _ | _ | _ | _ | n
  · exact sw0 w h.1 h.2 m hg hl ok hw hfit hsz hov hs hwr h0
  · exact sw1 w h.1 h.2 m hg hl ok hw hfit hsz hov hs hwr h0
  · exact sw2 w h.1 h.2 m hg hl ok hw hfit hsz hov hs hwr h0
  · exact sw3 w h.1 h.2 m hg hl ok hw hfit hsz hov hs hwr h0
  · omega
theorem fread_any (w : World) (h : FB w g T o size s p) (m : Mem w R gm l st) (hg : ¬ R g) (hl : Op.Wd l) (ok : Op.seqOk o s) (hw : Op.seqAl o) (hfit : o.at_ + size ≤ l.length) (hsz : size = 1 + o.width) (hov : s.over = false) (hs : s.steps ≤ 1000) (hwr : o.wr = false) :
    Calls Tryz.prog 181 #[.pointer (some ⟨g, 0, none⟩), .pointer (some ⟨gm, 0, none⟩)] w (Did R g gm T exf o size (Op.seq o s l) (wrap64 (st + 1)) w) := by
  have hr := (((ok.2.2.2 hov).2.2).2 hwr).1
  rcases h0 : s.row with _ | _ | _ | n
  · by_cases ho : Op.gd l (o.at_ + 0) % 2 = 1
    · exact sr0f w h.1 h.2 m hg hl ok hw hfit hsz hov hs hwr h0 ho
    · exact sr0 w h.1 h.2 m hg hl ok hw hfit hsz hov hs hwr h0 ho
  · exact sr1 w h.1 h.2 m hg hl ok hw hfit hsz hov hs hwr h0
  · by_cases ho : Op.gd l (o.at_ + 0) = s.a
    · exact sr2 w h.1 h.2 m hg hl ok hw hfit hsz hov hs hwr h0 ho
    · exact sr2f w h.1 h.2 m hg hl ok hw hfit hsz hov hs hwr h0 ho
  · omega

/-- a step was made: what came of it -/
def Went (R : Nat → Prop) (g gm : Nat) (T : TypeId) (o : Op.Im) (size : Nat) (r : Op.St × List Int) (st : Int) (w : World) (e : Ending) (w' : World) : Prop :=
  e = .returned (.bool true) ∧ ∃ p', FB w' g T o size r.1 p' ∧ Mem w' R gm r.2 st ∧ Chg (fun i => R i ∨ i = g) w w'

theorem step_go (w : World) (h : FB w g T o size s p) (m : Mem w R gm l st) (hg : ¬ R g) (hl : Op.Wd l) (ok : Op.seqOk o s) (hw : Op.seqAl o) (hfit : o.at_ + size ≤ l.length) (hsz : size = 1 + o.width) (hov : s.over = false) (hs : s.steps ≤ 1000) :
    Calls Tryz.prog 178 #[.pointer (some ⟨g, 0, none⟩), .pointer (some ⟨gm, 0, none⟩)] w (Went R g gm T o size (Op.seq o s l) (wrap64 (st + 1)) w) := by
  have hin : inB l.length p.at_ p.size = true := by
    have := h.2.at_
    have := h.2.size
    unfold inB
    simp
    omega
  have hun : p.un = true := by rw [h.2.un, hov]; rfl
  have HM := pmay_yes w h.1 m hun true hin
  have rd := h.2.rd
  cases hwr : o.wr
  · rw [hwr] at rd
    have c0 := h.1.head.1
    rw [rd] at c0
    have HG := fun w' (s' : Same w w') => fread_any w' (h.same s') (m.same s') hg hl ok hw hfit hsz hov hs hwr
    have HC := Lib.hid c0
    clear h m hin hun rd hl ok hfit hsz c0
    go_enter Tryz.func178, Tryz.ntmps178
    go_wp2_with fail
    refine HM.mono ?_
    rintro e w1 ⟨rfl, s1⟩
    have c0 := s1.cell HC.out
    go_wp2_with fail
    refine (HG _ s1).mono ?_
    rintro e w2 ⟨rfl, p', I, L⟩
    go_wp2
    go_ret
    exact ⟨rfl, p', ⟨L.op, I⟩, L.mem, (s1.chg _).trans L.chg⟩
  · rw [hwr] at rd
    have c0 := h.1.head.1
    rw [rd] at c0
    have HG := fun w' (s' : Same w w') => fwrite_any w' (h.same s') (m.same s') hg hl ok hw hfit hsz hov hs hwr
    have HC := Lib.hid c0
    clear h m hin hun rd hl ok hfit hsz c0
    go_enter Tryz.func178, Tryz.ntmps178
    go_wp2_with fail
    refine HM.mono ?_
    rintro e w1 ⟨rfl, s1⟩
    have c0 := s1.cell HC.out
    go_wp2_with fail
    refine (HG _ s1).mono ?_
    rintro e w2 ⟨rfl, p', I, L⟩
    go_wp2
    go_ret
    exact ⟨rfl, p', ⟨L.op, I⟩, L.mem, (s1.chg _).trans L.chg⟩

theorem step_over (w : World) (h : FB w g T o size s p) (m : Option Addr) (hov : s.over = true) :
    Calls Tryz.prog 178 #[.pointer (some ⟨g, 0, none⟩), .pointer m] w fun e w' => e = .returned (.bool false) ∧ Same w w' := by
  have hun : p.un = false := by rw [h.2.un, hov]; rfl
  have HM := pmay_no w h.1 m hun
  clear h hun
  go_enter Tryz.func178, Tryz.ntmps178
  go_wp2_with fail
  refine HM.mono ?_
  rintro e w1 ⟨rfl, s1⟩
  go_wp2
  go_ret
  exact ⟨rfl, s1⟩
theorem step_out (w : World) (h : FB w g T o size s p) (m : Mem w R gm l st) (hfit : ¬ o.at_ + size ≤ l.length) :
    Calls Tryz.prog 178 #[.pointer (some ⟨g, 0, none⟩), .pointer (some ⟨gm, 0, none⟩)] w fun e w' => e = .returned (.bool false) ∧ Same w w' := by
  cases hov : s.over
  · have hin : inB l.length p.at_ p.size = false := by
      have := h.2.at_
      have := h.2.size
      unfold inB
      simp
      omega
    have hun : p.un = true := by rw [h.2.un, hov]; rfl
    have HM := pmay_yes w h.1 m hun false hin
    clear h hun hin m
    go_enter Tryz.func178, Tryz.ntmps178
    go_wp2_with fail
    refine HM.mono ?_
    rintro e w1 ⟨rfl, s1⟩
    go_wp2
    go_ret
    exact ⟨rfl, s1⟩
  · exact step_over w h _ hov
theorem step_nil (w : World) (m : Option Addr) : Calls Tryz.prog 178 #[.pointer none, .pointer m] w fun e w' => e = .returned (.bool false) ∧ Same w w' := by
  go_enter Tryz.func178, Tryz.ntmps178
  go_wp2
  go_ret
  exact ⟨rfl, Same.refl _⟩

theorem part_any (w : World) : Calls Tryz.prog 180 #[.pointer (some ⟨g, 0, none⟩)] w fun e w' => e = .returned (.pointer (some ⟨g, 0, none⟩)) ∧ w = w' := by
  go_enter Tryz.func180, Tryz.ntmps180
  go_wp2
  go_ret
  exact ⟨rfl, rfl⟩
theorem part_nil (w : World) : Calls Tryz.prog 180 #[.pointer none] w fun e w' => e = .returned (.pointer none) ∧ w = w' := by
  go_enter Tryz.func180, Tryz.ntmps180
  go_wp2
  go_ret
  exact ⟨rfl, rfl⟩
theorem over_any (w : World) (h : FB w g T o size s p) : Calls Tryz.prog 177 #[.pointer (some ⟨g, 0, none⟩)] w fun e w' => e = .returned (.bool s.over) ∧ w = w' := by
  have HP := pover w h.1
  have hu : (!p.un) = s.over := by rw [h.2.un, Bool.not_not]
  rw [hu] at HP
  clear hu h
  -- 144
  go_enter Tryz.func177, Tryz.ntmps177
  go_wp2_with fail
  refine (part_any _).mono ?_
  rintro e w' ⟨rfl, rfl⟩
  go_wp2_with fail
  refine HP.mono ?_
  rintro e w' ⟨rfl, rfl⟩
  go_wp2
  go_ret
  exact ⟨rfl, rfl⟩
theorem over_nil (w : World) : Calls Tryz.prog 177 #[.pointer none] w fun e w' => e = .returned (.bool true) ∧ w = w' := by
  -- 144
  go_enter Tryz.func177, Tryz.ntmps177
  go_wp2_with fail
  refine (part_nil _).mono ?_
  rintro e w' ⟨rfl, rfl⟩
  go_wp2_with fail
  refine (pover_nil _).mono ?_
  rintro e w' ⟨rfl, rfl⟩
  go_wp2
  go_ret
  exact ⟨rfl, rfl⟩
theorem steps_any (w : World) (h : FB w g T o size s p) : Calls Tryz.prog 179 #[.pointer (some ⟨g, 0, none⟩)] w fun e w' => e = .returned (.int .i64 s.steps) ∧ w = w' := by
  have HP := psteps w h.1
  rw [h.2.steps] at HP
  clear h
  go_enter Tryz.func179, Tryz.ntmps179
  go_wp2_with fail
  refine (part_any _).mono ?_
  rintro e w' ⟨rfl, rfl⟩
  go_wp2_with fail
  refine HP.mono ?_
  rintro e w' ⟨rfl, rfl⟩
  go_wp2
  go_ret
  exact ⟨rfl, rfl⟩
theorem steps_nil (w : World) : Calls Tryz.prog 179 #[.pointer none] w fun e w' => e = .returned (.int .i64 0) ∧ w = w' := by
  go_enter Tryz.func179, Tryz.ntmps179
  go_wp2_with fail
  refine (part_nil _).mono ?_
  rintro e w' ⟨rfl, rfl⟩
  go_wp2_with fail
  refine (psteps_nil _).mono ?_
  rintro e w' ⟨rfl, rfl⟩
  go_wp2
  go_ret
  exact ⟨rfl, rfl⟩

/-- what is answered of an operation -/
def answer (s : Op.St) : List Int := if s.over then s.rc else []
def answerCode (s : Op.St) : Int := if s.over then s.code else 0
theorem panswer_any (w : World) (h : FB w g T o size s p) (hw : o.width ≤ 8) (hrc : s.over = true → (o.wr = true ∨ s.code ≠ 0 → s.rc = []) ∧ (o.wr = false → s.code = 0 → s.rc.length = o.width)) :
    Calls Tryz.prog 143 #[.pointer (some ⟨g, 0, none⟩)] w (Says (answer s) (answerCode s) w) := by
  have hun := h.2.un
  have hrd := h.2.rd
  have hcode := h.2.code
  unfold answer answerCode
  cases hov : s.over
  · rw [hov] at hun
    rw [if_neg (by simp), if_neg (by simp)]
    exact panswer_way w h.1 hun
  · rw [hov] at hun
    obtain ⟨h1, h2⟩ := hrc hov
    rw [if_pos rfl, if_pos rfl, ← hcode]
    cases hwr : o.wr
    · rw [hwr] at hrd
      by_cases hc : s.code = 0
      · have hl := h2 hwr hc
        have ht := h.2.rc
        rw [hl] at ht
        have := panswer_good w h.1 hun hrd (by omega) o.width h.2.width hw
        rw [ht] at this
        rw [hcode, hc]
        exact this
      · rw [h1 (.inr hc)]
        exact panswer_bad w h.1 hun hrd (by rw [hcode]; simpa using hc)
    · rw [hwr] at hrd
      rw [h1 (.inl hwr)]
      exact panswer_wr w h.1 hun hrd
theorem answer_any (w : World) (h : FB w g T o size s p) (hw : o.width ≤ 8) (hrc : s.over = true → (o.wr = true ∨ s.code ≠ 0 → s.rc = []) ∧ (o.wr = false → s.code = 0 → s.rc.length = o.width)) :
    Calls Tryz.prog 176 #[.pointer (some ⟨g, 0, none⟩)] w (Says (answer s) (answerCode s) w) := by
  have HP := panswer_any w h hw hrc
  clear h
  go_enter Tryz.func176, Tryz.ntmps176
  go_wp2_with fail
  refine (part_any _).mono ?_
  rintro e w' ⟨rfl, rfl⟩
  go_wp2_with fail
  refine HP.mono ?_
  rintro e w' ⟨A, n, c, rfl, hA, hn, hs⟩
  have HA := Lib.hid hA
  have HN := Lib.hid hn
  clear hA hn
  go_wp2
  go_ret2
  exact ⟨A, n, c, rfl, HA.out, HN.out, hs⟩
theorem answer_nil (w : World) : Calls Tryz.prog 176 #[.pointer none] w (Says [] 0 w) := by
  go_enter Tryz.func176, Tryz.ntmps176
  go_wp2_with fail
  refine (part_nil _).mono ?_
  rintro e w' ⟨rfl, rfl⟩
  go_wp2_with fail
  refine (panswer_nil _).mono ?_
  rintro e w' ⟨A, n, c, rfl, hA, hn, hs⟩
  have HA := Lib.hid hA
  have HN := Lib.hid hn
  clear hA hn
  go_wp2
  go_ret2
  exact ⟨A, n, c, rfl, HA.out, HN.out, hs⟩
theorem clone_nil (w : World) : Calls Tryz.prog 95 #[.pointer none] w fun e w' => e = .returned (.pointer none) ∧ w = w' := by
  go_enter Tryz.func95, Tryz.ntmps95
  go_wp2
  go_ret
  exact ⟨rfl, rfl⟩
end

end Go.Proofs.YtikjkmomokhanabGreat.Sq
