/-

  TaskCopies: whether two tasks are the same, and a copy that goes its own way.
-/
import Derived.Test.YtejajmdmfipplabTaskCopy
set_option linter.unusedVariables false
set_option linter.unusedSimpArgs false
namespace Go.Proofs.Ytejajmdmfipplab.Tk
open Go.ChangeShapes Go.WideShapes Go.ChangeAt Go.RowKit Ws
open Go.Proofs.Ytejajmdmfipplab.Wd (ret_bool ret_int)
open Go.Proofs.Ytejajmdmfipplab.Fp (Ins)

/-- an instruction whose kind is one more -/
def bump (x : Ins) : Ins := ⟨wrap64 (x.op + 1), x.a, x.b, x.c, x.n⟩
theorem bump_ne (x : Ins) : ¬ x.op = wrap64 (x.op + 1) := by
  intro h
  unfold wrap64 at h
  omega
/-- a program, its first k instructions bumped -/
def bumpTo (p : List Ins) (k : Nat) : List Ins := (p.take k).map bump ++ p.drop k
theorem bumpTo_zero (p : List Ins) : bumpTo p 0 = p := by simp [bumpTo]
theorem bumpTo_len (p : List Ins) (k : Nat) : (bumpTo p k).length = p.length := by
  unfold bumpTo
  rw [List.length_append, List.length_map, List.length_take, List.length_drop]
  omega
theorem pflat_app (p q : List Ins) : pflat (p ++ q) = pflat p ++ pflat q := by simp [pflat]
theorem drop_at {p : List Ins} {k : Nat} (h : k < p.length) : p.drop k = Fp.at_ p k :: p.drop (k + 1) := by
  have h1 := Fp.at_some h
  rw [List.getElem?_eq_getElem h] at h1
  injection h1 with h1
  rw [← h1]
  exact List.drop_eq_getElem_cons h
theorem bumpTo_at {p : List Ins} {k : Nat} (h : k < p.length) : (bumpTo p k)[k]? = some (Fp.at_ p k) := by
  unfold bumpTo
  rw [drop_at h, List.getElem?_append_right (by simp; omega)]
  simp [Nat.min_eq_left (Nat.le_of_lt h)]
theorem bumpTo_next {p : List Ins} {k : Nat} (h : k < p.length) : (bumpTo p (k + 1))[k]? = some (bump (Fp.at_ p k)) := by
  unfold bumpTo
  rw [take_at h, List.map_append, List.getElem?_append_left (by simp; omega), List.getElem?_append_right (by simp; omega)]
  simp [Nat.min_eq_left (Nat.le_of_lt h)]
theorem bumpTo_set {p : List Ins} {k : Nat} (h : k < p.length) : (pflat (bumpTo p k)).set (k * 5) (.int .i64 (wrap64 ((Fp.at_ p k).op + 1))) = pflat (bumpTo p (k + 1)) := by
  have hl : (pflat ((p.take k).map bump)).length = k * 5 := by rw [pflat_len, List.length_map, List.length_take, Nat.min_eq_left (Nat.le_of_lt h)]
  unfold bumpTo
  rw [drop_at h, take_at h, List.map_append, pflat_app, pflat_app, pflat_app, List.set_append_right _ _ (by omega), hl, Nat.sub_self, List.append_assoc]
  rfl
theorem bump_same (p : List Ins) : decide (p = bumpTo p p.length) = (p.length == 0) := by
  cases p with
  | nil => simp [bumpTo]
  | cons x p =>
    have h1 : ¬ (x :: p = bumpTo (x :: p) (x :: p).length) := by
      intro h
      unfold bumpTo at h
      rw [List.take_length, List.drop_length, List.append_nil, List.map_cons] at h
      injection h with h
      exact bump_ne x (congrArg Fp.Ins.op h)
    rw [decide_eq_false h1]
    simp

theorem ownK_put {w : World} {B : Nat} {e : TypeId} {s : Nat} {g n c : Nat} {l : List Value} (h : OwnK w B e s (some ⟨g, 0, none⟩) n c l) (j : Nat) (u : Value) :
    OwnK (w.setCell ⟨g, j, none⟩ u) B e s (some ⟨g, 0, none⟩) n c (l.set j u) := (World.ownsRow.stored h j u).1
theorem ownK_thaw {w : World} {B : Nat} {e : TypeId} {s : Nat} {A : Option Addr} {n c : Nat} {l : List Value} (h : OwnK w B e s A n c l) (h0 : 0 < n) : ∃ g, A = some ⟨g, 0, none⟩ ∧ B ≤ g ∧ ∀ j, w.frozen? ⟨g, j, none⟩ = false := by
  rcases h.2 with ⟨h2, _⟩ | ⟨g, cap, cur, hv, hb, hg, rest⟩
  · injection h2 with _ h2 _
    omega
  · have hA : A = some ⟨g, 0, none⟩ := by injection hv
    exact ⟨g, hA, hb, fun j => Blk.thaw (t := e) hg j⟩
theorem task_put {w : World} {g h : Nat} {j : Nat} {u : Value} {t : TypeId} {cs : Array Value} (hb : Blk w h t cs) (hne : g ≠ h) : Blk (w.setCell ⟨g, j, none⟩ u) h t cs :=
  hb.chg (S := fun i => i = g) ((Chg.refl (fun i => i = g) w).set (p := ⟨g, j, none⟩) (.inl rfl) u) (fun h => hne h.symm)
theorem same_self (a b : Task) (p : List Ins) (h : a.kind = b.kind ∧ a.prio = b.prio ∧ a.per = b.per ∧ a.off = b.off ∧ a.dl = b.dl ∧ a.own = b.own) : sameB a b p p = true := by
  unfold sameB
  exact decide_eq_true ⟨h.1, h.2.1, h.2.2.1, h.2.2.2.1, h.2.2.2.2.1, h.2.2.2.2.2, rfl⟩
theorem same_bump (a b : Task) (p q : List Ins) (h : a.kind = b.kind ∧ a.prio = b.prio ∧ a.per = b.per ∧ a.off = b.off ∧ a.dl = b.dl ∧ a.own = b.own) : sameB a b p q = decide (p = q) := by
  unfold sameB
  rw [Bool.eq_iff_iff]
  simp [h]

set_option maxRecDepth 100000 in
set_option maxHeartbeats 1000000 in
theorem copies_any (ak ap ar ao ad aw : Int) (A : Option Addr) (n ca : Nat) (bk bp br bo bd bw : Int) (B : Option Addr) (m cb : Nat) (p q : List Ins) (w : World) (hp : p.length = n) (hq : q.length = m) (hx : Prg w A p) (hy : Prg w B q) :
    Calls Try.prog 5 #[.agg #[.int .i64 ak, .int .i64 ap, .int .i64 ar, .int .i64 ao, .int .i64 ad, .int .i64 aw, .slice A n ca], .agg #[.int .i64 bk, .int .i64 bp, .int .i64 br, .int .i64 bo, .int .i64 bd, .int .i64 bw, .slice B m cb]] w fun e w' => e = .returned (.bool true) ∧ Same w w' := by
  have HP := Lib.hid hp
  have HQ := Lib.hid hq
  have HX := Lib.hid hx
  have HY := Lib.hid hy
  have HSW := Lib.hid (((Same.refl w).alloc (.cells #[.int .i64 ak, .int .i64 ap, .int .i64 ar, .int .i64 ao, .int .i64 ad, .int .i64 aw, .slice A n ca] 49)).alloc (.cells #[.int .i64 bk, .int .i64 bp, .int .i64 br, .int .i64 bo, .int .i64 bd, .int .i64 bw, .slice B m cb] 49))
  have AW := Lib.hid (fun w' => awake26 w')
  clear hp hq hx hy
  by_cases hn : (200 : Int) < n
  · go_enter Try.func5, Try.ntmps5
    go_wp2_with fail
    refine (AW.out _).mono ?_
    rintro e w2 ⟨rfl, s2⟩
    go_wp2
    go_ret
    exact ⟨rfl, HSW.out.trans s2⟩
  · by_cases hm : (200 : Int) < m
    · go_enter Try.func5, Try.ntmps5
      go_wp2_with fail
      refine (AW.out _).mono ?_
      rintro e w2 ⟨rfl, s2⟩
      go_wp2
      go_ret
      exact ⟨rfl, HSW.out.trans s2⟩
    · have hba := (Blk.new w 49 #[.int .i64 ak, .int .i64 ap, .int .i64 ar, .int .i64 ao, .int .i64 ad, .int .i64 aw, .slice A n ca]).same ((Same.refl _).alloc (.cells #[.int .i64 bk, .int .i64 bp, .int .i64 br, .int .i64 bo, .int .i64 bd, .int .i64 bw, .slice B m cb] 49))
      have hbb : Blk ((w.alloc (.cells #[.int .i64 ak, .int .i64 ap, .int .i64 ar, .int .i64 ao, .int .i64 ad, .int .i64 aw, .slice A n ca] 49)).alloc (.cells #[.int .i64 bk, .int .i64 bp, .int .i64 br, .int .i64 bo, .int .i64 bd, .int .i64 bw, .slice B m cb] 49)) (w.heap.size + 1) 49 #[.int .i64 bk, .int .i64 bp, .int .i64 br, .int .i64 bo, .int .i64 bd, .int .i64 bw, .slice B m cb] := by
        have h := Blk.new (w.alloc (.cells #[.int .i64 ak, .int .i64 ap, .int .i64 ar, .int .i64 ao, .int .i64 ad, .int .i64 aw, .slice A n ca] 49)) 49 #[.int .i64 bk, .int .i64 bp, .int .i64 br, .int .i64 bo, .int .i64 bd, .int .i64 bw, .slice B m cb]
        simpa using h
      have HBA0 := Lib.hid hba
      have HBB0 := Lib.hid hbb
      have CP := Lib.hid (copy_any ⟨ak, ap, ar, ao, ad, aw, A, n, ca⟩ p _ HP.out (HX.out.same HSW.out) (by simp only; omega))
      clear hba hbb
      go_enter Try.func5, Try.ntmps5
      go_wp2_with fail
      refine CP.out.mono ?_
      rintro e w2 ⟨C, cc, rfl, ho, s2⟩
      have hs3 := (Same.refl w2).alloc (.cells #[.int .i64 ak, .int .i64 ap, .int .i64 ar, .int .i64 ao, .int .i64 ad, .int .i64 aw, .slice C n cc] 49)
      have HBC := Lib.hid (Blk.new w2 49 #[.int .i64 ak, .int .i64 ap, .int .i64 ar, .int .i64 ao, .int .i64 ad, .int .i64 aw, .slice C n cc])
      have HBA := Lib.hid ((HBA0.out.same s2).same hs3)
      have HBB := Lib.hid ((HBB0.out.same s2).same hs3)
      have HO := Lib.hid (ho.same hs3)
      have HSQ := Lib.hid ((HSW.out.trans s2).trans hs3)
      have HWB : Hid (w.heap.size ≤ ((w.alloc (.cells #[.int .i64 ak, .int .i64 ap, .int .i64 ar, .int .i64 ao, .int .i64 ad, .int .i64 aw, .slice A n ca] 49)).alloc (.cells #[.int .i64 bk, .int .i64 bp, .int .i64 br, .int .i64 bo, .int .i64 bd, .int .i64 bw, .slice B m cb] 49)).heap.size) := Lib.hid HSW.out.size
      clear hs3 s2 ho HBA0 HBB0 CP HSW
      generalize hbs : ((w.alloc (.cells #[.int .i64 ak, .int .i64 ap, .int .i64 ar, .int .i64 ao, .int .i64 ad, .int .i64 aw, .slice A n ca] 49)).alloc (.cells #[.int .i64 bk, .int .i64 bp, .int .i64 br, .int .i64 bo, .int .i64 bd, .int .i64 bw, .slice B m cb] 49)).heap.size = bs at *
      have HBS := Lib.hid hbs
      clear hbs
      go_wp2_with fail
      try simp only at HO
      generalize w2.alloc (.cells #[.int .i64 ak, .int .i64 ap, .int .i64 ar, .int .i64 ao, .int .i64 ad, .int .i64 aw, .slice C n cc] 49) = wq at *
      generalize w2.heap.size = qc at *
      generalize hqa : w.heap.size = qa at *
      have HQA := Lib.hid hqa
      clear hqa
      have HC := Lib.hid (prg_row HO.out.row)
      have h1 := same_self ⟨ak, ap, ar, ao, ad, aw, C, n, cc⟩ ⟨ak, ap, ar, ao, ad, aw, A, n, ca⟩ p ⟨rfl, rfl, rfl, rfl, rfl, rfl⟩
      have CA := Lib.hid (fun w' (s : Same wq w') => ptask_any ⟨ak, ap, ar, ao, ad, aw, C, n, cc⟩ ⟨ak, ap, ar, ao, ad, aw, A, n, ca⟩ p p w' HP.out HP.out (HC.out.same s) ((HX.out.same HSQ.out).same s) (by simp only; omega) (by simp only; omega))
      have CS := Lib.hid (fun w' (s : Same wq w') => same_any ⟨ak, ap, ar, ao, ad, aw, C, n, cc⟩ ⟨ak, ap, ar, ao, ad, aw, A, n, ca⟩ p p w' HP.out HP.out (HC.out.same s) ((HX.out.same HSQ.out).same s) (by simp only; omega) (by simp only; omega))
      have PAB := Lib.hid (fun w' (s : Same wq w') => ptask_any ⟨ak, ap, ar, ao, ad, aw, A, n, ca⟩ ⟨bk, bp, br, bo, bd, bw, B, m, cb⟩ p q w' HP.out HQ.out ((HX.out.same HSQ.out).same s) ((HY.out.same HSQ.out).same s) (by simp only; omega) (by simp only; omega))
      have SAB := Lib.hid (fun w' (s : Same wq w') => same_any ⟨ak, ap, ar, ao, ad, aw, A, n, ca⟩ ⟨bk, bp, br, bo, bd, bw, B, m, cb⟩ p q w' HP.out HQ.out ((HX.out.same HSQ.out).same s) ((HY.out.same HSQ.out).same s) (by simp only; omega) (by simp only; omega))
      rw [h1] at CA CS
      try simp only at CA CS PAB SAB
      generalize sameB ⟨ak, ap, ar, ao, ad, aw, A, n, ca⟩ ⟨bk, bp, br, bo, bd, bw, B, m, cb⟩ p q = u at *
      have hu : (u != u) = false := by simp
      clear h1
      obtain ⟨a0, a1, a2, a3, a4, a5, a6⟩ := task_cells HBA.out
      obtain ⟨b0, b1, b2, b3, b4, b5, b6⟩ := task_cells HBB.out
      obtain ⟨c0, c1, c2, c3, c4, c5, c6⟩ := task_cells HBC.out
      have SS : Hid (∀ w', Same wq w' → w'.cell? ⟨qa, 0, none⟩ = some (.int .i64 ak) ∧ w'.cell? ⟨qa, 1, none⟩ = some (.int .i64 ap) ∧ w'.cell? ⟨qa, 2, none⟩ = some (.int .i64 ar) ∧ w'.cell? ⟨qa, 3, none⟩ = some (.int .i64 ao) ∧ w'.cell? ⟨qa, 4, none⟩ = some (.int .i64 ad) ∧ w'.cell? ⟨qa, 5, none⟩ = some (.int .i64 aw) ∧ w'.cell? ⟨qa, 6, none⟩ = some (.slice A n ca) ∧ w'.cell? ⟨(qa + 1), 0, none⟩ = some (.int .i64 bk) ∧ w'.cell? ⟨(qa + 1), 1, none⟩ = some (.int .i64 bp) ∧ w'.cell? ⟨(qa + 1), 2, none⟩ = some (.int .i64 br) ∧ w'.cell? ⟨(qa + 1), 3, none⟩ = some (.int .i64 bo) ∧ w'.cell? ⟨(qa + 1), 4, none⟩ = some (.int .i64 bd) ∧ w'.cell? ⟨(qa + 1), 5, none⟩ = some (.int .i64 bw) ∧ w'.cell? ⟨(qa + 1), 6, none⟩ = some (.slice B m cb) ∧ w'.cell? ⟨qc, 0, none⟩ = some (.int .i64 ak) ∧ w'.cell? ⟨qc, 1, none⟩ = some (.int .i64 ap) ∧ w'.cell? ⟨qc, 2, none⟩ = some (.int .i64 ar) ∧ w'.cell? ⟨qc, 3, none⟩ = some (.int .i64 ao) ∧ w'.cell? ⟨qc, 4, none⟩ = some (.int .i64 ad) ∧ w'.cell? ⟨qc, 5, none⟩ = some (.int .i64 aw) ∧ w'.cell? ⟨qc, 6, none⟩ = some (.slice C n cc) ∧ Same wq w') := Lib.hid (fun w' s => ⟨s.cell a0, s.cell a1, s.cell a2, s.cell a3, s.cell a4, s.cell a5, s.cell a6, s.cell b0, s.cell b1, s.cell b2, s.cell b3, s.cell b4, s.cell b5, s.cell b6, s.cell c0, s.cell c1, s.cell c2, s.cell c3, s.cell c4, s.cell c5, s.cell c6, s⟩)
      go_region_held3 (fun w' => w'.cell? ⟨qa, 0, none⟩ = some (.int .i64 ak) ∧ w'.cell? ⟨qa, 1, none⟩ = some (.int .i64 ap) ∧ w'.cell? ⟨qa, 2, none⟩ = some (.int .i64 ar) ∧ w'.cell? ⟨qa, 3, none⟩ = some (.int .i64 ao) ∧ w'.cell? ⟨qa, 4, none⟩ = some (.int .i64 ad) ∧ w'.cell? ⟨qa, 5, none⟩ = some (.int .i64 aw) ∧ w'.cell? ⟨qa, 6, none⟩ = some (.slice A n ca) ∧ w'.cell? ⟨(qa + 1), 0, none⟩ = some (.int .i64 bk) ∧ w'.cell? ⟨(qa + 1), 1, none⟩ = some (.int .i64 bp) ∧ w'.cell? ⟨(qa + 1), 2, none⟩ = some (.int .i64 br) ∧ w'.cell? ⟨(qa + 1), 3, none⟩ = some (.int .i64 bo) ∧ w'.cell? ⟨(qa + 1), 4, none⟩ = some (.int .i64 bd) ∧ w'.cell? ⟨(qa + 1), 5, none⟩ = some (.int .i64 bw) ∧ w'.cell? ⟨(qa + 1), 6, none⟩ = some (.slice B m cb) ∧ w'.cell? ⟨qc, 0, none⟩ = some (.int .i64 ak) ∧ w'.cell? ⟨qc, 1, none⟩ = some (.int .i64 ap) ∧ w'.cell? ⟨qc, 2, none⟩ = some (.int .i64 ar) ∧ w'.cell? ⟨qc, 3, none⟩ = some (.int .i64 ao) ∧ w'.cell? ⟨qc, 4, none⟩ = some (.int .i64 ad) ∧ w'.cell? ⟨qc, 5, none⟩ = some (.int .i64 aw) ∧ w'.cell? ⟨qc, 6, none⟩ = some (.slice C n cc) ∧ Same wq w')
        (first | (with_reducible assumption) | exact SS.out _ (Same.refl wq).drew | exact SS.out _ (x22.trans hs))
        (first | (go_at_call 21; (rcases ‹_ ∧ _ ∧ _ ∧ _ ∧ _ ∧ _ ∧ _ ∧ _ ∧ _ ∧ _ ∧ _ ∧ _ ∧ _ ∧ _ ∧ _ ∧ _ ∧ _ ∧ _ ∧ _ ∧ _ ∧ _ ∧ Same wq _› with ⟨_, _, _, _, _, _, _, _, _, _, _, _, _, _, _, _, _, _, _, _, _, x22⟩); ((with_reducible refine (CA.out _ x22).mono ?_); rintro e w' ⟨rfl, hs⟩)) | (go_at_call 22; (rcases ‹_ ∧ _ ∧ _ ∧ _ ∧ _ ∧ _ ∧ _ ∧ _ ∧ _ ∧ _ ∧ _ ∧ _ ∧ _ ∧ _ ∧ _ ∧ _ ∧ _ ∧ _ ∧ _ ∧ _ ∧ _ ∧ Same wq _› with ⟨_, _, _, _, _, _, _, _, _, _, _, _, _, _, _, _, _, _, _, _, _, x22⟩); ((with_reducible refine (CS.out _ x22).mono ?_); rintro e w' ⟨rfl, hs⟩)) | (go_at_call 21; (rcases ‹_ ∧ _ ∧ _ ∧ _ ∧ _ ∧ _ ∧ _ ∧ _ ∧ _ ∧ _ ∧ _ ∧ _ ∧ _ ∧ _ ∧ _ ∧ _ ∧ _ ∧ _ ∧ _ ∧ _ ∧ _ ∧ Same wq _› with ⟨_, _, _, _, _, _, _, _, _, _, _, _, _, _, _, _, _, _, _, _, _, x22⟩); ((with_reducible refine (PAB.out _ x22).mono ?_); rintro e w' ⟨rfl, hs⟩)) | (go_at_call 22; (rcases ‹_ ∧ _ ∧ _ ∧ _ ∧ _ ∧ _ ∧ _ ∧ _ ∧ _ ∧ _ ∧ _ ∧ _ ∧ _ ∧ _ ∧ _ ∧ _ ∧ _ ∧ _ ∧ _ ∧ _ ∧ _ ∧ Same wq _› with ⟨_, _, _, _, _, _, _, _, _, _, _, _, _, _, _, _, _, _, _, _, _, x22⟩); ((with_reducible refine (SAB.out _ x22).mono ?_); rintro e w' ⟨rfl, hs⟩)))
      rcases ‹_ ∧ _ ∧ _ ∧ _ ∧ _ ∧ _ ∧ _ ∧ _ ∧ _ ∧ _ ∧ _ ∧ _ ∧ _ ∧ _ ∧ _ ∧ _ ∧ _ ∧ _ ∧ _ ∧ _ ∧ _ ∧ Same wq _› with ⟨_, _, _, _, _, _, _, _, _, _, _, _, _, _, _, _, _, _, _, _, _, x22⟩
      have HS4 := Lib.hid x22
      clear a0 a1 a2 a3 a4 a5 a6 b0 b1 b2 b3 b4 b5 b6 c0 c1 c2 c3 c4 c5 c6 SS x22
      obtain ⟨c0, c1, c2, c3, c4, c5, c6⟩ := task_cells (HBC.out.same HS4.out)
      have HO0 := Lib.hid (HO.out.same HS4.out)
      rw [← bumpTo_zero p] at HO0
      go_wp2_with fail
      go_loopg [42] n (fun gk iv wx => ∃ k : Nat, k + gk = n ∧ iv = .int .i64 k ∧ Blk wx qa 49 #[.int .i64 ak, .int .i64 ap, .int .i64 ar, .int .i64 ao, .int .i64 ad, .int .i64 aw, .slice A n ca] ∧ Blk wx qc 49 #[.int .i64 ak, .int .i64 ap, .int .i64 ar, .int .i64 ao, .int .i64 ad, .int .i64 aw, .slice C n cc] ∧ OwnK wx bs 53 5 C n cc (pflat (bumpTo p k)) ∧ Same w wx)
      case atStart => exact ⟨0, by omega, rfl, HBA.out.same HS4.out, HBC.out.same HS4.out, HO0.out, HSQ.out.trans HS4.out⟩
      case round =>
        clear c0 c1 c2 c3 c4 c5 c6 HO0 HS4 HBA HBB HBC HO CA CS PAB SAB HC hu
        obtain ⟨k, hk, rfl, hba, hbc, ho, sx⟩ := hrel
        have HBA := Lib.hid hba
        have HBC := Lib.hid hbc
        have HO := Lib.hid ho
        have HS := Lib.hid sx
        clear hba hbc ho sx
        cases gk with
        | zero =>
          obtain rfl : n = k := by omega
          have hge : ¬ (n : Int) < (n : Int) := by omega
          have hg0 : (0 : Int) ≤ n := by omega
          have SAC := Lib.hid (fun w' (s : Same wr w') => same_any ⟨ak, ap, ar, ao, ad, aw, A, n, ca⟩ ⟨ak, ap, ar, ao, ad, aw, C, n, cc⟩ p (bumpTo p n) w' HP.out (by rw [bumpTo_len]; exact HP.out) ((HX.out.same HS.out).same s) ((prg_row HO.out.row).same s) (by simp only; omega) (by simp only; omega))
          have h1 := same_bump ⟨ak, ap, ar, ao, ad, aw, A, n, ca⟩ ⟨ak, ap, ar, ao, ad, aw, C, n, cc⟩ p (bumpTo p n) ⟨rfl, rfl, rfl, rfl, rfl, rfl⟩
          have h2 := bump_same p
          rw [HP.out] at h2
          rw [h2] at h1
          rw [h1] at SAC
          try simp only at SAC
          obtain ⟨a0, a1, a2, a3, a4, a5, a6⟩ := task_cells HBA.out
          obtain ⟨c0, c1, c2, c3, c4, c5, c6⟩ := task_cells HBC.out
          have SS : Hid (∀ w', Same wr w' → w'.cell? ⟨qa, 0, none⟩ = some (.int .i64 ak) ∧ w'.cell? ⟨qa, 1, none⟩ = some (.int .i64 ap) ∧ w'.cell? ⟨qa, 2, none⟩ = some (.int .i64 ar) ∧ w'.cell? ⟨qa, 3, none⟩ = some (.int .i64 ao) ∧ w'.cell? ⟨qa, 4, none⟩ = some (.int .i64 ad) ∧ w'.cell? ⟨qa, 5, none⟩ = some (.int .i64 aw) ∧ w'.cell? ⟨qa, 6, none⟩ = some (.slice A n ca) ∧ w'.cell? ⟨qc, 0, none⟩ = some (.int .i64 ak) ∧ w'.cell? ⟨qc, 1, none⟩ = some (.int .i64 ap) ∧ w'.cell? ⟨qc, 2, none⟩ = some (.int .i64 ar) ∧ w'.cell? ⟨qc, 3, none⟩ = some (.int .i64 ao) ∧ w'.cell? ⟨qc, 4, none⟩ = some (.int .i64 ad) ∧ w'.cell? ⟨qc, 5, none⟩ = some (.int .i64 aw) ∧ w'.cell? ⟨qc, 6, none⟩ = some (.slice C n cc) ∧ Same wr w') := Lib.hid (fun w' s => ⟨s.cell a0, s.cell a1, s.cell a2, s.cell a3, s.cell a4, s.cell a5, s.cell a6, s.cell c0, s.cell c1, s.cell c2, s.cell c3, s.cell c4, s.cell c5, s.cell c6, s⟩)
          clear h1 h2
          by_cases h0 : n = 0
          · have e0 : (n == 0) = true := by simpa using h0
            have e1 : ((n : Int) == 0) = true := by simp; omega
            rw [e0] at SAC
            clear h0 e0 hg0 hn hm
            go_wp2_with fail
            go_region_held3 (fun w' => w'.cell? ⟨qa, 0, none⟩ = some (.int .i64 ak) ∧ w'.cell? ⟨qa, 1, none⟩ = some (.int .i64 ap) ∧ w'.cell? ⟨qa, 2, none⟩ = some (.int .i64 ar) ∧ w'.cell? ⟨qa, 3, none⟩ = some (.int .i64 ao) ∧ w'.cell? ⟨qa, 4, none⟩ = some (.int .i64 ad) ∧ w'.cell? ⟨qa, 5, none⟩ = some (.int .i64 aw) ∧ w'.cell? ⟨qa, 6, none⟩ = some (.slice A n ca) ∧ w'.cell? ⟨qc, 0, none⟩ = some (.int .i64 ak) ∧ w'.cell? ⟨qc, 1, none⟩ = some (.int .i64 ap) ∧ w'.cell? ⟨qc, 2, none⟩ = some (.int .i64 ar) ∧ w'.cell? ⟨qc, 3, none⟩ = some (.int .i64 ao) ∧ w'.cell? ⟨qc, 4, none⟩ = some (.int .i64 ad) ∧ w'.cell? ⟨qc, 5, none⟩ = some (.int .i64 aw) ∧ w'.cell? ⟨qc, 6, none⟩ = some (.slice C n cc) ∧ Same wr w')
              (first | (with_reducible assumption) | exact SS.out _ (Same.refl wr).drew | exact SS.out _ (x22.trans hs))
              (first | (go_at_call 22; (rcases ‹_ ∧ _ ∧ _ ∧ _ ∧ _ ∧ _ ∧ _ ∧ _ ∧ _ ∧ _ ∧ _ ∧ _ ∧ _ ∧ _ ∧ Same wr _› with ⟨_, _, _, _, _, _, _, _, _, _, _, _, _, _, x22⟩); ((with_reducible refine (SAC.out _ x22).mono ?_); rintro e w' ⟨rfl, hs⟩)) | (go_at_call 18; (rcases ‹_ ∧ _ ∧ _ ∧ _ ∧ _ ∧ _ ∧ _ ∧ _ ∧ _ ∧ _ ∧ _ ∧ _ ∧ _ ∧ _ ∧ Same wr _› with ⟨_, _, _, _, _, _, _, _, _, _, _, _, _, _, x22⟩); ((with_reducible refine (AW.out _).mono ?_); rintro e w' ⟨rfl, hs⟩)))
            rcases ‹_ ∧ _ ∧ _ ∧ _ ∧ _ ∧ _ ∧ _ ∧ _ ∧ _ ∧ _ ∧ _ ∧ _ ∧ _ ∧ _ ∧ Same wr _› with ⟨_, _, _, _, _, _, _, _, _, _, _, _, _, _, x22⟩
            go_wp2
            go_ret
            exact ⟨rfl, HS.out.trans x22⟩
          · have e0 : (n == 0) = false := by simpa using h0
            have e1 : ((n : Int) == 0) = false := by simp; omega
            rw [e0] at SAC
            clear h0 e0 hg0 hn hm
            go_wp2_with fail
            go_region_held3 (fun w' => w'.cell? ⟨qa, 0, none⟩ = some (.int .i64 ak) ∧ w'.cell? ⟨qa, 1, none⟩ = some (.int .i64 ap) ∧ w'.cell? ⟨qa, 2, none⟩ = some (.int .i64 ar) ∧ w'.cell? ⟨qa, 3, none⟩ = some (.int .i64 ao) ∧ w'.cell? ⟨qa, 4, none⟩ = some (.int .i64 ad) ∧ w'.cell? ⟨qa, 5, none⟩ = some (.int .i64 aw) ∧ w'.cell? ⟨qa, 6, none⟩ = some (.slice A n ca) ∧ w'.cell? ⟨qc, 0, none⟩ = some (.int .i64 ak) ∧ w'.cell? ⟨qc, 1, none⟩ = some (.int .i64 ap) ∧ w'.cell? ⟨qc, 2, none⟩ = some (.int .i64 ar) ∧ w'.cell? ⟨qc, 3, none⟩ = some (.int .i64 ao) ∧ w'.cell? ⟨qc, 4, none⟩ = some (.int .i64 ad) ∧ w'.cell? ⟨qc, 5, none⟩ = some (.int .i64 aw) ∧ w'.cell? ⟨qc, 6, none⟩ = some (.slice C n cc) ∧ Same wr w')
              (first | (with_reducible assumption) | exact SS.out _ (Same.refl wr).drew | exact SS.out _ (x22.trans hs))
              (first | (go_at_call 22; (rcases ‹_ ∧ _ ∧ _ ∧ _ ∧ _ ∧ _ ∧ _ ∧ _ ∧ _ ∧ _ ∧ _ ∧ _ ∧ _ ∧ _ ∧ Same wr _› with ⟨_, _, _, _, _, _, _, _, _, _, _, _, _, _, x22⟩); ((with_reducible refine (SAC.out _ x22).mono ?_); rintro e w' ⟨rfl, hs⟩)) | (go_at_call 18; (rcases ‹_ ∧ _ ∧ _ ∧ _ ∧ _ ∧ _ ∧ _ ∧ _ ∧ _ ∧ _ ∧ _ ∧ _ ∧ _ ∧ _ ∧ Same wr _› with ⟨_, _, _, _, _, _, _, _, _, _, _, _, _, _, x22⟩); ((with_reducible refine (AW.out _).mono ?_); rintro e w' ⟨rfl, hs⟩)))
            rcases ‹_ ∧ _ ∧ _ ∧ _ ∧ _ ∧ _ ∧ _ ∧ _ ∧ _ ∧ _ ∧ _ ∧ _ ∧ _ ∧ _ ∧ Same wr _› with ⟨_, _, _, _, _, _, _, _, _, _, _, _, _, _, x22⟩
            go_wp2
            go_ret
            exact ⟨rfl, HS.out.trans x22⟩
        | succ GK =>
          have hlt : (k : Int) < n := by omega
          have hk0 : (0 : Int) ≤ k := by omega
          have hkn : k < n := by omega
          have hkp : k < p.length := by rw [HP.out]; exact hkn
          obtain ⟨g, hC, hgb, hth⟩ := ownK_thaw HO.out (by omega)
          subst hC
          have HSET := Lib.hid (bumpTo_set hkp)
          have HAT := Lib.hid (bumpTo_at hkp)
          have HNX := Lib.hid (bumpTo_next hkp)
          have HXK := Lib.hid (Fp.at_some hkp)
          generalize Fp.at_ p k = x at *
          have hd := (prg_row HO.out.row) k _ HAT.out
          obtain ⟨b1, o1, hA1, hd1⟩ := hd
          injection hA1 with hA1
          injection hA1 with e1 e2
          subst e1
          subst e2
          have d0 : wr.cell? ⟨g, k * 5, none⟩ = some (.int .i64 x.op) := by
            have := hd1 0 _ rfl
            simpa using this
          have dt := hth (k * 5)
          obtain ⟨a0, a1, a2, a3, a4, a5, a6⟩ := task_cells HBA.out
          obtain ⟨c0, c1, c2, c3, c4, c5, c6⟩ := task_cells HBC.out
          have HBA3 := Lib.hid (task_put (j := k * 5) (u := .int .i64 (wrap64 (x.op + 1))) HBA.out (HO.out.ne HBA.out (by decide) _ rfl))
          have HBC3 := Lib.hid (task_put (j := k * 5) (u := .int .i64 (wrap64 (x.op + 1))) HBC.out (HO.out.ne HBC.out (by decide) _ rfl))
          have ho3 := ownK_put HO.out (k * 5) (.int .i64 (wrap64 (x.op + 1)))
          rw [HSET.out] at ho3
          have HO3 := Lib.hid ho3
          have HS3 := Lib.hid (HS.out.set (p := ⟨g, k * 5, none⟩) (.inr (by have := HWB.out; have := HQA.out; simp; omega)) (.int .i64 (wrap64 (x.op + 1))))
          have HNE := Lib.hid (bump_ne x)
          clear ho3 hd1 hth hgb HSET HAT
          go_wp2_with fail
          generalize wr.setCell ⟨g, k * 5, none⟩ (.int .i64 (wrap64 (x.op + 1))) = w3 at *
          clear a0 a1 a2 a3 a4 a5 a6 c0 c1 c2 c3 c4 c5 c6 d0 dt
          obtain ⟨a0, a1, a2, a3, a4, a5, a6⟩ := task_cells HBA3.out
          obtain ⟨c0, c1, c2, c3, c4, c5, c6⟩ := task_cells HBC3.out
          obtain ⟨b, o, rfl, hxc⟩ := (HX.out.same HS3.out) k _ HXK.out
          obtain ⟨b2, o2, hA2, hd2⟩ := (prg_row HO3.out.row) k _ HNX.out
          injection hA2 with hA2
          injection hA2 with e1 e2
          subst e1
          subst e2
          have x0 : w3.cell? ⟨b, o + k * 5, none⟩ = some (.int .i64 x.op) := hxc 0 _ rfl
          have x1 : w3.cell? ⟨b, o + k * 5 + 1, none⟩ = some (.int .i64 x.a) := hxc 1 _ rfl
          have x2 : w3.cell? ⟨b, o + k * 5 + 2, none⟩ = some (.int .i64 x.b) := hxc 2 _ rfl
          have x3 : w3.cell? ⟨b, o + k * 5 + 3, none⟩ = some (.int .i64 x.c) := hxc 3 _ rfl
          have x4 : w3.cell? ⟨b, o + k * 5 + 4, none⟩ = some (.int .u32 x.n) := hxc 4 _ rfl
          have d0 : w3.cell? ⟨g, k * 5, none⟩ = some (.int .i64 (wrap64 (x.op + 1))) := by have := hd2 0 _ rfl; simpa [bump] using this
          have d1 : w3.cell? ⟨g, k * 5 + 1, none⟩ = some (.int .i64 x.a) := by have := hd2 1 _ rfl; simpa [bump] using this
          have d2 : w3.cell? ⟨g, k * 5 + 2, none⟩ = some (.int .i64 x.b) := by have := hd2 2 _ rfl; simpa [bump] using this
          have d3 : w3.cell? ⟨g, k * 5 + 3, none⟩ = some (.int .i64 x.c) := by have := hd2 3 _ rfl; simpa [bump] using this
          have d4 : w3.cell? ⟨g, k * 5 + 4, none⟩ = some (.int .u32 x.n) := by have := hd2 4 _ rfl; simpa [bump] using this
          have hne := HNE.out
          clear hxc hd2 HXK HNX HNE
          generalize wrap64 (x.op + 1) = v at *
          have e0 : (x.op == v) = false := by simpa using hne
          clear hne
          go_quiet (fail)
          go_wp2_with fail
          go_roundg GK
          case rel => exact ⟨k + 1, by omega, by go_num, HBA3.out, HBC3.out, HO3.out, HS3.out.drewN _⟩
          case measure => omega

section
variable {H : Type} {enc : TypeId × Value → H} {w : World} {base : Nat} {sp : Nat → Bool} {held : Bool}
/-- a program that came in -/
theorem prg_in {A : Option Addr} {rows : List (List Int)} (h : Fl.Rows w A [.i64, .i64, .i64, .i64, .u32] rows) : ∃ p : List Ins, p.length = rows.length ∧ Prg w A p := by
  refine ⟨rows.map fun r => ⟨r.getD 0 0, r.getD 1 0, r.getD 2 0, r.getD 3 0, r.getD 4 0⟩, by simp, ?_⟩
  intro i x hx
  rw [List.getElem?_map] at hx
  cases hr : rows[i]? with
  | none => rw [hr] at hx; cases hx
  | some r =>
    rw [hr] at hx
    injection hx with hx
    obtain ⟨hf, b, o, hA, hc⟩ := h i r hr
    obtain ⟨hl, hw⟩ := hf
    match r, hl with
    | [op, a, bb, c, n], _ =>
      subst hx
      exact ⟨b, o, hA, fun j v hv => hc j v hv⟩
set_option maxRecDepth 100000 in
/-- a task that came in by value -/
theorem task_of {r : Reach} {b0 : Nat} {v : Value} {d : DataW H} {pl : List MemPlace} (hv : Value.okWide Try.prog w r b0 49 v) (h : DataW.Trod enc Try.prog w base sp held 49 v d pl) :
    ∃ (ak ap ar ao ad aw : Int) (A : Option Addr) (n ca : Nat) (p : List Ins), v = .agg #[.int .i64 ak, .int .i64 ap, .int .i64 ar, .int .i64 ao, .int .i64 ad, .int .i64 aw, .slice A n ca] ∧ p.length = n ∧ Prg w A p := by
  obtain ⟨cs, rfl, hsz⟩ := okWide_struct Try.underlying49 hv
  obtain ⟨fuel, hf⟩ := h
  have hc : (Value.agg cs).cells.toList = cs.toList := by simp [Value.cells]
  rw [hc] at hf
  have hl : cs.toList.length = 7 := by
    have h7 : Try.prog.cellsOf 49 = 7 := by kernel_rfl
    exact hsz.trans h7
  obtain ⟨z0, e0, w0⟩ := On.int_leaf (n := 6) (i := 0) (u := 3) hf (by kernel_rfl) Try.underlying3
  obtain ⟨z1, e1, w1⟩ := On.int_leaf (n := 6) (i := 1) (u := 3) hf (by kernel_rfl) Try.underlying3
  obtain ⟨z2, e2, w2⟩ := On.int_leaf (n := 6) (i := 2) (u := 3) hf (by kernel_rfl) Try.underlying3
  obtain ⟨z3, e3, w3⟩ := On.int_leaf (n := 6) (i := 3) (u := 3) hf (by kernel_rfl) Try.underlying3
  obtain ⟨z4, e4, w4⟩ := On.int_leaf (n := 6) (i := 4) (u := 3) hf (by kernel_rfl) Try.underlying3
  obtain ⟨z5, e5, w5⟩ := On.int_leaf (n := 6) (i := 5) (u := 3) hf (by kernel_rfl) Try.underlying3
  obtain ⟨A, len, cap, dd, pp, e6, w6⟩ := On.slice_leaf (n := 6) (i := 6) (u := 47) hf (by kernel_rfl) Try.underlying47
  obtain ⟨rows, hr, hrl, _⟩ := Fl.rows_of Try.underlying47 (show Fl.kinds Try.prog 6 53 = some [.i64, .i64, .i64, .i64, .u32] by kernel_rfl) (by decide) w6
  obtain ⟨p, hp, hP⟩ := prg_in hr
  refine ⟨z0, z1, z2, z3, z4, z5, A, len, cap, p, ?_, hp.trans hrl, hP⟩
  congr 1
  apply Array.ext'
  apply List.ext_getElem?
  intro i
  match i with
  | 0 => exact e0
  | 1 => exact e1
  | 2 => exact e2
  | 3 => exact e3
  | 4 => exact e4
  | 5 => exact e5
  | 6 => exact e6
  | k + 7 => rw [List.getElem?_eq_none (by omega), List.getElem?_eq_none (by simp)]
end

end Go.Proofs.Ytejajmdmfipplab.Tk
