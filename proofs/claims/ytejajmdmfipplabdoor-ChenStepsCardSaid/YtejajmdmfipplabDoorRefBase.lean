/-

  The document's own operation: the block that holds it, and the contracts of its plain methods.
-/
import Derived.Test.YtejajmdmfipplabDoorObj
set_option linter.unusedSimpArgs false
set_option linter.unusedVariables false
namespace Go.Proofs.YtejajmdmfipplabDoor.Rf
open Go.ChangeShapes Go.WideShapes Go.ChangeAt Go.RowKit Ws Mm Pa
open Go.Proofs.YtejajmdmfipplabDoor.Op (St Im gd get put more)

theorem step_app {P : Program} {w : World} {ops : Array Oper} {o : Oper} {a : Act} {K : Act → World → Prop} {Q : Exit → Act → World → Prop} {E : Prop} (hgd : o.guard = none) (s x : Operand) (t : TypeId)
    (ho : o.op = .call { callee := .builtin .append, args := #[s, x], argTypes := #[t, t] })
    (base : Nat) (e : TypeId) (i : TypeInfo) (z : Value) (bytes : Nat) (ht : P.underlying t = some (.slice e)) (hi : P.info? e = some i) (hz : i.zero = some z)
    (hsize : i.size = 1) (hby : i.bytes = bytes) (hzs : z.cells.size = 1)
    (A : Option Addr) (n c : Nat) (xs : List Value) (hs : a.eval s = .slice A n c) (hn : xs.length = n) (hown : Own w base e A c xs)
    (C : Option Addr) (m d : Nat) (ys : List Value) (hx : a.eval x = .slice C m d) (hm : ys.length = m) (hr : Row w C ys) (h1 : ∀ u ∈ ys, u.oneCell' = true)
    (h63 : xs.length + ys.length ≤ 4294967296) (hby2 : bytes ≤ 16) (hbase : base ≤ w.heap.size)
    (h : ∀ A' c' w', Own w' base e A' c' (xs ++ ys) → Chg (fun g => A = some ⟨g, 0, none⟩) w w' → (A' = A ∨ A' = some ⟨w.heap.size, 0, none⟩) → K (a.put o.dst (.slice A' (n + m) c')) w') :
    if Region.wanted o (yielded ops a.tmps) = true then Oper.wp P o a w K Q else E := by
  have hw : Region.wanted o (yielded ops a.tmps) = true := by simp [Region.wanted, hgd]
  rw [if_pos hw]
  subst hn
  subst hm
  obtain ⟨A', c', w', hr, h2, h3, h4⟩ := run_app (P := P) w base t o.type e i z bytes ht hi hz hsize hby hzs A c xs hown C d ys hr h1 h63 hby2 hbase
  rw [List.length_append] at hr
  unfold Oper.wp execOp
  simp only [ho, resolve, invoke, builtin, Sem.run_bind, Sem.run_pure, Result.andThen_ok, List.map_toArray, List.map_cons, List.map_nil, hs, hx, hr]
  exact h A' c' w' h2 h3 h4


/-- an object's fields -/
structure Ox where
  k : Int
  wd : Int
  sl : Int
  cp : Int
  sa : Int
  ia : Option Addr
  il : Nat
  ic : Nat
  ow : Int
  ra : Option Addr
  rl : Nat
  rc : Nat

def rfTail (s : St) (A : Option Addr) (c : Nat) : List Value := s.used.map Value.bool ++ [.slice A s.rc.length c, .bool s.over]
def rfCells (x : Ox) (at_ op rd : Int) (s : St) (A : Option Addr) (c : Nat) : List Value :=
  .int .i64 x.k :: .int .i64 x.wd :: .int .i64 x.sl :: .int .i64 x.cp :: .int .u32 x.sa :: .slice x.ia x.il x.ic :: .int .i64 x.ow :: .slice x.ra x.rl x.rc ::
  .int .i64 at_ :: .int .i64 op :: .int .i64 rd :: .int .i64 s.row :: .int .i64 s.i :: .int .i64 s.tries :: .int .i64 s.code :: .int .i64 s.steps :: .int .u32 s.a :: .int .u32 s.b :: rfTail s A c

/-- block g is the document's operation s; no block of N is its own, and its record is no part of block gl -/
structure RB (N : Nat → Prop) (gl : Nat) (w : World) (g : Nat) (x : Ox) (at_ op rd : Int) (s : St) (A : Option Addr) (c : Nat) : Prop where
  used20 : s.used.length = 20
  blk : Blk w g 68 (rfCells x at_ op rd s A c).toArray
  row : Own w 0 22 A c (s.rc.map (Value.int .u32))
  far : ∀ b, A = some ⟨b, 0, none⟩ → ¬ N b ∧ b ≠ gl
  mine : ¬ N g

section
variable {N : Nat → Prop} {gl : Nat} {w : World} {g : Nat} {x : Ox} {at_ op rd : Int} {s : St} {A : Option Addr} {c : Nat}
theorem RB.chg {S : Nat → Prop} {w' : World} (h : RB N gl w g x at_ op rd s A c) (hc : Chg S w w') (hn : ∀ i, S i → N i ∨ i = gl) (hgl : g ≠ gl) : RB N gl w' g x at_ op rd s A c :=
  ⟨h.1, h.2.chg hc (fun hS => by rcases hn g hS with h1 | h1; exact h.mine h1; exact hgl h1), h.3.chg hc (fun b hb hS => by
    have := h.far b hb
    rcases hn b hS with h1 | h1
    · exact this.1 h1
    · exact this.2 h1), h.4, h.5⟩
theorem RB.same {w' : World} (h : RB N gl w g x at_ op rd s A c) (hc : Same w w') : RB N gl w' g x at_ op rd s A c := ⟨h.1, h.2.same hc, h.3.same hc, h.4, h.5⟩
theorem RB.drew (h : RB N gl w g x at_ op rd s A c) : RB N gl w.drew g x at_ op rd s A c := h.same (Same.refl _).drew
theorem RB.ne (h : RB N gl w g x at_ op rd s A c) : ∀ b, A = some ⟨b, 0, none⟩ → b ≠ g := h.3.ne h.2 (by decide)
theorem RB.obj (h : RB N gl w g x at_ op rd s A c) : w.cell? ⟨g, 0, none⟩ = some (.int .i64 x.k) ∧ w.cell? ⟨g, 1, none⟩ = some (.int .i64 x.wd) ∧ w.cell? ⟨g, 2, none⟩ = some (.int .i64 x.sl) ∧ w.cell? ⟨g, 3, none⟩ = some (.int .i64 x.cp) ∧
    w.cell? ⟨g, 4, none⟩ = some (.int .u32 x.sa) ∧ w.cell? ⟨g, 5, none⟩ = some (.slice x.ia x.il x.ic) ∧ w.cell? ⟨g, 6, none⟩ = some (.int .i64 x.ow) ∧ w.cell? ⟨g, 7, none⟩ = some (.slice x.ra x.rl x.rc) :=
  ⟨h.2.cell 0, h.2.cell 1, h.2.cell 2, h.2.cell 3, h.2.cell 4, h.2.cell 5, h.2.cell 6, h.2.cell 7⟩
theorem RB.mid (h : RB N gl w g x at_ op rd s A c) : w.cell? ⟨g, 8, none⟩ = some (.int .i64 at_) ∧ w.cell? ⟨g, 9, none⟩ = some (.int .i64 op) ∧ w.cell? ⟨g, 10, none⟩ = some (.int .i64 rd) ∧ w.cell? ⟨g, 11, none⟩ = some (.int .i64 s.row) ∧
    w.cell? ⟨g, 12, none⟩ = some (.int .i64 s.i) ∧ w.cell? ⟨g, 13, none⟩ = some (.int .i64 s.tries) ∧ w.cell? ⟨g, 14, none⟩ = some (.int .i64 s.code) ∧ w.cell? ⟨g, 15, none⟩ = some (.int .i64 s.steps) ∧
    w.cell? ⟨g, 16, none⟩ = some (.int .u32 s.a) ∧ w.cell? ⟨g, 17, none⟩ = some (.int .u32 s.b) :=
  ⟨h.2.cell 8, h.2.cell 9, h.2.cell 10, h.2.cell 11, h.2.cell 12, h.2.cell 13, h.2.cell 14, h.2.cell 15, h.2.cell 16, h.2.cell 17⟩
theorem RB.tail (h : RB N gl w g x at_ op rd s A c) : w.cell? ⟨g, 38, none⟩ = some (.slice A s.rc.length c) ∧ w.cell? ⟨g, 39, none⟩ = some (.bool s.over) := by
  have h20 := h.1
  have key : ∀ k, (rfCells x at_ op rd s A c)[k + 18]? = (rfTail s A c)[k]? := fun k => rfl
  refine ⟨?_, ?_⟩
  · rw [h.2.cell, List.getElem?_toArray]
    rw [show (38 : Nat) = 20 + 18 from rfl, key, rfTail, List.getElem?_append_right (by simp; omega), List.length_map, h20]
    rfl
  · rw [h.2.cell, List.getElem?_toArray]
    rw [show (39 : Nat) = 21 + 18 from rfl, key, rfTail, List.getElem?_append_right (by simp; omega), List.length_map, h20]
    rfl
theorem RB.thaw (h : RB N gl w g x at_ op rd s A c) (i : Nat) : w.frozen? ⟨g, i, none⟩ = false := h.2.thaw i
theorem RB.lt (h : RB N gl w g x at_ op rd s A c) : g < w.heap.size := h.2.lt

/-- a cell was set, of those ahead of the slots -/
theorem RB.set (h : RB N gl w g x at_ op rd s A c) (k : Nat) (v : Value) (s' : St) (hs : (rfCells x at_ op rd s A c).set k v = rfCells x at_ op rd s' A c) (hr : s'.rc = s.rc) (hu : s'.used = s.used) :
    RB N gl (w.setCell ⟨g, k, none⟩ v) g x at_ op rd s' A c := by
  refine ⟨by rw [hu]; exact h.1, ?_, ?_, h.4, h.5⟩
  · have := h.2.put k v
    rw [List.setIfInBounds_toArray, hs] at this
    exact this
  · rw [hr]
    exact h.3.chg ((Chg.refl (fun i => i = g) w).set (p := ⟨g, k, none⟩) (.inl rfl) v) (fun b hb he => h.ne b hb he)
theorem RB.set_row (h : RB N gl w g x at_ op rd s A c) (v : Nat) : RB N gl (w.setCell ⟨g, 11, none⟩ (.int .i64 v)) g x at_ op rd { s with row := v } A c := h.set 11 _ _ rfl rfl rfl
theorem RB.set_i (h : RB N gl w g x at_ op rd s A c) (v : Nat) : RB N gl (w.setCell ⟨g, 12, none⟩ (.int .i64 v)) g x at_ op rd { s with i := v } A c := h.set 12 _ _ rfl rfl rfl
theorem RB.set_tries (h : RB N gl w g x at_ op rd s A c) (v : Nat) : RB N gl (w.setCell ⟨g, 13, none⟩ (.int .i64 v)) g x at_ op rd { s with tries := v } A c := h.set 13 _ _ rfl rfl rfl
theorem RB.set_code (h : RB N gl w g x at_ op rd s A c) (v : Int) : RB N gl (w.setCell ⟨g, 14, none⟩ (.int .i64 v)) g x at_ op rd { s with code := v } A c := h.set 14 _ _ rfl rfl rfl
theorem RB.set_steps (h : RB N gl w g x at_ op rd s A c) (v : Nat) : RB N gl (w.setCell ⟨g, 15, none⟩ (.int .i64 v)) g x at_ op rd { s with steps := v } A c := h.set 15 _ _ rfl rfl rfl
theorem RB.set_a (h : RB N gl w g x at_ op rd s A c) (v : Int) : RB N gl (w.setCell ⟨g, 16, none⟩ (.int .u32 v)) g x at_ op rd { s with a := v } A c := h.set 16 _ _ rfl rfl rfl
theorem RB.set_b (h : RB N gl w g x at_ op rd s A c) (v : Int) : RB N gl (w.setCell ⟨g, 17, none⟩ (.int .u32 v)) g x at_ op rd { s with b := v } A c := h.set 17 _ _ rfl rfl rfl
theorem RB.set_over (h : RB N gl w g x at_ op rd s A c) (v : Bool) : RB N gl (w.setCell ⟨g, 39, none⟩ (.bool v)) g x at_ op rd { s with over := v } A c := by
  have h20 := h.1
  refine h.set 39 _ _ ?_ rfl rfl
  show _ :: _ :: _ :: _ :: _ :: _ :: _ :: _ :: _ :: _ :: _ :: _ :: _ :: _ :: _ :: _ :: _ :: _ :: (rfTail s A c).set 21 _ = _
  rw [rfTail, List.set_append_right _ _ (by simp; omega), List.length_map, h20]
  rfl
/-- the record is another one -/
theorem RB.set_rec (h : RB N gl w g x at_ op rd s A c) (A' : Option Addr) (c' : Nat) (r : List Int) (hr : Own w 0 22 A' c' (r.map (Value.int .u32))) (hf : ∀ b, A' = some ⟨b, 0, none⟩ → ¬ N b ∧ b ≠ gl) :
    RB N gl (w.setCell ⟨g, 38, none⟩ (.slice A' r.length c')) g x at_ op rd { s with rc := r } A' c' := by
  have h20 := h.1
  refine ⟨h20, ?_, hr.chg ((Chg.refl (fun i => i = g) w).set (p := ⟨g, 38, none⟩) (.inl rfl) _) (fun b hb he => hr.ne h.2 (by decide) b hb he), hf, h.5⟩
  have := h.2.put 38 (.slice A' r.length c')
  rw [List.setIfInBounds_toArray] at this
  have e : (rfCells x at_ op rd s A c).set 38 (.slice A' r.length c') = rfCells x at_ op rd { s with rc := r } A' c' := by
    show _ :: _ :: _ :: _ :: _ :: _ :: _ :: _ :: _ :: _ :: _ :: _ :: _ :: _ :: _ :: _ :: _ :: _ :: (rfTail s A c).set 20 _ = _
    rw [rfTail, List.set_append_right _ _ (by simp; omega), List.length_map, h20]
    rfl
  rw [e] at this
  exact this

theorem own_nil (w : World) (e : TypeId) : Own w 0 e none 0 [] := ⟨rfl, .inl ⟨rfl, rfl⟩⟩

theorem rto_any (w : World) (h : RB N gl w g x at_ op rd s A c) (r : Nat) :
    Calls Tryd.prog 96 #[.pointer (some ⟨g, 0, none⟩), .int .i64 r] w fun e w' => e = .returned (.tuple #[]) ∧ RB N gl w' g x at_ op rd (s.to r) A c ∧ Chg (fun i => i = g) w w' := by
  obtain ⟨_, _, _, c11, c12, _⟩ := h.mid
  have f11 := h.thaw 11
  have f12 := h.thaw 12
  have h1 := h.set_row r
  have h2 := Lib.hid (h1.set_i 0)
  have hc := Lib.hid ((((Chg.refl (fun i => i = g) w).set (p := ⟨g, 11, none⟩) (.inl rfl) (.int .i64 r))).set (p := ⟨g, 12, none⟩) (.inl rfl) (.int .i64 0))
  clear h h1
  go_enter Tryd.func96, Tryd.ntmps96
  go_wp2
  go_end0
  exact ⟨rfl, h2.out, hc.out⟩

/-- the end of an operation that is not Fifo's -/
theorem rend_any (w : World) (h : RB N gl w g x at_ op rd s A c) (hk : x.k ≠ 6) (wr : Bool) (hop : wr = decide (op = 2)) (code : Int) :
    Calls Tryd.prog 98 #[.pointer (some ⟨g, 0, none⟩), .int .i64 code] w fun e w' => e = .returned (.tuple #[]) ∧ (∃ A' c', RB N gl w' g x at_ op rd (s.fin wr code) A' c') ∧ Chg (fun i => i = g) w w' := by
  obtain ⟨c0, _⟩ := h.obj
  obtain ⟨_, c9, _, _, _, _, c14, _⟩ := h.mid
  obtain ⟨_, c39⟩ := h.tail
  have f39 := h.thaw 39
  have f14 := h.thaw 14
  have HK := Lib.hid hk
  have h1 := h.set_over true
  have h2 := h1.set_code code
  have hc := (((Chg.refl (fun i => i = g) w).set (p := ⟨g, 39, none⟩) (.inl rfl) (.bool true))).set (p := ⟨g, 14, none⟩) (.inl rfl) (.int .i64 code)
  obtain ⟨w2, hw2⟩ : ∃ w2, w2 = (w.setCell ⟨g, 39, none⟩ (.bool true)).setCell ⟨g, 14, none⟩ (.int .i64 code) := ⟨_, rfl⟩
  have q0 := h2.obj.1
  have q9 := h2.mid.2.1
  have q38 := h2.tail.1
  have p38 := h2.thaw 38
  rw [← hw2] at q0 q9 q38 p38 h2 hc
  have H2 := Lib.hid h2
  have HC := Lib.hid hc
  have HO := Lib.hid hop
  have HW2 := Lib.hid hw2
  clear h h1 h2 hc hop hk
  by_cases h0 : code = 0
  · have hb0 : (code != 0) = false := by simp [h0]
    by_cases h9 : op = 2
    · have HB : Hid (wr = true ∨ code ≠ 0) := Lib.hid (.inl (by rw [HO.out]; simp [h9]))
      have b9 : (op == 2) = true := by simp [h9]
      have H0 := Lib.hid h0
      have H9 := Lib.hid h9
      clear h0 h9
      go_enter Tryd.func98, Tryd.ntmps98
      go_wp2_with fail
      rw [← HW2.out]
      go_quiet ((go_at_call 53; exact Calls.quiet_of_same ((Ob.rwrites_reg _ HK.out _).mono fun _ _ ⟨he, hw⟩ => ⟨he, hw.symm⟩)))
      have q38' : (w2.drewN nq).cell? ⟨g, 38, none⟩ = some (.slice A s.rc.length c) := q38
      have p38' : (w2.drewN nq).frozen? ⟨g, 38, none⟩ = false := p38
      have H3 := Lib.hid (H2.out.same ((Same.refl w2).drewN nq))
      have HC3 := Lib.hid (HC.out.trans ((Chg.refl _ w2).drewN nq))
      generalize w2.drewN nq = w3 at *
      go_wp2
      go_end0
      have e3 : s.fin wr code = { s with over := true, code := code, rc := [] } := by
        unfold Op.St.fin
        rw [if_neg (fun h => by rcases HB.out with hb | hb; rw [hb] at h; exact Bool.noConfusion h.2; exact hb h.1)]
      rw [e3]
      exact ⟨rfl, ⟨_, _, H3.out.set_rec none 0 [] (own_nil _ _) (fun b hb => by cases hb)⟩, HC3.out.set (p := ⟨g, 38, none⟩) (.inl rfl) _⟩
    · have b9 : (op == 2) = false := by simp [h9]
      have H0 := Lib.hid h0
      have H9 := Lib.hid h9
      clear h0 h9
      go_enter Tryd.func98, Tryd.ntmps98
      go_wp2_with fail
      rw [← HW2.out]
      go_quiet ((go_at_call 53; exact Calls.quiet_of_same ((Ob.rwrites_reg _ HK.out _).mono fun _ _ ⟨he, hw⟩ => ⟨he, hw.symm⟩)))
      go_wp2
      go_end0
      have e3 : s.fin wr code = { s with over := true, code := code } := by
        unfold Op.St.fin
        rw [if_pos ⟨H0.out, by rw [HO.out]; simp [H9.out]⟩]
      rw [e3]
      exact ⟨rfl, ⟨_, _, H2.out.same ((Same.refl w2).drewN _)⟩, HC.out.trans ((Chg.refl _ w2).drewN _)⟩
  · have hb0 : (code != 0) = true := by simpa using h0
    have H0 := Lib.hid h0
    clear h0
    go_enter Tryd.func98, Tryd.ntmps98
    go_wp2_with fail
    rw [← HW2.out]
    go_quiet (fail)
    have q38' : (w2.drewN nq).cell? ⟨g, 38, none⟩ = some (.slice A s.rc.length c) := q38
    have p38' : (w2.drewN nq).frozen? ⟨g, 38, none⟩ = false := p38
    have H3 := Lib.hid (H2.out.same ((Same.refl w2).drewN nq))
    have HC3 := Lib.hid (HC.out.trans ((Chg.refl _ w2).drewN nq))
    generalize w2.drewN nq = w3 at *
    go_wp2
    go_end0
    have e3 : s.fin wr code = { s with over := true, code := code, rc := [] } := by
      unfold Op.St.fin
      rw [if_neg (fun h => H0.out h.1)]
    rw [e3]
    exact ⟨rfl, ⟨_, _, H3.out.set_rec none 0 [] (own_nil _ _) (fun b hb => by cases hb)⟩, HC3.out.set (p := ⟨g, 38, none⟩) (.inl rfl) _⟩
end

end Go.Proofs.YtejajmdmfipplabDoor.Rf
