/-

  A copied system's tasks and objects, written to cell by cell (what the loops of SystemCopies keep).
-/
import Derived.Test.YtaclphhbdfoaeaaDoorSysCopy
import Derived.Test.YtaclphhbdfoaeaaDoorSysSame
set_option linter.unusedVariables false
set_option linter.unusedSimpArgs false
namespace Go.Proofs.YtaclphhbdfoaeaaDoor.Im
open Go.ChangeShapes Go.WideShapes Go.ChangeAt Go.RowKit Ws

theorem put_cell {w : World} {g : Nat} {T : TypeId} {cs : Array Value} (hb : Blk w g T cs) (a m : Nat) (u v : Value) (h : w.cell? ⟨g, m, none⟩ = some v) (hne : m ≠ a) : (w.setCell ⟨g, a, none⟩ u).cell? ⟨g, m, none⟩ = some v := by
  rw [(hb.put a u).cell m, Array.getElem?_setIfInBounds]
  rw [hb.cell m] at h
  rw [if_neg (fun e => hne e.symm)]
  exact h
theorem put_here {w : World} {g : Nat} {T : TypeId} {cs : Array Value} (hb : Blk w g T cs) (a : Nat) (u v : Value) (h : w.cell? ⟨g, a, none⟩ = some v) : (w.setCell ⟨g, a, none⟩ u).cell? ⟨g, a, none⟩ = some u := by
  rw [(hb.put a u).cell a, Array.getElem?_setIfInBounds]
  rw [hb.cell a] at h
  have hlt : a < cs.size := by
    rcases Nat.lt_or_ge a cs.size with h2 | h2
    · exact h2
    · rw [Array.getElem?_eq_none h2] at h
      cases h
  rw [if_pos rfl, if_pos hlt]
/-- what was written so far: at an instruction told by f stands 99 -/
structure TS (w : World) (H : Nat) (A : Option Addr) (ds : List DT) (f : Nat → Nat → Bool) : Prop where
  tb : ∀ g, A = some ⟨g, 0, none⟩ → H ≤ g ∧ ∃ cs, Blk w g 32 cs
  hd : ∀ j d, ds[j]? = some d → ∃ g, A = some ⟨g, 0, none⟩ ∧ w.cell? ⟨g, j * 7 + 6, none⟩ = some (.slice d.X d.p.code.length d.c) ∧ ∃ v : Int, w.cell? ⟨g, j * 7 + 1, none⟩ = some (.int .i64 v)
  cd : ∀ j d k x, ds[j]? = some d → d.p.code[k]? = some x → ∃ g, d.X = some ⟨g, 0, none⟩ ∧ H ≤ g ∧ (∃ cs, Blk w g 35 cs) ∧ w.cell? ⟨g, k * 5, none⟩ = some (.int .i64 (if f j k then 99 else x.op)) ∧ w.cell? ⟨g, k * 5 + 1, none⟩ = some (.int .i64 x.a) ∧ w.cell? ⟨g, k * 5 + 2, none⟩ = some (.int .i64 x.b) ∧ w.cell? ⟨g, k * 5 + 3, none⟩ = some (.int .i64 x.c) ∧ w.cell? ⟨g, k * 5 + 4, none⟩ = some (.int .u32 x.n)
theorem own_zero {w : World} {B : Nat} {e : TypeId} {s : Nat} {A : Option Addr} {n c : Nat} {l : List Value} (h : OwnK w B e s A n c l) (h0 : 0 < n) : ∃ g, A = some ⟨g, 0, none⟩ := by
  rcases h.2 with ⟨h2, hn⟩ | ⟨g, cap, cur, hv, hb, hg, rest⟩
  · omega
  · exact ⟨g, by injection hv⟩
theorem TS.of {w : World} {H n c m d : Nat} {A B : Option Addr} {s : PS} {ds : List DT} {es : List DO} (h : SysR w H A n c B m d s ds es) : TS w H A ds (fun _ _ => false) := by
  have hl : ds.length = n := by
    have h1 := h.lens.1
    rw [← h.ts, List.length_map] at h1
    exact h1
  refine ⟨fun g hg => ⟨ownK_ge h.tr hg, ownK_blk h.tr hg⟩, fun j d hj => ?_, fun j d k x hj hx => ?_⟩
  · have hjl : j < ds.length := (List.getElem?_eq_some_iff.1 hj).1
    obtain ⟨g, hg⟩ := own_zero h.tr (by omega)
    obtain ⟨b, o, hA, hc⟩ := fm_row (by omega) tcells_len h.tr.row hj
    have hrow := h.tr.row
    rw [hg] at hrow
    have hget := fun q v (hv : (DT.cells d)[q]? = some v) => fm_get tcells_len ds j d hj q v hv
    obtain ⟨b6, o6, hA6, c6⟩ := hrow _ _ (hget 6 _ rfl)
    obtain ⟨b1, o1, hA1, c1⟩ := hrow _ _ (hget 1 _ rfl)
    injection hA6 with hA6
    injection hA6 with e1 e2
    injection hA1 with hA1
    injection hA1 with e3 e4
    subst e1 e2 e3 e4
    rw [Nat.zero_add] at c6 c1
    exact ⟨_, hg, c6, _, c1⟩
  · have hk := h.tk d (List.mem_of_getElem? hj)
    have hkl : k < d.p.code.length := (List.getElem?_eq_some_iff.1 hx).1
    unfold DT.ok at hk
    obtain ⟨g, hg⟩ := own_zero hk (by omega)
    have hrow := hk.row
    rw [hg] at hrow
    have hcell : ∀ q v, (icells x)[q]? = some v → w.cell? ⟨g, k * 5 + q, none⟩ = some v := fun q v hv => by
      obtain ⟨b6, o6, hA6, c6⟩ := hrow _ _ (fm_get icells_len d.p.code k x hx q v hv)
      injection hA6 with hA6
      injection hA6 with e1 e2
      subst e1 e2
      rw [Nat.zero_add] at c6
      exact c6
    exact ⟨g, hg, ownK_ge hk hg, ownK_blk hk hg, by have := hcell 0 _ rfl; simpa using this, hcell 1 _ rfl, hcell 2 _ rfl, hcell 3 _ rfl, hcell 4 _ rfl⟩
theorem TS.chg {w w' : World} {H : Nat} {A : Option Addr} {ds : List DT} {f : Nat → Nat → Bool} {S : Nat → Prop} (h : TS w H A ds f) (hc : Chg S w w') (hT : ∀ i cs, S i → ¬ Blk w i 32 cs) (hI : ∀ i cs, S i → ¬ Blk w i 35 cs) : TS w' H A ds f := by
  refine ⟨fun g hg => ?_, fun j d hj => ?_, fun j d k x hj hx => ?_⟩
  · obtain ⟨h1, cs, hb⟩ := h.tb g hg
    exact ⟨h1, cs, hb.chg hc (fun hs => hT g cs hs hb)⟩
  · obtain ⟨g, hg, h1, v, h2⟩ := h.hd j d hj
    obtain ⟨_, cs, hb⟩ := h.tb g hg
    exact ⟨g, hg, hc.cell h1 (fun hs => hT g cs hs hb), v, hc.cell h2 (fun hs => hT g cs hs hb)⟩
  · obtain ⟨g, hg, h0, ⟨cs, hb⟩, c0, c1, c2, c3, c4⟩ := h.cd j d k x hj hx
    have hn : ¬ S g := fun hs => hI g cs hs hb
    exact ⟨g, hg, h0, ⟨cs, hb.chg hc hn⟩, hc.cell c0 hn, hc.cell c1 hn, hc.cell c2 hn, hc.cell c3 hn, hc.cell c4 hn⟩
theorem set_chg (w : World) (g a : Nat) (u : Value) : Chg (fun i => i = g) w (w.setCell ⟨g, a, none⟩ u) := (Chg.refl (fun i => i = g) w).set (p := ⟨g, a, none⟩) (.inl rfl) u
/-- the priority of a task is written -/
theorem TS.prio {w : World} {H : Nat} {A : Option Addr} {ds : List DT} {f : Nat → Nat → Bool} (h : TS w H A ds f) {g : Nat} (hg : A = some ⟨g, 0, none⟩) (i : Nat) (v : Int) : TS (w.setCell ⟨g, i * 7 + 1, none⟩ (.int .i64 v)) H A ds f := by
  obtain ⟨h0, cs, hb⟩ := h.tb g hg
  refine ⟨fun g' hg' => ?_, fun j d hj => ?_, fun j d k x hj hx => ?_⟩
  · have e : g' = g := by rw [hg] at hg'; injection hg' with hg'; injection hg' with hg'; exact hg'.symm
    subst e
    exact ⟨h0, _, hb.put _ _⟩
  · obtain ⟨g', hg', h1, v1, h2⟩ := h.hd j d hj
    have e : g' = g := by rw [hg] at hg'; injection hg' with hg'; injection hg' with hg'; exact hg'.symm
    subst e
    refine ⟨g', hg', put_cell hb _ _ _ _ h1 (by omega), ?_⟩
    by_cases hij : j = i
    · subst hij
      exact ⟨v, put_here hb _ _ _ h2⟩
    · exact ⟨v1, put_cell hb _ _ _ _ h2 (by omega)⟩
  · obtain ⟨g', hg', h1, ⟨cs', hb'⟩, c0, c1, c2, c3, c4⟩ := h.cd j d k x hj hx
    have hn : ¬ g' = g := fun e => Blk.ne hb' hb (by decide) e
    have hc := set_chg w g (i * 7 + 1) (.int .i64 v)
    exact ⟨g', hg', h1, ⟨cs', hb'.chg hc hn⟩, hc.cell c0 hn, hc.cell c1 hn, hc.cell c2 hn, hc.cell c3 hn, hc.cell c4 hn⟩
theorem apt_ne {ds : List DT} (hp : ds.Pairwise Apt) {i j : Nat} {a b : DT} (hi : ds[i]? = some a) (hj : ds[j]? = some b) (hne : i ≠ j) {g : Nat} (h1 : a.X = some ⟨g, 0, none⟩) (h2 : b.X = some ⟨g, 0, none⟩) : False := by
  obtain ⟨hil, rfl⟩ := List.getElem?_eq_some_iff.1 hi
  obtain ⟨hjl, rfl⟩ := List.getElem?_eq_some_iff.1 hj
  rw [List.pairwise_iff_getElem] at hp
  rcases Nat.lt_or_ge i j with hlt | hge
  · exact hp i j hil hjl hlt g h1 h2
  · exact hp j i hjl hil (by omega) g h2 h1
/-- the operation of an instruction is written -/
theorem TS.op {w : World} {H : Nat} {A : Option Addr} {ds : List DT} {f : Nat → Nat → Bool} (h : TS w H A ds f) (hp : ds.Pairwise Apt) {i k : Nat} {d : DT} {x : Ins} (hi : ds[i]? = some d) (hk : d.p.code[k]? = some x) {g : Nat} (hg : d.X = some ⟨g, 0, none⟩) :
    TS (w.setCell ⟨g, k * 5, none⟩ (.int .i64 99)) H A ds (fun a b => (a == i && b == k) || f a b) := by
  obtain ⟨g0, hg0, h0, ⟨cs, hb⟩, _⟩ := h.cd i d k x hi hk
  have e : g0 = g := by rw [hg] at hg0; injection hg0 with hg0; injection hg0 with hg0; exact hg0.symm
  subst e
  have hc := set_chg w g0 (k * 5) (.int .i64 99)
  refine ⟨fun g' hg' => ?_, fun j d' hj => ?_, fun j d' k' x' hj hx => ?_⟩
  · obtain ⟨h1, cs', hb'⟩ := h.tb g' hg'
    exact ⟨h1, cs', hb'.chg hc (fun e => Blk.ne hb' hb (by decide) e)⟩
  · obtain ⟨g', hg', h1, v1, h2⟩ := h.hd j d' hj
    obtain ⟨_, cs', hb'⟩ := h.tb g' hg'
    have hn : ¬ g' = g0 := fun e => Blk.ne hb' hb (by decide) e
    exact ⟨g', hg', hc.cell h1 hn, v1, hc.cell h2 hn⟩
  · obtain ⟨g', hg', h1, ⟨cs', hb'⟩, c0, c1, c2, c3, c4⟩ := h.cd j d' k' x' hj hx
    by_cases hij : j = i
    · subst hij
      rw [hi] at hj
      injection hj with hj
      subst hj
      have e : g' = g0 := by rw [hg] at hg'; injection hg' with hg'; injection hg' with hg'; exact hg'.symm
      subst e
      refine ⟨g', hg', h1, ⟨_, hb.put _ _⟩, ?_, put_cell hb _ _ _ _ c1 (by omega), put_cell hb _ _ _ _ c2 (by omega), put_cell hb _ _ _ _ c3 (by omega), put_cell hb _ _ _ _ c4 (by omega)⟩
      by_cases hkk : k' = k
      · subst hkk
        have h2 := put_here hb (k' * 5) (.int .i64 99) _ c0
        simpa using h2
      · have h2 := put_cell hb (k * 5) (k' * 5) (.int .i64 99) _ c0 (by omega)
        have e2 : (k' == k) = false := by simpa using hkk
        simp only [e2, Bool.and_false, Bool.false_or]
        exact h2
    · have hn : ¬ g' = g0 := fun e => apt_ne hp hj hi hij hg' (e ▸ hg)
      have e2 : (j == i) = false := by simpa using hij
      simp only [e2, Bool.false_and, Bool.false_or]
      exact ⟨g', hg', h1, ⟨cs', hb'.chg hc hn⟩, hc.cell c0 hn, hc.cell c1 hn, hc.cell c2 hn, hc.cell c3 hn, hc.cell c4 hn⟩
/-- the objects' rows as the loop over the readers finds them -/
structure RD (w : World) (H : Nat) (B : Option Addr) (es : List DO) : Prop where
  ob : ∀ g, B = some ⟨g, 0, none⟩ → H ≤ g ∧ ∃ cs, Blk w g 39 cs
  hd : ∀ j d, es[j]? = some d → ∃ g, B = some ⟨g, 0, none⟩ ∧ w.cell? ⟨g, j * 8 + 7, none⟩ = some (.slice d.Y d.p.rd.length d.d)
  rd : ∀ (j : Nat) (d : DO) (k : Nat), es[j]? = some d → k < d.p.rd.length → ∃ g, d.Y = some ⟨g, 0, none⟩ ∧ H ≤ g ∧ (∃ cs, Blk w g 3 cs) ∧ ∃ v : Int, w.cell? ⟨g, k, none⟩ = some (.int .i64 v)
theorem RD.of {w : World} {H n c m d : Nat} {A B : Option Addr} {s : PS} {ds : List DT} {es : List DO} (h : SysR w H A n c B m d s ds es) : RD w H B es := by
  have hl : es.length = m := by
    have h1 := h.lens.2
    rw [← h.os, List.length_map] at h1
    exact h1
  refine ⟨fun g hg => ⟨ownK_ge h.or hg, ownK_blk h.or hg⟩, fun j d hj => ?_, fun j d k hj hk => ?_⟩
  · have hjl : j < es.length := (List.getElem?_eq_some_iff.1 hj).1
    obtain ⟨g, hg⟩ := own_zero h.or (by omega)
    have hrow := h.or.row
    rw [hg] at hrow
    obtain ⟨b6, o6, hA6, c6⟩ := hrow _ _ (fm_get ocells_len es j d hj 7 _ rfl)
    injection hA6 with hA6
    injection hA6 with e1 e2
    subst e1 e2
    rw [Nat.zero_add] at c6
    exact ⟨_, hg, c6⟩
  · have hq := (h.ok d (List.mem_of_getElem? hj)).2
    obtain ⟨g, hg⟩ := own_zero hq (by omega)
    have hrow := hq.row
    rw [hg, ints1_eq] at hrow
    have hget : (d.p.rd.map (Value.int .i64))[k]? = some (.int .i64 (d.p.rd[k])) := by rw [List.getElem?_map, List.getElem?_eq_getElem hk]; rfl
    obtain ⟨b6, o6, hA6, c6⟩ := hrow _ _ hget
    injection hA6 with hA6
    injection hA6 with e1 e2
    subst e1 e2
    rw [Nat.zero_add] at c6
    exact ⟨_, hg, ownK_ge hq hg, ownK_blk hq hg, _, c6⟩
theorem RD.chg {w w' : World} {H : Nat} {B : Option Addr} {es : List DO} {S : Nat → Prop} (h : RD w H B es) (hc : Chg S w w') (hO : ∀ i cs, S i → ¬ Blk w i 39 cs) (hI : ∀ i cs, S i → ¬ Blk w i 3 cs) : RD w' H B es := by
  refine ⟨fun g hg => ?_, fun j d hj => ?_, fun j d k hj hk => ?_⟩
  · obtain ⟨h1, cs, hb⟩ := h.ob g hg
    exact ⟨h1, cs, hb.chg hc (fun hs => hO g cs hs hb)⟩
  · obtain ⟨g, hg, h1⟩ := h.hd j d hj
    obtain ⟨_, cs, hb⟩ := h.ob g hg
    exact ⟨g, hg, hc.cell h1 (fun hs => hO g cs hs hb)⟩
  · obtain ⟨g, hg, h0, ⟨cs, hb⟩, v, c0⟩ := h.rd j d k hj hk
    have hn : ¬ S g := fun hs => hI g cs hs hb
    exact ⟨g, hg, h0, ⟨cs, hb.chg hc hn⟩, v, hc.cell c0 hn⟩
/-- a reader is written -/
theorem RD.put {w : World} {H : Nat} {B : Option Addr} {es : List DO} (h : RD w H B es) {g k : Nat} {cs : Array Value} (hb : Blk w g 3 cs) (u : Int) : RD (w.setCell ⟨g, k, none⟩ (.int .i64 u)) H B es := by
  have hc := set_chg w g k (.int .i64 u)
  refine ⟨fun g' hg' => ?_, fun j d hj => ?_, fun j d k' hj hk => ?_⟩
  · obtain ⟨h1, cs', hb'⟩ := h.ob g' hg'
    exact ⟨h1, cs', hb'.chg hc (fun e => Blk.ne hb' hb (by decide) e)⟩
  · obtain ⟨g', hg', h1⟩ := h.hd j d hj
    obtain ⟨_, cs', hb'⟩ := h.ob g' hg'
    exact ⟨g', hg', hc.cell h1 (fun e => Blk.ne hb' hb (by decide) e)⟩
  · obtain ⟨g', hg', h0, ⟨cs', hb'⟩, v, c0⟩ := h.rd j d k' hj hk
    by_cases e : g' = g
    · subst e
      by_cases hkk : k' = k
      · subst hkk
        exact ⟨g', hg', h0, ⟨_, hb.put _ _⟩, u, put_here hb _ _ _ c0⟩
      · exact ⟨g', hg', h0, ⟨_, hb.put _ _⟩, v, put_cell hb _ _ _ _ c0 hkk⟩
    · exact ⟨g', hg', h0, ⟨cs', hb'.chg hc e⟩, v, hc.cell c0 e⟩
end Go.Proofs.YtaclphhbdfoaeaaDoor.Im
