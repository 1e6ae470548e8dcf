/-

  What a system's memory holds: its objects' words, one behind the other.
-/
import Derived.Test.YtaclphhbdfoaeaaLayRef
import Derived.Test.YtaclphhbdfoaeaaLayMem
set_option linter.unusedVariables false
set_option linter.unusedSimpArgs false
namespace Go.Proofs.Ytaclphhbdfoaeaa.Ly
open Go.ChangeShapes Go.WideShapes Go.ChangeAt Go.RowKit Ws


def inat (L : List (List Int)) (k : Nat) : List Int := L[k]?.getD []
/-- each object's first words -/
def Inis (w : World) (os : List Objt) (ins : List (List Int)) : Prop := ∀ k, k < os.length → Row w (oat os k).ia ((inat ins k).map (Value.int .u32)) ∧ (inat ins k).length = (oat os k).il
theorem Inis.same {w w' : World} {os : List Objt} {ins : List (List Int)} (h : Inis w os ins) (s : Same w w') : Inis w' os ins := fun k hk => ⟨(h k hk).1.same s, (h k hk).2⟩
def wd1 (o : Objt) (i : List Int) : List Int := Fc.layF o.k o.wd.toNat o.sl.toNat o.rl o.sa i
/-- the words of the first k objects -/
def wsL (os : List Objt) (ins : List (List Int)) : Nat → List Int
  | 0 => []
  | k + 1 => wsL os ins k ++ wd1 (oat os k) (inat ins k)
theorem wd1_len {o : Objt} (i : List Int) (h : shp o = true) : ((wd1 o i).length : Int) = siz o := Fc.lay_size o.k o.wd o.sl o.cp o.sa o.il o.rl i h
theorem wsL_len {os : List Objt} (ins : List (List Int)) (h : ∀ j, j < os.length → shp (oat os j) = true) : ∀ k, k ≤ os.length → ((wsL os ins k).length : Int) = sumL ((oL os).take k)
  | 0, _ => by simp [wsL, sumL]
  | k + 1, hk => by
    have h1 := wsL_len ins h k (by omega)
    have h2 := wd1_len (inat ins k) (h k (by omega))
    have e : (oL os)[k]? = some (siz (oat os k)) := by
      unfold oL
      rw [List.getElem?_map, oat_get (show k < os.length by omega)]
      rfl
    rw [sum_next e]
    unfold wsL
    rw [List.length_append]
    omega
theorem all_at {α : Type} {l : List α} {f : α → Bool} (h : l.all f = true) {k : Nat} {x : α} (hk : l[k]? = some x) : f x = true := List.all_eq_true.1 h x (List.mem_of_getElem? hk)
/-- how many words the tasks have -/
def tT (ts : List Tk.Task) : Nat := (sumL (tL ts)).toNat
structure LF (ts : List Tk.Task) (os : List Objt) (ins : List (List Int)) (L : List Int) : Prop where
  eq : L = tL ts ++ oL os
  own : ∀ j, j < ts.length → ownOk (Tk.at_ ts j) = true
  shp : ∀ j, j < os.length → shp (oat os j) = true
  tas : (tT ts : Int) = sumL (tL ts)
  wor : ∀ k, k ≤ os.length → ((wsL os ins k).length : Int) = sumL ((oL os).take k)
  le : ∀ k, k ≤ os.length → (tT ts : Int) + (wsL os ins k).length ≤ sumL L
  all : (tT ts : Int) + (wsL os ins os.length).length = sumL L
theorem lay_facts {ts : List Tk.Task} {os : List Objt} (ins : List (List Int)) {L : List Int} (hL : lensF ts os = some L) (hn : ts.length ≤ 60) : LF ts os ins L := by
  unfold lensF at hL
  split at hL
  · next h =>
    injection hL with hL
    rw [Bool.and_eq_true] at h
    have ho : ∀ j, j < ts.length → ownOk (Tk.at_ ts j) = true := fun j hj => all_at h.1 (Tk.at_get hj)
    have hs : ∀ j, j < os.length → shp (oat os j) = true := fun j hj => all_at h.2 (oat_get hj)
    have h1 := own_sum (Nat.le_refl ts.length) hn ho
    rw [List.take_of_length_le (by simp [tL])] at h1
    have ht : (tT ts : Int) = sumL (tL ts) := by unfold tT; omega
    have hw := fun k hk => wsL_len ins hs k hk
    have hall : (oL os).take os.length = oL os := List.take_of_length_le (by simp [oL])
    refine ⟨hL.symm, ho, hs, ht, hw, fun k hk => ?_, ?_⟩
    · rw [hw k hk, ht, ← hL, sum_app]
      have e : sumL (oL os) = sumL ((oL os).take k) + sumL ((oL os).drop k) := by rw [← sum_app, List.take_append_drop]
      have h2 := (sum_bd (K := 1000000) ((oL os).drop k) (fun x hx => by
        obtain ⟨o, _, rfl⟩ := List.mem_map.1 (List.mem_of_mem_drop hx)
        exact siz_bd _ _ _ _ _ _ _)).1
      omega
    · rw [hw _ (Nat.le_refl _), ht, ← hL, sum_app, hall]
  · cases hL
/-- where an object lies -/
theorem LF.at_ {ts : List Tk.Task} {os : List Objt} {ins : List (List Int)} {L : List Int} (h : LF ts os ins L) {k : Nat} (hk : k < os.length) :
    ((cutL L).drop ts.length)[k]? = some (((tT ts + (wsL os ins k).length : Nat) : Int), siz (oat os k)) ∧ ((wd1 (oat os k) (inat ins k)).length : Int) = siz (oat os k) ∧ 0 < (wd1 (oat os k) (inat ins k)).length ∧ ((tT ts : Int) + (wsL os ins k).length + (wd1 (oat os k) (inat ins k)).length ≤ sumL L) := by
  have h1 : (tL ts ++ oL os)[ts.length + k]? = some (siz (oat os k)) := by
    have hlen : (tL ts).length = ts.length := by simp [tL]
    rw [List.getElem?_append_right (by omega), hlen, Nat.add_sub_cancel_left]
    unfold oL
    rw [List.getElem?_map, oat_get hk]
    rfl
  have h2 := cut_at h1
  have h3 : (tL ts ++ oL os).take (ts.length + k) = tL ts ++ (oL os).take k := by
    have hlen : (tL ts).length = ts.length := by simp [tL]
    rw [List.take_append, hlen, Nat.add_sub_cancel_left, List.take_of_length_le (by omega)]
  have h4 := h.wor k (by omega)
  have h5 := wd1_len (inat ins k) (h.shp k hk)
  have h6 := siz_pos (h.shp k hk)
  have h7 := h.le (k + 1) hk
  have h8 := h.tas
  have h9 : 1 ≤ siz (oat os k) := h6
  unfold wsL at h7
  rw [List.length_append] at h7
  refine ⟨?_, h5, by omega, by omega⟩
  rw [List.getElem?_drop, h.eq, h2, h3, sum_app]
  congr 1
  congr 1
  omega
/-- what comes of a system's memory and layout -/
def LLP (w : World) (n m : Nat) (ws : List Int) (T : Nat) (r : Option (List Int)) (e : Ending) (w' : World) : Prop := match r with
  | none => e = .returned (.tuple #[.pointer none, .agg #[.slice none 0 0, .slice none 0 0, .int .i64 0], .int .i64 1]) ∧ Same w w'
  | some L => if sumL L ≤ 4096 then ∃ g A c B d, e = .returned (.tuple #[.pointer (some ⟨g, 0, none⟩), .agg #[.slice A n c, .slice B m d, .int .i64 (sumL L)], .int .i64 0]) ∧ Regs w' A ((cutL L).take n) ∧ Regs w' B ((cutL L).drop n) ∧ (∃ R, Mm.Mem w' R g (List.replicate T 0 ++ ws) 0) ∧ Same w w'
    else e = .returned (.tuple #[.pointer none, .agg #[.slice none 0 0, .slice none 0 0, .int .i64 0], .int .i64 6]) ∧ Same w w'
theorem ll_none {w w' : World} {n m T : Nat} {ws : List Int} (hS : Same w w') : LLP w n m ws T none (.returned (.tuple #[.pointer none, .agg #[.slice none 0 0, .slice none 0 0, .int .i64 0], .int .i64 1])) w' := ⟨rfl, hS⟩
theorem ll_room {w w' : World} {n m T : Nat} {ws : List Int} {L : List Int} (h : ¬ sumL L ≤ 4096) (hS : Same w w') : LLP w n m ws T (some L) (.returned (.tuple #[.pointer none, .agg #[.slice none 0 0, .slice none 0 0, .int .i64 0], .int .i64 6])) w' := by
  unfold LLP
  dsimp only
  rw [if_neg h]
  exact ⟨rfl, hS⟩
theorem ll_yes {w w' : World} {n m T g : Nat} {ws : List Int} {L : List Int} {A B : Option Addr} {c d : Nat} {z : Int} {R : Nat → Prop} (h : sumL L ≤ 4096) (hz : z = sumL L) (hr : Regs w' A ((cutL L).take n)) (hs : Regs w' B ((cutL L).drop n)) (hm : Mm.Mem w' R g (List.replicate T 0 ++ ws) 0) (hS : Same w w') :
    LLP w n m ws T (some L) (.returned (.tuple #[.pointer (some ⟨g, 0, none⟩), .agg #[.slice A n c, .slice B m d, .int .i64 z], .int .i64 0])) w' := by
  subst hz
  unfold LLP
  dsimp only
  rw [if_pos h]
  exact ⟨g, A, c, B, d, rfl, hr, hs, ⟨R, hm⟩, hS⟩
theorem regs_three {w w' : World} {S : Nat → Prop} {A : Option Addr} {l : List (Int × Int)} {g : Nat} {T : TypeId} {A1 A2 : Option Addr} {n1 c1 n2 c2 : Nat} {z : Int} (h : Regs w A l) (hb : Blk w g T #[.slice A1 n1 c1, .slice A2 n2 c2, .int .i64 z]) (hc : Chg S w w') (hS : ∀ i, S i → i = g ∨ w.heap.size ≤ i) : Regs w' A l := by
  intro k r hk
  obtain ⟨b, o, hA, h1, h2⟩ := h k r hk
  have hlt : b < w.heap.size := World.block_lt_of_cell? _ _ h1
  have hn : ¬ S b := fun hs => by
    rcases hS b hs with rfl | h3
    · rw [hb.cell] at h1 h2
      generalize o + k * 2 = i at h1 h2
      match i with
      | 0 => simp at h1
      | 1 => simp at h1
      | 2 => simp at h2
      | i + 3 => simp at h1
    · omega
  exact ⟨b, o, hA, hc.cell h1 hn, hc.cell h2 hn⟩
theorem results_cell3 {P : Program} {fn : Func} {q p t : Tmp} {ty : TypeId} (h : fn.results = #[.tmp q, .cell p ty, .tmp t]) (tmps : Array Value) (w : World) (g : Nat) (T : TypeId) (cs : Array Value) (fr : Nat × Nat) (d : TypeDesc)
    (hp : tmps.getD p undef = .pointer (some ⟨g, 0, none⟩)) (hg : w.heap[g]? = some (.cells cs T fr))
    (hu : P.underlying ty = some d) (hd : (match d with | .struct _ | .array _ _ => true | _ => false) = true) (hi : (P.info? ty).map (·.size) = some cs.size) :
    (results fn tmps).run P w = .ok (.tuple #[tmps.getD q undef, .agg cs, tmps.getD t undef]) w := by
  have hp' : tmps[p]?.getD undef = .pointer (some ⟨g, 0, none⟩) := by simpa using hp
  simp [results, h, hp', asAddr, run_loadVar_row w g T ty cs fr d hg hu hd hi]
end Go.Proofs.Ytaclphhbdfoaeaa.Ly
