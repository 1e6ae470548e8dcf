/-

  What passes and what does not (layer 27): the program's Filter, and the document's.
-/
import Derived.Test.YtejajmdmfipplacRelBase
set_option linter.unusedVariables false
set_option linter.unusedSimpArgs false
namespace Go.Proofs.Ytejajmdmfipplac.Rl
open Go.ChangeShapes Go.WideShapes Go.ChangeAt Go.RowKit Ws

/-- both rows, apart -/
structure Two (w : World) (B : Nat) (A1 : Option Addr) (c1 : Nat) (l1 : List Int) (A2 : Option Addr) (c2 : Nat) (l2 : List Int) : Prop where
  one : Own w B 3 A1 c1 (l1.map (Value.int .i64))
  two : Own w B 3 A2 c2 (l2.map (Value.int .i64))
  apart : ∀ g, A1 = some ⟨g, 0, none⟩ → ¬ A2 = some ⟨g, 0, none⟩
theorem two_nil (w : World) (B : Nat) : Two w B none 0 [] none 0 [] := ⟨own_nil _ _ _, own_nil _ _ _, fun g h => by cases h⟩
theorem Two.chg {S : Nat → Prop} {w w' : World} {B : Nat} {A1 : Option Addr} {c1 : Nat} {l1 : List Int} {A2 : Option Addr} {c2 : Nat} {l2 : List Int} (h : Two w B A1 c1 l1 A2 c2 l2) (hc : Chg S w w') (h1 : ∀ g, A1 = some ⟨g, 0, none⟩ → ¬ S g) (h2 : ∀ g, A2 = some ⟨g, 0, none⟩ → ¬ S g) : Two w' B A1 c1 l1 A2 c2 l2 :=
  ⟨h.one.chg hc h1, h.two.chg hc h2, h.apart⟩
theorem Two.same {w w' : World} {B : Nat} {A1 : Option Addr} {c1 : Nat} {l1 : List Int} {A2 : Option Addr} {c2 : Nat} {l2 : List Int} (h : Two w B A1 c1 l1 A2 c2 l2) (hc : Same w w') : Two w' B A1 c1 l1 A2 c2 l2 := h.chg hc (fun _ _ f => f) fun _ _ f => f
theorem Two.app1 {w w' : World} {B : Nat} {A1 : Option Addr} {c1 : Nat} {l1 : List Int} {A2 : Option Addr} {c2 : Nat} {l2 : List Int} {A' : Option Addr} {c' : Nat} {t : Int} (h : Two w B A1 c1 l1 A2 c2 l2) (ho : Own w' B 3 A' c' (l1.map (Value.int .i64) ++ [.int .i64 t])) (hc : Chg (fun g => A1 = some ⟨g, 0, none⟩) w w') (hA : A' = A1 ∨ A' = some ⟨w.heap.size, 0, none⟩) : Two w' B A' c' (l1 ++ [t]) A2 c2 l2 := by
  refine ⟨by rw [List.map_append]; exact ho, h.two.chg hc (fun g h2 h1 => h.apart g h1 h2), fun g hg h2 => ?_⟩
  rcases hA with hA | hA
  · exact h.apart g (hA ▸ hg) h2
  · rw [hA] at hg
    injection hg with hg
    injection hg with hg
    subst hg
    have := h.two
    rw [h2] at this
    exact absurd (own_lt this).2 (Nat.lt_irrefl _)
theorem Two.app2 {w w' : World} {B : Nat} {A1 : Option Addr} {c1 : Nat} {l1 : List Int} {A2 : Option Addr} {c2 : Nat} {l2 : List Int} {A' : Option Addr} {c' : Nat} {t : Int} (h : Two w B A1 c1 l1 A2 c2 l2) (ho : Own w' B 3 A' c' (l2.map (Value.int .i64) ++ [.int .i64 t])) (hc : Chg (fun g => A2 = some ⟨g, 0, none⟩) w w') (hA : A' = A2 ∨ A' = some ⟨w.heap.size, 0, none⟩) : Two w' B A1 c1 l1 A' c' (l2 ++ [t]) := by
  refine ⟨h.one.chg hc (fun g h1 h2 => h.apart g h1 h2), by rw [List.map_append]; exact ho, fun g h1 hg => ?_⟩
  rcases hA with hA | hA
  · exact h.apart g h1 (hA ▸ hg)
  · rw [hA] at hg
    injection hg with hg
    injection hg with hg
    subst hg
    have := h.one
    rw [h1] at this
    exact absurd (own_lt this).2 (Nat.lt_irrefl _)
theorem Two.new1 {w : World} {B : Nat} {A1 : Option Addr} {c1 : Nat} {l1 : List Int} {A2 : Option Addr} {c2 : Nat} {l2 : List Int} (h : Two w B A1 c1 l1 A2 c2 l2) : ∀ g, A1 = some ⟨g, 0, none⟩ → B ≤ g := fun g hg => by
  have := h.one
  rw [hg] at this
  exact (own_lt this).1
theorem Two.new2 {w : World} {B : Nat} {A1 : Option Addr} {c1 : Nat} {l1 : List Int} {A2 : Option Addr} {c2 : Nat} {l2 : List Int} (h : Two w B A1 c1 l1 A2 c2 l2) : ∀ g, A2 = some ⟨g, 0, none⟩ → B ≤ g := fun g hg => by
  have := h.two
  rw [hg] at this
  exact (own_lt this).1
/-- what Filter tells -/
def Told (w : World) (l r : List Int) (e : Ending) (w' : World) : Prop :=
  ∃ A1 c1 A2 c2, e = .returned (.tuple #[.slice A1 l.length c1, .slice A2 r.length c2]) ∧ Row w' A1 (l.map (Value.int .i64)) ∧ Row w' A2 (r.map (Value.int .i64)) ∧ Same w w'
theorem told_mk {w w' : World} {l r : List Int} {B : Nat} {A1 : Option Addr} {c1 n1 : Nat} {A2 : Option Addr} {c2 n2 : Nat} (h : Two w' B A1 c1 l A2 c2 r) (h1 : n1 = l.length) (h2 : n2 = r.length) (hs : Same w w') : Told w l r (.returned (.tuple #[.slice A1 n1 c1, .slice A2 n2 c2])) w' := by
  subst h1
  subst h2
  exact ⟨A1, c1, A2, c2, rfl, h.one.row, h.two.row, hs⟩
/-- what parted tells: the gate's block may have changed besides -/
def ToldG (w : World) (q : Nat) (l r : List Int) (e : Ending) (w' : World) : Prop :=
  ∃ A1 c1 A2 c2, e = .returned (.tuple #[.slice A1 l.length c1, .slice A2 r.length c2]) ∧ Row w' A1 (l.map (Value.int .i64)) ∧ Row w' A2 (r.map (Value.int .i64)) ∧ Chg (fun i => i = q) w w'
theorem toldG_mk {w w' : World} {q : Nat} {l r : List Int} {B : Nat} {A1 : Option Addr} {c1 n1 : Nat} {A2 : Option Addr} {c2 n2 : Nat} (h : Two w' B A1 c1 l A2 c2 r) (h1 : n1 = l.length) (h2 : n2 = r.length) (hs : Chg (fun i => i = q) w w') : ToldG w q l r (.returned (.tuple #[.slice A1 n1 c1, .slice A2 n2 c2])) w' := by
  subst h1
  subst h2
  exact ⟨A1, c1, A2, c2, rfl, h.one.row, h.two.row, hs⟩
theorem gate_app {P : Int} {l : List Int} {t : Int} {w : World} {q : Nat} (h : Blk w q 33 #[.int .i64 P, .bool true, .int .i64 t]) : Blk w q 33 #[.int .i64 P, .bool (!(l ++ [t]).isEmpty), .int .i64 (lastI (l ++ [t]))] := by
  rw [lastI_app, show (!(l ++ [t]).isEmpty) = true by simp]
  exact h

set_option maxRecDepth 100000 in
theorem parted_any (P : Int) (ts : List Int) (A : Option Addr) (n c : Nat) (q : Nat) (w : World) (hl : ts.length = n) (hn : n ≤ 1000) (hr : Row w A (ts.map (Value.int .i64))) (hA : ∀ b o, A = some ⟨b, o, none⟩ → ¬ b = q) (hb : ∀ x ∈ ts, -9223372036854775808 ≤ x ∧ x ≤ 9223372036854775807)
    (hq : Blk w q 33 #[.int .i64 P, .bool false, .int .i64 0]) :
    Calls Try.prog 9 #[.slice A n c, .func (.func 10) #[.pointer (some ⟨q, 0, none⟩)] #[]] w (ToldG w q (runTo P ts n).1 (runTo P ts n).2) := by
  obtain ⟨i0, hi, hz0, hz1, hz2⟩ := info_parts int_info
  have HL := Lib.hid hl
  have HR := Lib.hid (fun w' (s : Chg (fun i => i = q) w w') => hr.chg s (fun b o h _ => hA b o h))
  have HB := Lib.hid (fun k (hk : k < n) => (show -9223372036854775808 ≤ ts.getD k 0 ∧ ts.getD k 0 ≤ 9223372036854775807 by
    rw [List.getD_eq_getElem?_getD, List.getElem?_eq_getElem (by omega)]
    exact hb _ (List.getElem_mem _)))
  have HG := Lib.hid (fun k (hk : k ≤ n) => lastI_max (run_good P ts (fun x hx => (hb x hx).2) k (by omega)))
  have HQ := Lib.hid hq
  have HQL := Lib.hid hq.lt
  clear hl hr hA hb hq
  go_enter Try.func9, Try.ntmps9
  go_wp2_with fail
  go_loopg [10, 4, 5] n (fun gk iv v1 v2 wx => ∃ (k : Nat) (A1 : Option Addr) (n1 c1 : Nat) (A2 : Option Addr) (n2 c2 : Nat), k + gk = n ∧ iv = .int .i64 k ∧ v1 = .slice A1 n1 c1 ∧ v2 = .slice A2 n2 c2 ∧ n1 = (runTo P ts k).1.length ∧ n2 = (runTo P ts k).2.length ∧ Two wx w.heap.size A1 c1 (runTo P ts k).1 A2 c2 (runTo P ts k).2 ∧ Blk wx q 33 #[.int .i64 P, .bool (!(runTo P ts k).1.isEmpty), .int .i64 (lastI (runTo P ts k).1)] ∧ Chg (fun i => i = q) w wx)
  case atStart => exact ⟨0, none, 0, 0, none, 0, 0, by omega, rfl, rfl, rfl, rfl, rfl, two_nil _ _, HQ.out, Chg.refl _ _⟩
  case round =>
    obtain ⟨k, A1, n1, c1, A2, n2, c2, hk, rfl, rfl, rfl, hn1, hn2, ht, hb, sx⟩ := hrel
    have HN1 := Lib.hid hn1
    have HN2 := Lib.hid hn2
    have HT := Lib.hid ht
    have HBX := Lib.hid hb
    have HS := Lib.hid sx
    clear hn1 hn2 ht hb sx
    cases gk with
    | zero =>
      obtain rfl : n = k := by omega
      have hge : ¬ (n : Int) < (n : Int) := by omega
      go_wp2_with fail
      go_ret2
      exact toldG_mk HT.out HN1.out HN2.out HS.out
    | succ GK =>
      have hlt : (k : Int) < n := by omega
      have hk0 : (0 : Int) ≤ k := by omega
      have hlen := run_len P ts k
      have hbk := HB.out k (by omega)
      have hgk := HG.out k (by omega)
      obtain ⟨b, o, rfl, c0⟩ := (HR.out _ HS.out).at_ (k := k) (by have := HL.out; simp; omega)
      have hx : ts[k]'(by have := HL.out; omega) = ts.getD k 0 := by
        rw [List.getD_eq_getElem?_getD, List.getElem?_eq_getElem (by have := HL.out; omega)]
        rfl
      rw [List.getElem_map, hx] at c0
      clear hx
      have HYES := Lib.hid (fun h => run_yes (P := P) (ts := ts) (k := k) h)
      have HNO := Lib.hid (fun h => run_no (P := P) (ts := ts) (k := k) h)
      generalize ts.getD k 0 = t at *
      have LE := Lib.hid (fun w' (hb' : Blk w' q 33 #[.int .i64 P, .bool (!(runTo P ts k).1.isEmpty), .int .i64 (lastI (runTo P ts k).1)]) => lets_any P _ _ t q w' hgk hbk hb')
      go_wp2_with fail
      refine (LE.out _ HBX.out).mono ?_
      rintro e w1 ⟨rfl, hy1, hy2⟩
      cases hok : okR P (!(runTo P ts k).1.isEmpty) (lastI (runTo P ts k).1) t
      · have hs := hy2 hok
        have HE := Lib.hid (HNO.out hok)
        have HT1 := Lib.hid (HT.out.same hs)
        have HB1 := Lib.hid (HBX.out.same hs)
        have HS1 := Lib.hid (HS.out.trans (hs.chg _))
        clear hy1 hy2 hs hok LE
        go_wp2_with (at_builtin; go_loud (refine wpList_app rfl (.tmp 21) (.tmp 23) 22 rfl w.heap.size 3 i0 _ 8 Try.underlying22 hi hz0 hz1 hz2 rfl A2 n2 c2 ((runTo P ts k).2.map (Value.int .i64)) rfl ?c1 (HT1.out.two.same ((Same.refl _).alloc _)) _ 1 1 [.int .i64 t] rfl rfl (row_new _ _ _) (ints_one t) ?c3 (by omega) ?c4 ?_))
        case c1 => rw [List.length_map]; exact HN2.out.symm
        case c3 => rw [List.length_map]; simp; omega
        case c4 => have := HS1.out.size; simp at this ⊢; omega
        intro A' c' w2 ho2 hc2 hA2
        have hA3 : A' = A2 ∨ A' = some ⟨(w1.alloc (.cells #[.int .i64 t] 3)).heap.size, 0, none⟩ := by simpa using hA2
        have HT2 := Lib.hid ((HT1.out.same ((Same.refl _).alloc _)).app2 ho2 hc2 hA3)
        have hne : ∀ g, A2 = some ⟨g, 0, none⟩ → g ≠ q := fun g hg e => by have := HT1.out.new2 g hg; have := HQL.out; omega
        have HB2 := Lib.hid (Blk.chg (Blk.same HB1.out ((Same.refl _).alloc (.cells #[.int .i64 t] 3))) hc2 (fun h => hne q h rfl))
        have HS2 := Lib.hid (show Chg (fun i => i = q) w w2 from ⟨hc2.os.trans (HS1.out.alloc _).os, hc2.tape.trans (HS1.out.alloc _).tape, hc2.output.trans (HS1.out.alloc _).output, Nat.le_trans (HS1.out.alloc _).size hc2.size, fun i hi hn => (hc2.block i (Nat.lt_of_lt_of_le hi (HS1.out.alloc _).size) (fun h => by have := HT1.out.new2 i h; omega)).trans ((HS1.out.alloc _).block i hi hn)⟩)
        clear ho2 hc2 hA2 hA3 hne HB1 HT1
        go_wp2_with fail
        go_roundg GK
        case rel => exact ⟨k + 1, A1, n1, c1, A', n2 + 1, c', by omega, by go_num, rfl, rfl, by rw [HE.out]; exact HN1.out, by rw [HE.out, HN2.out]; simp, by rw [HE.out]; exact HT2.out, by rw [HE.out]; exact HB2.out, HS2.out⟩
        case measure => omega
      · obtain ⟨hs, hbn⟩ := hy1 hok
        have HE := Lib.hid (HYES.out hok)
        have hn1 : ∀ g, A1 = some ⟨g, 0, none⟩ → ¬ g = q := fun g hg e => by have := HT.out.new1 g hg; have := HQL.out; omega
        have hn2 : ∀ g, A2 = some ⟨g, 0, none⟩ → ¬ g = q := fun g hg e => by have := HT.out.new2 g hg; have := HQL.out; omega
        have HT1 := Lib.hid (HT.out.chg hs hn1 hn2)
        have HB1 := Lib.hid (gate_app (l := (runTo P ts k).1) hbn)
        have HS1 := Lib.hid (HS.out.trans hs)
        clear hy1 hy2 hs hok LE hn1 hn2 hbn
        go_wp2_with (at_builtin; go_loud (refine wpList_app rfl (.tmp 17) (.tmp 19) 22 rfl w.heap.size 3 i0 _ 8 Try.underlying22 hi hz0 hz1 hz2 rfl A1 n1 c1 ((runTo P ts k).1.map (Value.int .i64)) rfl ?c1 (HT1.out.one.same ((Same.refl _).alloc _)) _ 1 1 [.int .i64 t] rfl rfl (row_new _ _ _) (ints_one t) ?c3 (by omega) ?c4 ?_))
        case c1 => rw [List.length_map]; exact HN1.out.symm
        case c3 => rw [List.length_map]; simp; omega
        case c4 => have := HS1.out.size; simp at this ⊢; omega
        intro A' c' w2 ho2 hc2 hA2
        have hA3 : A' = A1 ∨ A' = some ⟨(w1.alloc (.cells #[.int .i64 t] 3)).heap.size, 0, none⟩ := by simpa using hA2
        have HT2 := Lib.hid ((HT1.out.same ((Same.refl _).alloc _)).app1 ho2 hc2 hA3)
        have hne : ∀ g, A1 = some ⟨g, 0, none⟩ → g ≠ q := fun g hg e => by have := HT1.out.new1 g hg; have := HQL.out; omega
        have HB2 := Lib.hid (Blk.chg (Blk.same HB1.out ((Same.refl _).alloc (.cells #[.int .i64 t] 3))) hc2 (fun h => hne q h rfl))
        have HS2 := Lib.hid (show Chg (fun i => i = q) w w2 from ⟨hc2.os.trans (HS1.out.alloc _).os, hc2.tape.trans (HS1.out.alloc _).tape, hc2.output.trans (HS1.out.alloc _).output, Nat.le_trans (HS1.out.alloc _).size hc2.size, fun i hi hn => (hc2.block i (Nat.lt_of_lt_of_le hi (HS1.out.alloc _).size) (fun h => by have := HT1.out.new1 i h; omega)).trans ((HS1.out.alloc _).block i hi hn)⟩)
        clear ho2 hc2 hA2 hA3 hne HB1 HT1
        go_wp2_with fail
        go_roundg GK
        case rel => exact ⟨k + 1, A', n1 + 1, c', A2, n2, c2, by omega, by go_num, rfl, rfl, by rw [HE.out, HN1.out]; simp, by rw [HE.out]; exact HN2.out, by rw [HE.out]; exact HT2.out, by rw [HE.out]; exact HB2.out, HS2.out⟩
        case measure => omega

set_option maxRecDepth 100000 in
theorem parted_zero (P : Int) (A : Option Addr) (c : Nat) (q : Nat) (w : World) :
    Calls Try.prog 9 #[.slice A 0 c, .func (.func 10) #[.pointer (some ⟨q, 0, none⟩)] #[]] w (ToldG w q (runTo P [] 0).1 (runTo P [] 0).2) := by
  go_enter Try.func9, Try.ntmps9
  go_wp2_with fail
  go_loopg [10, 4, 5] 0 (fun gk iv v1 v2 wx => iv = .int .i64 0 ∧ v1 = .slice none 0 0 ∧ v2 = .slice none 0 0 ∧ wx = w)
  case atStart => exact ⟨rfl, rfl, rfl, rfl⟩
  case round =>
    obtain ⟨rfl, rfl, rfl, rfl⟩ := hrel
    go_wp2_with fail
    go_ret2
    exact toldG_mk (two_nil _ 0) rfl rfl (Chg.refl _ _)

end Go.Proofs.Ytejajmdmfipplac.Rl
