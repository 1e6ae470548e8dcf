/-
  Contracts of package isa, and of the document's own answers on layer 8: any bytes as instructions, or where they are none.
-/
import Derived.Test.YtgpipfmgjbecjacDoorIsaDec
set_option linter.unusedVariables false
namespace Go.Proofs.YtgpipfmgjbecjacDoor.Is
open Go.ChangeShapes Go.WideShapes Go.ChangeAt Go.RowKit Ws Cd

/-- the instruction of a place, and all up to a place -/
def insAt (l : List Int) (j : Nat) : Ins := ofB (l.drop (8 * j))
def decP (l : List Int) (k : Nat) : List Ins := (List.range k).map (insAt l)
theorem decP_len (l : List Int) (k : Nat) : (decP l k).length = k := by simp [decP]
theorem decP_succ (l : List Int) (k : Nat) : decP l (k + 1) = decP l k ++ [insAt l k] := by unfold decP; rw [List.range_succ, List.map_append]; rfl
theorem By.drop {l : List Int} (h : By l) (k : Nat) : By (l.drop k) := fun x hx => h x (List.mem_of_mem_drop hx)
theorem By.take {l : List Int} (h : By l) (k : Nat) : By (l.take k) := fun x hx => h x (List.mem_of_mem_take hx)
theorem insAt_ok {l : List Int} (h : By l) (j : Nat) : (insAt l j).ok := num_lt (n := 4) (By.take (By.drop (By.drop h _) _) _) (by rw [List.length_take]; omega) (by omega)
theorem decP_ok {l : List Int} (h : By l) (k : Nat) : ∀ x ∈ decP l k, x.ok := by
  intro x hx
  obtain ⟨j, _, rfl⟩ := List.mem_map.1 hx
  exact insAt_ok h j

/-- instructions' cells, one behind the other -/
def codeCells (p : List Ins) : List Value := p.flatMap Ins.cells
theorem codeCells_app (p q : List Ins) : codeCells (p ++ q) = codeCells p ++ codeCells q := by unfold codeCells; rw [List.flatMap_append]
theorem codeCells_one (x : Ins) : codeCells [x] = x.cells := by simp [codeCells]
theorem codeCells_at : ∀ (p : List Ins) (i : Nat) (x : Ins) (j : Nat) (v : Value), p[i]? = some x → x.cells[j]? = some v → (codeCells p)[i * 5 + j]? = some v := by
  intro p
  induction p with
  | nil => intro i x j v h; simp at h
  | cons y p ih =>
    intro i x j v hx hv
    have hy : (y.cells).length = 5 := rfl
    unfold codeCells
    rw [List.flatMap_cons]
    cases i with
    | zero =>
      simp only [List.getElem?_cons_zero, Option.some.injEq] at hx
      subst hx
      have hj : j < 5 := by
        rcases Nat.lt_or_ge j 5 with h | h
        · exact h
        · rw [List.getElem?_eq_none (by rw [hy]; exact h)] at hv
          cases hv
      rw [List.getElem?_append_left (by rw [hy]; omega)]
      rw [Nat.zero_mul, Nat.zero_add]
      exact hv
    | succ i =>
      rw [List.getElem?_append_right (by rw [hy]; omega), hy, show (i + 1) * 5 + j - 5 = i * 5 + j by omega]
      exact ih i x j v (by simpa using hx) hv
theorem code_of_row {w : World} {A : Option Addr} {p : List Ins} (h : Row w A (codeCells p)) (ho : ∀ x ∈ p, x.ok) : Code w A p := by
  intro i x hx
  have h0 := codeCells_at p i x 0 _ hx rfl
  obtain ⟨b, o, hA, _⟩ := h _ _ h0
  subst hA
  refine ⟨ho x (List.mem_of_getElem? hx), b, o, rfl, fun j v hv => ?_⟩
  rw [Nat.add_assoc]
  exact h.get (codeCells_at p i x j v hx hv)
theorem cells_one (x : Ins) : ∀ u ∈ x.cells, u.oneCell' = true := by
  intro u hu
  simp only [Ins.cells, List.mem_cons, List.not_mem_nil, or_false] at hu
  rcases hu with rfl | rfl | rfl | rfl | rfl <;> rfl

theorem ins_info : (Tryd.prog.info? 24).map (fun i => (i.zero, i.size, i.bytes)) = some (some (.agg #[.int .i64 0, .int .i64 0, .int .i64 0, .int .i64 0, .int .u32 0]), 5, 40) := by kernel_rfl

/-- the first of all whole instructions that is not right -/
def badAt (l : List Int) : Option Nat := (List.range (l.length / 8)).find? fun j => !(insAt l j).right

def ret3 (v : Value) (at_ e : Int) : Ending := .returned (.tuple #[v, .int .i64 at_, .int .i64 e])
def DecPost (w : World) (l : List Int) (e : Ending) (w' : World) : Prop :=
  Same w w' ∧ match badAt l with
    | some k => e = ret3 (.slice none 0 0) k 4
    | none => if l.length % 8 = 0 then ∃ A c, e = ret3 (.slice A (l.length / 8) c) 0 0 ∧ Code w' A (decP l (l.length / 8)) else e = ret3 (.slice none 0 0) ((l.length / 8 : Nat) : Int) 2

def Rights (l : List Int) (k : Nat) : Prop := ∀ j, j < k → (insAt l j).right = true
theorem bad_some {l : List Int} {k : Nat} (h : Rights l k) (hk : 8 * k + 8 ≤ l.length) (hr : (insAt l k).right = false) : badAt l = some k := by
  unfold badAt
  rw [List.find?_range_eq_some]
  refine ⟨by simp [hr], by simp; omega, fun j hj => ?_⟩
  rw [h j hj]
  rfl
theorem bad_none {l : List Int} (h : Rights l (l.length / 8)) : badAt l = none := by
  unfold badAt
  rw [List.find?_range_eq_none]
  intro j hj
  rw [h j hj]
  rfl

def DecRel (w : World) (l : List Int) (k : Nat) (b p : Value) (wx : World) : Prop :=
  ∃ A c P d, b = .slice A (l.length - 8 * k) c ∧ p = .slice P k d ∧ 8 * k ≤ l.length ∧ l.length - 8 * k ≤ c ∧ c ≤ 9223372036854775807 ∧ Row w A (by8 (l.drop (8 * k))) ∧
    OwnK wx w.heap.size 24 5 P k d (codeCells (decP l k)) ∧ Same w wx ∧ Rights l k

set_option maxRecDepth 100000 in
set_option maxHeartbeats 1000000 in
theorem rdecode_any (A : Option Addr) (m c : Nat) (l : List Int) (w : World) (hl : l.length = m) (hm : m ≤ 65536) (hmc : m ≤ c) (hc : c ≤ 9223372036854775807) (hb : By l) (hr : Row w A (by8 l)) :
    Calls Tryd.prog 24 #[.slice A m c] w (DecPost w l) := by
  obtain ⟨i0, hi, hz0, hz1, hz2⟩ := info_parts ins_info
  subst hl
  have HB := Lib.hid hb
  clear hb
  go_enter Tryd.func24, Tryd.ntmps24
  go_wp2_with fail
  go_loopg [0, 5] (l.length / 8) (fun gk b p wx => ∃ k, k + gk = l.length / 8 ∧ DecRel w l k b p wx)
  case atStart => exact ⟨0, by omega, A, c, none, 0, rfl, rfl, by omega, by omega, hc, by simpa using hr, OwnK.none _ _ _ _, Same.refl _, fun j hj => absurd hj (by omega)⟩
  case round =>
    obtain ⟨k, hkg, A', c', P, d, rfl, rfl, hk, hc1, hc2, hrow, ho, sx, hri⟩ := hrel
    have HRI := Lib.hid hri
    clear hri
    obtain ⟨q, hq⟩ : ∃ q, q = l.length - 8 * k := ⟨_, rfl⟩
    rw [← hq] at hc1 ⊢
    have HL := Lib.hid (show (l.drop (8 * k)).length = q by rw [List.length_drop, hq])
    cases gk with
    | zero =>
      have HK := Lib.hid (show k = l.length / 8 by omega)
      have hq8 : ¬ (8 : Int) ≤ (q : Int) := by omega
      by_cases h0 : q = 0
      · have hq0 : ¬ (0 : Int) < (q : Int) := by omega
        have hmod : l.length % 8 = 0 := by omega
        have HM := Lib.hid hmod
        clear hq hmod
        go_wp2_with fail
        go_ret3
        refine ⟨sx, ?_⟩
        rw [bad_none (HK.out ▸ HRI.out), if_pos HM.out, ← HK.out]
        exact ⟨P, d, rfl, code_of_row ho.row (decP_ok HB.out k)⟩
      · have hq0 : (0 : Int) < (q : Int) := by omega
        have hmod : ¬ l.length % 8 = 0 := by omega
        have HM := Lib.hid hmod
        clear hq hmod
        go_wp2_with fail
        go_ret3
        refine ⟨sx, ?_⟩
        rw [bad_none (HK.out ▸ HRI.out), if_neg HM.out, ← HK.out]
        rfl
    | succ gk =>
      have hq8 : (8 : Int) ≤ (q : Int) := by omega
      have h88 : 8 * k + 8 ≤ l.length := by omega
      have HQ := Lib.hid hq
      clear hq
      go_wp2_with fail
      refine (rof_any A' q c' (l.drop (8 * k)) wr HL.out (by omega) (By.drop HB.out _) (hrow.same sx)).mono ?_
      rintro e w1 ⟨rfl, s1⟩
      obtain ⟨x, hx⟩ : ∃ x, x = insAt l k := ⟨_, rfl⟩
      rw [show (ofB (l.drop (8 * k))).val = .agg #[.int .i64 x.op, .int .i64 x.a, .int .i64 x.b, .int .i64 x.c, .int .u32 x.n] by rw [hx]; rfl]
      have hok : x.ok := hx ▸ insAt_ok HB.out k
      have HX := Lib.hid hx
      have HOK := Lib.hid hok
      clear hx hok
      have ho1 := ho.same s1
      have sx1 := sx.trans s1
      clear ho sx s1
      go_wp2_with fail
      refine (rright_any x.op x.a x.b x.c x.n HOK.out _).mono ?_
      rintro e w2 ⟨rfl, s2⟩
      cases hxr : rightB x.op x.a x.b x.c x.n
      · have hxr' : (insAt l k).right = false := by rw [← HX.out]; exact hxr
        have HXR := Lib.hid hxr'
        clear hxr hxr'
        go_wp2_with fail
        go_ret3
        refine ⟨sx1.trans (Same.trans ((Same.refl _).alloc _) s2), ?_⟩
        rw [bad_some HRI.out h88 HXR.out]
        rfl
      · have hxr' : (insAt l k).right = true := by rw [← HX.out]; exact hxr
        have HXR := Lib.hid hxr'
        clear hxr hxr'
        have d0 := s2.new (i := 0) rfl
        have d1 := s2.new (i := 1) rfl
        have d2 := s2.new (i := 2) rfl
        have d3 := s2.new (i := 3) rfl
        have d4 := s2.new (i := 4) rfl
        have sa := Same.trans ((Same.refl w1).alloc (.cells #[.int .i64 x.op, .int .i64 x.a, .int .i64 x.b, .int .i64 x.c, .int .u32 x.n] 24)) s2
        have ho2 := ho1.same sa
        have sx2 := sx1.trans sa
        clear ho1 sx1 sa s2
        generalize w1.heap.size = g at *
        have hsz : k + 1 ≤ 4294967296 := by omega
        go_wp2_with (at_builtin; refine wpList_appK rfl (.tmp 17) (.tmp 19) 38 rfl w.heap.size 24 i0 _ 5 40 Tryd.underlying38 hi hz0 hz1 hz2 rfl (by omega) P k d (codeCells (decP l k)) rfl (ho2.same ((Same.refl _).alloc _)) _ 1 1 x.cells rfl rfl (row_new _ _ _) (cells_one x) hsz (by omega) ?c1 ?_)
        case c1 => have := sx2.size; simp; omega
        intro P' d' w3 ho3 hc3
        have sx3 : Same w w3 := Same.more (sx2.alloc _) hc3 fun g hg => by
          have hg : P = some ⟨g, 0, none⟩ := hg
          subst hg
          exact ho2.lt.1
        rw [show codeCells (decP l k) ++ x.cells = codeCells (decP l (k + 1)) by rw [decP_succ, codeCells_app, codeCells_one, HX.out]] at ho3
        clear hc3 ho2 sx2 d0 d1 d2 d3 d4
        have hq8' : q - 8 = l.length - 8 * (k + 1) := by have := HQ.out; omega
        have HQ8 := Lib.hid hq8'
        clear hq8'
        have hr8 : Rights l (k + 1) := fun j hj => by
          rcases (by omega : j < k ∨ j = k) with h | rfl
          · exact HRI.out j h
          · exact HXR.out
        have HR8 := Lib.hid hr8
        clear hr8
        go_wp2_with fail
        · have hq8 : q = 8 := by omega
          have h0 : l.drop (8 * (k + 1)) = [] := List.drop_of_length_le (by have := HQ.out; omega)
          go_roundg gk
          case measure => omega
          case rel => exact ⟨k + 1, by omega, A', 0, P', d', by rw [HQ8.out], rfl, by omega, by have := HQ8.out; omega, by omega, by rw [h0]; exact Row.nil _ _, ho3, sx3, HR8.out⟩
        · obtain ⟨b, o, rfl⟩ := hrow.addr (by rw [by8_len, HL.out]; omega)
          go_roundg gk
          case measure => omega
          case rel =>
            refine ⟨k + 1, by omega, some ⟨b, o + 8, none⟩, c' - 8, P', d', by rw [HQ8.out]; rfl, rfl, by omega, by have := HQ8.out; omega, by omega, ?_, ho3, sx3, HR8.out⟩
            have := hrow.sub 8
            rw [← by8_drop, List.drop_drop] at this
            exact this

theorem told_one {l : List Int} {k : Nat} {x : Int} {r : List Int} (h : l.drop k = x :: r) : num (told l k 1 false) = x ∧ after l k 1 false = (k + 1, false) ∧ l.drop (k + 1) = r := by
  have hlen : k + 1 ≤ l.length := by
    have := congrArg List.length h
    simp at this
    omega
  refine ⟨?_, by unfold after; rw [if_pos ⟨rfl, hlen⟩], by rw [← List.drop_drop, h]; rfl⟩
  unfold told
  rw [if_pos ⟨rfl, hlen⟩, h]
  simp [num]
theorem told_four {l : List Int} {k : Nat} {a b c d : Int} {r : List Int} (h : l.drop k = a :: b :: c :: d :: r) : num (told l k 4 false) = a + 256 * b + 65536 * c + 16777216 * d ∧ after l k 4 false = (k + 4, false) := by
  have hlen : k + 4 ≤ l.length := by
    have := congrArg List.length h
    simp at this
    omega
  refine ⟨?_, by unfold after; rw [if_pos ⟨rfl, hlen⟩]⟩
  unfold told
  rw [if_pos ⟨rfl, hlen⟩, h]
  simp [num]
  omega

def DecRel2 (w w2 : World) (g : Nat) (l : List Int) (k : Nat) (p : Value) (wx : World) : Prop :=
  ∃ P d, p = .slice P k d ∧ 8 * k ≤ l.length ∧ Rd wx (fun i => w.heap.size ≤ i ∧ i < w2.heap.size) g l (8 * k) false ∧
    OwnK wx w2.heap.size 24 5 P k d (codeCells (decP l k)) ∧ Same w wx ∧ w2.heap.size ≤ wx.heap.size ∧ Rights l k

theorem apart_own {w2 : World} {lo : Nat} {wx wy : World} {e : TypeId} {s : Nat} {P : Option Addr} {n d : Nat} {cs : List Value} (h : OwnK wx w2.heap.size e s P n d cs) (hc : Chg (fun i => lo ≤ i ∧ i < w2.heap.size) wx wy) : OwnK wy w2.heap.size e s P n d cs :=
  h.chg hc fun g hg hR => by
    subst hg
    have := h.lt.1
    omega

set_option maxRecDepth 100000 in
set_option maxHeartbeats 2000000 in
theorem decode_any (A : Option Addr) (m c : Nat) (l : List Int) (w : World) (hl : l.length = m) (hm : m ≤ 65536) (hb : By l) (hr : Row w A (by8 l)) (ht : Tabs w) :
    Calls Tryd.prog 23 #[.slice A m c] w (DecPost w l) := by
  obtain ⟨i0, hi, hz0, hz1, hz2⟩ := info_parts ins_info
  subst hl
  have HB := Lib.hid hb
  have HT := Lib.hid ht
  clear hb ht
  go_enter Tryd.func23, Tryd.ntmps23
  go_wp2_with fail
  refine (new_any A l.length c l w rfl hm hr).mono ?_
  rintro e w2 ⟨g, rfl, s2, hrd⟩
  have hrd2 := hrd.within
  clear hrd hr
  have S2 := Lib.hid s2
  clear s2
  go_wp2_with fail
  go_loopg [5] (l.length / 8) (fun gk p wx => ∃ k, k + gk = l.length / 8 ∧ DecRel2 w w2 g l k p wx)
  case atStart => exact ⟨0, by omega, none, 0, rfl, by omega, hrd2, OwnK.none _ _ _ _, S2.out, Nat.le_refl _, fun j hj => absurd hj (by omega)⟩
  case round =>
    obtain ⟨k, hkg, P, d, rfl, hk, hrdx, ho, sx, hsz, hri⟩ := hrel
    clear hrd2
    have HRI := Lib.hid hri
    clear hri
    obtain ⟨q, hq⟩ : ∃ q, q = l.length - 8 * k := ⟨_, rfl⟩
    go_wp2_with fail
    refine (left_is wr hrdx).mono ?_
    rintro e w3 ⟨rfl, s3⟩
    rw [if_neg (by decide), ← hq]
    have hrd3 := hrdx.same s3
    have ho3 := ho.same s3
    have sx3 := sx.trans s3
    have hsz3 := Nat.le_trans hsz s3.size
    clear hrdx ho sx s3 hsz
    cases gk with
    | zero =>
      have HK := Lib.hid (show k = l.length / 8 by omega)
      have hq8 : ¬ (8 : Int) ≤ (q : Int) := by omega
      have HQ := Lib.hid hq
      clear hq
      go_wp2_with fail
      refine (left_is w3 hrd3).mono ?_
      rintro e w4 ⟨rfl, s4⟩
      rw [if_neg (by decide), ← HQ.out]
      by_cases h0 : q = 0
      · have hq0 : ¬ (0 : Int) < (q : Int) := by omega
        have hmod : l.length % 8 = 0 := by have := HQ.out; omega
        have HM := Lib.hid hmod
        clear hmod
        go_wp2_with fail
        go_ret3
        refine ⟨sx3.trans s4, ?_⟩
        rw [bad_none (HK.out ▸ HRI.out), if_pos HM.out, ← HK.out]
        exact ⟨P, d, rfl, code_of_row (ho3.same s4).row (decP_ok HB.out k)⟩
      · have hq0 : (0 : Int) < (q : Int) := by omega
        have hmod : ¬ l.length % 8 = 0 := by have := HQ.out; omega
        have HM := Lib.hid hmod
        clear hmod
        go_wp2_with fail
        go_ret3
        refine ⟨sx3.trans s4, ?_⟩
        rw [bad_none (HK.out ▸ HRI.out), if_neg HM.out, ← HK.out]
        rfl
    | succ gk =>
      have hq8 : (8 : Int) ≤ (q : Int) := by omega
      have h88 : 8 * k + 8 ≤ l.length := by omega
      obtain ⟨b0, b1, b2, b3, b4, b5, b6, b7, r, h8⟩ := eight (l := l.drop (8 * k)) (by rw [List.length_drop]; omega)
      obtain ⟨n0, a0, h9⟩ := told_one h8
      obtain ⟨n1, a1, h10⟩ := told_one h9
      obtain ⟨n2, a2, h11⟩ := told_one h10
      obtain ⟨n3, a3, h12⟩ := told_one h11
      obtain ⟨n4, a4⟩ := told_four h12
      have hx : insAt l k = ⟨b0, b1, b2, b3, b4 + 256 * b5 + 65536 * b6 + 16777216 * b7⟩ := by unfold insAt; rw [h8]; exact ofB_eq _ _ _ _ _ _ _ _ _
      have hok := insAt_ok HB.out k
      rw [hx] at hok
      obtain ⟨nn, hnn⟩ : ∃ nn, nn = b4 + 256 * b5 + 65536 * b6 + 16777216 * b7 := ⟨_, rfl⟩
      rw [← hnn] at hx hok n4
      have HX := Lib.hid hx
      have HOK := Lib.hid (show 0 ≤ nn ∧ nn < 4294967296 from hok)
      have N0 := Lib.hid n0
      have N1 := Lib.hid n1
      have N2 := Lib.hid n2
      have N3 := Lib.hid n3
      have N4 := Lib.hid n4
      have A0 := Lib.hid a0
      have A1 := Lib.hid a1
      have A2 := Lib.hid a2
      have A3 := Lib.hid a3
      have A4 := Lib.hid a4
      clear hx hok hnn n0 n1 n2 n3 n4 a0 a1 a2 a3 a4 h8 h9 h10 h11 h12 hq
      go_wp2_with fail
      refine (u8_any w3 hrd3 HB.out).mono ?_
      rintro e w4 ⟨rfl, rd4, ch4⟩
      rw [A0.out] at rd4
      rw [N0.out]
      go_wp2_with fail
      refine (u8_any w4 rd4 HB.out).mono ?_
      rintro e w5 ⟨rfl, rd5, ch5⟩
      rw [A1.out] at rd5
      rw [N1.out]
      go_wp2_with fail
      refine (u8_any w5 rd5 HB.out).mono ?_
      rintro e w6 ⟨rfl, rd6, ch6⟩
      rw [A2.out] at rd6
      rw [N2.out]
      go_wp2_with fail
      refine (u8_any w6 rd6 HB.out).mono ?_
      rintro e w7 ⟨rfl, rd7, ch7⟩
      rw [A3.out] at rd7
      rw [N3.out]
      go_wp2_with fail
      refine (u32_any w7 rd7 HB.out).mono ?_
      rintro e w8 ⟨rfl, rd8, ch8⟩
      rw [A4.out] at rd8
      rw [N4.out]
      have ch := (((ch4.trans ch5).trans ch6).trans ch7).trans ch8
      have ho8 := apart_own ho3 ch
      have sx8 : Same w w8 := Same.more sx3 ch fun i hi => hi.1
      have hsz8 := Nat.le_trans hsz3 ch.size
      clear ch4 ch5 ch6 ch7 ch8 ch rd4 rd5 rd6 rd7 hrd3 ho3 sx3 hsz3 N0 N1 N2 N3 N4 A0 A1 A2 A3 A4
      go_wp2_with fail
      refine (right_any b0 b1 b2 b3 nn HOK.out _ (HT.out.same (sx8.alloc _))).mono ?_
      rintro e w9 ⟨rfl, s9⟩
      cases hxr : rightB b0 b1 b2 b3 nn
      · have hxr' : (insAt l k).right = false := by rw [HX.out]; exact hxr
        have HXR := Lib.hid hxr'
        clear hxr hxr'
        go_wp2_with fail
        go_ret3
        refine ⟨sx8.trans (Same.trans ((Same.refl _).alloc _) s9), ?_⟩
        rw [bad_some HRI.out h88 HXR.out]
        rfl
      · have hxr' : (insAt l k).right = true := by rw [HX.out]; exact hxr
        have HXR := Lib.hid hxr'
        clear hxr hxr'
        have d0 := s9.new (i := 0) rfl
        have d1 := s9.new (i := 1) rfl
        have d2 := s9.new (i := 2) rfl
        have d3 := s9.new (i := 3) rfl
        have d4 := s9.new (i := 4) rfl
        have sa := Same.trans ((Same.refl w8).alloc (.cells #[.int .i64 b0, .int .i64 b1, .int .i64 b2, .int .i64 b3, .int .u32 nn] 24)) s9
        have ho9 := ho8.same sa
        have rd9 := rd8.same sa
        have sx9 := sx8.trans sa
        have hsz9 := Nat.le_trans hsz8 sa.size
        clear ho8 rd8 sx8 sa s9 hsz8
        generalize w8.heap.size = gg at *
        have hk1 : k + 1 ≤ 4294967296 := by omega
        go_wp2_with (at_builtin; refine wpList_appK rfl (.tmp 29) (.tmp 31) 38 rfl w2.heap.size 24 i0 _ 5 40 Tryd.underlying38 hi hz0 hz1 hz2 rfl (by omega) P k d (codeCells (decP l k)) rfl (ho9.same ((Same.refl _).alloc _)) _ 1 1 [.int .i64 b0, .int .i64 b1, .int .i64 b2, .int .i64 b3, .int .u32 nn] rfl rfl (row_new _ _ _) ?c2 hk1 (by omega) ?c1 ?_)
        case c1 => simp; omega
        case c2 => exact cells_one ⟨b0, b1, b2, b3, nn⟩
        intro P' d' w10 ho10 hc10
        have hP : ∀ i, (P = some ⟨i, 0, none⟩) → w2.heap.size ≤ i := fun i hi => by
          subst hi
          exact ho9.lt.1
        have sx10 : Same w w10 := Same.more (sx9.alloc _) hc10 fun i hi => by
          have := hP i hi
          have := S2.out.size
          omega
        have rd10 : Rd w10 (fun i => w.heap.size ≤ i ∧ i < w2.heap.size) g l (8 * k + 1 + 1 + 1 + 1 + 4) false := (rd9.same ((Same.refl _).alloc _)).chg hc10 fun i hi hS => by
          have := hP i hS
          omega
        have hsz10 := Nat.le_trans hsz9 (Nat.le_trans (Chg.size ((Same.refl w9).alloc (.cells #[.int .i64 b0, .int .i64 b1, .int .i64 b2, .int .i64 b3, .int .u32 nn] 24))) hc10.size)
        rw [show codeCells (decP l k) ++ [.int .i64 b0, .int .i64 b1, .int .i64 b2, .int .i64 b3, .int .u32 nn] = codeCells (decP l (k + 1)) by rw [decP_succ, codeCells_app, codeCells_one, HX.out]; rfl] at ho10
        clear hc10 ho9 rd9 sx9 hsz9 hP d0 d1 d2 d3 d4
        have hr8 : Rights l (k + 1) := fun j hj => by
          rcases (by omega : j < k ∨ j = k) with h | rfl
          · exact HRI.out j h
          · exact HXR.out
        have HR8 := Lib.hid hr8
        clear hr8
        go_wp2_with fail
        go_roundg gk
        case measure => omega
        case rel => exact ⟨k + 1, by omega, P', d', rfl, by omega, rd10, ho10, sx10, hsz10, HR8.out⟩

end Go.Proofs.YtgpipfmgjbecjacDoor.Is
