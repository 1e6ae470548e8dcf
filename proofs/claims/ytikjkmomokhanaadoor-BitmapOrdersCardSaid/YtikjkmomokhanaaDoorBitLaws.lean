/-

  Layer 3: the chapter's example, and the walks of the laws BitmapPicks and BitmapOrders.
-/
import Derived.Test.YtikjkmomokhanaaDoorBitList
import Derived.Test.YtikjkmomokhanaaDoorBitOrders
import Derived.Test.YtikjkmomokhanaaDoorRelBase
set_option linter.unusedVariables false
set_option linter.unusedSimpArgs false
namespace Go.Proofs.YtikjkmomokhanaaDoor.Be
open Go.ChangeShapes Go.WideShapes Go.ChangeAt Go.RowKit Ws
open Go.Proofs.YtikjkmomokhanaaDoor.Bo
open Go.Proofs.YtikjkmomokhanaaDoor.Od
open Go.Proofs.YtikjkmomokhanaaDoor.Rl (ints_eq)
open Go.Proofs.YtikjkmomokhanaaDoor.Bp (count_any)

theorem pre_filter {L p0 : List Nat} {n : Nat} (hL : L.Pairwise (· < ·)) (hp : p0 <+: L) (ha : ∀ x ∈ p0, x < n) (h : p0 = L ∨ ∃ x, n ≤ x ∧ p0 ++ [x] <+: L) : p0 = L.filter (fun x => decide (x < n)) := by
  rcases h with rfl | ⟨x, hx, t, rfl⟩
  · exact (List.filter_eq_self.2 fun a h => by simpa using ha a h).symm
  · rw [List.append_assoc, List.pairwise_append] at hL
    have hl2 := hL.2.1
    simp only [List.singleton_append, List.pairwise_cons] at hl2
    rw [List.append_assoc, List.filter_append, List.filter_eq_self.2 fun a h => by simpa using ha a h]
    have : ([x] ++ t).filter (fun x => decide (x < n)) = [] := by
      rw [List.filter_eq_nil_iff]
      intro a h
      simp at h
      rcases h with rfl | h
      · simp; omega
      · have := hl2.1 a h
        simp
        omega
    rw [this, List.append_nil]
/-- those of a set that are there -/
def there (m n : Nat) : List Nat := (bitsL m).filter (fun x => decide (x < n))
theorem pick_any (A : Option Addr) (k c m : Nat) (P : List Int) (w : World) (hP : P.length = k) (hm : m < 18446744073709551616) (hT : TZ w) (hr : Row w A (P.map (Value.int .i64))) :
    Calls Tryd.prog 24 #[.slice A k c, .int .u64 (m : Int)] w fun e w' => e = .returned (.tuple #[.int .i64 (((pk P (there m k)).getD 0 : Nat) : Int), .bool (pk P (there m k)).isSome]) ∧ Same w w' := by
  refine (callsIn_wide.1 (pick_in 6 (by omega) A k c m P w hP hm hT hr)).mono ?_
  rintro e w' ⟨⟨p0, h1, h2, h3, he⟩, hb⟩
  have : p0 = there m k := pre_filter (bitsL_rising hm) h1 h2 h3
  subst this
  exact ⟨he, Same.of_below hb⟩
def oI (o : Option Nat) : Int := match o with
  | none => -1
  | some f => (f : Int)
theorem pk_if (P : List Int) (f x : Nat) : pkS P (some f) x = if aheadB P x f = true then some x else some f := by
  unfold pkS
  rw [← acmp_lt]
  by_cases h : acmp P x f < 0
  · simp [h]
  · simp [h]
theorem snoc_ind {p : List Nat → Prop} (h0 : p []) (h1 : ∀ l x, p l → p (l ++ [x])) (l : List Nat) : p l := by
  rw [← List.reverse_reverse l]
  induction l.reverse with
  | nil => exact h0
  | cons x l ih => rw [List.reverse_cons]; exact h1 _ _ ih
theorem pk_some (P : List Int) (l : List Nat) : l ≠ [] → pk P l ≠ none := by
  induction l using snoc_ind with
  | h0 => intro h; exact absurd rfl h
  | h1 l x ih =>
    intro _
    rw [pk_snoc]
    cases pk P l with
    | none => intro h; cases h
    | some g => rw [pk_if]; split <;> (intro h; cases h)
theorem pk_in (P : List Int) (l : List Nat) : ∀ f, pk P l = some f → f ∈ l ∧ ∀ i ∈ l, aheadB P i f = false := by
  induction l using snoc_ind with
  | h0 => intro f h; cases h
  | h1 l x ih =>
    intro f h
    rw [pk_snoc] at h
    cases hl : pk P l with
    | none =>
      rw [hl] at h
      cases h
      have : l = [] := by
        by_cases h0 : l = []
        · exact h0
        · exact absurd hl (pk_some P l h0)
      subst this
      exact ⟨by simp, fun i hi => by simp at hi; subst hi; exact ahead_irrefl P i⟩
    | some g =>
      obtain ⟨h1, h2⟩ := ih g hl
      rw [hl, pk_if] at h
      by_cases hx : aheadB P x g = true
      · rw [if_pos hx] at h
        cases h
        refine ⟨by simp, fun i hi => ?_⟩
        rcases List.mem_append.1 hi with hi | hi
        · have h3 := h2 i hi
          cases h4 : aheadB P i x
          · rfl
          · rw [ahead_trans h4 hx] at h3; cases h3
        · simp at hi
          subst hi
          exact ahead_irrefl P i
      · rw [if_neg hx] at h
        cases h
        refine ⟨by simp [h1], fun i hi => ?_⟩
        rcases List.mem_append.1 hi with hi | hi
        · exact h2 i hi
        · simp at hi
          subst hi
          simpa using hx
theorem rank_le {P : List Int} {f i : Nat} (h : aheadB P i f = false) : rankN P f ≤ rankN P i := by
  by_cases e : f = i
  · rw [e]
    exact Nat.le_refl _
  · have hf : aheadB P f i = true := by
      rcases ahead_total (P := P) e with h1 | h1
      · exact h1
      · rw [h1] at h; cases h
    unfold rankN
    rw [rankTo_eq, rankTo_eq, ← List.countP_eq_length_filter, ← List.countP_eq_length_filter]
    exact List.countP_mono_left fun k _ hk => ahead_trans hk hf
theorem there_snoc (l : List Nat) (x n : Nat) : (l ++ [x]).filter (fun x => decide (x < n)) = l.filter (fun x => decide (x < n)) ++ if x < n then [x] else [] := by
  rw [List.filter_append]
  congr 1
  by_cases h : x < n <;> simp [h]

/-! ### the document's pick -/
set_option maxRecDepth 100000 in
set_option maxHeartbeats 1000000 in
theorem rpick_any (A C : Option Addr) (n c m d : Nat) (P : List Int) (l : List Nat) (w : World) (hP : P.length = n) (hn : n ≤ 5000) (hr : Row w A (P.map (Value.int .i64))) (hl : l.length = m) (hm : m ≤ 5000) (hlr : Row w C ((nI l).map (Value.int .i64))) :
    Calls Tryd.prog 23 #[.slice A n c, .slice C m d] w fun e w' => e = .returned (.int .i64 (oI (pk P (l.filter fun x => decide (x < n))))) ∧ Same w w' := by
  have AH := Lib.hid (fun (a b : Nat) (ha : a < n) (hb : b < n) w' (s : Same w w') => rahead_any A n c P a b w' hP ha hb (hr.same s))
  have HL := Lib.hid hl
  have HLR := Lib.hid hlr
  clear hl hlr hr hP
  go_enter Tryd.func23, Tryd.ntmps23
  go_wp2_with fail
  go_loopg [10, 5] m (fun gk iv bv wx => ∃ k : Nat, k + gk = m ∧ iv = .int .i64 k ∧ bv = .int .i64 (oI (pk P ((l.take k).filter fun x => decide (x < n)))) ∧ (∀ f, pk P ((l.take k).filter fun x => decide (x < n)) = some f → f < n) ∧ Same w wx)
  case atStart => exact ⟨0, by omega, rfl, rfl, fun f h => (by simp [pk] at h), Same.refl _⟩
  case round =>
    obtain ⟨k, hk, rfl, rfl, hf, sx⟩ := hrel
    have HS := Lib.hid sx
    clear sx
    cases gk with
    | zero =>
      obtain rfl : m = k := by omega
      have hge : ¬ (m : Int) < (m : Int) := by omega
      have e : l.take m = l := List.take_of_length_le (by have := HL.out; omega)
      rw [e]
      clear e hf
      obtain ⟨r, hr⟩ : ∃ r, r = oI (pk P (l.filter fun x => decide (x < n))) := ⟨_, rfl⟩
      rw [← hr]
      have HR := Lib.hid hr
      clear hr
      go_wp2_with fail
      go_ret
      exact ⟨ret_int HR.out, HS.out⟩
    | succ GK =>
      have hlt : (k : Int) < m := by omega
      have hkl : k < l.length := by have := HL.out; omega
      obtain ⟨x, hx⟩ : ∃ x, l[k]? = some x := ⟨_, List.getElem?_eq_getElem hkl⟩
      obtain ⟨b, o, rfl, cx⟩ := HLR.out k _ (nI_get hx)
      have cx := HS.out.cell cx
      have htk : l.take (k + 1) = l.take k ++ [x] := by rw [List.take_add_one, hx]; rfl
      have hsn := there_snoc (l.take k) x n
      rw [← htk] at hsn
      have HSN := Lib.hid hsn
      have x0 : (0 : Int) ≤ x := by omega
      have k0 : (0 : Int) ≤ k := by omega
      clear htk hsn
      generalize ((l.take k).filter fun x => decide (x < n)) = l0 at *
      by_cases hxn : x < n
      · have hsn := HSN.out
        rw [if_pos hxn] at hsn
        have hxi : (x : Int) < n := by omega
        cases hpk : pk P l0 with
        | none =>
          have hp2 : pk P (l0 ++ [x]) = some x := by rw [pk_snoc, hpk]; rfl
          rw [← hsn] at hp2
          have HP2 := Lib.hid hp2
          have HX := Lib.hid hxn
          clear hsn hp2 hpk hxn hx hf HSN
          simp only [oI]
          go_wp2_with fail
          go_roundg GK
          case rel => exact ⟨k + 1, by omega, by go_num, by rw [HP2.out]; rfl, fun f h => by rw [HP2.out] at h; cases h; exact HX.out, HS.out⟩
          case measure => omega
        | some f =>
          have hfn := hf f hpk
          have f0 : ¬ (f : Int) < 0 := by omega
          have HA := Lib.hid (AH.out x f hxn hfn _ HS.out)
          have hp2 : pk P (l0 ++ [x]) = if aheadB P x f = true then some x else some f := by rw [pk_snoc, hpk]; exact pk_if P f x
          rw [← hsn] at hp2
          have HX := Lib.hid hxn
          have HF := Lib.hid hfn
          cases hab : aheadB P x f
          · rw [hab, if_neg (by simp)] at hp2
            rw [hab] at HA
            have HP2 := Lib.hid hp2
            clear hsn hp2 hpk hxn hfn hab hx hf HSN
            simp only [oI]
            go_wp2_with fail
            refine HA.out.mono ?_
            rintro e w5 ⟨rfl, s5⟩
            go_wp2_with fail
            go_roundg GK
            case rel => exact ⟨k + 1, by omega, by go_num, by rw [HP2.out]; rfl, fun f h => by rw [HP2.out] at h; cases h; exact HF.out, HS.out.trans s5⟩
            case measure => omega
          · rw [hab, if_pos rfl] at hp2
            rw [hab] at HA
            have HP2 := Lib.hid hp2
            clear hsn hp2 hpk hxn hfn hab hx hf HSN
            simp only [oI]
            go_wp2_with fail
            refine HA.out.mono ?_
            rintro e w5 ⟨rfl, s5⟩
            go_wp2_with fail
            go_roundg GK
            case rel => exact ⟨k + 1, by omega, by go_num, by rw [HP2.out]; rfl, fun f h => by rw [HP2.out] at h; cases h; exact HX.out, HS.out.trans s5⟩
            case measure => omega
      · have hsn := HSN.out
        rw [if_neg hxn, List.append_nil] at hsn
        have hxi : ¬ (x : Int) < n := by omega
        have HF := Lib.hid hf
        have HS2 := Lib.hid hsn
        clear hsn hxn hx hf HSN
        generalize hq : oI (pk P l0) = r at *
        have HQ := Lib.hid hq
        clear hq
        go_wp2_with fail
        go_roundg GK
        case rel => exact ⟨k + 1, by omega, by go_num, by rw [HS2.out, HQ.out], by rw [HS2.out]; exact HF.out, HS.out⟩
        case measure => omega

/-! ### the example -/
theorem bits5 : bitsL 5 = [0, 2] := by
  rw [bitsL_eq (by omega)]
  decide
theorem pick_lit {q : Nat} (w : World) (hT : TZ w) (hr : Row w (some ⟨q, 0, none⟩) (([1, 5, 5] : List Int).map (Value.int .i64))) :
    Calls Tryd.prog 24 #[.slice (some ⟨q, 0, none⟩) 3 3, .int .u64 5] w fun e w' => e = .returned (.tuple #[.int .i64 2, .bool true]) ∧ Same w w' := by
  have h := pick_any (some ⟨q, 0, none⟩) 3 3 5 [1, 5, 5] w rfl (by omega) hT hr
  have e : pk [1, 5, 5] (there 5 3) = some 2 := by
    unfold there
    rw [bits5]
    decide
  rw [e] at h
  exact h
theorem ord155 : nI (ordL [1, 5, 5]) = [1, 2, 0] := by
  have h : IsOrd [1, 5, 5] [1, 2, 0] := ord_of (by decide) (by decide)
  rw [← h.is]
  rfl
set_option maxRecDepth 100000 in
theorem awake_any (w : World) (hT : TZ w) : Calls Tryd.prog 18 #[] w fun e w' => e = .returned (.bool true) ∧ Same w w' := by
  have s0 := (Same.refl w).alloc (.cells #[.int .i64 1, .int .i64 5, .int .i64 5] 3)
  have PL := pick_lit (q := w.heap.size) _ (hT.same s0) (row_new w #[.int .i64 1, .int .i64 5, .int .i64 5] 3)
  have HPL := Lib.hid PL
  have HS0 := Lib.hid s0
  have HT := Lib.hid hT
  clear s0 PL hT
  go_enter Tryd.func18, Tryd.ntmps18
  go_wp2_with fail
  refine HPL.out.mono ?_
  rintro e w1 ⟨rfl, s1⟩
  have HS1 := Lib.hid (HS0.out.trans s1)
  have OD := Lib.hid (order_any (some ⟨w1.heap.size, 0, none⟩) 3 3 [1, 5, 5] (w1.alloc (.cells #[.int .i64 1, .int .i64 5, .int .i64 5] 3)) rfl (by omega) (row_new w1 #[.int .i64 1, .int .i64 5, .int .i64 5] 3))
  have HS2 := Lib.hid (HS1.out.alloc (.cells #[.int .i64 1, .int .i64 5, .int .i64 5] 3))
  clear s1 HPL HS0 HS1
  go_wp2_with fail
  refine OD.out.mono ?_
  rintro e w3 ⟨A3, c3, rfl, r3, s3, _⟩
  have HS3 := Lib.hid (HS2.out.trans s3)
  rw [ord155] at r3
  have hl3 : (nI (ordL [1, 5, 5])).length = 3 := by rw [ord155]; rfl
  rw [hl3]
  have hs4 := (Same.refl w3).alloc (.cells #[.int .i64 1, .int .i64 2, .int .i64 0] 3)
  have IE := ints_eq A3 (some ⟨w3.heap.size, 0, none⟩) 3 3 c3 3 [1, 2, 0] [1, 2, 0] (w3.alloc (.cells #[.int .i64 1, .int .i64 2, .int .i64 0] 3)) rfl rfl (r3.same hs4) (row_new _ _ _) (by omega) (by omega)
  rw [decide_eq_true rfl] at IE
  have HIE := Lib.hid IE
  have HS4 := Lib.hid (HS3.out.trans hs4)
  clear s3 r3 hl3 hs4 IE OD HS2 HS3
  go_wp2_with fail
  refine HIE.out.mono ?_
  rintro e w5 ⟨rfl, k5, rfl⟩
  have HS5 := Lib.hid (HS4.out.drewN k5)
  clear HIE HS4
  generalize (w3.alloc (.cells #[.int .i64 1, .int .i64 2, .int .i64 0] 3)).drewN k5 = w5 at *
  have HH := has_any 5 (by omega) 2 w5
  have e1 : decide (5 &&& Op.bitI 2 ≠ 0) = true := by decide
  rw [e1] at HH
  have HC := fun w' => count_any 5 (by omega) w'
  have e2 : ((List.range' 0 64).filter (fun i => (5 : Nat).testBit i)).length = 2 := by decide
  rw [e2] at HC
  have HH' := Lib.hid HH
  have HC' := Lib.hid HC
  clear HH HC e1 e2
  go_wp2_with fail
  refine HH'.out.mono ?_
  rintro e w' ⟨rfl, rfl⟩
  go_wp2_with fail
  refine (HC'.out _).mono ?_
  rintro e w' ⟨rfl, rfl⟩
  go_wp2
  go_ret
  exact ⟨rfl, HS5.out⟩

end Go.Proofs.YtikjkmomokhanaaDoor.Be
