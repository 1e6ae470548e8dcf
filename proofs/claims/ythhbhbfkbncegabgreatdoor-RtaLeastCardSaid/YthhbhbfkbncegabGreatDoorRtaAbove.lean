/-

 Who goes ahead of a system's task (task.Above).
-/
import Derived.Test.YthhbhbfkbncegabGreatDoorAhead
import Derived.Test.YthhbhbfkbncegabGreatDoorRtaPure
set_option linter.unusedVariables false
set_option linter.unusedSimpArgs false
namespace Go.Proofs.YthhbhbfkbncegabGreatDoor.Rt
open Go.ChangeShapes Go.WideShapes Go.ChangeAt Go.RowKit Ws
open Im (PT PO PS TsAt OsAt SysAt)
open Go.Proofs.YthhbhbfkbncegabGreatDoor.Wd (ret_bool ret_int addv mulv ceilv)
theorem int_info : (Tryz.prog.info? 3).map (fun i => (i.zero, i.size, i.bytes)) = some (some (.int .i64 0), 1, 8) := by kernel_rfl
theorem own_nil (w : World) (B : Nat) (e : TypeId) : Ws.Own w B e none 0 [] := ⟨by simp, .inl ⟨rfl, rfl⟩⟩
/-- a row of numbers that was told -/
def Nums (w : World) (l : List Int) (e : Ending) (w' : World) : Prop := ∃ A c, e = .returned (.slice A l.length c) ∧ Row w' A (l.map (Value.int .i64)) ∧ Same w w' ∧ ∀ b o, A = some ⟨b, o, none⟩ → w.heap.size ≤ b ∧ b < w'.heap.size
theorem nums_mk {w w' : World} {l : List Int} {A : Option Addr} {n c : Nat} (hn : n = l.length) (hr : Row w' A (l.map (Value.int .i64))) (hs : Same w w') (hf : ∀ b o, A = some ⟨b, o, none⟩ → w.heap.size ≤ b ∧ b < w'.heap.size) : Nums w l (.returned (.slice A n c)) w' := by
 subst hn
 exact ⟨A, c, rfl, hr, hs, hf⟩
theorem own_in {w : World} {B : Nat} {e : TypeId} {A : Option Addr} {c : Nat} {l : List Value} (h : Ws.Own w B e A c l) (b o : Nat) (hA : A = some ⟨b, o, none⟩) : B ≤ b ∧ b < w.heap.size := by
 subst hA
 rcases h.2 with ⟨h2, _⟩ | ⟨g2, cap, cur, hv, hb2, hg, _⟩
 ·cases h2
 ·injection hv with hv
  injection hv with hv
  injection hv with hv
  subst hv
  exact ⟨hb2, Blk.lt (show Blk w _ e cur from hg)⟩
/-- who goes ahead of whoever is asked for, of the first k -/
def aboveI (ts : List PT) (y : Int) : Nat → List Int
 | 0 => []
 | k + 1 => aboveI ts y k ++ (if Ah.aheadI ts k y = true then [(k : Int)] else [])
theorem aboveI_len (ts : List PT) (y : Int) : ∀ k, (aboveI ts y k).length ≤ k
 | 0 => Nat.le_refl _
 | k + 1 => by
  have := aboveI_len ts y k
  unfold aboveI
  rw [List.length_append]
  split <;> simp <;> omega
set_option maxRecDepth 100000 in
theorem above_gen (A : Option Addr) (m c : Nat) (ts : List PT) (b : Int) (w : World) (hl : ts.length = m) (hm : m ≤ 1000) (ht : TsAt w A ts) :
 Calls Tryz.prog 40 #[.slice A m c, .int .i64 b] w (Nums w (aboveI ts b m)) := by
 obtain ⟨i0, hi, hz0, hz1, hz2⟩ := info_parts int_info
 have AH := Lib.hid (fun (a : Nat) (ha : a < m) w' (s : Same w w') => Ah.ahead_gen A m c ts a b w' hl (ht.same s))
 clear ht hl
 go_enter Tryz.func40, Tryz.ntmps40
 go_wp2_with fail
 go_loopg [9, 5] m (fun gk iv lv wx => ∃ (k : Nat) (A' : Option Addr) (n' c' : Nat), k + gk = m ∧ iv = .int .i64 k ∧ lv = .slice A' n' c' ∧ n' = (aboveI ts b k).length ∧ Ws.Own wx w.heap.size 3 A' c' ((aboveI ts b k).map (Value.int .i64)) ∧ Same w wx)
 case atStart => exact ⟨0, none, 0, 0, by omega, rfl, rfl, rfl, own_nil _ _ _, Same.refl _⟩
 case round =>
  obtain ⟨k, A', n', c', hk, rfl, rfl, hn, ho, sx⟩ := hrel
  have HO := Lib.hid ho
  have HS := Lib.hid sx
  have HN := Lib.hid hn
  clear ho sx hn
  cases gk with
  | zero =>
   obtain rfl : k = m := by omega
   have hge : ¬ (k : Int) < (k : Int) := by omega
   go_wp2_with fail
   go_ret
   exact nums_mk HN.out HO.out.row HS.out (own_in HO.out)
  | succ GK =>
   have hlt : (k : Int) < m := by omega
   have hE : aboveI ts b (k + 1) = aboveI ts b k ++ (if Ah.aheadI ts k b = true then [(k : Int)] else []) := rfl
   have HE := Lib.hid hE
   clear hE
   have AK := Lib.hid (AH.out k (by omega) _ HS.out)
   go_wp2_with fail
   refine AK.out.mono ?_
   rintro e w1 ⟨rfl, s1⟩
   have HS1 := Lib.hid (HS.out.trans s1)
   have HO1 := Lib.hid (HO.out.same s1)
   clear s1 AK
   cases hab : Ah.aheadI ts k b
   ·have hE := HE.out
    rw [hab, if_neg Bool.false_ne_true, List.append_nil] at hE
    have HE' := Lib.hid hE
    clear hE hab
    go_wp2_with fail
    go_roundg GK
    case rel => exact ⟨k + 1, A', n', c', by omega, by go_num, rfl, by rw [HE'.out]; exact HN.out, by rw [HE'.out]; exact HO1.out, HS1.out⟩
    case measure => omega
   ·have hE := HE.out
    rw [hab, if_pos rfl] at hE
    have HE' := Lib.hid hE
    clear hE hab
    go_wp2_with (at_builtin; go_loud (refine wpList_app rfl (.tmp 16) (.tmp 18) 26 rfl w.heap.size 3 i0 _ 8 Tryz.underlying26 hi hz0 hz1 hz2 rfl A' n' c' ((aboveI ts b k).map (Value.int .i64)) rfl ?c1 (HO1.out.same ((Same.refl _).alloc _)) _ 1 1 [.int .i64 (k : Int)] rfl rfl (row_new _ _ _) ?c2 ?c3 (by omega) ?c4 ?_))
    case c1 => rw [List.length_map]; exact HN.out.symm
    case c2 => intro u hu; simp at hu; subst hu; rfl
    case c3 => have := aboveI_len ts b k; rw [List.length_map]; simp; omega
    case c4 => have := HS1.out.size; simp at this ⊢; omega
    intro A2 c2' w2 ho2 hc2 _
    have HS2 := Lib.hid (Same.more (HS1.out.alloc _) hc2 fun g hg => by
     have hg : A' = some ⟨g, 0, none⟩ := hg
     subst hg
     rcases HO.out.2 with ⟨h2, _⟩ | ⟨g2, cap, cur, hv, hb2, _⟩
     ·cases h2
     ·injection hv with hv
      injection hv with hv
      injection hv with hv
      omega)
    rw [show (aboveI ts b k).map (Value.int .i64) ++ [.int .i64 (k : Int)] = (aboveI ts b (k + 1)).map (Value.int .i64) by rw [HE'.out, List.map_append]; rfl] at ho2
    have HO2 := Lib.hid ho2
    clear ho2 hc2
    go_wp2_with fail
    go_roundg GK
    case rel => exact ⟨k + 1, A2, n' + 1, c2', by omega, by go_num, rfl, by rw [HE'.out, List.length_append, HN.out]; rfl, HO2.out, HS2.out⟩
    case measure => omega

/-- the sum over those that are listed is the sum over all -/
noncomputable def loadL (s : PS) (costs : List Int) (r : Int) (l : List Int) (x : Int) : Int := l.foldl (fun x a => addv x (mulv (costs.getD a.toNat 0) (ceilv r (Ah.pt s.ts a.toNat).per))) x
theorem load_above (s : PS) (i : Int) (costs : List Int) (r : Int) : ∀ k, loadL s costs r (aboveI s.ts i k) (Sl.jobI s i r) = loadT s i costs r k
 | 0 => rfl
 | k + 1 => by
  have ih := load_above s i costs r k
  unfold loadL at ih ⊢
  unfold aboveI
  rw [List.foldl_append, ih]
  cases h : Ah.aheadI s.ts k i with
  | false => rw [load_no h]; rfl
  | true => rw [load_yes h]; rfl
theorem above_in {ts : List PT} {y : Int} : ∀ (k : Nat), k ≤ ts.length → ∀ a ∈ aboveI ts y k, 0 ≤ a ∧ a < ts.length
 | 0, _, a, h => by cases h
 | k + 1, hk, a, h => by
  unfold aboveI at h
  rcases List.mem_append.1 h with h | h
  ·exact above_in k (by omega) a h
  ·split at h
   ·rw [List.mem_singleton] at h
    omega
   ·cases h
theorem loadL_take {s : PS} {costs : List Int} {r : Int} {l : List Int} {x : Int} {k : Nat} {a : Int} (h : l[k]? = some a) : loadL s costs r (l.take (k + 1)) x = addv (loadL s costs r (l.take k) x) (mulv (costs.getD a.toNat 0) (ceilv r (Ah.pt s.ts a.toNat).per)) := by
 unfold loadL
 rw [List.take_add_one, h, List.foldl_append]
 rfl
end Go.Proofs.YthhbhbfkbncegabGreatDoor.Rt
