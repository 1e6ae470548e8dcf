/-

  append(s, make([]T, n)...) onto a slice of one's own.
-/
import Derived.Test.YtaclphhbdfoaeaaWords
import Derived.Lib.AppendZerosOnto
set_option linter.unusedVariables false
set_option linter.unusedSimpArgs false
namespace Go.Proofs.Ytaclphhbdfoaeaa.Az
open Go.ChangeShapes Go.WideShapes Go.RowKit Ws Go.Lib

theorem zeroCells_one (z : Value) (k : Nat) : Builtin.zeroCells #[z] k = (List.replicate k z).toArray := by
  unfold Builtin.zeroCells
  apply Array.ext
  · simp
  · intro i h1 h2
    simp [Nat.mod_one]
theorem run_room_zeros {P : Program} (w : World) (t tn ty e : TypeId) (i : TypeInfo) (z : Value) (kq kn : IntKind) (ht : P.underlying t = some (.slice e)) (htn : P.underlying tn = some (.int kn)) (hi : P.info? e = some i) (hz : i.zero = some z)
    (g sLen sCap : Nat) (cur : Array Value) (hg : w.heap[g]? = some (.cells cur e (0, 0))) (k : Nat) (h0 : 0 < k) (hs : i.size = 1) (zv : Value) (hzc : z.cells = #[zv]) (h1 : zv.oneCell' = true)
    (h63 : ((sLen + k : Nat) : Int) ≤ 9223372036854775807) (h48 : k * i.bytes ≤ 281474976710656)
    (hroom : sLen + k ≤ sCap) (hfit : sLen + k ≤ cur.size) :
    (Builtin.append_ #[t, tn] ty #[.slice (some ⟨g, 0, none⟩) sLen sCap, .int kq k]).run P w =
      .ok (.slice (some ⟨g, 0, none⟩) (sLen + k) sCap) (w.setRow g (cur.toList.take sLen ++ List.replicate k zv ++ cur.toList.drop (sLen + k)).toArray) := by
  have hst := run_storeCells_at P g sLen e (List.replicate k zv) 0 cur w hg (by simpa using hfit) (by intro u hu; rw [List.mem_replicate] at hu; rw [hu.2]; exact h1)
  simp only [Nat.add_zero, List.length_replicate] at hst
  have hk : k ≠ 0 := by omega
  have hw : IntKind.i64.wrap (k : Int) = k := by rw [IntKind.wrap_i64]; omega
  have h48i : ¬ (281474976710656 < (k : Int) * (i.bytes : Int)) := by
    rw [← Int.natCast_mul]
    omega
  have hneg : ¬ ((k : Int) < 0) := by omega
  simp [Builtin.append_, run_underlying ht, run_underlying htn, sizeOf, typeInfo, zeroValue, hi, hz, hs, asInt, asIntOf, hw, hk, hneg, h48i, hroom, hzc, zeroCells_one, Addr.add_lit, hst]
theorem run_appz {P : Program} (w : World) (base : Nat) (t tn ty e : TypeId) (i : TypeInfo) (z : Value) (kn : IntKind) (bytes : Nat) (ht : P.underlying t = some (.slice e)) (htn : P.underlying tn = some (.int kn)) (hi : P.info? e = some i) (hz : i.zero = some z)
    (hsize : i.size = 1) (hby : i.bytes = bytes) (zv : Value) (hzc : z.cells = #[zv]) (h1 : zv.oneCell' = true)
    (A : Option Addr) (c : Nat) (xs : List Value) (hown : Own w base e A c xs) (k : Nat) (h0 : 0 < k) (h63 : xs.length + k ≤ 4294967296) (hby2 : bytes ≤ 16) (hbase : base ≤ w.heap.size) :
    ∃ A' c' w', (Builtin.append_ #[t, tn] ty #[.slice A xs.length c, .int .i64 k]).run P w = .ok (.slice A' (xs.length + k) c') w' ∧ Own w' base e A' c' (xs ++ List.replicate k zv) ∧ Chg (fun g => A = some ⟨g, 0, none⟩) w w' := by
  have hb : (xs.length + k) * i.bytes ≤ 281474976710656 := Nat.le_trans (Nat.mul_le_mul_left _ (by rw [hby]; exact hby2)) (by omega)
  have hb1 : k * i.bytes ≤ 281474976710656 := Nat.le_trans (Nat.mul_le_mul_right _ (by omega)) hb
  have hlen : (xs ++ List.replicate k zv).length = xs.length + k := by simp
  have grown : ∀ (old : Nat), Own (w.drew.alloc (.cells (xs.toArray ++ (List.replicate k zv).toArray ++ (List.replicate (grownCap w (xs.length + k) old e - (xs.length + k)) zv).toArray) e)) base e (some ⟨w.heap.size, 0, none⟩) (grownCap w (xs.length + k) old e) (xs ++ List.replicate k zv) := by
    intro old
    have hge := grownCap_ge w (xs.length + k) old e
    have hcm : grownCap w (xs.length + k) old e ≤ maxLen := grownCap_le_maxLen w (xs.length + k) old e (by unfold maxLen; omega)
    unfold Own
    rw [hlen]
    refine ⟨by rw [hlen, Nat.mul_one], .inr ⟨w.heap.size, _, _, rfl, hbase, heap_alloc_new w.drew _, hge, hcm, ?_, ?_⟩⟩
    · simp
      omega
    · simp only [Array.toList_append, List.append_assoc, Nat.mul_one]
      rw [← List.append_assoc, ← hlen]
      exact List.take_left
  have gchg : ∀ (o : Obj) (S : Nat → Prop), Chg S w (w.drew.alloc o) := fun o S => ⟨rfl, rfl, rfl, by simp, fun k hk _ => by first | exact heap_alloc_old w.drew _ k hk | exact heap_alloc_old w.drew _ hk⟩
  rcases hown.2 with ⟨hv, hl⟩ | ⟨g, cap, cur, hv, hbg, hg, hnc, hcm, hcs, htake⟩
  · injection hv with hA hl2 hc
    subst hA
    subst hc
    have hx : xs = [] := List.eq_nil_of_length_eq_zero hl2
    subst hx
    have hr := run_append_nil_zeros (P := P) w t tn ty e i z .i64 kn ht htn hi hz k h0 (by omega) (by omega) hb1
    have hg := grown 0
    simp only [List.length_nil, Nat.zero_add, List.nil_append, Array.empty_append] at hg ⊢
    refine ⟨_, _, _, ?_, hg, gchg _ _⟩
    rw [hzc, zeroCells_one, zeroCells_one] at hr
    exact hr
  · injection hv with hA hl2 hc
    subst hA
    subst hc
    by_cases hroom : xs.length + k ≤ c
    · have hr := run_room_zeros (P := P) w t tn ty e i z .i64 kn ht htn hi hz g xs.length c cur hg k h0 hsize zv hzc h1 (by omega) hb1 hroom (by omega)
      refine ⟨_, _, _, hr, ?_, ⟨rfl, rfl, rfl, by simp, fun k hk hn => setRow_other w g k _ (fun e => hn (by rw [e]))⟩⟩
      unfold Own
      rw [hlen]
      refine ⟨by rw [hlen, Nat.mul_one], .inr ⟨g, c, _, rfl, hbg, setRow_heap w g cur _ e _ hg, hroom, hcm, ?_, ?_⟩⟩
      · simp
        omega
      · rw [Nat.mul_one] at htake ⊢
        rw [htake, ← hlen]
        exact List.take_left
    · have holds : ∀ j u, xs[j]? = some u → w.drew.cell? ((⟨g, 0, none⟩ : Addr).add j) = some u := fun j u hu => World.ownsRow.cells (v := .slice (some ⟨g, 0, none⟩) xs.length c) hown (g := g) rfl j u hu
      have hold := run_firstCells_some (P := P) w.drew i.size xs.length ⟨g, 0, none⟩ xs.length c xs (by rw [hsize, Nat.mul_one]) holds
      have hr := run_append_grow_zeros (P := P) w t tn ty e i z .i64 kn ht htn hi hz (some ⟨g, 0, none⟩) xs.length c xs hold k h0 (by omega) (by omega) (by omega) hb1 (growslice_fits (by omega) (Nat.le_trans (Nat.mul_le_mul_left _ (by rw [hby]; exact hby2)) (by omega)))
      refine ⟨_, _, _, ?_, grown c, gchg _ _⟩
      rw [hzc, zeroCells_one, zeroCells_one] at hr
      exact hr
theorem wpList_appz {P : Program} {w : World} {ops : Array Oper} {rest : List Oper} {o : Oper} {a : Act} {Q : Exit → Act → World → Prop} (hgd : o.guard = none) (s x : Operand) (t tn : TypeId)
    (ho : o.op = .call { callee := .builtin .append, args := #[s, x], argTypes := #[t, tn] })
    (base : Nat) (e : TypeId) (i : TypeInfo) (z : Value) (kn : IntKind) (bytes : Nat) (ht : P.underlying t = some (.slice e)) (htn : P.underlying tn = some (.int kn)) (hi : P.info? e = some i) (hz : i.zero = some z)
    (hsize : i.size = 1) (hby : i.bytes = bytes) (zv : Value) (hzc : z.cells = #[zv]) (h1 : zv.oneCell' = true)
    (A : Option Addr) (n c : Nat) (xs : List Value) (hs : a.eval s = .slice A n c) (hn : xs.length = n) (hown : Own w base e A c xs)
    (k : Nat) (hx : a.eval x = .int .i64 k) (h0 : 0 < k)
    (h63 : n + k ≤ 4294967296) (hby2 : bytes ≤ 16) (hbase : base ≤ w.heap.size)
    (h : ∀ A' c' w', Own w' base e A' c' (xs ++ List.replicate k zv) → Chg (fun g => A = some ⟨g, 0, none⟩) w w' → wpList P ops Q rest (a.put o.dst (.slice A' (n + k) c')) w') :
    wpList P ops Q (o :: rest) a w := by
  subst hn
  refine wpList_plain hgd fun K hK => ?_
  obtain ⟨A', c', w', hr, h2, h3⟩ := run_appz (P := P) w base t tn o.type e i z kn bytes ht htn hi hz hsize hby zv hzc h1 A c xs hown k h0 h63 hby2 hbase
  unfold Oper.wp execOp
  simp only [ho, resolve, invoke, builtin, Sem.run_bind, Sem.run_pure, Result.andThen_ok, List.map_toArray, List.map_cons, List.map_nil, hs, hx, hr]
  exact hK _ _ (h A' c' w' h2 h3)
end Go.Proofs.Ytaclphhbdfoaeaa.Az
