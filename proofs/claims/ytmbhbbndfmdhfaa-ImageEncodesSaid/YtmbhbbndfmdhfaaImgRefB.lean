/-
  Layer 33: a number's bytes, an instruction's bytes, by the document.
-/
import Derived.Test.YtmbhbbndfmdhfaaImgSum
set_option linter.unusedVariables false
set_option linter.unusedSimpArgs false
namespace Go.Proofs.Ytmbhbbndfmdhfaa.Im
open Go.ChangeShapes Go.WideShapes Go.ChangeAt Go.RowKit Ws Cd

theorem lo_zero (x : Int) : lo x 0 = [] := rfl
theorem lo_succ (x : Int) (n : Nat) : lo x (n + 1) = lo x n ++ [x / 2 ^ (8 * n) % 256] := low_succ x n
theorem step_down (x : Int) (k : Nat) : x / 2 ^ (8 * k) / 256 = x / 2 ^ (8 * (k + 1)) := by
  have h : (2 : Int) ^ (8 * (k + 1)) = 2 ^ (8 * k) * 256 := by rw [show 8 * (k + 1) = 8 * k + 8 from by omega, Int.pow_add]; rfl
  have p : (0 : Int) < 2 ^ (8 * k) := Int.pow_pos (by omega)
  rw [h, Int.ediv_ediv, if_neg (by omega)]
  omega
theorem step_bd (x : Int) (hx : 0 ≤ x ∧ x < 4294967296) (k : Nat) : 0 ≤ x / 2 ^ (8 * k) ∧ x / 2 ^ (8 * k) < 4294967296 := by
  have p : (0 : Int) < 2 ^ (8 * k) := Int.pow_pos (by omega)
  exact ⟨Int.ediv_nonneg hx.1 (by omega), Int.lt_of_le_of_lt (Int.ediv_le_self _ hx.1) hx.2⟩
/-- an append of bytes to bytes of one's own -/
theorem app_bytes {P : Program} {w : World} {ops : Array Oper} {rest : List Oper} {o : Oper} {a : Act} {Q : Exit → Act → World → Prop} (hgd : o.guard = .none) (s x : Operand) (t : TypeId)
    (ho : o.op = .call { callee := .builtin .append, args := #[s, x], argTypes := #[t, t] })
    (base : Nat) (i : TypeInfo) (z : Value) (ht : P.underlying t = some (.slice 5)) (hi : P.info? 5 = some i) (hz : i.zero = some z)
    (hsize : i.size = 1) (hby : i.bytes = 1) (hzs : z.cells.size = 1)
    (A : Option Addr) (n c : Nat) (xs : List Int) (hs : a.eval s = .slice A n c) (hn : xs.length = n) (hown : Own w base 5 A c (by8 xs))
    (ad : Addr) (m d : Nat) (ys : List Int) (hx : a.eval x = .slice (some ad) m d) (hm : ys.length = m) (hr : Row w (some ad) (by8 ys))
    (h63 : n + m ≤ 4294967296) (hbase : base ≤ w.heap.size)
    (h : ∀ A' c' w', Own w' base 5 A' c' (by8 (xs ++ ys)) → Chg (fun g => A = some ⟨g, 0, .none⟩) w w' → wpList P ops Q rest (a.put o.dst (.slice A' (n + m) c')) w') :
    wpList P ops Q (o :: rest) a w := by
  subst hn
  subst hm
  refine wpList_appK hgd s x t ho base 5 i z 1 1 ht hi hz hsize hby hzs (by omega) A xs.length c (by8 xs) hs (own_k hown) ad ys.length d (by8 ys) hx (by rw [by8_len]; omega) hr (by8_one _) h63 (by omega) hbase fun A' c' w' h2 h3 => h A' c' w' ?_ h3
  unfold Own
  rw [by8_len, List.length_append, by8_app]
  exact h2
set_option maxRecDepth 100000 in
theorem rbytes33 (x : Int) (n : Nat) (w : World) (hn : n ≤ 4) (hx : 0 ≤ x ∧ x < 4294967296) :
    Calls Try.prog 46 #[.int .i64 x, .int .i64 n] w fun e w' => ∃ A c, e = .returned (.slice A n c) ∧ Own w' w.heap.size 5 A c (by8 (lo x n)) ∧ Same w w' := by
  obtain ⟨i0, hi, hz0, hz1, hz2⟩ := info_parts u8_info
  go_enter Try.func46, Try.ntmps46
  go_wp2_with fail
  go_loopg [6, 5, 0] n (fun gk iv sv yv wx => ∃ (k : Nat) (A : Option Addr) (c : Nat), k + gk = n ∧ iv = .int .i64 k ∧ sv = .slice A k c ∧ yv = .int .i64 (x / 2 ^ (8 * k)) ∧ Own wx w.heap.size 5 A c (by8 (lo x k)) ∧ Same w wx)
  case atStart => exact ⟨0, none, 0, by omega, rfl, rfl, by simp, ⟨by simp [by8, lo], .inl ⟨by simp [by8, lo], by simp [by8, lo]⟩⟩, Same.refl _⟩
  case round =>
    obtain ⟨k, A, c, hk, rfl, rfl, rfl, ho, sx⟩ := hrel
    have bd := step_bd x hx k
    have HD := Lib.hid (step_down x k)
    have HL := Lib.hid (lo_succ x k)
    have HO := Lib.hid ho
    have HS := Lib.hid sx
    clear ho sx
    obtain ⟨z, hz⟩ : ∃ z, z = x / 2 ^ (8 * k) := ⟨_, rfl⟩
    rw [← hz] at bd HD HL
    rw [← hz]
    clear hz
    cases gk with
    | zero =>
      obtain rfl : k = n := by omega
      have hge : ¬ (k : Int) < (k : Int) := by omega
      go_wp2_with fail
      go_ret
      exact ⟨A, c, rfl, HO.out, HS.out⟩
    | succ GK =>
      have hlt : (k : Int) < n := by omega
      go_wp2_with (at_builtin; go_loud (refine app_bytes rfl (.tmp 12) (.tmp 16) 46 rfl w.heap.size i0 _ Try.underlying46 hi hz0 hz1 hz2 rfl A k c (lo x k) rfl (lo_len _ _) (HO.out.same ((Same.refl _).alloc _)) _ 1 1 [z % 256] rfl rfl (by_row_lit _ _) (by omega) ?c2 ?_))
      case c2 => have := HS.out.size; (first | omega | (simp; omega))
      intro A2 c2 w3 ho3 hc3
      rw [← HL.out] at ho3
      have HS3 := Lib.hid (Same.more (HS.out.alloc (.cells #[.int .u8 (z % 256)] 5)) hc3 fun g hg => (own_blk HO.out hg).1)
      have HO3 := Lib.hid ho3
      clear ho3 hc3 HO HS
      go_wp2_with fail
      go_roundg GK
      case measure => omega
      case rel => exact ⟨k + 1, A2, c2, by omega, by go_num, rfl, by rw [← HD.out], HO3.out, HS3.out⟩
theorem lo1 (x : Int) : lo x 1 = [x % 256] := by simp [lo]
theorem lo4 (n : Int) : lo n 4 = [n % 256, n / 256 % 256, n / 65536 % 256, n / 16777216 % 256] := by simp [lo, List.range_succ]
theorem encI_eq (i : Ins) : enc (itI i) = [i.op % 256, i.a % 256, i.b % 256, i.c % 256, i.n % 256, i.n / 256 % 256, i.n / 65536 % 256, i.n / 16777216 % 256] := by
  unfold itI enc
  simp [lo1, lo4]
set_option maxRecDepth 100000 in
theorem rins33 (op a b c n : Int) (hn : 0 ≤ n ∧ n < 4294967296) (w : World) : Calls Try.prog 47 #[.agg #[.int .i64 op, .int .i64 a, .int .i64 b, .int .i64 c, .int .u32 n]] w fun e w' => ∃ g d, e = .returned (.slice (some ⟨g, 0, none⟩) 8 d) ∧ Row w' (some ⟨g, 0, none⟩) (by8 (enc (itI ⟨op, a, b, c, n⟩))) ∧ Same w w' := by
  go_enter Try.func47, Try.ntmps47
  go_wp2_with fail
  go_ret
  refine ⟨w.heap.size + 1, 8, rfl, ?_, ((Same.refl _).alloc _).alloc _⟩
  rw [encI_eq]
  have e : n / 16777216 % 256 = n / 16777216 := by omega
  have := by_row_lit (w.alloc (.cells #[.int .i64 op, .int .i64 a, .int .i64 b, .int .i64 c, .int .u32 n] 88)) [op % 256, a % 256, b % 256, c % 256, n % 256, n / 256 % 256, n / 65536 % 256, n / 16777216 % 256]
  simp only [e, by8, List.map_cons, List.map_nil] at this ⊢
  simpa using this
end Go.Proofs.Ytmbhbbndfmdhfaa.Im
