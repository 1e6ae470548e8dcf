/-

  Layer 31: how many words all tasks and objects have, the regions one behind the other, and where all stands (layout.Of).
-/
import Derived.Test.YtaclphhbdfoaeaaDoorTaskOpen
import Derived.Test.YtaclphhbdfoaeaaDoorFaceSize
set_option linter.unusedVariables false
set_option linter.unusedSimpArgs false
namespace Go.Proofs.YtaclphhbdfoaeaaDoor.Ly
open Go.ChangeShapes Go.WideShapes Go.ChangeAt Go.RowKit Ws

theorem int_info : (Tryd.prog.info? 3).map (fun i => (i.zero, i.size, i.bytes)) = some (some (.int .i64 0), 1, 8) := by kernel_rfl
theorem own_nil (w : World) (B : Nat) (e : TypeId) : Own w B e none 0 [] := ⟨by simp, .inl ⟨rfl, rfl⟩⟩
/-- an object, as its cells tell it -/
structure Objt where
  k : Int
  wd : Int
  sl : Int
  cp : Int
  sa : Int
  ia : Option Addr
  il : Nat
  ic : Nat
  ow : Int
  ra : Option Addr
  rl : Nat
  rc : Nat
def ocells (o : Objt) : List Value := [.int .i64 o.k, .int .i64 o.wd, .int .i64 o.sl, .int .i64 o.cp, .int .u32 o.sa, .slice o.ia o.il o.ic, .int .i64 o.ow, .slice o.ra o.rl o.rc]
instance : Inhabited Objt := ⟨⟨0, 0, 0, 0, 0, none, 0, 0, 0, none, 0, 0⟩⟩
def oat (os : List Objt) (k : Nat) : Objt := os[k]?.getD default
theorem oat_get {os : List Objt} {k : Nat} (h : k < os.length) : os[k]? = some (oat os k) := by
  unfold oat
  rw [List.getElem?_eq_getElem h]
  rfl
def Objs (w : World) (A : Option Addr) (os : List Objt) : Prop :=
  ∀ i o, os[i]? = some o → (0 ≤ o.sa ∧ o.sa < 4294967296) ∧ ∃ b q, A = some ⟨b, q, none⟩ ∧ ∀ j v, (ocells o)[j]? = some v → w.cell? ⟨b, q + i * 8 + j, none⟩ = some v
theorem Objs.same {w w' : World} {A : Option Addr} {os : List Objt} (h : Objs w A os) (hs : Same w w') : Objs w' A os := by
  intro i r hr
  obtain ⟨h1, b, o, h2, h3⟩ := h i r hr
  exact ⟨h1, b, o, h2, fun j v hv => hs.cell (h3 j v hv)⟩
theorem Objs.at_ {w : World} {A : Option Addr} {os : List Objt} (h : Objs w A os) {k : Nat} (hk : k < os.length) :
    (0 ≤ (oat os k).sa ∧ (oat os k).sa < 4294967296) ∧ ∃ b o, A = some ⟨b, o, none⟩ ∧ w.cell? ⟨b, o + k * 8, none⟩ = some (.int .i64 (oat os k).k) ∧ w.cell? ⟨b, o + k * 8 + 1, none⟩ = some (.int .i64 (oat os k).wd) ∧ w.cell? ⟨b, o + k * 8 + 2, none⟩ = some (.int .i64 (oat os k).sl) ∧ w.cell? ⟨b, o + k * 8 + 3, none⟩ = some (.int .i64 (oat os k).cp) ∧ w.cell? ⟨b, o + k * 8 + 4, none⟩ = some (.int .u32 (oat os k).sa) ∧ w.cell? ⟨b, o + k * 8 + 5, none⟩ = some (.slice (oat os k).ia (oat os k).il (oat os k).ic) ∧ w.cell? ⟨b, o + k * 8 + 6, none⟩ = some (.int .i64 (oat os k).ow) ∧ w.cell? ⟨b, o + k * 8 + 7, none⟩ = some (.slice (oat os k).ra (oat os k).rl (oat os k).rc) := by
  obtain ⟨h1, b, o, h2, h3⟩ := h k _ (oat_get hk)
  exact ⟨h1, b, o, h2, h3 0 _ rfl, h3 1 _ rfl, h3 2 _ rfl, h3 3 _ rfl, h3 4 _ rfl, h3 5 _ rfl, h3 6 _ rfl, h3 7 _ rfl⟩
def ownOk (t : Tk.Task) : Bool := decide (1 ≤ t.own ∧ t.own ≤ 64)
def shp (o : Objt) : Bool := Fc.rightF o.k o.wd o.sl o.cp o.sa o.il o.rl
def siz (o : Objt) : Int := Fc.sizeF o.k o.wd o.sl o.cp o.sa o.il o.rl
def tL (ts : List Tk.Task) : List Int := ts.map (·.own)
def oL (os : List Objt) : List Int := os.map siz
/-- how many words all have; none: one of them may not be -/
def lensF (ts : List Tk.Task) (os : List Objt) : Option (List Int) := if ts.all ownOk && os.all shp then some (tL ts ++ oL os) else none
def LensP (w : World) (r : Option (List Int)) (e : Ending) (w' : World) : Prop := match r with
  | none => e = .returned (.tuple #[.slice none 0 0, .bool false]) ∧ Same w w'
  | some l => ∃ A c, e = .returned (.tuple #[.slice A l.length c, .bool true]) ∧ Row w' A (l.map (Value.int .i64)) ∧ Same w w'
theorem lens_no {w w' : World} {ts : List Tk.Task} {os : List Objt} {r : Option (List Int)} (hr : r = lensF ts os) (h : (ts.all ownOk && os.all shp) = false) (hs : Same w w') : LensP w r (.returned (.tuple #[.slice none 0 0, .bool false])) w' := by
  subst hr
  unfold LensP lensF
  rw [if_neg (by simp [h])]
  exact ⟨rfl, hs⟩
theorem lens_yes {w w' : World} {ts : List Tk.Task} {os : List Objt} {r : Option (List Int)} (hr : r = lensF ts os) (h : (ts.all ownOk && os.all shp) = true) {A : Option Addr} {n c : Nat} (hn : n = (tL ts ++ oL os).length) (hrow : Row w' A ((tL ts ++ oL os).map (Value.int .i64))) (hs : Same w w') : LensP w r (.returned (.tuple #[.slice A n c, .bool true])) w' := by
  subst hr
  subst hn
  unfold LensP lensF
  rw [if_pos h]
  exact ⟨A, c, rfl, hrow, hs⟩
theorem all_no {α : Type} {l : List α} {f : α → Bool} {k : Nat} {x : α} (hk : l[k]? = some x) (h : f x = false) : l.all f = false := by
  rw [List.all_eq_false]
  exact ⟨x, List.mem_of_getElem? hk, by simp [h]⟩
theorem own_fence {w : World} {B : Nat} {e : TypeId} {A : Option Addr} {c : Nat} {l : List Value} (h : Own w B e A c l) : ∀ g, A = some ⟨g, 0, none⟩ → B ≤ g := by
  intro g hg
  subst hg
  rcases h.2 with ⟨h2, _⟩ | ⟨g2, cap, cur, hv, hb2, _⟩
  · cases h2
  · injection hv with hv
    injection hv with hv
    injection hv with hv
    omega
theorem map_take_next {α : Type} (f : α → Int) {l : List α} {k : Nat} {x : α} (h : l[k]? = some x) : (l.take (k + 1)).map f = (l.take k).map f ++ [f x] := by
  rw [List.take_add_one, h, List.map_append]
  rfl

def tK (ts : List Tk.Task) (k : Nat) : List Value := (tL (ts.take k)).map (Value.int .i64)
def oK (ts : List Tk.Task) (os : List Objt) (j : Nat) : List Value := (tL ts ++ oL (os.take j)).map (Value.int .i64)
theorem tK_next {ts : List Tk.Task} {k : Nat} {x : Tk.Task} (h : ts[k]? = some x) : tK ts (k + 1) = tK ts k ++ [.int .i64 x.own] := by
  unfold tK tL
  rw [map_take_next (fun t : Tk.Task => t.own) h, List.map_append]
  rfl
theorem oK_next (ts : List Tk.Task) {os : List Objt} {j : Nat} {x : Objt} (h : os[j]? = some x) : oK ts os (j + 1) = oK ts os j ++ [.int .i64 (siz x)] := by
  unfold oK oL
  rw [map_take_next siz h, ← List.append_assoc, List.map_append]
  rfl
theorem tK_len {ts : List Tk.Task} {k : Nat} (h : k ≤ ts.length) : (tK ts k).length = k := by simp [tK, tL]; omega
theorem oK_len (ts : List Tk.Task) {os : List Objt} {j : Nat} (h : j ≤ os.length) : (oK ts os j).length = ts.length + j := by simp [oK, tL, oL]; omega
theorem tK_all (ts : List Tk.Task) : tK ts ts.length = (tL ts).map (Value.int .i64) := by unfold tK; rw [List.take_length]
theorem oK_zero (ts : List Tk.Task) (os : List Objt) : oK ts os 0 = (tL ts).map (Value.int .i64) := by simp [oK, oL]
theorem oK_all (ts : List Tk.Task) (os : List Objt) : oK ts os os.length = (tL ts ++ oL os).map (Value.int .i64) := by unfold oK; rw [List.take_length]
theorem objc {w : World} {g : Nat} {T : TypeId} {v0 v1 v2 v3 v4 v5 v6 v7 : Value} (h : Blk w g T #[v0, v1, v2, v3, v4, v5, v6, v7]) :
    w.cell? ⟨g, 0, none⟩ = some v0 ∧ w.cell? ⟨g, 1, none⟩ = some v1 ∧ w.cell? ⟨g, 2, none⟩ = some v2 ∧ w.cell? ⟨g, 3, none⟩ = some v3 ∧ w.cell? ⟨g, 4, none⟩ = some v4 ∧ w.cell? ⟨g, 5, none⟩ = some v5 ∧ w.cell? ⟨g, 6, none⟩ = some v6 ∧ w.cell? ⟨g, 7, none⟩ = some v7 :=
  ⟨h.cell 0, h.cell 1, h.cell 2, h.cell 3, h.cell 4, h.cell 5, h.cell 6, h.cell 7⟩
set_option maxRecDepth 100000 in
set_option maxHeartbeats 2000000 in
theorem lengths_any (A B : Option Addr) (n c m d : Nat) (ts : List Tk.Task) (os : List Objt) (w : World) (hn : ts.length = n) (hm : os.length = m) (hn5 : n ≤ 5000) (hm5 : m ≤ 5000) (ht : Tk.Tasks w A ts) (ho : Objs w B os) (r : Option (List Int)) (hr : r = lensF ts os) :
    Calls Tryd.prog 50 #[.agg #[.slice A n c, .slice B m d]] w (LensP w r) := by
  obtain ⟨i0, hi, hz0, hz1, hz2⟩ := info_parts int_info
  have HB := Lib.hid (Blk.new w 25 #[.slice A n c, .slice B m d])
  have HS0 := Lib.hid ((Same.refl w).alloc (.cells #[.slice A n c, .slice B m d] 25))
  have HN := Lib.hid hn
  have HM := Lib.hid hm
  have HT := Lib.hid ht
  have HO := Lib.hid ho
  have HR := Lib.hid hr
  clear hn hm ht ho hr
  have a0 := HB.out.cell 0
  have a1 := HB.out.cell 1
  simp only [List.getElem?_toArray, List.getElem?_cons_zero, List.getElem?_cons_succ] at a0 a1
  go_enter Tryd.func50, Tryd.ntmps50
  go_wp2_with fail
  clear a0 a1
  go_loopg [12, 4] n (fun gk iv lv wx => ∃ (k : Nat) (A' : Option Addr) (c' : Nat), k + gk = n ∧ iv = .int .i64 k ∧ lv = .slice A' k c' ∧ Own wx (w.heap.size + 1) 3 A' c' (tK ts k) ∧ (∀ j, j < k → ownOk (Tk.at_ ts j) = true) ∧ Same (w.alloc (.cells #[.slice A n c, .slice B m d] 25)) wx)
  case atStart => exact ⟨0, none, 0, by omega, rfl, rfl, own_nil _ _ _, fun j hj => by omega, Same.refl _⟩
  case round =>
    obtain ⟨k, A', c', hk, rfl, rfl, ho, hall, sx⟩ := hrel
    have HOw := Lib.hid ho
    have HA := Lib.hid hall
    have HS := Lib.hid sx
    clear ho hall sx
    cases gk with
    | zero =>
      obtain rfl : n = k := by omega
      have hge : ¬ (n : Int) < (n : Int) := by omega
      have hts : ts.all ownOk = true := by
        rw [List.all_eq_true]
        intro x hx
        obtain ⟨j, hj, hjx⟩ := List.getElem_of_mem hx
        have := HA.out j (by have := HN.out; omega)
        unfold Tk.at_ at this
        rw [List.getElem?_eq_getElem hj] at this
        rw [← hjx]
        exact this
      have HTS := Lib.hid hts
      have hO := HOw.out
      rw [show tK ts n = oK ts os 0 by rw [oK_zero, ← HN.out, tK_all]] at hO
      have HO1 := Lib.hid hO
      have HS1 := Lib.hid (HS0.out.trans HS.out)
      have a1 := HS.out.cell (show (w.alloc (.cells #[.slice A n c, .slice B m d] 25)).cell? ⟨w.heap.size, 1, none⟩ = some (.slice B m d) from HB.out.cell 1)
      clear hts hO HOw HA
      go_wp2_with fail
      clear a1
      go_loopg [33, 4] m (fun gj jv lv wy => ∃ (j : Nat) (A2 : Option Addr) (n2 c2 : Nat), j + gj = m ∧ jv = .int .i64 j ∧ lv = .slice A2 n2 c2 ∧ n2 = n + j ∧ Own wy (w.heap.size + 1) 3 A2 c2 (oK ts os j) ∧ (∀ i, i < j → shp (oat os i) = true) ∧ w.heap.size + 1 ≤ wy.heap.size ∧ Same w wy)
      case atStart => exact ⟨0, A', n, c', by omega, rfl, rfl, by omega, HO1.out, fun j hj => by omega, by have := HS.out.size; simp at this; omega, HS1.out⟩
      case round =>
        obtain ⟨j, A2, n2, c2, hj, rfl, rfl, hn2, ho, hall, hwz, sy⟩ := hrel
        have HWSZ := Lib.hid hwz
        clear hwz
        have HOw := Lib.hid ho
        have HA := Lib.hid hall
        have HSY := Lib.hid sy
        have HN2 := Lib.hid hn2
        clear ho hall sy hn2
        cases gk with
        | zero =>
          obtain rfl : m = j := by omega
          have hge : ¬ (m : Int) < (m : Int) := by omega
          have hos : os.all shp = true := by
            rw [List.all_eq_true]
            intro x hx
            obtain ⟨i, hi, hix⟩ := List.getElem_of_mem hx
            have := HA.out i (by have := HM.out; omega)
            unfold oat at this
            rw [List.getElem?_eq_getElem hi] at this
            rw [← hix]
            exact this
          have HOS := Lib.hid hos
          have hO := HOw.out
          rw [← HM.out, oK_all] at hO
          have HO2 := Lib.hid hO
          clear hos hO HOw HA
          go_wp2_with fail
          go_ret2
          exact lens_yes HR.out (by rw [HTS.out, HOS.out]; rfl) (by have h1 := HN2.out; have h2 := HN.out; have h3 := HM.out; simp [tL, oL]; omega) HO2.out.row HSY.out
        | succ GJ =>
          have hlt : (j : Int) < m := by omega
          have j0 : (0 : Int) ≤ j := by omega
          have hjl : j < os.length := by have := HM.out; omega
          have HG := Lib.hid (oat_get hjl)
          obtain ⟨hsa, b, o, hB, d0, d1, d2, d3, d4, d5, d6, d7⟩ := (HO.out.same HSY.out).at_ hjl
          obtain ⟨z, hz⟩ : ∃ z, z = oat os j := ⟨_, rfl⟩
          rw [← hz] at hsa d0 d1 d2 d3 d4 d5 d6 d7 HG
          have HZ := Lib.hid hz
          clear hz hjl
          obtain ⟨k_, wd, sl, cp, sa, ia, il, ic, ow, ra, rl, rc⟩ := z
          simp only at hsa d0 d1 d2 d3 d4 d5 d6 d7
          subst hB
          have HSH := Lib.hid (fun w' => Fc.shaped_any k_ wd sl cp sa ow ia ra il ic rl rc w' hsa)
          have HSZ := Lib.hid (fun w' => Fc.size_any k_ wd sl cp sa ow ia ra il ic rl rc w' hsa)
          have hWX := HSY.out.alloc (.cells #[.int .i64 k_, .int .i64 wd, .int .i64 sl, .int .i64 cp, .int .u32 sa, .slice ia il ic, .int .i64 ow, .slice ra rl rc] 39)
          have hBX := Blk.new wr 39 #[.int .i64 k_, .int .i64 wd, .int .i64 sl, .int .i64 cp, .int .u32 sa, .slice ia il ic, .int .i64 ow, .slice ra rl rc]
          have hOX := HOw.out.same ((Same.refl wr).alloc (.cells #[.int .i64 k_, .int .i64 wd, .int .i64 sl, .int .i64 cp, .int .u32 sa, .slice ia il ic, .int .i64 ow, .slice ra rl rc] 39))
          have HWX := Lib.hid hWX
          have HBX := Lib.hid hBX
          have HOX := Lib.hid hOX
          clear hWX hBX hOX
          obtain ⟨x0, x1, x2, x3, x4, x5, x6, x7⟩ := objc HBX.out
          have hsh : shp ⟨k_, wd, sl, cp, sa, ia, il, ic, ow, ra, rl, rc⟩ = Fc.rightF k_ wd sl cp sa il rl := rfl
          have hsi : siz ⟨k_, wd, sl, cp, sa, ia, il, ic, ow, ra, rl, rc⟩ = Fc.sizeF k_ wd sl cp sa il rl := rfl
          have HSI := Lib.hid hsi
          cases hrt : Fc.rightF k_ wd sl cp sa il rl
          · rw [hrt] at HSH hsh
            have HNO := Lib.hid (all_no HG.out hsh)
            clear hrt hsh hsi hsa
            go_wp2_with fail
            refine (HSH.out _).mono ?_
            rintro e w3 ⟨rfl, s3⟩
            have HS3 := Lib.hid (HWX.out.trans s3)
            clear s3
            go_wp2_with fail
            go_ret2
            exact lens_no HR.out (by rw [HNO.out, Bool.and_false]) HS3.out
          · rw [hrt] at HSH hsh
            have HYES := Lib.hid hsh
            clear hrt hsh hsi hsa
            go_wp2_with fail
            refine (HSH.out _).mono ?_
            rintro e w3 ⟨rfl, s3⟩
            have HS3 := Lib.hid (HWX.out.trans s3)
            have HSZ3 : Hid (wr.heap.size ≤ w3.heap.size) := Lib.hid (by have h1 := s3.size; simp at h1; omega)
            have HB3 := Lib.hid (HBX.out.same s3)
            have HO3 := Lib.hid (HOX.out.same s3)
            clear s3 x0 x1 x2 x3 x4 x5 x6 x7 HWX HBX HOX
            obtain ⟨x0, x1, x2, x3, x4, x5, x6, x7⟩ := objc HB3.out
            generalize Fc.sizeF k_ wd sl cp sa il rl = zz at *
            go_wp2_with fail
            refine (HSZ.out _).mono ?_
            rintro e w4 ⟨rfl, s4⟩
            have HSZ4 : Hid (wr.heap.size ≤ w4.heap.size) := Lib.hid (by have h1 := s4.size; have h2 := HSZ3.out; omega)
            have HS4 := Lib.hid (HS3.out.trans s4)
            have HO4 := Lib.hid (HO3.out.same s4)
            clear s4 x0 x1 x2 x3 x4 x5 x6 x7 HS3 HB3 HO3
            have hlen : (oK ts os j).length = n2 := by
              rw [oK_len ts (by have := HM.out; omega), HN2.out, HN.out]
            have HLN := Lib.hid hlen
            have hn2 : n2 ≤ 10000 := by have := HN2.out; omega
            clear hlen
            go_wp2_with (at_builtin; refine wpList_app rfl (.tmp 40) (.tmp 43) 37 rfl (w.heap.size + 1) 3 i0 _ 8 Tryd.underlying37 hi hz0 hz1 hz2 rfl A2 n2 c2 (oK ts os j) rfl HLN.out (HO4.out.same ((Same.refl _).alloc _)) _ 1 1 [.int .i64 zz] rfl rfl (row_new _ _ _) (by intro u hu; simp at hu; subst hu; rfl) (by rw [HLN.out]; simp; omega) (by omega) (by have h4 := HSZ4.out; have h5 := HWSZ.out; simp; omega) ?_)
            intro A5 c5 w5 ho5 hc5 _
            have HS5 := Lib.hid (Same.more (HS4.out.alloc _) hc5 fun g hg => by have := own_fence HO4.out g hg; omega)
            have hmt := oK_next ts HG.out
            rw [HSI.out] at hmt
            have HO5 := Lib.hid (show Own w5 (w.heap.size + 1) 3 A5 c5 (oK ts os (j + 1)) from by
              rw [hmt]
              exact ho5)
            have HSZ5 : Hid (wr.heap.size ≤ w5.heap.size) := Lib.hid (by have h1 := hc5.size; have h2 := HSZ4.out; simp at h1; omega)
            clear ho5 hc5 hmt
            go_wp2_with fail
            go_roundg GJ
            case rel => exact ⟨j + 1, A5, n2 + 1, c5, by omega, by go_num, by go_num, by have := HN2.out; omega, HO5.out, fun i hi => by
              by_cases h : i < j
              · exact HA.out i h
              · obtain rfl : i = j := by omega
                rw [← HZ.out]
                exact HYES.out, by have h1 := HWSZ.out; have h2 := HSZ5.out; omega, HS5.out⟩
            case measure => omega
    | succ GK =>
      have hlt : (k : Int) < n := by omega
      have k0 : (0 : Int) ≤ k := by omega
      have hkl : k < ts.length := by have := HN.out; omega
      have HG := Lib.hid (Tk.at_get hkl)
      obtain ⟨hok, b, o, hA, d0, d1, d2, d3, d4, d5, d6⟩ := (HT.out.same (HS0.out.trans HS.out)).at_ hkl
      obtain ⟨z, hz⟩ : ∃ z, z = Tk.at_ ts k := ⟨_, rfl⟩
      rw [← hz] at hok d0 d1 d2 d3 d4 d5 d6 HG
      have HZ := Lib.hid hz
      clear hz hkl hok
      obtain ⟨zk, zp, ze, zo, zd, zw, zA, zn, zc⟩ := z
      simp only at d0 d1 d2 d3 d4 d5 d6
      subst hA
      have hWX := HS.out.alloc (.cells #[.int .i64 zk, .int .i64 zp, .int .i64 ze, .int .i64 zo, .int .i64 zd, .int .i64 zw, .slice zA zn zc] 32)
      have HWX := Lib.hid hWX
      have hlen : (tK ts k).length = k := tK_len (by have := HN.out; omega)
      have HLN := Lib.hid hlen
      clear hWX hlen
      by_cases hok : 1 ≤ zw ∧ zw ≤ 64
      · have h1 : ¬ zw < 1 := by omega
        have h2 : ¬ 64 < zw := by omega
        have HOK := Lib.hid (show ownOk ⟨zk, zp, ze, zo, zd, zw, zA, zn, zc⟩ = true from decide_eq_true hok)
        clear hok
        go_wp2_with (at_builtin; refine wpList_app rfl (.tmp 24) (.tmp 27) 37 rfl (w.heap.size + 1) 3 i0 _ 8 Tryd.underlying37 hi hz0 hz1 hz2 rfl A' k c' (tK ts k) rfl HLN.out (HOw.out.same (((Same.refl _).alloc _).alloc _)) _ 1 1 [.int .i64 zw] rfl rfl (row_new2 _ _ _ _) (by intro u hu; simp at hu; subst hu; rfl) (by rw [HLN.out]; simp; omega) (by omega) (by have := HS.out.size; simp at this ⊢; omega) ?_)
        intro A5 c5 w5 ho5 hc5 _
        have HS5 := Lib.hid (Same.more (HWX.out.alloc _) hc5 fun g hg => by have := own_fence HOw.out g hg; simp; omega)
        have hmt := tK_next HG.out
        have HO5 := Lib.hid (show Own w5 (w.heap.size + 1) 3 A5 c5 (tK ts (k + 1)) from by
          rw [hmt]
          exact ho5)
        clear ho5 hc5 hmt
        go_wp2_with fail
        go_roundg GK
        case rel => exact ⟨k + 1, A5, c5, by omega, by go_num, by go_num, HO5.out, fun i hi => by
          by_cases h : i < k
          · exact HA.out i h
          · obtain rfl : i = k := by omega
            rw [← HZ.out]
            exact HOK.out, HS5.out⟩
        case measure => omega
      · have HNO := Lib.hid (all_no HG.out (show ownOk ⟨zk, zp, ze, zo, zd, zw, zA, zn, zc⟩ = false from decide_eq_false hok))
        by_cases h1 : zw < 1
        · clear hok
          go_wp2_with fail
          go_ret2
          exact lens_no HR.out (by rw [HNO.out, Bool.false_and]) (HS0.out.trans HWX.out)
        · have h2 : 64 < zw := by omega
          clear hok
          go_wp2_with fail
          go_ret2
          exact lens_no HR.out (by rw [HNO.out, Bool.false_and]) (HS0.out.trans HWX.out)

end Go.Proofs.YtaclphhbdfoaeaaDoor.Ly
