/-
  Layer 33: a system's image, by the document.
-/
import Derived.Test.YtmbhbbndfmdhfaaImgRefB
import Derived.Test.YtmbhbbndfmdhfaaImgRoom
import Derived.Test.YtmbhbbndfmdhfaaImgEnc
set_option linter.unusedVariables false
set_option linter.unusedSimpArgs false
namespace Go.Proofs.Ytmbhbbndfmdhfaa.Im
open Go.ChangeShapes Go.WideShapes Go.ChangeAt Go.RowKit Ws Cd

/-- the bytes so far, and two blocks besides -/
structure Ref (w w1 : World) (S : Array Value) (b : Nat) (T : TypeId) (cs : Array Value) (A : Option Addr) (c : Nat) (bs : List Int) (N : Nat) : Prop where
  own : Own w1 w.heap.size 5 A c (by8 bs)
  same : Same w w1
  len : bs.length = N
  sys : Blk w1 w.heap.size 25 S
  blk : Blk w1 b T cs
theorem Ref.step {w w1 w2 w3 : World} {S : Array Value} {b : Nat} {T : TypeId} {cs : Array Value} {A A' : Option Addr} {c c' : Nat} {bs ys : List Int} {N m : Nat} (h : Ref w w1 S b T cs A c bs N) (hs : Same w1 w2) (hc : Chg (fun g => A = some ⟨g, 0, none⟩) w2 w3) (ho : Own w3 w.heap.size 5 A' c' (by8 (bs ++ ys))) (hm : ys.length = m) (hT : 5 ≠ T) : Ref w w3 S b T cs A' c' (bs ++ ys) (N + m) := by
  have o2 := h.own.same hs
  refine ⟨ho, Same.more (h.same.trans hs) hc fun g hg => (own_blk h.own hg).1, by rw [List.length_append, h.len, hm], (h.sys.same hs).chg hc fun hg => o2.ne (h.sys.same hs) (by decide) _ hg rfl, (h.blk.same hs).chg hc fun hg => o2.ne (h.blk.same hs) hT _ hg rfl⟩
theorem Ref.move {w w1 w2 : World} {S : Array Value} {b b' : Nat} {T T' : TypeId} {cs cs' : Array Value} {A : Option Addr} {c : Nat} {bs : List Int} {N : Nat} (h : Ref w w1 S b T cs A c bs N) (hs : Same w1 w2) (hb : Blk w2 b' T' cs') : Ref w w2 S b' T' cs' A c bs N := ⟨h.own.same hs, h.same.trans hs, h.len, h.sys.same hs, hb⟩
theorem fit4 {x : Int} (h : fit (x, 4) = true) : 0 ≤ x ∧ x < 4294967296 := by
  simp only [fit, decide_eq_true_eq] at h
  exact ⟨h.1, by simpa using h.2⟩
theorem fitl {n : Nat} (h : fit ((n : Int), 1) = true) : n ≤ 255 := by
  simp only [fit, decide_eq_true_eq] at h
  have := h.2
  simp at this
  omega
theorem room_t {s : PS} (h : room s = true) {k : Nat} {x : PT} (hx : s.ts[k]? = some x) : (itT x).all fit = true := by
  unfold room itS at h
  simp only [List.all_cons, List.all_append, Bool.and_eq_true] at h
  have h1 := h.2.2.1
  rw [List.all_eq_true] at h1 ⊢
  exact fun p hp => h1 p (List.mem_flatMap.2 ⟨x, List.mem_of_getElem? hx, hp⟩)
theorem room_o {s : PS} (h : room s = true) {k : Nat} {x : PO} (hx : s.os[k]? = some x) : (itO x).all fit = true := by
  unfold room itS at h
  simp only [List.all_cons, List.all_append, Bool.and_eq_true] at h
  have h1 := h.2.2.2
  rw [List.all_eq_true] at h1 ⊢
  exact fun p hp => h1 p (List.mem_flatMap.2 ⟨x, List.mem_of_getElem? hx, hp⟩)
theorem room_l {s : PS} (h : room s = true) : s.ts.length ≤ 255 ∧ s.os.length ≤ 255 := by
  unfold room itS at h
  simp only [List.all_cons, List.all_append, Bool.and_eq_true] at h
  exact ⟨fitl h.1, fitl h.2.1⟩
theorem t_fits {kind prio per off dl own : Int} {code : List Ins} (h : (itT ⟨kind, prio, per, off, dl, own, code⟩).all fit = true) : (0 ≤ per ∧ per < 4294967296) ∧ (0 ≤ off ∧ off < 4294967296) ∧ (0 ≤ dl ∧ dl < 4294967296) ∧ code.length ≤ 255 := by
  unfold itT itT0 at h
  simp only [List.all_cons, List.all_nil, List.all_append, Bool.and_eq_true] at h
  exact ⟨fit4 h.1.2.2.1, fit4 h.1.2.2.2.1, fit4 h.1.2.2.2.2.1, fitl h.1.2.2.2.2.2.2.1⟩
theorem o_fits {k wd sl cp sa ow : Int} {rd ini : List Int} (h : (itO ⟨k, wd, sl, cp, sa, ow, rd, ini⟩).all fit = true) : rd.length ≤ 255 ∧ ini.length ≤ 255 := by
  unfold itO itO0 at h
  simp only [List.all_cons, List.all_nil, List.all_append, Bool.and_eq_true] at h
  exact ⟨fitl h.1.2.2.2.2.2.2.1, fitl h.2.2.1⟩
theorem encT_eq (kind prio per off dl own : Int) (code : List Ins) : enc (itT ⟨kind, prio, per, off, dl, own, code⟩) = [kind % 256, prio % 256] ++ lo per 4 ++ lo off 4 ++ lo dl 4 ++ [own % 256, (code.length : Int) % 256] ++ enc (code.flatMap itI) := by
  unfold itT itT0
  rw [enc_app]
  simp [enc, lo1]
theorem encO_eq (k wd sl cp sa ow : Int) (rd ini : List Int) : enc (itO ⟨k, wd, sl, cp, sa, ow, rd, ini⟩) = [k % 256, wd % 256, sl % 256, cp % 256] ++ lo sa 4 ++ [ow % 256, (rd.length : Int) % 256] ++ enc (sm rd) ++ [(ini.length : Int) % 256] ++ enc (lg ini) := by
  unfold itO itO0
  rw [enc_app, enc_app, show (((ini.length : Nat) : Int), 1) :: lg ini = [((ini.length : Int), 1)] ++ lg ini from rfl, enc_app]
  simp [enc, lo1]
theorem enc_ts {l : List PT} {k : Nat} {x : PT} (h : l[k]? = some x) : enc ((l.take (k + 1)).flatMap itT) = enc ((l.take k).flatMap itT) ++ enc (itT x) := by
  rw [List.take_add_one, h, List.flatMap_append, enc_app]
  simp
theorem enc_os {l : List PO} {k : Nat} {x : PO} (h : l[k]? = some x) : enc ((l.take (k + 1)).flatMap itO) = enc ((l.take k).flatMap itO) ++ enc (itO x) := by
  rw [List.take_add_one, h, List.flatMap_append, enc_app]
  simp
theorem enc_is {l : List Ins} {k : Nat} {x : Ins} (h : l[k]? = some x) : enc ((l.take (k + 1)).flatMap itI) = enc ((l.take k).flatMap itI) ++ enc (itI x) := by
  rw [List.take_add_one, h, List.flatMap_append, enc_app]
  simp
theorem enc_sm {l : List Int} {k : Nat} {x : Int} (h : l[k]? = some x) : enc (sm (l.take (k + 1))) = enc (sm (l.take k)) ++ [x % 256] := by
  unfold sm
  rw [List.take_add_one, h, List.map_append, enc_app]
  simp [enc, lo1]
theorem enc_lg {l : List Int} {k : Nat} {x : Int} (h : l[k]? = some x) : enc (lg (l.take (k + 1))) = enc (lg (l.take k)) ++ lo x 4 := by
  unfold lg
  rw [List.take_add_one, h, List.map_append, enc_app]
  simp [enc]
theorem body_eq (s : PS) : body s = [67, 88, 1, (s.ts.length : Int) % 256, (s.os.length : Int) % 256] ++ enc (s.ts.flatMap itT) ++ enc (s.os.flatMap itO) := by
  unfold body itS hd
  rw [show ∀ (p q : Item) (l : List Item), p :: q :: l = [p, q] ++ l from fun _ _ _ => rfl, enc_app, enc_app]
  simp [enc, lo1]
set_option maxRecDepth 100000 in
set_option maxHeartbeats 8000000 in
theorem rencode_any (A B : Option Addr) (n c m d : Nat) (s : PS) (w : World) (hs : SysAt w A n B m s) (hnm : n ≤ maxLen ∧ m ≤ maxLen) :
    Calls Try.prog 19 #[.agg #[.slice A n c, .slice B m d]] w (EncP w (img s)) := by
  obtain ⟨i0, hi, hz0, hz1, hz2⟩ := info_parts u8_info
  have hs1 := (Same.refl w).alloc (.cells #[.slice A n c, .slice B m d] 25)
  have HS1 := Lib.hid hs1
  have HB1 := Lib.hid (Blk.new w 25 #[.slice A n c, .slice B m d])
  have RM := Lib.hid (room_any A B n c m d s _ (hs.same hs1) hnm)
  obtain ⟨hn, hm, ht, ho⟩ := hs
  have HN := Lib.hid hn
  have HM := Lib.hid hm
  have HT := Lib.hid ht
  have HO := Lib.hid ho
  clear hs1 hn hm ht ho hnm
  generalize hw1 : w.alloc (.cells #[.slice A n c, .slice B m d] 25) = w1 at *
  have HW1 := Lib.hid hw1
  clear hw1
  go_enter Try.func19, Try.ntmps19
  go_upto_region 1 with fail
  rw [HW1.out]
  obtain ⟨q0, q1⟩ : w1.cell? ⟨w.heap.size, 0, none⟩ = some (.slice A n c) ∧ w1.cell? ⟨w.heap.size, 1, none⟩ = some (.slice B m d) := ⟨HB1.out.cell 0, HB1.out.cell 1⟩
  go_wp2_with fail
  refine RM.out.mono ?_
  rintro e w2 ⟨rfl, s2⟩
  have HS2 := Lib.hid (HS1.out.trans s2)
  have HB2 := Lib.hid (HB1.out.same s2)
  clear s2 q0 q1 RM HS1 HB1 HW1
  obtain ⟨q0, q1⟩ : w2.cell? ⟨w.heap.size, 0, none⟩ = some (.slice A n c) ∧ w2.cell? ⟨w.heap.size, 1, none⟩ = some (.slice B m d) := ⟨HB2.out.cell 0, HB2.out.cell 1⟩
  obtain ⟨rm, hrm⟩ : ∃ r, r = room s := ⟨_, rfl⟩
  rw [← hrm]
  cases rm with
  | false =>
    have HI := Lib.hid (show img s = none from if_neg (by rw [← hrm]; intro h; cases h.1))
    clear hrm
    go_wp2_with fail
    go_ret2
    exact encp_none HI.out HS2.out
  | true =>
    have HRM := Lib.hid hrm.symm
    clear hrm
    have hl := room_l HRM.out
    rw [HN.out, HM.out] at hl
    have HLL := Lib.hid hl
    clear hl
    have s3 := (Same.refl w2).alloc (.cells #[.int .u8 67, .int .u8 88, .int .u8 1, .int .u8 ((n : Int) % 256), .int .u8 ((m : Int) % 256)] 5)
    have ho3 : Own (w2.alloc (.cells #[.int .u8 67, .int .u8 88, .int .u8 1, .int .u8 ((n : Int) % 256), .int .u8 ((m : Int) % 256)] 5)) w.heap.size 5 (some ⟨w2.heap.size, 0, none⟩) 5 (by8 [67, 88, 1, (n : Int) % 256, (m : Int) % 256]) := World.ownsRow_lit w2 #[.int .u8 67, .int .u8 88, .int .u8 1, .int .u8 ((n : Int) % 256), .int .u8 ((m : Int) % 256)] 5 HS2.out.size (by decide) rfl
    have HR0 := Lib.hid (show Ref w _ #[.slice A n c, .slice B m d] w.heap.size 25 #[.slice A n c, .slice B m d] (some ⟨w2.heap.size, 0, none⟩) 5 [67, 88, 1, (n : Int) % 256, (m : Int) % 256] 5 from ⟨ho3, HS2.out.trans s3, rfl, HB2.out.same s3, HB2.out.same s3⟩)
    have z0 := (HB2.out.same s3).cell 0
    have z1 := (HB2.out.same s3).cell 1
    simp only [List.getElem?_toArray, List.getElem?_cons_zero, List.getElem?_cons_succ] at z0 z1
    clear s3 ho3
    have HBD := Lib.hid (body_eq s)
    rw [HN.out, HM.out] at HBD
    generalize hb0 : [67, 88, 1, (n : Int) % 256, (m : Int) % 256] = bs0 at *
    clear hb0
    go_wp2_with fail
    clear q0 q1 z0 z1
    obtain ⟨SV, hSV⟩ : ∃ v : Array Value, v = #[.slice A n c, .slice B m d] := ⟨_, rfl⟩
    have HSV := Lib.hid hSV
    clear hSV
    go_loopg [30, 4] n (fun gk iv bv wx => ∃ (k : Nat) (A1 : Option Addr) (N c1 : Nat), k + gk = n ∧ iv = .int .i64 k ∧ bv = .slice A1 N c1 ∧ N ≤ 5 + k * 2056 ∧ Ref w wx SV w.heap.size 25 SV A1 c1 (bs0 ++ enc ((s.ts.take k).flatMap itT)) N)
    case atStart => exact ⟨0, _, 5, 5, by omega, rfl, rfl, by omega, by rw [HSV.out]; simpa [enc] using HR0.out⟩
    case round =>
      obtain ⟨k, A1, N, c1, hk, rfl, rfl, hNb, hr⟩ := hrel
      have HR := Lib.hid hr
      clear hr
      cases gk with
      | succ GK =>
        have hlt : (k : Int) < n := by omega
        have k0 : (0 : Int) ≤ k := by omega
        obtain ⟨x, hx⟩ : ∃ x, s.ts[k]? = some x := ⟨_, List.getElem?_eq_getElem (by have := HN.out; omega)⟩
        have hsr := HR.out.same
        obtain ⟨b, o, rfl, X, cX, e0, e1, e2, e3, e4, e5, e6, hcode, _⟩ := HT.out.at_ hx
        replace e0 := hsr.cell e0
        replace e1 := hsr.cell e1
        replace e2 := hsr.cell e2
        replace e3 := hsr.cell e3
        replace e4 := hsr.cell e4
        replace e5 := hsr.cell e5
        replace e6 := hsr.cell e6
        have hf := room_t HRM.out hx
        have HEX := Lib.hid (enc_ts hx)
        clear hx
        obtain ⟨kind, prio, per, off, dl, own, code⟩ := x
        simp only at e0 e1 e2 e3 e4 e5 e6 hcode
        have hci := hcode
        obtain ⟨hper, hoff, hdl, hcl⟩ := t_fits hf
        have HCL := Lib.hid hcl
        have hNS : N ≤ 600000 := by have := HLL.out; omega
        have HTE := Lib.hid (encT_eq kind prio per off dl own code)
        clear hf hcl
        have hs5 := (Same.refl wr).alloc (.cells #[.int .i64 kind, .int .i64 prio, .int .i64 per, .int .i64 off, .int .i64 dl, .int .i64 own, .slice X code.length cX] 45)
        have hr1 := HR.out.move hs5 (Blk.new wr 45 #[.int .i64 kind, .int .i64 prio, .int .i64 per, .int .i64 off, .int .i64 dl, .int .i64 own, .slice X code.length cX])
        have HCI := Lib.hid (fun w' (h : Same w w') => (show Code w' X code from hci.same h))
        have HWR := Lib.hid HR.out.same
        generalize hbk : bs0 ++ enc ((s.ts.take k).flatMap itT) = bs1 at *
        have EBK := Lib.hid hbk
        have HR1 := Lib.hid hr1
        clear hs5 hr1 hbk hcode HR hci hsr
        go_upto_region 7 with fail
        clear e0 e1 e2 e3 e4 e5 e6
        generalize hw5 : wr.alloc (.cells #[.int .i64 kind, .int .i64 prio, .int .i64 per, .int .i64 off, .int .i64 dl, .int .i64 own, .slice X code.length cX] 45) = w5 at *
        clear hw5
        generalize wr.heap.size = b5 at *
        obtain ⟨q0, q1, q2, q3, q4, q5, q6⟩ := tc HR1.out.blk
        go_wp2_with (at_builtin; go_loud (refine app_bytes rfl (.tmp 34) (.tmp 41) 46 rfl w.heap.size i0 _ Try.underlying46 hi hz0 hz1 hz2 rfl A1 (N) c1 bs1 rfl HR1.out.len (HR1.out.own.same ((Same.refl _).alloc _)) _ 2 2 ([kind % 256, prio % 256]) rfl rfl (by_row_lit _ _) (by omega) ?c2 ?_))
        case c2 => have := HR1.out.same.size; have := (Same.refl w : Same _ _).size; (first | omega | (simp at this ⊢; omega) | (simp; omega))
        intro A2 c2 w2 ho hc
        have hr2 := Ref.step HR1.out ((Same.refl _).alloc _) hc ho rfl (by decide)
        obtain ⟨bs2, hb2⟩ : ∃ l, l = bs1 ++ ([kind % 256, prio % 256]) := ⟨_, rfl⟩
        rw [← hb2] at hr2
        have EB2 := Lib.hid hb2
        have HR2 := Lib.hid hr2
        clear ho hc hr2 hb2
        clear q0 q1 q2 q3 q4 q5 q6
        obtain ⟨q0, q1, q2, q3, q4, q5, q6⟩ := tc HR2.out.blk
        go_wp2_with fail
        refine (rbytes33 per 4 _ (by omega) hper).mono ?_
        rintro e wq ⟨Aq, cq, rfl, oq, sq⟩
        have rq := oq.row
        clear oq
        obtain ⟨bq, pq, hAq⟩ := Row.addr rq (by rw [by8_len, lo_len]; omega)
        subst hAq
        go_wp2_with (at_builtin; go_loud (refine app_bytes rfl (.tmp 43) (.tmp 46) 46 rfl w.heap.size i0 _ Try.underlying46 hi hz0 hz1 hz2 rfl A2 (N + 2) c2 bs2 rfl HR2.out.len (HR2.out.own.same sq) _ 4 cq (lo per 4) rfl (lo_len _ _) rq (by omega) ?c2 ?_))
        case c2 => have := HR2.out.same.size; have := (sq : Same _ _).size; (first | omega | (simp at this ⊢; omega) | (simp; omega))
        intro A3 c3 w3 ho hc
        have hr3 := Ref.step HR2.out sq hc ho (lo_len _ _) (by decide)
        obtain ⟨bs3, hb3⟩ : ∃ l, l = bs2 ++ (lo per 4) := ⟨_, rfl⟩
        rw [← hb3] at hr3
        have EB3 := Lib.hid hb3
        have HR3 := Lib.hid hr3
        clear ho hc hr3 hb3
        clear q0 q1 q2 q3 q4 q5 q6
        obtain ⟨q0, q1, q2, q3, q4, q5, q6⟩ := tc HR3.out.blk
        clear rq sq
        go_wp2_with fail
        refine (rbytes33 off 4 _ (by omega) hoff).mono ?_
        rintro e wq ⟨Aq, cq, rfl, oq, sq⟩
        have rq := oq.row
        clear oq
        obtain ⟨bq, pq, hAq⟩ := Row.addr rq (by rw [by8_len, lo_len]; omega)
        subst hAq
        go_wp2_with (at_builtin; go_loud (refine app_bytes rfl (.tmp 48) (.tmp 51) 46 rfl w.heap.size i0 _ Try.underlying46 hi hz0 hz1 hz2 rfl A3 (N + 2 + 4) c3 bs3 rfl HR3.out.len (HR3.out.own.same sq) _ 4 cq (lo off 4) rfl (lo_len _ _) rq (by omega) ?c2 ?_))
        case c2 => have := HR3.out.same.size; have := (sq : Same _ _).size; (first | omega | (simp at this ⊢; omega) | (simp; omega))
        intro A4 c4 w4 ho hc
        have hr4 := Ref.step HR3.out sq hc ho (lo_len _ _) (by decide)
        obtain ⟨bs4, hb4⟩ : ∃ l, l = bs3 ++ (lo off 4) := ⟨_, rfl⟩
        rw [← hb4] at hr4
        have EB4 := Lib.hid hb4
        have HR4 := Lib.hid hr4
        clear ho hc hr4 hb4
        clear q0 q1 q2 q3 q4 q5 q6
        obtain ⟨q0, q1, q2, q3, q4, q5, q6⟩ := tc HR4.out.blk
        clear rq sq
        go_wp2_with fail
        refine (rbytes33 dl 4 _ (by omega) hdl).mono ?_
        rintro e wq ⟨Aq, cq, rfl, oq, sq⟩
        have rq := oq.row
        clear oq
        obtain ⟨bq, pq, hAq⟩ := Row.addr rq (by rw [by8_len, lo_len]; omega)
        subst hAq
        go_wp2_with (at_builtin; go_loud (refine app_bytes rfl (.tmp 53) (.tmp 56) 46 rfl w.heap.size i0 _ Try.underlying46 hi hz0 hz1 hz2 rfl A4 (N + 2 + 4 + 4) c4 bs4 rfl HR4.out.len (HR4.out.own.same sq) _ 4 cq (lo dl 4) rfl (lo_len _ _) rq (by omega) ?c2 ?_))
        case c2 => have := HR4.out.same.size; have := (sq : Same _ _).size; (first | omega | (simp at this ⊢; omega) | (simp; omega))
        intro A5 c5 w5 ho hc
        have hr5 := Ref.step HR4.out sq hc ho (lo_len _ _) (by decide)
        obtain ⟨bs5, hb5⟩ : ∃ l, l = bs4 ++ (lo dl 4) := ⟨_, rfl⟩
        rw [← hb5] at hr5
        have EB5 := Lib.hid hb5
        have HR5 := Lib.hid hr5
        clear ho hc hr5 hb5
        clear q0 q1 q2 q3 q4 q5 q6
        obtain ⟨q0, q1, q2, q3, q4, q5, q6⟩ := tc HR5.out.blk
        clear rq sq
        go_wp2_with (at_builtin; go_loud (refine app_bytes rfl (.tmp 58) (.tmp 66) 46 rfl w.heap.size i0 _ Try.underlying46 hi hz0 hz1 hz2 rfl A5 (N + 2 + 4 + 4 + 4) c5 bs5 rfl HR5.out.len (HR5.out.own.same ((Same.refl _).alloc _)) _ 2 2 ([own % 256, (code.length : Int) % 256]) rfl rfl (by_row_lit _ _) (by omega) ?c2 ?_))
        case c2 => have := HR5.out.same.size; have := (Same.refl w : Same _ _).size; (first | omega | (simp at this ⊢; omega) | (simp; omega))
        intro A6 c6 w6 ho hc
        have hr6 := Ref.step HR5.out ((Same.refl _).alloc _) hc ho rfl (by decide)
        obtain ⟨bs6, hb6⟩ : ∃ l, l = bs5 ++ ([own % 256, (code.length : Int) % 256]) := ⟨_, rfl⟩
        rw [← hb6] at hr6
        have EB6 := Lib.hid hb6
        have HR6 := Lib.hid hr6
        clear ho hc hr6 hb6
        clear q0 q1 q2 q3 q4 q5 q6
        obtain ⟨q0, q1, q2, q3, q4, q5, q6⟩ := tc HR6.out.blk
        have hcl2 := HCL.out
        generalize hml : code.length = ml at *
        have HML := Lib.hid hml
        have HCM := Lib.hid hcl2
        clear hml hcl2
        go_wp2_with fail
        clear q0 q1 q2 q3 q4 q5 q6
        have HWX := Lib.hid (HWR.out)
        go_loopg [71, 4] ml (fun gk iv bv wx => ∃ (j : Nat) (Aj : Option Addr) (Nj cj : Nat), j + gk = ml ∧ iv = .int .i64 j ∧ bv = .slice Aj Nj cj ∧ Nj = N + 16 + 8 * j ∧ Ref w wx SV w.heap.size 25 SV Aj cj (bs6 ++ enc ((code.take j).flatMap itI)) Nj)
        case atStart => exact ⟨0, _, _, _, by omega, rfl, rfl, by omega, by simpa [enc] using HR6.out.move (Same.refl _) HR6.out.sys⟩
        case round =>
          obtain ⟨j, Aj, Nj, cj, hj, rfl, rfl, hNj, hr⟩ := hrel
          have HRj := Lib.hid hr
          clear hr HR6
          have hNjs : Nj ≤ 700000 := by have := HCM.out; omega
          have HNJ := Lib.hid hNj
          clear hNj
          cases gk with
          | succ GJ =>
            have hltj : (j : Int) < ml := by omega
            have j0 : (0 : Int) ≤ j := by omega
            obtain ⟨y, hy⟩ : ∃ y, code[j]? = some y := ⟨_, List.getElem?_eq_getElem (by have := HML.out; omega)⟩
            obtain ⟨hyn, b', o', rfl, f0, f1, f2, f3, f4⟩ := (HCI.out _ HRj.out.same).at_ hy
            have HEY := Lib.hid (enc_is hy)
            clear hy
            obtain ⟨op, a, b_, c_, nn⟩ := y
            simp only at f0 f1 f2 f3 f4 hyn
            have hs7 := (Same.refl wr).alloc (.cells #[.int .i64 op, .int .i64 a, .int .i64 b_, .int .i64 c_, .int .u32 nn] 88)
            have HR7 := Lib.hid (HRj.out.move hs7 (Blk.new wr 88 #[.int .i64 op, .int .i64 a, .int .i64 b_, .int .i64 c_, .int .u32 nn]))
            obtain ⟨q0, q1, q2, q3, q4⟩ := ic HR7.out.blk
            clear hs7
            go_wp2_with fail
            refine (rins33 op a b_ c_ nn hyn _).mono ?_
            rintro e wq ⟨gq, dq, rfl, rq, sq⟩
            have hyl : (enc (itI ⟨op, a, b_, c_, nn⟩)).length = 8 := by rw [encI_eq]; rfl
            have HYL := Lib.hid hyl
            generalize enc (itI ⟨op, a, b_, c_, nn⟩) = yb at *
            generalize hbj : bs6 ++ enc ((code.take j).flatMap itI) = bj at *
            have EBJ := Lib.hid hbj
            clear hbj hyl
            go_wp2_with (at_builtin; go_loud (refine app_bytes rfl (.tmp 75) (.tmp 77) 46 rfl w.heap.size i0 _ Try.underlying46 hi hz0 hz1 hz2 rfl Aj Nj cj bj rfl HR7.out.len (HR7.out.own.same sq) _ 8 dq yb rfl HYL.out rq (by omega) ?c2 ?_))
            case c2 => have := HR7.out.same.size; have := sq.size; omega
            intro A8 c8 w8 ho hc
            have hr8 := Ref.step HR7.out sq hc ho HYL.out (by decide)
            have HR8 := Lib.hid (show Ref w w8 SV w.heap.size 25 SV A8 c8 (bs6 ++ enc ((code.take (j + 1)).flatMap itI)) (Nj + 8) by rw [HEY.out, ← List.append_assoc, EBJ.out]; exact hr8.move (Same.refl _) hr8.sys)
            clear ho hc hr8 q0 q1 q2 q3 q4 f0 f1 f2 f3 f4 HR7 HRj rq sq
            have hcm := HCM.out
            go_wp2_with fail
            go_roundg GJ
            case measure => omega
            case rel => exact ⟨j + 1, A8, Nj + 8, c8, by omega, by go_num, rfl, by have := HNJ.out; omega, HR8.out⟩
          | zero =>
            obtain rfl : j = ml := by omega
            have hgej : ¬ (j : Int) < (j : Int) := by omega
            have h1 := HRj.out
            rw [List.take_of_length_le (by rw [HML.out]; omega)] at h1
            have HR9 := Lib.hid (show Ref w wr SV w.heap.size 25 SV Aj cj (bs0 ++ enc ((s.ts.take (k + 1)).flatMap itT)) Nj by
              have e : bs0 ++ enc ((s.ts.take (k + 1)).flatMap itT) = bs6 ++ enc (code.flatMap itI) := by
                rw [HEX.out, HTE.out, ← List.append_assoc, EBK.out, EB6.out, EB5.out, EB4.out, EB3.out, EB2.out]
                simp only [List.append_assoc]
              rw [e]
              exact h1)
            clear h1 HRj
            have hNe : Nj ≤ 5 + (k + 1) * 2056 := by have := HCM.out; have := HNJ.out; omega
            obtain ⟨hll, _⟩ := HLL.out
            go_wp2_with fail
            go_roundg GK
            case measure => omega
            case rel => exact ⟨k + 1, Aj, Nj, cj, by omega, by go_num, rfl, hNe, HR9.out⟩
      | zero =>
        obtain rfl : k = n := by omega
        have hge : ¬ (k : Int) < (k : Int) := by omega
        have h1 := HR.out
        rw [List.take_of_length_le (by rw [HN.out]; omega)] at h1
        have hNS : N ≤ 524285 := by have := HLL.out; omega
        generalize hb1 : bs0 ++ enc (s.ts.flatMap itT) = bs1 at *
        have HR1 := Lib.hid h1
        clear hb1 h1 HR hNb
        have hsb := HR1.out.sys
        rw [HSV.out] at hsb
        obtain ⟨q0, q1⟩ := (⟨hsb.cell 0, hsb.cell 1⟩ : _ ∧ _)
        clear hsb
        simp only [List.getElem?_toArray, List.getElem?_cons_zero, List.getElem?_cons_succ] at q0 q1
        go_wp2_with fail
        clear q0 q1
        have hNb : N ≤ 524285 + 0 * 1300 := by omega
        clear hNS
        have HR2 := HR1
        clear HR1
        go_loopg [84, 4] m (fun gk iv bv wx => ∃ (k2 : Nat) (A1 : Option Addr) (N c1 : Nat), k2 + gk = m ∧ iv = .int .i64 k2 ∧ bv = .slice A1 N c1 ∧ N ≤ 524285 + k2 * 1300 ∧ Ref w wx SV w.heap.size 25 SV A1 c1 (bs1 ++ enc ((s.os.take k2).flatMap itO)) N)
        case atStart => exact ⟨0, _, _, _, by omega, rfl, rfl, by omega, by simpa [enc] using HR2.out⟩
        case round =>
          obtain ⟨k2, A1, N, c1, hk2, rfl, rfl, hNb, hr⟩ := hrel
          have HR := Lib.hid hr
          clear hr HR2
          cases gk with
          | succ GK =>
            have hlt : (k2 : Int) < m := by omega
            have k0 : (0 : Int) ≤ k2 := by omega
            obtain ⟨x, hx⟩ : ∃ x, s.os[k2]? = some x := ⟨_, List.getElem?_eq_getElem (by have := HM.out; omega)⟩
            have hsr := HR.out.same
            obtain ⟨b, o, rfl, X, cX, Y, cY, e0, e1, e2, e3, e4, e5, e6, e7, hsa, hini, hwd, hrd, _, _⟩ := HO.out.at_ hx
            replace e0 := hsr.cell e0
            replace e1 := hsr.cell e1
            replace e2 := hsr.cell e2
            replace e3 := hsr.cell e3
            replace e4 := hsr.cell e4
            replace e5 := hsr.cell e5
            replace e6 := hsr.cell e6
            replace e7 := hsr.cell e7
            have hf := room_o HRM.out hx
            have HEX := Lib.hid (enc_os hx)
            clear hx hsr
            obtain ⟨k_, wd, sl, cp, sa, ow, rd, ini⟩ := x
            simp only at e0 e1 e2 e3 e4 e5 e6 e7 hsa hini hwd hrd
            have HFO := Lib.hid (o_fits hf)
            have HTE := Lib.hid (encO_eq k_ wd sl cp sa ow rd ini)
            have hNS : N ≤ 860000 := by have := HLL.out; omega
            clear hf
            have hs5 := (Same.refl wr).alloc (.cells #[.int .i64 k_, .int .i64 wd, .int .i64 sl, .int .i64 cp, .int .u32 sa, .slice X ini.length cX, .int .i64 ow, .slice Y rd.length cY] 61)
            have hr1 := HR.out.move hs5 (Blk.new wr 61 #[.int .i64 k_, .int .i64 wd, .int .i64 sl, .int .i64 cp, .int .u32 sa, .slice X ini.length cX, .int .i64 ow, .slice Y rd.length cY])
            have HRD := Lib.hid (fun w' (h : Same w w') => (show Row w' Y (rd.map (Value.int .i64)) from hrd.same h))
            have HINI := Lib.hid (fun w' (h : Same w w') => (show Row w' X (ini.map (Value.int .u32)) from hini.same h))
            have HWD := Lib.hid hwd
            generalize hbk : bs1 ++ enc ((s.os.take k2).flatMap itO) = bk1 at *
            have EBK := Lib.hid hbk
            have HR1 := Lib.hid hr1
            clear hs5 hr1 hbk HR hini hwd hrd
            go_upto_region 21 with fail
            clear e0 e1 e2 e3 e4 e5 e6 e7
            generalize hw5 : wr.alloc (.cells #[.int .i64 k_, .int .i64 wd, .int .i64 sl, .int .i64 cp, .int .u32 sa, .slice X ini.length cX, .int .i64 ow, .slice Y rd.length cY] 61) = w5 at *
            clear hw5
            generalize wr.heap.size = b5 at *
            obtain ⟨q0, q1, q2, q3, q4, q5, q6, q7⟩ := oc HR1.out.blk
            go_wp2_with (at_builtin; go_loud (refine app_bytes rfl (.tmp 88) (.tmp 101) 46 rfl w.heap.size i0 _ Try.underlying46 hi hz0 hz1 hz2 rfl A1 (N) c1 bk1 rfl HR1.out.len (HR1.out.own.same ((Same.refl _).alloc _)) _ 4 4 ([k_ % 256, wd % 256, sl % 256, cp % 256]) rfl rfl (by_row_lit _ _) (by omega) ?c2 ?_))
            case c2 => have := HR1.out.same.size; have := (Same.refl w : Same _ _).size; (first | omega | (simp at this ⊢; omega) | (simp; omega))
            intro A2 c2 w2 ho hc
            have hr2 := Ref.step HR1.out ((Same.refl _).alloc _) hc ho rfl (by decide)
            obtain ⟨bs2, hb2⟩ : ∃ l, l = bk1 ++ ([k_ % 256, wd % 256, sl % 256, cp % 256]) := ⟨_, rfl⟩
            rw [← hb2] at hr2
            have EB2 := Lib.hid hb2
            have HR2 := Lib.hid hr2
            clear ho hc hr2 hb2
            clear q0 q1 q2 q3 q4 q5 q6 q7
            obtain ⟨q0, q1, q2, q3, q4, q5, q6, q7⟩ := oc HR2.out.blk
            go_wp2_with fail
            refine (rbytes33 sa 4 _ (by omega) hsa).mono ?_
            rintro e wq ⟨Aq, cq, rfl, oq, sq⟩
            have rq := oq.row
            clear oq
            obtain ⟨bq, pq, hAq⟩ := Row.addr rq (by rw [by8_len, lo_len]; omega)
            subst hAq
            go_wp2_with (at_builtin; go_loud (refine app_bytes rfl (.tmp 103) (.tmp 107) 46 rfl w.heap.size i0 _ Try.underlying46 hi hz0 hz1 hz2 rfl A2 (N + 4) c2 bs2 rfl HR2.out.len (HR2.out.own.same sq) _ 4 cq (lo sa 4) rfl (lo_len _ _) rq (by omega) ?c2 ?_))
            case c2 => have := HR2.out.same.size; have := (sq : Same _ _).size; (first | omega | (simp at this ⊢; omega) | (simp; omega))
            intro A3 c3 w3 ho hc
            have hr3 := Ref.step HR2.out sq hc ho (lo_len _ _) (by decide)
            obtain ⟨bs3, hb3⟩ : ∃ l, l = bs2 ++ (lo sa 4) := ⟨_, rfl⟩
            rw [← hb3] at hr3
            have EB3 := Lib.hid hb3
            have HR3 := Lib.hid hr3
            clear ho hc hr3 hb3
            clear q0 q1 q2 q3 q4 q5 q6 q7
            obtain ⟨q0, q1, q2, q3, q4, q5, q6, q7⟩ := oc HR3.out.blk
            clear rq sq
            go_wp2_with (at_builtin; go_loud (refine app_bytes rfl (.tmp 109) (.tmp 117) 46 rfl w.heap.size i0 _ Try.underlying46 hi hz0 hz1 hz2 rfl A3 (N + 4 + 4) c3 bs3 rfl HR3.out.len (HR3.out.own.same ((Same.refl _).alloc _)) _ 2 2 ([ow % 256, (rd.length : Int) % 256]) rfl rfl (by_row_lit _ _) (by omega) ?c2 ?_))
            case c2 => have := HR3.out.same.size; have := (Same.refl w : Same _ _).size; (first | omega | (simp at this ⊢; omega) | (simp; omega))
            intro A4 c4 w4 ho hc
            have hr4 := Ref.step HR3.out ((Same.refl _).alloc _) hc ho rfl (by decide)
            obtain ⟨bs4, hb4⟩ : ∃ l, l = bs3 ++ ([ow % 256, (rd.length : Int) % 256]) := ⟨_, rfl⟩
            rw [← hb4] at hr4
            have EB4 := Lib.hid hb4
            have HR4 := Lib.hid hr4
            clear ho hc hr4 hb4
            clear q0 q1 q2 q3 q4 q5 q6 q7
            obtain ⟨q0, q1, q2, q3, q4, q5, q6, q7⟩ := oc HR4.out.blk
            obtain ⟨OV, hOV⟩ : ∃ v : Array Value, v = #[.int .i64 k_, .int .i64 wd, .int .i64 sl, .int .i64 cp, .int .u32 sa, .slice X ini.length cX, .int .i64 ow, .slice Y rd.length cY] := ⟨_, rfl⟩
            have HOV := Lib.hid hOV
            clear hOV
            go_wp2_with fail
            clear q0 q1 q2 q3 q4 q5 q6 q7
            go_loopg [122, 4] rd.length (fun gk iv bv wx => ∃ (j : Nat) (Aj : Option Addr) (Nj cj : Nat), j + gk = rd.length ∧ iv = .int .i64 j ∧ bv = .slice Aj Nj cj ∧ Nj = N + 10 + j ∧ Ref w wx SV b5 61 OV Aj cj (bs4 ++ enc (sm (rd.take j))) Nj)
            case atStart => exact ⟨0, _, _, _, by omega, rfl, rfl, by omega, by rw [HOV.out]; simpa [enc, sm] using HR4.out⟩
            case round =>
              obtain ⟨j, A5, Nj, c5, hj, rfl, rfl, hNj, hr⟩ := hrel
              have HR5 := Lib.hid hr
              have HNJ := Lib.hid hNj
              have hNjs : Nj ≤ 870000 := by have := HFO.out; omega
              clear hr HR4 hNj
              cases gk with
              | succ GJ =>
                have hltj : (j : Int) < rd.length := by omega
                have j0 : (0 : Int) ≤ j := by omega
                obtain ⟨y, hy⟩ : ∃ y, rd[j]? = some y := ⟨_, List.getElem?_eq_getElem (by omega)⟩
                obtain ⟨b', o', rfl, f0⟩ := (HRD.out _ HR5.out.same) j (.int .i64 y) (by rw [List.getElem?_map, hy]; rfl)
                have HEY := Lib.hid (enc_sm hy)
                clear hy
                generalize hbj : bs4 ++ enc (sm (rd.take j)) = bj at *
                have EBJ := Lib.hid hbj
                clear hbj
                go_wp2_with (at_builtin; go_loud (refine app_bytes rfl (.tmp 126) (.tmp 129) 46 rfl w.heap.size i0 _ Try.underlying46 hi hz0 hz1 hz2 rfl A5 (Nj) c5 bj rfl HR5.out.len (HR5.out.own.same ((Same.refl _).alloc _)) _ 1 1 ([y % 256]) rfl rfl (by_row_lit _ _) (by omega) ?c2 ?_))
                case c2 => have := HR5.out.same.size; have := (Same.refl w : Same _ _).size; (first | omega | (simp at this ⊢; omega) | (simp; omega))
                intro A6 c6 w6 ho hc
                have hr6 := Ref.step HR5.out ((Same.refl _).alloc _) hc ho rfl (by decide)
                obtain ⟨bs6, hb6⟩ : ∃ l, l = bj ++ ([y % 256]) := ⟨_, rfl⟩
                rw [← hb6] at hr6
                have EB6 := Lib.hid hb6
                have HR6 := Lib.hid hr6
                clear ho hc hr6 hb6
                have HR3 := Lib.hid (show Ref w w6 SV b5 61 OV A6 c6 (bs4 ++ enc (sm (rd.take (j + 1)))) (Nj + 1) by rw [HEY.out, ← List.append_assoc, EBJ.out, ← EB6.out]; exact HR6.out)
                clear HR6 f0
                obtain ⟨hcm, _⟩ := HFO.out
                go_wp2_with fail
                go_roundg GJ
                case measure => omega
                case rel => exact ⟨j + 1, A6, Nj + 1, c6, by omega, by go_num, rfl, by have := HNJ.out; omega, HR3.out⟩
              | zero =>
                obtain hjr : j = rd.length := by omega
                have hgej : ¬ (j : Int) < (rd.length : Int) := by omega
                have h1 := HR5.out
                rw [List.take_of_length_le (by omega)] at h1
                generalize hb5 : bs4 ++ enc (sm rd) = bs5 at *
                have EB5 := Lib.hid hb5
                have HJR := Lib.hid hjr
                clear HR5
                have HR5 := Lib.hid h1
                clear hb5 h1 hjr
                have hob := HR5.out.blk
                rw [HOV.out] at hob
                obtain ⟨q0, q1, q2, q3, q4, q5, q6, q7⟩ := oc hob
                clear hob
                go_wp2_with (at_builtin; go_loud (refine app_bytes rfl (.tmp 132) (.tmp 137) 46 rfl w.heap.size i0 _ Try.underlying46 hi hz0 hz1 hz2 rfl A5 (Nj) c5 bs5 rfl HR5.out.len (HR5.out.own.same ((Same.refl _).alloc _)) _ 1 1 ([(ini.length : Int) % 256]) rfl rfl (by_row_lit _ _) (by omega) ?c2 ?_))
                case c2 => have := HR5.out.same.size; have := (Same.refl w : Same _ _).size; (first | omega | (simp at this ⊢; omega) | (simp; omega))
                intro A6 c6 w6 ho hc
                have hr6 := Ref.step HR5.out ((Same.refl _).alloc _) hc ho rfl (by decide)
                obtain ⟨bs6, hb6⟩ : ∃ l, l = bs5 ++ ([(ini.length : Int) % 256]) := ⟨_, rfl⟩
                rw [← hb6] at hr6
                have EB6 := Lib.hid hb6
                have HR6 := Lib.hid hr6
                clear ho hc hr6 hb6
                clear q0 q1 q2 q3 q4 q5 q6 q7
                have hob := HR6.out.blk
                rw [HOV.out] at hob
                obtain ⟨q0, q1, q2, q3, q4, q5, q6, q7⟩ := oc hob
                clear hob
                go_wp2_with fail
                clear q0 q1 q2 q3 q4 q5 q6 q7
                go_loopg [142, 4] ini.length (fun gk iv bv wx => ∃ (i : Nat) (Ai : Option Addr) (Ni ci : Nat), i + gk = ini.length ∧ iv = .int .i64 i ∧ bv = .slice Ai Ni ci ∧ Ni = Nj + 1 + 4 * i ∧ Ref w wx SV w.heap.size 25 SV Ai ci (bs6 ++ enc (lg (ini.take i))) Ni)
                case atStart => exact ⟨0, _, _, _, by omega, rfl, rfl, by omega, by simpa [enc, lg] using HR6.out.move (Same.refl _) HR6.out.sys⟩
                case round =>
                  obtain ⟨i, A1, Ni, c1, hi_, rfl, rfl, hNi, hr⟩ := hrel
                  have HR1 := Lib.hid hr
                  have HNI := Lib.hid hNi
                  have hNis : Ni ≤ 880000 := by have := HFO.out; omega
                  clear hr HR6 hNi
                  cases gk with
                  | succ GI =>
                    have hlti : (i : Int) < ini.length := by omega
                    have i0_ : (0 : Int) ≤ i := by omega
                    obtain ⟨y, hy⟩ : ∃ y, ini[i]? = some y := ⟨_, List.getElem?_eq_getElem (by omega)⟩
                    have hyb := HWD.out y (List.mem_of_getElem? hy)
                    obtain ⟨b', o', rfl, f0⟩ := (HINI.out _ HR1.out.same) i (.int .u32 y) (by rw [List.getElem?_map, hy]; rfl)
                    have HEY := Lib.hid (enc_lg hy)
                    clear hy
                    generalize hbj : bs6 ++ enc (lg (ini.take i)) = bj at *
                    have EBJ := Lib.hid hbj
                    clear hbj
                    go_wp2_with fail
                    refine (rbytes33 y 4 _ (by omega) hyb).mono ?_
                    rintro e wq ⟨Aq, cq, rfl, oq, sq⟩
                    have rq := oq.row
                    clear oq
                    obtain ⟨bq, pq, hAq⟩ := Row.addr rq (by rw [by8_len, lo_len]; omega)
                    subst hAq
                    go_wp2_with (at_builtin; go_loud (refine app_bytes rfl (.tmp 146) (.tmp 149) 46 rfl w.heap.size i0 _ Try.underlying46 hi hz0 hz1 hz2 rfl A1 (Ni) c1 bj rfl HR1.out.len (HR1.out.own.same sq) _ 4 cq (lo y 4) rfl (lo_len _ _) rq (by omega) ?c2 ?_))
                    case c2 => have := HR1.out.same.size; have := (sq : Same _ _).size; (first | omega | (simp at this ⊢; omega) | (simp; omega))
                    intro A2 c2 w2 ho hc
                    have hr2 := Ref.step HR1.out sq hc ho (lo_len _ _) (by decide)
                    obtain ⟨bs2, hb2⟩ : ∃ l, l = bj ++ (lo y 4) := ⟨_, rfl⟩
                    rw [← hb2] at hr2
                    have EB2 := Lib.hid hb2
                    have HR2 := Lib.hid hr2
                    clear ho hc hr2 hb2
                    clear rq sq
                    have HR3 := Lib.hid (show Ref w w2 SV w.heap.size 25 SV A2 c2 (bs6 ++ enc (lg (ini.take (i + 1)))) (Ni + 4) by rw [HEY.out, ← List.append_assoc, EBJ.out, ← EB2.out]; exact HR2.out)
                    clear HR2 f0
                    obtain ⟨_, hcm⟩ := HFO.out
                    go_wp2_with fail
                    go_roundg GI
                    case measure => omega
                    case rel => exact ⟨i + 1, A2, Ni + 4, c2, by omega, by go_num, rfl, by have := HNI.out; omega, HR3.out⟩
                  | zero =>
                    obtain hir : i = ini.length := by omega
                    have hgei : ¬ (i : Int) < (ini.length : Int) := by omega
                    have h1 := HR1.out
                    rw [List.take_of_length_le (by omega)] at h1
                    have HR9 := Lib.hid (show Ref w wr SV w.heap.size 25 SV A1 c1 (bs1 ++ enc ((s.os.take (k2 + 1)).flatMap itO)) Ni by
                      have e : bs1 ++ enc ((s.os.take (k2 + 1)).flatMap itO) = bs6 ++ enc (lg ini) := by
                        rw [HEX.out, HTE.out, ← List.append_assoc, EBK.out, EB6.out, ← EB5.out, EB4.out, EB3.out, EB2.out]
                        simp only [List.append_assoc]
                      rw [e]
                      exact h1)
                    clear h1 HR1
                    have hNe : Ni ≤ 524285 + (k2 + 1) * 1300 := by have := HFO.out; have := HNI.out; have := HNJ.out; have := HJR.out; omega
                    obtain ⟨_, hll⟩ := HLL.out
                    clear hir
                    go_wp2_with fail
                    go_roundg GK
                    case measure => omega
                    case rel => exact ⟨k2 + 1, A1, Ni, c1, by omega, by go_num, rfl, hNe, HR9.out⟩
          | zero =>
            obtain rfl : k2 = m := by omega
            have hge2 : ¬ (k2 : Int) < (k2 : Int) := by omega
            have h1 := HR.out
            rw [List.take_of_length_le (by rw [HM.out]; omega), ← HBD.out] at h1
            have hNs : N ≤ 860000 := by have := HLL.out; omega
            have HBL := Lib.hid h1.len
            have HR1 := Lib.hid h1
            clear h1 HR hNb
            have hsb := sumB_bd (body s)
            go_wp2_with fail
            refine (rsum_any A1 N c1 (body s) _ HBL.out (by omega) (body_by s) HR1.out.own.row).mono ?_
            rintro e wz ⟨rfl, rfl⟩
            go_wp2_with fail
            refine (rbytes33 (sumB (body s)) 2 _ (by omega) ⟨hsb.1, by omega⟩).mono ?_
            rintro e wq ⟨Aq, cq, rfl, oq, sq⟩
            have rq := oq.row
            clear oq
            obtain ⟨bq, pq, hAq⟩ := Row.addr rq (by rw [by8_len, lo_len]; omega)
            subst hAq
            go_wp2_with (at_builtin; go_loud (refine app_bytes rfl (.tmp 153) (.tmp 156) 46 rfl w.heap.size i0 _ Try.underlying46 hi hz0 hz1 hz2 rfl A1 N c1 (body s) rfl HBL.out (HR1.out.own.same sq) _ 2 cq (lo (sumB (body s)) 2) rfl (lo_len _ _) rq (by omega) ?c2 ?_))
            case c2 => have := HR1.out.same.size; have := sq.size; omega
            intro A9 c9 w9 ho hc
            have HO9 := Lib.hid ho
            have HS9 := Lib.hid (Same.more (HR1.out.same.trans sq) hc fun g hg => (own_blk HR1.out.own hg).1)
            clear ho hc rq sq
            by_cases hbig : ((N + 2 : Nat) : Int) > 65536
            · have HI := Lib.hid (show img s = none from if_neg (fun h => by have := h.2; have := HBL.out; omega))
              have hbig' : (N : Int) + 2 > 65536 := by omega
              go_wp2_with fail
              go_ret2
              exact encp_none HI.out HS9.out
            · have HI := Lib.hid (show img s = some (body s ++ lo (sumB (body s)) 2) from if_pos ⟨HRM.out, by have := HBL.out; omega⟩)
              have hbig' : ¬ (N : Int) + 2 > 65536 := by omega
              go_wp2_with fail
              go_ret2
              refine encp_some HI.out (by rw [List.length_append, lo_len, HBL.out]) ?_ HS9.out
              have h := own_k HO9.out
              rw [List.length_append, lo_len, HBL.out] at h
              exact h
end Go.Proofs.Ytmbhbbndfmdhfaa.Im
