/-
  Layer 33, plain: the round trip of a system's image.
-/
import Derived.Test.YtfpefkpbiioofabImgTrip2
set_option linter.unusedVariables false
set_option linter.unusedSimpArgs false
namespace Go.Proofs.Ytfpefkpbiioofab.Im

theorem byt_app {a b : List Int} (ha : Byt a) (hb : Byt b) : Byt (a ++ b) := fun x hx => by
  rcases List.mem_append.1 hx with h | h
  · exact ha x h
  · exact hb x h
theorem img_some {s : PS} {x : List Int} (h : img s = some x) : x = body s ++ lo (sumB (body s)) 2 ∧ room s = true ∧ (body s).length + 2 ≤ 65536 := by
  unfold img at h
  split at h
  · next h2 =>
    exact ⟨(Option.some.inj h).symm, h2⟩
  · cases h
theorem img_byt {s : PS} {x : List Int} (h : img s = some x) : Byt x := by
  obtain ⟨rfl, _, _⟩ := img_some h
  exact byt_app (body_by s) (lo_by _ _)
theorem dec_img {s : PS} {x : List Int} (h : img s = some x) : dec x = (s, (0 : Int), (0 : Int)) := by
  have hby := img_byt h
  obtain ⟨hx, hroom, hlen⟩ := img_some h
  have hbl : (body s).length = 3 + (enc (itS s)).length := by rw [body_len, enc_len]
  have hl : x.length = (body s).length + 2 := by rw [hx, List.length_append, lo_len]
  have ht : x.take 3 = hd := by
    rw [hx]
    show ((hd ++ enc (itS s)) ++ _).take 3 = hd
    rfl
  have hd3 : x.drop 3 = enc (itS s) ++ lo (sumB (body s)) 2 := by
    rw [hx]
    rfl
  have htk : x.take (body s).length = body s := by rw [hx, List.take_left]
  have hdk : x.drop (body s).length = lo (sumB (body s)) 2 := by rw [hx, List.drop_left]
  have f3 : aft x 3 ⟨0, false⟩ = ⟨3, false⟩ := by
    unfold aft
    rw [if_pos ⟨rfl, by show 0 + 3 ≤ x.length; omega⟩]
  have s1 : Seg x 3 (body s).length (enc (itS s)) := ⟨hbl, by omega, by rw [hd3, List.take_left]⟩
  have eS := (par_s hby).bwd ⟨3, false⟩ s _ rfl s1 hroom
  have s2 : Seg x (body s).length ((body s).length + 2) (enc [(sumB (body s), 2)]) := by
    rw [enc1]
    refine ⟨by rw [lo_len], by omega, ?_⟩
    rw [hdk, List.take_length]
  have eU := (par_u hby 2).bwd ⟨(body s).length, false⟩ (sumB (body s)) _ rfl s2 (by
    simp only [List.all_cons, List.all_nil, Bool.and_true, fit, decide_eq_true_eq]
    unfold sumB
    omega)
  unfold dec
  rw [if_neg (by omega), if_neg (fun h => h.2 ht)]
  simp only [f3, eS, eU, htk]
  rw [if_neg (by simp), if_neg (by simp), if_neg (by omega)]
theorem dec_cases (b : List Int) : ((dec b).2.2 ≠ 0 ∧ (dec b).1 = ⟨[], []⟩) ∨
    (¬ 65536 < b.length ∧ ¬ (3 ≤ b.length ∧ b.take 3 ≠ hd) ∧ (rU b 2 (rS b (aft b 3 ⟨0, false⟩)).2).2.bad = false ∧ (rU b 2 (rS b (aft b 3 ⟨0, false⟩)).2).1 = sumB (b.take (rS b (aft b 3 ⟨0, false⟩)).2.k) ∧ ¬ (rU b 2 (rS b (aft b 3 ⟨0, false⟩)).2).2.k < b.length ∧ dec b = ((rS b (aft b 3 ⟨0, false⟩)).1, (0 : Int), (0 : Int))) := by
  by_cases c1 : 65536 < b.length
  · have e : dec b = (⟨[], []⟩, 0, 6) := by unfold dec; rw [if_pos c1]
    rw [e]
    exact .inl ⟨by simp, rfl⟩
  by_cases c2 : 3 ≤ b.length ∧ b.take 3 ≠ hd
  · have e : dec b = (⟨[], []⟩, 0, 4) := by unfold dec; rw [if_neg c1, if_pos c2]
    rw [e]
    exact .inl ⟨by simp, rfl⟩
  have e : dec b = if (rU b 2 (rS b (aft b 3 ⟨0, false⟩)).2).2.bad = true then ((⟨[], []⟩ : PS), (b.length : Int), (2 : Int)) else if (rU b 2 (rS b (aft b 3 ⟨0, false⟩)).2).1 ≠ sumB (b.take (rS b (aft b 3 ⟨0, false⟩)).2.k) then ((⟨[], []⟩ : PS), ((rS b (aft b 3 ⟨0, false⟩)).2.k : Int), (4 : Int)) else if (rU b 2 (rS b (aft b 3 ⟨0, false⟩)).2).2.k < b.length then ((⟨[], []⟩ : PS), ((rS b (aft b 3 ⟨0, false⟩)).2.k + 2 : Int), (3 : Int)) else ((rS b (aft b 3 ⟨0, false⟩)).1, (0 : Int), (0 : Int)) := by
    unfold dec
    rw [if_neg c1, if_neg c2]
  generalize rS b (aft b 3 ⟨0, false⟩) = p at *
  obtain ⟨s, r⟩ := p
  simp only at e ⊢
  generalize rU b 2 r = q at *
  obtain ⟨z, r2⟩ := q
  simp only at e ⊢
  by_cases c3 : r2.bad = true
  · rw [if_pos c3] at e
    rw [e]
    exact .inl ⟨by simp, rfl⟩
  rw [if_neg c3] at e
  by_cases c4 : z ≠ sumB (b.take r.k)
  · rw [if_pos c4] at e
    rw [e]
    exact .inl ⟨by simp, rfl⟩
  rw [if_neg c4] at e
  by_cases c5 : r2.k < b.length
  · rw [if_pos c5] at e
    rw [e]
    exact .inl ⟨by simp, rfl⟩
  rw [if_neg c5] at e
  exact .inr ⟨c1, c2, by simpa using c3, by simpa using c4, c5, e⟩
theorem img_dec {b : List Int} (hb : Byt b) (h : (dec b).2.2 = 0) : img (dec b).1 = some b := by
  rcases dec_cases b with ⟨h1, _⟩ | ⟨c1, c2, c3, c4, c5, e⟩
  · exact absurd h h1
  rw [e]
  simp only
  have a1 : (aft b 3 ⟨0, false⟩).k ≤ b.length := rU_le (l := b) (n := 3) (r := ⟨0, false⟩) (Nat.zero_le _)
  have a2 := (par_s hb).le _ a1
  obtain ⟨g1, s1, f1⟩ := (par_u hb 2).fwd _ a2 c3
  obtain ⟨g2, s2, f2⟩ := (par_s hb).fwd _ a1 g1
  have h3 : 3 ≤ b.length ∧ aft b 3 ⟨0, false⟩ = ⟨3, false⟩ := by
    unfold aft at g2 ⊢
    split at g2
    · next h3 =>
      rw [if_pos h3]
      exact ⟨by have := h3.2; simp only at this; omega, rfl⟩
    · cases g2
  have ht : b.take 3 = hd := by
    by_cases ht : b.take 3 = hd
    · exact ht
    · exact absurd ⟨h3.1, ht⟩ c2
  have s0 : Seg b 0 3 hd := ⟨rfl, h3.1, ht⟩
  rw [h3.2] at s1 s2 f1 f2 c4 c5 ⊢
  generalize rS b ⟨3, false⟩ = p at *
  obtain ⟨s, r⟩ := p
  simp only at s1 s2 f1 f2 c4 c5 ⊢
  rw [enc1, c4] at s1
  have sb := s0.app s2
  have hbody : b.take r.k = body s := by
    obtain ⟨e1, e2, e3⟩ := sb
    rw [List.drop_zero] at e3
    rw [e1, Nat.zero_add]
    exact e3
  rw [hbody] at s1
  have hlen := sb.1
  have hall := sb.app s1
  have hk : (rU b 2 r).2.k = b.length := by have := hall.2.1; omega
  have hbb : b = body s ++ lo (sumB (body s)) 2 := by
    obtain ⟨e1, e2, e3⟩ := hall
    rw [List.drop_zero, List.take_of_length_le (by omega)] at e3
    exact e3
  have hbl : (body s).length + 2 = b.length := by
    have := congrArg List.length hbb
    rw [List.length_append, lo_len] at this
    exact this.symm
  unfold img
  rw [if_pos ⟨f2, by omega⟩, ← hbb]
end Go.Proofs.Ytfpefkpbiioofab.Im
