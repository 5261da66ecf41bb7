/-
  Layer 6: from one Save to the next, and through a crash.
-/
import Derived.Test.YtienhidbgohhcaaSnInv
set_option linter.unusedVariables false
set_option linter.unusedSimpArgs false
namespace Go.Proofs.Ytienhidbgohhcaa
open Go.RowKit

section
variable {R R' : List Int} {n k p : Nat} {x bs : List Int}
theorem mul01 {i m : Nat} (h : i < 2) : i * m = if i = 0 then 0 else m := by
  have : i = 0 ∨ i = 1 := by omega
  rcases this with rfl | rfl <;> simp
/-- The other place is written whole. -/
theorem WInv.fresh (h : WInv R n k x p) (hn : 4 ≤ n) (hn2 : n ≤ 1000) (hk : k ≤ 1000) (hl : bs.length ≤ 64 * (n / 2 - 1)) (ho : ∀ j, ¬ ((1 - p) * (n / 2) ≤ j ∧ j < (1 - p) * (n / 2) + n / 2) → Dk.sec R' j = Dk.sec R j)
    (hh : Dk.sec R' ((1 - p) * (n / 2)) = hdrL (k + 1) bs.length 7 (crcOf bs).toNat) (hd : ∀ j, j < (bs.length + 63) / 64 → Dk.sec R' ((1 - p) * (n / 2) + 1 + j) = part bs j) : WInv R' n (k + 1) bs (1 - p) := by
  have hp2 := h.p2
  have e1 : 1 - (1 - p) = p := by omega
  have e2 : slotOf R' n p = slotOf R n p := slot_congr (by omega) fun j h1 h2 => ho j (by
    have a1 := mul01 (m := n / 2) hp2
    have a2 := mul01 (m := n / 2) (show 1 - p < 2 by omega)
    rw [a1] at h1 h2
    rw [a2]
    have : p = 0 ∨ p = 1 := by omega
    rcases this with rfl | rfl
    · simp at h1 h2 ⊢; omega
    · simp at h1 h2 ⊢; omega)
  refine ⟨by omega, by omega, ?_, ?_⟩
  · rw [if_neg (by omega), slot_whole (by omega) (by omega) (by omega) hl hn2 hh hd]
    rfl
  · rw [e1, e2, h.me]
    split
    · exact .inl rfl
    · right; dsimp only; omega
/-- The other place has no header, or one that is old. -/
theorem WInv.stale (h : WInv R n k x p) (hn : 4 ≤ n) (ho : ∀ j, ¬ ((1 - p) * (n / 2) ≤ j ∧ j < (1 - p) * (n / 2) + n / 2) → Dk.sec R' j = Dk.sec R j) (hh : LN (Dk.sec R' ((1 - p) * (n / 2))) < max (k : Int) 1 ∨ isHdr (Dk.sec R' ((1 - p) * (n / 2))) = false) : WInv R' n k x p := by
  have hp2 := h.p2
  have e2 : slotOf R' n p = slotOf R n p := slot_congr (by omega) fun j h1 h2 => ho j (by
    have a1 := mul01 (m := n / 2) hp2
    have a2 := mul01 (m := n / 2) (show 1 - p < 2 by omega)
    rw [a1] at h1 h2
    rw [a2]
    have : p = 0 ∨ p = 1 := by omega
    rcases this with rfl | rfl
    · simp at h1 h2 ⊢; omega
    · simp at h1 h2 ⊢; omega)
  refine ⟨hp2, h.p0, by rw [e2]; exact h.me, ?_⟩
  rcases hh with hh | hh
  · by_cases hk : k = 0
    · left
      apply slot_nohdr
      cases hx : isHdr (hdrOf R' n (1 - p))
      · rfl
      · have := (isHdr_eq hx).1
        rw [← LN_hdr hx] at this
        have h3 : LN (hdrOf R' n (1 - p)) < max (k : Int) 1 := hh
        omega
    · exact slot_low (show LN (hdrOf R' n (1 - p)) < (k : Int) from by have h3 : LN (hdrOf R' n (1 - p)) < max (k : Int) 1 := hh; omega)
  · exact .inl (slot_nohdr hh)
/-- What a Save lays, sector by sector. -/
theorem laid_secs {at' N K : Nat} {H : List Int} (hl : R.length = 64 * N) (hK : at' + 1 + K ≤ N) (hH : H.length = 64) :
    (∀ j, ¬ (at' ≤ j ∧ j < at' + 1 + K) → Dk.sec (splice (putSeq at' bs R K) (64 * at') H) j = Dk.sec R j) ∧ Dk.sec (splice (putSeq at' bs R K) (64 * at') H) at' = H ∧
      (∀ j, j < K → Dk.sec (splice (putSeq at' bs R K) (64 * at') H) (at' + 1 + j) = part bs j) := by
  have hpl := putSeq_len (bs := bs) hl K hK
  refine ⟨fun j hj => ?_, sec_splice_same hpl (by omega) hH, fun j hj => ?_⟩
  · rw [Dk.sec_splice_other hpl (by omega) (by omega) (by omega), putSeq_other hl K hK (fun k hk => by omega)]
  · rw [Dk.sec_splice_other hpl (by omega) (by omega) (by omega), putSeq_same hl K hK j hj]
end
/-- What waits and is settled: each sector is as it lasts, or as it was. -/
theorem aft_pair {m : Nat → Nat} {ws : List (Nat × List Int)} {r : List Int × List Int} {N : Nat} (h1 : r.1.length = 64 * N) (h2 : r.2.length = 64 * N) (hw : ∀ x ∈ ws, x.1 < N ∧ x.2.length = 64) (i : Nat) :
    ∀ k, k ≤ ws.length → Dk.sec (Dk.aft m ws r k).1 i = Dk.sec (Dk.aft m ws r k).2 i ∨ (Dk.sec (Dk.aft m ws r k).1 i = Dk.sec r.1 i ∧ Dk.sec (Dk.aft m ws r k).2 i = Dk.sec r.2 i ∧ ∀ j, j < k → (ws.getD j (0, [])).1 ≠ i)
  | 0, _ => .inr ⟨rfl, rfl, fun j hj => by omega⟩
  | k + 1, hk => by
    have ih := aft_pair (m := m) h1 h2 hw i k (by omega)
    have hl := Dk.aft_len (m := m) h1 h2 hw k (by omega)
    have hm : ws.getD k (0, []) ∈ ws := by rw [List.getD_eq_getElem?_getD, List.getElem?_eq_getElem (by omega)]; simp
    have hx := hw _ hm
    have e1 : (Dk.aft m ws r (k + 1)).1 = splice (Dk.aft m ws r k).1 (64 * (ws.getD k (0, [])).1) (Dk.sec (splice (Dk.aft m ws r k).2 (64 * (ws.getD k (0, [])).1) ((ws.getD k (0, [])).2.take (m k))) (ws.getD k (0, [])).1) := rfl
    have e2 : (Dk.aft m ws r (k + 1)).2 = splice (Dk.aft m ws r k).2 (64 * (ws.getD k (0, [])).1) ((ws.getD k (0, [])).2.take (m k)) := rfl
    have hl2 : (splice (Dk.aft m ws r k).2 (64 * (ws.getD k (0, [])).1) ((ws.getD k (0, [])).2.take (m k))).length = 64 * N := len_splice hl.2 hx.1 (by rw [List.length_take, hx.2]; omega)
    by_cases e : (ws.getD k (0, [])).1 = i
    · left
      rw [e1, e2, e]
      rw [e] at hl2 hx
      exact sec_splice_same hl.1 hx.1 (Dk.sec_len hl2 hx.1)
    · have o1 : Dk.sec (Dk.aft m ws r (k + 1)).1 i = Dk.sec (Dk.aft m ws r k).1 i := by
        rw [e1]
        exact Dk.sec_splice_other hl.1 hx.1 (by rw [show (Dk.sec _ _).length = 64 from Dk.sec_len hl2 hx.1]; omega) (fun h => e h.symm)
      have o2 : Dk.sec (Dk.aft m ws r (k + 1)).2 i = Dk.sec (Dk.aft m ws r k).2 i := by
        rw [e2]
        exact Dk.sec_splice_other hl.2 hx.1 (by rw [List.length_take, hx.2]; omega) (fun h => e h.symm)
      rw [o1, o2]
      rcases ih with ih | ⟨i1, i2, i3⟩
      · exact .inl ih
      · refine .inr ⟨i1, i2, fun j hj => ?_⟩
        by_cases hjk : j = k
        · rw [hjk]; exact e
        · exact i3 j (by omega)
/-- A disk without writes that wait. -/
structure Still (n : Nat) (A : Dk.DV) : Prop where
  fits : Dk.Fits n A
  wait : A.wait = []
  same : A.seen = A.last
/-- Behind a crash nothing waits. -/
theorem Still.crash {n : Nat} {B : Dk.DV} {m : Nat → Nat} (hf : Dk.Fits n B) (hc : ∀ i, i < n → (∀ x ∈ B.wait, x.1 ≠ i) → Dk.sec B.seen i = Dk.sec B.last i) : Still n (B.crash m) := by
  have hff := hf.crash m
  refine ⟨hff, rfl, eq_of_secs hff.seen hff.last fun i hi => ?_⟩
  have := aft_pair (m := m) (r := (B.seen, B.last)) hf.seen hf.last hf.wait i B.wait.length (Nat.le_refl _)
  rcases this with h | ⟨h1, h2, h3⟩
  · exact h
  · show Dk.sec (Dk.aft m B.wait (B.seen, B.last) B.wait.length).1 i = Dk.sec (Dk.aft m B.wait (B.seen, B.last) B.wait.length).2 i
    rw [h1, h2]
    refine hc i hi fun x hx => ?_
    obtain ⟨j, hj, rfl⟩ := List.getElem_of_mem hx
    have := h3 j hj
    rwa [List.getD_eq_getElem?_getD, List.getElem?_eq_getElem hj] at this
section
variable {A : Dk.DV} {n k p q : Nat} {x bs : List Int}
theorem saved_eq (h : WInv A.seen n k x p) : A.saved n 7 bs = ((A.putsTo ((1 - p) * (n / 2)) bs ((bs.length + 63) / 64)).flushes.writes ((1 - p) * (n / 2)) (hdrL (k + 1) bs.length 7 (crcOf bs).toNat)).flushes := by
  unfold Dk.DV.saved
  rw [h.great]
  rw [show ((7 : Nat) : Int) = 7 from rfl, h.place, Int.toNat_natCast]
theorem place_fits (hp : p < 2) (hn : 4 ≤ n) (hl : bs.length ≤ 64 * (n / 2 - 1)) : (1 - p) * (n / 2) + 1 + (bs.length + 63) / 64 ≤ (1 - p) * (n / 2) + n / 2 ∧ (1 - p) * (n / 2) + n / 2 ≤ n := by
  rw [mul01 (m := n / 2) (show 1 - p < 2 by omega)]
  split <;> omega
/-- A Save with power. -/
theorem save_done (hs : Still n A) (h : WInv A.seen n k x p) (hn : 4 ≤ n) (hk : k ≤ 1000) (hl : bs.length ≤ 64 * (n / 2 - 1)) (hq : A.stop = ((A.ops + q : Nat) : Int)) (hqk : (bs.length + 63) / 64 + 3 ≤ q) :
    Still n (A.saved n 7 bs) ∧ WInv (A.saved n 7 bs).seen n (k + 1) bs (1 - p) ∧ (A.saved n 7 bs).ops = A.ops + (bs.length + 63) / 64 + 3 ∧ (A.saved n 7 bs).stop = A.stop ∧ (SInv A.seen n k x p → SInv (A.saved n 7 bs).seen n (k + 1) bs (1 - p)) := by
  obtain ⟨f1, f2⟩ := place_fits h.p2 hn hl
  have hK : (1 - p) * (n / 2) + 1 + (bs.length + 63) / 64 ≤ n := by omega
  have hH := hdrL_len (k + 1) bs.length 7 (crcOf bs).toNat
  rw [saved_eq h, save_state hs.fits.seen hs.same hs.wait hq hK hH, if_neg (by omega), if_neg (by omega), if_neg (by omega)]
  obtain ⟨s1, s2, s3⟩ := laid_secs (bs := bs) (H := hdrL (k + 1) bs.length 7 (crcOf bs).toNat) hs.fits.seen hK hH
  have hlen := len_splice (putSeq_len (bs := bs) hs.fits.seen _ hK) (show (1 - p) * (n / 2) < n by omega) (show (hdrL (k + 1) bs.length 7 (crcOf bs).toNat).length ≤ 64 by omega)
  have ho : ∀ j, ¬ ((1 - p) * (n / 2) ≤ j ∧ j < (1 - p) * (n / 2) + n / 2) → Dk.sec (splice (putSeq ((1 - p) * (n / 2)) bs A.seen ((bs.length + 63) / 64)) (64 * ((1 - p) * (n / 2))) (hdrL (k + 1) bs.length 7 (crcOf bs).toNat)) j = Dk.sec A.seen j := fun j hj => s1 j (by omega)
  have hw := h.fresh hn (by have := hs.fits.small; omega) hk hl ho s2 s3
  refine ⟨⟨⟨hlen, hlen, (fun x hx => by cases hx), hs.fits.small⟩, rfl, rfl⟩, hw, rfl, rfl, fun hi => ⟨hw, ?_, ?_⟩⟩
  · show LN (Dk.sec _ _) < _
    rw [s2]
    have := LN_hdr (isHdr_hdr (e := k + 1) (sz := bs.length) (f := 7) (s := (crcOf bs).toNat) (by omega) (by omega) (by have := hs.fits.small; omega) (by omega) (by have := crcOf_range bs; omega))
    rw [this, hE_hdr (by omega)]
    omega
  · have e1 : 1 - (1 - p) = p := by have := h.p2; omega
    rw [e1]
    show LN (Dk.sec _ _) < _
    have hp2 := h.p2
    rw [ho (p * (n / 2)) (by
      rw [mul01 (m := n / 2) hp2, mul01 (m := n / 2) (show 1 - p < 2 by omega)]
      have : p = 0 ∨ p = 1 := by omega
      rcases this with rfl | rfl <;> simp <;> omega)]
    have := hi.l1
    unfold hdrOf at this
    omega
/-- A Save, and a crash at any point of it. -/
theorem save_crash {m : Nat → Nat} (hm : ∀ k, m k ≤ 64) (hs : Still n A) (hI : SInv A.seen n k x p) (hn : 4 ≤ n) (hk : k ≤ 1000) (hl : bs.length ≤ 64 * (n / 2 - 1)) (hq : A.stop = ((A.ops + q : Nat) : Int)) (hfB : Dk.Fits n (A.saved n 7 bs)) :
    Still n ((A.saved n 7 bs).crash m) ∧ (WInv ((A.saved n 7 bs).crash m).seen n k x p ∨ WInv ((A.saved n 7 bs).crash m).seen n (k + 1) bs (1 - p)) ∧ ((A.saved n 7 bs).dead = false → WInv ((A.saved n 7 bs).crash m).seen n (k + 1) bs (1 - p)) ∧
      (A.saved n 7 bs).ops ≤ A.ops + (bs.length + 63) / 64 + 3 := by
  have h := hI.w
  obtain ⟨f1, f2⟩ := place_fits h.p2 hn hl
  have hK : (1 - p) * (n / 2) + 1 + (bs.length + 63) / 64 ≤ n := by omega
  have hH := hdrL_len (k + 1) bs.length 7 (crcOf bs).toNat
  have hst := save_state (bs := bs) hs.fits.seen hs.same hs.wait hq hK hH
  rw [← saved_eq h] at hst
  generalize A.saved n 7 bs = B at *
  have hl0 := hs.fits.seen
  have hl2 : LN (Dk.sec A.seen ((1 - p) * (n / 2))) < max (k : Int) 1 := hI.l2
  obtain ⟨at', hat⟩ : ∃ a, (1 - p) * (n / 2) = a := ⟨_, rfl⟩
  obtain ⟨K, hKe⟩ : ∃ K, (bs.length + 63) / 64 = K := ⟨_, rfl⟩
  rw [hat, hKe] at hK hst f1
  rw [hat] at hl2 f2
  rw [hKe]
  have hstale : ∀ R', (∀ j, ¬ (at' ≤ j ∧ j < at' + n / 2) → Dk.sec R' j = Dk.sec A.seen j) → (LN (Dk.sec R' at') < max (k : Int) 1 ∨ isHdr (Dk.sec R' at') = false) → WInv R' n k x p := fun R' a b => h.stale hn (by rw [hat]; exact a) (by rw [hat]; exact b)
  have hfresh : ∀ R', (∀ j, ¬ (at' ≤ j ∧ j < at' + n / 2) → Dk.sec R' j = Dk.sec A.seen j) → Dk.sec R' at' = hdrL (k + 1) bs.length 7 (crcOf bs).toNat → (∀ j, j < K → Dk.sec R' (at' + 1 + j) = part bs j) → WInv R' n (k + 1) bs (1 - p) := fun R' a b c =>
    h.fresh hn (by have := hs.fits.small; omega) hk hl (by rw [hat]; exact a) (by rw [hat]; exact b) (by rw [hat, hKe]; exact c)
  by_cases h1 : q ≤ K
  · -- the bytes
    rw [if_pos h1, puts_state hs.wait hq K, Nat.min_eq_right h1] at hst
    have hoth : ∀ j, (∀ y ∈ waitSeq at' bs q, y.1 ≠ j) → Dk.sec (putSeq at' bs A.seen q) j = Dk.sec A.seen j := fun j hj => putSeq_other hl0 q (by omega) (fun t ht e => hj (at' + 1 + t, part bs t) (by simp [waitSeq]; exact ⟨t, ht, rfl, rfl⟩) e.symm)
    have hmem : ∀ j, ¬ (at' + 1 ≤ j ∧ j < at' + 1 + q) → ∀ y ∈ waitSeq at' bs q, y.1 ≠ j := by
      intro j hj y hy
      simp only [waitSeq, List.mem_map, List.mem_range] at hy
      obtain ⟨t, ht, rfl⟩ := hy
      dsimp only
      omega
    have hsec : ∀ j, ¬ (at' + 1 ≤ j ∧ j < at' + 1 + q) → Dk.sec (B.crash m).seen j = Dk.sec A.seen j := fun j hj => by
      rw [Dk.crash_sec hfB (by rw [hst]; exact hmem j hj), hst]
      exact hoth j (hmem j hj)
    have hW : WInv (B.crash m).seen n k x p := hstale _ (fun j hj => hsec j (by omega)) (.inl (by rw [hsec at' (by omega)]; exact hl2))
    refine ⟨Still.crash hfB (fun i hi hx => ?_), .inl hW, fun hd => ?_, by rw [hst]; dsimp only; omega⟩
    · rw [hst] at hx ⊢
      dsimp only at hx ⊢
      rw [hoth i hx, hs.same]
    · rw [hst, dead_mk _ _ _ _ _ _ hq] at hd
      simp at hd
  · rw [if_neg h1] at hst
    have hpl := putSeq_len (bs := bs) hl0 K hK
    by_cases h2 : q = K + 1
    · rw [if_pos h2] at hst
      have hseen : (B.crash m).seen = putSeq at' bs A.seen K := by rw [hst]; rfl
      have hW : WInv (B.crash m).seen n k x p := hstale _ (fun j hj => by rw [hseen]; exact putSeq_other hl0 K hK (fun t ht => by omega)) (.inl (by rw [hseen, putSeq_other hl0 K hK (fun t ht => by omega)]; exact hl2))
      refine ⟨Still.crash hfB (fun i hi hx => by rw [hst]), .inl hW, fun hd => ?_, by rw [hst]; dsimp only; omega⟩
      rw [hst, dead_mk _ _ _ _ _ _ hq] at hd
      simp at hd
      omega
    · rw [if_neg h2] at hst
      obtain ⟨s1, s2, s3⟩ := laid_secs (bs := bs) (H := hdrL (k + 1) bs.length 7 (crcOf bs).toNat) hl0 hK hH
      by_cases h3 : q = K + 2
      · rw [if_pos h3] at hst
        have hT : Dk.sec (putSeq at' bs A.seen K) at' = Dk.sec A.seen at' := putSeq_other hl0 K hK (fun t ht => by omega)
        have hTl : (Dk.sec A.seen at').length = 64 := Dk.sec_len hl0 (by omega)
        have htk : ((hdrL (k + 1) bs.length 7 (crcOf bs).toNat).take (m 0)).length = m 0 := by rw [List.length_take, hH]; have := hm 0; omega
        have hseen : (B.crash m).seen = splice (splice (putSeq at' bs A.seen K) (64 * at') (hdrL (k + 1) bs.length 7 (crcOf bs).toNat)) (64 * at') (Dk.sec (splice (putSeq at' bs A.seen K) (64 * at') ((hdrL (k + 1) bs.length 7 (crcOf bs).toNat).take (m 0))) at') := by rw [hst]; rfl
        have hls := len_splice hpl (show at' < n by omega) (show (hdrL (k + 1) bs.length 7 (crcOf bs).toNat).length ≤ 64 by omega)
        have hln : (Dk.sec (splice (putSeq at' bs A.seen K) (64 * at') ((hdrL (k + 1) bs.length 7 (crcOf bs).toNat).take (m 0))) at').length = 64 := Dk.sec_len (len_splice hpl (show at' < n by omega) (by rw [htk]; exact hm 0)) (by omega)
        have hhd : Dk.sec (B.crash m).seen at' = (hdrL (k + 1) bs.length 7 (crcOf bs).toNat).take (m 0) ++ (Dk.sec A.seen at').drop (m 0) := by
          rw [hseen, sec_splice_same hls (by omega) hln, sec_splice_part hpl (by omega) (by rw [htk]; exact hm 0), htk, hT]
        have hso : ∀ j, j ≠ at' → Dk.sec (B.crash m).seen j = Dk.sec (splice (putSeq at' bs A.seen K) (64 * at') (hdrL (k + 1) bs.length 7 (crcOf bs).toNat)) j := fun j hj => by
          rw [hseen]
          exact Dk.sec_splice_other hls (by omega) (by omega) hj
        have ho : ∀ j, ¬ (at' ≤ j ∧ j < at' + n / 2) → Dk.sec (B.crash m).seen j = Dk.sec A.seen j := fun j hj => by
          rw [hso j (by omega), s1 j (by omega)]
        have hW : WInv (B.crash m).seen n k x p ∨ WInv (B.crash m).seen n (k + 1) bs (1 - p) := by
          rcases torn hTl (hm 0) hhd with e | e | e
          · exact .inl (hstale _ ho (.inl (by rw [e]; exact hl2)))
          · exact .inl (hstale _ ho (.inr e))
          · exact .inr (hfresh _ ho e (fun j hj => by rw [hso _ (by omega)]; exact s3 j hj))
        refine ⟨Still.crash hfB (fun i hi hx => ?_), hW, fun hd => ?_, by rw [hst]; dsimp only; omega⟩
        · rw [hst] at hx ⊢
          dsimp only at hx ⊢
          exact Dk.sec_splice_other hpl (by omega) (by omega) (fun e => hx (at', hdrL (k + 1) bs.length 7 (crcOf bs).toNat) (by simp) e.symm)
        · rw [hst, dead_mk _ _ _ _ _ _ hq] at hd
          simp at hd
          omega
      · rw [if_neg h3] at hst
        have hseen : (B.crash m).seen = splice (putSeq at' bs A.seen K) (64 * at') (hdrL (k + 1) bs.length 7 (crcOf bs).toNat) := by rw [hst]; rfl
        have hW : WInv (B.crash m).seen n (k + 1) bs (1 - p) := hfresh _ (fun j hj => by rw [hseen]; exact s1 j (by omega)) (by rw [hseen]; exact s2) (fun j hj => by rw [hseen]; exact s3 j hj)
        exact ⟨Still.crash hfB (fun i hi hx => by rw [hst]), .inr hW, fun _ => hW, by rw [hst]; exact Nat.le_refl _⟩
end
end Go.Proofs.Ytienhidbgohhcaa
