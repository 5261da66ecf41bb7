/- By program out of: DelRules. -/
import Derived.Test.YtomoemgoglghlaaDoorMncebfd
/-
  DeltaRules: the law's walk.
-/
set_option linter.unusedVariables false
set_option linter.unusedSimpArgs false
namespace Go.Proofs.YtomoemgoglghlaaDoor
open Go.RowKit Rep


set_option maxRecDepth 100000 in
set_option maxHeartbeats 32000000 in
theorem rulesD_raw {xs us ys vs zs ts ks : Bool} {xa xb ua ub ya yb va vb za zb ta tb ka kb : Option Addr} {xl xc xk xe ul uc uk ue yl yc yk ye vl vc vk ve zl zc zk ze tl tc tk te kl kc kk ke : Nat} {w : World} {o : Bool}
    (hodd : ∀ W gg, Below w.heap.size w W → W.heap[gg]? = some (.cells #[.bool xs, .slice xa xl xc, .slice xb xk xe, .bool us, .slice ua ul uc, .slice ub uk ue, .bool ys, .slice ya yl yc, .slice yb yk ye, .bool vs, .slice va vl vc, .slice vb vk ve, .bool zs, .slice za zl zc, .slice zb zk ze, .bool ts, .slice ta tl tc, .slice tb tk te, .bool ks, .slice ka kl kc, .slice kb kk ke, .bool false, .slice none 0 0, .slice none 0 0] 29 (0, 0)) → Calls Tryd.prog 5 #[.slice (some ⟨gg, 0, none⟩) 4 4] W (GivesB o W))
    (hv : o = false → ∃ q r q' r' q2 r2 kq, (VQ q (xs, (xa, xl, xc), (xb, xk, xe)) w ∧ VQ r (us, (ua, ul, uc), (ub, uk, ue)) w ∧ VQ q' (ys, (ya, yl, yc), (yb, yk, ye)) w ∧ VQ r' (vs, (va, vl, vc), (vb, vk, ve)) w ∧ VQ q2 (zs, (za, zl, zc), (zb, zk, ze)) w ∧ VQ r2 (ts, (ta, tl, tc), (tb, tk, te)) w ∧ VQ kq (ks, (ka, kl, kc), (kb, kk, ke)) w) ∧ szQ q ≤ 6 ∧ szQ r ≤ 6 ∧ szQ q' ≤ 6 ∧ szQ r' ≤ 6 ∧ szQ q2 ≤ 6 ∧ szQ r2 ≤ 6 ∧ szQ kq ≤ 6) (hT : Tab w) :
    Calls Tryd.prog 3 #[.agg #[.bool xs, .slice xa xl xc, .slice xb xk xe, .bool us, .slice ua ul uc, .slice ub uk ue], .agg #[.bool ys, .slice ya yl yc, .slice yb yk ye, .bool vs, .slice va vl vc, .slice vb vk ve], .agg #[.bool zs, .slice za zl zc, .slice zb zk ze, .bool ts, .slice ta tl tc, .slice tb tk te], .agg #[.bool ks, .slice ka kl kc, .slice kb kk ke]] w (Holds w) := by
  obtain ⟨W0, hW0, hB0, bx0, bx1, bx2, bx3, hsz⟩ := boxes4q w #[.bool xs, .slice xa xl xc, .slice xb xk xe, .bool us, .slice ua ul uc, .slice ub uk ue] #[.bool ys, .slice ya yl yc, .slice yb yk ye, .bool vs, .slice va vl vc, .slice vb vk ve] #[.bool zs, .slice za zl zc, .slice zb zk ze, .bool ts, .slice ta tl tc, .slice tb tk te] #[.bool ks, .slice ka kl kc, .slice kb kk ke] 29 29 29 27
  have HSP := Lib.hid (speaks03 (hT.kept hB0))
  have HK : Hid (∀ W, Below W0.heap.size W0 W → (W.cell? ⟨w.heap.size, 0, none⟩ = some (.bool xs) ∧ W.cell? ⟨w.heap.size, 1, none⟩ = some (.slice xa xl xc) ∧ W.cell? ⟨w.heap.size, 2, none⟩ = some (.slice xb xk xe) ∧ W.cell? ⟨w.heap.size, 3, none⟩ = some (.bool us) ∧ W.cell? ⟨w.heap.size, 4, none⟩ = some (.slice ua ul uc) ∧ W.cell? ⟨w.heap.size, 5, none⟩ = some (.slice ub uk ue) ∧ W.cell? ⟨w.heap.size + 1, 0, none⟩ = some (.bool ys) ∧ W.cell? ⟨w.heap.size + 1, 1, none⟩ = some (.slice ya yl yc) ∧ W.cell? ⟨w.heap.size + 1, 2, none⟩ = some (.slice yb yk ye) ∧ W.cell? ⟨w.heap.size + 1, 3, none⟩ = some (.bool vs) ∧ W.cell? ⟨w.heap.size + 1, 4, none⟩ = some (.slice va vl vc) ∧ W.cell? ⟨w.heap.size + 1, 5, none⟩ = some (.slice vb vk ve) ∧ W.cell? ⟨w.heap.size + 1 + 1, 0, none⟩ = some (.bool zs) ∧ W.cell? ⟨w.heap.size + 1 + 1, 1, none⟩ = some (.slice za zl zc) ∧ W.cell? ⟨w.heap.size + 1 + 1, 2, none⟩ = some (.slice zb zk ze) ∧ W.cell? ⟨w.heap.size + 1 + 1, 3, none⟩ = some (.bool ts) ∧ W.cell? ⟨w.heap.size + 1 + 1, 4, none⟩ = some (.slice ta tl tc) ∧ W.cell? ⟨w.heap.size + 1 + 1, 5, none⟩ = some (.slice tb tk te) ∧ W.cell? ⟨w.heap.size + 1 + 1 + 1, 0, none⟩ = some (.bool ks) ∧ W.cell? ⟨w.heap.size + 1 + 1 + 1, 1, none⟩ = some (.slice ka kl kc) ∧ W.cell? ⟨w.heap.size + 1 + 1 + 1, 2, none⟩ = some (.slice kb kk ke))) := Lib.hid fun W h => by
    obtain ⟨k0, k1, k2, k3, k4, k5, _⟩ := cells6 (stay bx0 h)
    obtain ⟨k6, k7, k8, k9, k10, k11, _⟩ := cells6 (stay bx1 h)
    obtain ⟨k12, k13, k14, k15, k16, k17, _⟩ := cells6 (stay bx2 h)
    obtain ⟨k18, k19, k20, _⟩ := cells3 (stay bx3 h)
    exact ⟨k0, k1, k2, k3, k4, k5, k6, k7, k8, k9, k10, k11, k12, k13, k14, k15, k16, k17, k18, k19, k20⟩
  have HOW := Lib.hid (fun W gg (h : Below W0.heap.size W0 W) => hodd W gg (hB0.trans (h.mono hB0.size)))
  have HV := Lib.hid hv
  have HT := Lib.hid (hT.kept hB0)
  have HB := Lib.hid hB0
  have HSZ := Lib.hid hsz
  have HW0 := Lib.hid hW0
  obtain ⟨k0, k1, k2, k3, k4, k5, k6, k7, k8, k9, k10, k11, k12, k13, k14, k15, k16, k17, k18, k19, k20⟩ := HK.out W0 (Below.refl _ _)
  clear hW0 hB0 bx0 bx1 bx2 bx3 hodd hv hT hsz
  go_enter Tryd.func3, Tryd.ntmps3
  go_wp2_with fail
  rw [← HW0.out]
  refine HSP.out.mono ?_
  rintro e w1 ⟨rfl, hb1⟩
  obtain ⟨k0, k1, k2, k3, k4, k5, k6, k7, k8, k9, k10, k11, k12, k13, k14, k15, k16, k17, k18, k19, k20⟩ := HK.out _ hb1
  obtain ⟨w2, hw2⟩ : ∃ w2, w2 = w1.alloc (.cells #[.bool xs, .slice xa xl xc, .slice xb xk xe, .bool us, .slice ua ul uc, .slice ub uk ue, .bool ys, .slice ya yl yc, .slice yb yk ye, .bool vs, .slice va vl vc, .slice vb vk ve, .bool zs, .slice za zl zc, .slice zb zk ze, .bool ts, .slice ta tl tc, .slice tb tk te, .bool ks, .slice ka kl kc, .slice kb kk ke, .bool false, .slice none 0 0, .slice none 0 0] 29) := ⟨_, rfl⟩
  have hb2 : Below w1.heap.size w1 w2 := by rw [hw2]; exact (Below.refl _ _).alloc (Nat.le_refl _) _
  have hb02 := hb1.trans (hb2.mono hb1.size)
  have HOD := Lib.hid (HOW.out w2 w1.heap.size hb02 (by rw [hw2]; exact heap_alloc_new w1 _))
  have HB2 := Lib.hid hb02
  have HW2 := Lib.hid hw2
  clear hb1 hb2 hb02 hw2 HSP HOW
  go_wp2_with fail
  rw [← HW2.out]
  cases o
  case true =>
    refine HOD.out.mono ?_
    rintro e w3 ⟨rfl, hb3⟩
    have HE := Lib.hid (HB.out.trans ((HB2.out.trans (hb3.mono HB2.out.size)).mono HB.out.size))
    clear hb3 HOD
    go_wp2_with fail
    go_ret
    exact ⟨rfl, HE.out⟩
  case false =>
  obtain ⟨q, r, q', r', q2, r2, kq, hvq, hzz⟩ := HV.out rfl
  have HZ := Lib.hid hzz
  refine HOD.out.mono ?_
  rintro e w3 ⟨rfl, hb3⟩
  obtain ⟨w5, hw5⟩ : ∃ w5, w5 = w3.alloc (.cells #[.int .i64 1000, .bool false] 48) := ⟨_, rfl⟩
  have hb35 : Below w3.heap.size w3 w5 := by rw [hw5]; exact (Below.refl _ _).alloc (Nat.le_refl _) _
  have hb03 := HB2.out.trans (hb3.mono HB2.out.size)
  have hb05 := hb03.trans (hb35.mono hb03.size)
  have hbe : Bench w5 w3.heap.size 1000 false := by rw [hw5]; exact heap_alloc_new w3 _
  have HBW := Lib.hid (HB.out.trans (hb05.mono HB.out.size))
  have HGE : Hid (w.heap.size ≤ w3.heap.size) := Lib.hid (by have := HB.out.size; have := hb03.size; omega)
  have HR5 := Lib.hid (Room.refl hbe (HT.out.kept hb05))
  have hk5 := HK.out _ hb05
  have hs0 := HSZ.out
  have hs3 := hb03.size
  have HK5 : Hid (∀ W, Room w3.heap.size w5 W → (W.cell? ⟨w.heap.size, 0, none⟩ = some (.bool xs) ∧ W.cell? ⟨w.heap.size, 1, none⟩ = some (.slice xa xl xc) ∧ W.cell? ⟨w.heap.size, 2, none⟩ = some (.slice xb xk xe) ∧ W.cell? ⟨w.heap.size, 3, none⟩ = some (.bool us) ∧ W.cell? ⟨w.heap.size, 4, none⟩ = some (.slice ua ul uc) ∧ W.cell? ⟨w.heap.size, 5, none⟩ = some (.slice ub uk ue) ∧ W.cell? ⟨w.heap.size + 1, 0, none⟩ = some (.bool ys) ∧ W.cell? ⟨w.heap.size + 1, 1, none⟩ = some (.slice ya yl yc) ∧ W.cell? ⟨w.heap.size + 1, 2, none⟩ = some (.slice yb yk ye) ∧ W.cell? ⟨w.heap.size + 1, 3, none⟩ = some (.bool vs) ∧ W.cell? ⟨w.heap.size + 1, 4, none⟩ = some (.slice va vl vc) ∧ W.cell? ⟨w.heap.size + 1, 5, none⟩ = some (.slice vb vk ve) ∧ W.cell? ⟨w.heap.size + 1 + 1, 0, none⟩ = some (.bool zs) ∧ W.cell? ⟨w.heap.size + 1 + 1, 1, none⟩ = some (.slice za zl zc) ∧ W.cell? ⟨w.heap.size + 1 + 1, 2, none⟩ = some (.slice zb zk ze) ∧ W.cell? ⟨w.heap.size + 1 + 1, 3, none⟩ = some (.bool ts) ∧ W.cell? ⟨w.heap.size + 1 + 1, 4, none⟩ = some (.slice ta tl tc) ∧ W.cell? ⟨w.heap.size + 1 + 1, 5, none⟩ = some (.slice tb tk te) ∧ W.cell? ⟨w.heap.size + 1 + 1 + 1, 0, none⟩ = some (.bool ks) ∧ W.cell? ⟨w.heap.size + 1 + 1 + 1, 1, none⟩ = some (.slice ka kl kc) ∧ W.cell? ⟨w.heap.size + 1 + 1 + 1, 2, none⟩ = some (.slice kb kk ke))) := Lib.hid fun W h => by
    obtain ⟨k0, k1, k2, k3, k4, k5, k6, k7, k8, k9, k10, k11, k12, k13, k14, k15, k16, k17, k18, k19, k20⟩ := hk5
    have n0 : w.heap.size ≠ w3.heap.size := by omega
    have n1 : w.heap.size + 1 ≠ w3.heap.size := by omega
    have n2 : w.heap.size + 1 + 1 ≠ w3.heap.size := by omega
    have n3 : w.heap.size + 1 + 1 + 1 ≠ w3.heap.size := by omega
    exact ⟨h.cell k0 n0, h.cell k1 n0, h.cell k2 n0, h.cell k3 n0, h.cell k4 n0, h.cell k5 n0, h.cell k6 n1, h.cell k7 n1, h.cell k8 n1, h.cell k9 n1, h.cell k10 n1, h.cell k11 n1, h.cell k12 n2, h.cell k13 n2, h.cell k14 n2, h.cell k15 n2, h.cell k16 n2, h.cell k17 n2, h.cell k18 n3, h.cell k19 n3, h.cell k20 n3⟩
  have HV5 : Hid (∀ W, Room w3.heap.size w5 W → (VQ q (xs, (xa, xl, xc), (xb, xk, xe)) W ∧ VQ r (us, (ua, ul, uc), (ub, uk, ue)) W ∧ VQ q' (ys, (ya, yl, yc), (yb, yk, ye)) W ∧ VQ r' (vs, (va, vl, vc), (vb, vk, ve)) W ∧ VQ q2 (zs, (za, zl, zc), (zb, zk, ze)) W ∧ VQ r2 (ts, (ta, tl, tc), (tb, tk, te)) W ∧ VQ kq (ks, (ka, kl, kc), (kb, kk, ke)) W)) := Lib.hid fun W h => by
    obtain ⟨v1, v2, v3, v4, v5, v6, v7⟩ := hvq
    have hw := HBW.out
    exact ⟨h.vq hbe (v1.kept hw), h.vq hbe (v2.kept hw), h.vq hbe (v3.kept hw), h.vq hbe (v4.kept hw), h.vq hbe (v5.kept hw), h.vq hbe (v6.kept hw), h.vq hbe (v7.kept hw)⟩
  obtain ⟨k0, k1, k2, k3, k4, k5, k6, k7, k8, k9, k10, k11, k12, k13, k14, k15, k16, k17, k18, k19, k20⟩ := hk5
  rw [hw5] at k0 k1 k2 k3 k4 k5 k6 k7 k8 k9 k10 k11 k12 k13 k14 k15 k16 k17 k18 k19 k20
  obtain ⟨c, hc⟩ : ∃ c, cmpDQ q r q' r' = c := ⟨_, rfl⟩
  have HCM := Lib.hid (CmpPP (W5 := w5) (HV5.out w5 HR5.out).1 (HV5.out w5 HR5.out).2.1 (HV5.out w5 HR5.out).2.2.1 (HV5.out w5 HR5.out).2.2.2.1 (by have := HZ.out; omega) (by have := HZ.out; omega) (by have := HZ.out; omega) (by have := HZ.out; omega) (Below.refl _ _) hc)
  have hvals := cmpDQ_vals q r q' r'
  rw [hc] at hvals
  have HC := Lib.hid hc
  have HW5 := Lib.hid hw5
  clear hw5 hb35 hb03 hb05 hbe hvq hzz hb3 hs0 hs3 hc HOD HW2 HB2 HB HV HK HSZ HT
  go_wp2_with fail
  refine (new_high 1000 w3 (by omega) (by unfold maxLen; omega)).mono ?_
  rintro e w' ⟨rfl, rfl⟩
  go_wp2_with fail
  rw [← HW5.out]
  refine HCM.out.mono ?_
  rintro e w6 ⟨rfl, G6⟩
  have HR6 := Lib.hid (HR5.out.kept G6.out)
  have HRD := Lib.hid (HR6.out.kept (below_drew w6))
  generalize w3.heap.size = b at *
  clear G6 HCM HW5 k0 k1 k2 k3 k4 k5 k6 k7 k8 k9 k10 k11 k12 k13 k14 k15 k16 k17 k18 k19 k20
  obtain ⟨k0, k1, k2, k3, k4, k5, k6, k7, k8, k9, k10, k11, k12, k13, k14, k15, k16, k17, k18, k19, k20⟩ := HK5.out _ HR6.out
  have HZA : Hid (szQ (q + q2) ≤ 100 ∧ szQ (r + r2) ≤ 100 ∧ szQ (q' + q2) ≤ 100 ∧ szQ (r' + r2) ≤ 100) := Lib.hid (by have := HZ.out; have := szQ_add q q2; have := szQ_add r r2; have := szQ_add q' q2; have := szQ_add r' r2; omega)
  have HZB : Hid (szQ (q + q') ≤ 40 ∧ szQ (r + r') ≤ 40) := Lib.hid (by have := HZ.out; have := szQ_add q q'; have := szQ_add r r'; omega)
  have HBK : Hid (q + q' - q' = q ∧ r + r' - r' = r) := Lib.hid ⟨by grind, by grind⟩
  have HZC : Hid (szQ (q + q' - q') ≤ 100 ∧ szQ (r + r' - r') ≤ 100) := Lib.hid (by rw [HBK.out.1, HBK.out.2]; have := HZ.out; omega)
  have HZD : Hid (szQ (kq * q) ≤ 100 ∧ szQ (kq * r) ≤ 100 ∧ szQ (kq * q') ≤ 100 ∧ szQ (kq * r') ≤ 100) := Lib.hid (by have := HZ.out; have := szQ_mul kq q; have := szQ_mul kq r; have := szQ_mul kq q'; have := szQ_mul kq r'; omega)
  have HPL : Hid (cmpDQ (q + q2) (r + r2) (q' + q2) (r' + r2) = c) := Lib.hid ((cmpDQ_plus q r q' r' q2 r2).trans HC.out)
  have HTU0 : Hid (cmpDQ q' r' q r = -c) := Lib.hid (by rw [cmpDQ_turn, HC.out])
  obtain ⟨s, hs⟩ : ∃ s, cmpQ kq 0 = s := ⟨_, rfl⟩
  have HSG := Lib.hid hs
  have HTM0 : Hid (cmpDQ (kq * q) (kq * r) (kq * q') (kq * r') = c * s) := Lib.hid (by rw [cmpDQ_times, HC.out, hs])
  obtain ⟨c1, hc1⟩ : ∃ c1, cmpQ q q' = c1 := ⟨_, rfl⟩
  have HC1 := Lib.hid hc1
  have HCW : Hid (c1 ≠ 0 → cmpDQ q r2 q' r' = c) := Lib.hid fun hne => by
    have h1 := HC.out
    unfold cmpDQ at h1 ⊢
    rw [hc1, if_neg hne] at h1 ⊢
    exact h1
  have hsv := cmpQ_vals kq 0
  rw [hs] at hsv
  have h1v := cmpQ_vals q q'
  rw [hc1] at h1v
  clear hs hc1
  rcases hvals with rfl | rfl | rfl
  · have HTU : Hid (cmpDQ q' r' q r = 1) := Lib.hid (HTU0.out.trans (by decide))
    clear HTU0
    have hwa : IntKind.i64.wrap (-1) = -1 := by decide
    have hwb : IntKind.i64.wrap 0 = 0 := by decide
    have hwc : IntKind.i64.wrap 1 = 1 := by decide
    go_wp2_with fail
    refine wp_region_held_drew (S := (fun w' => w'.cell? ⟨w.heap.size, 0, none⟩ = some (.bool xs) ∧ w'.cell? ⟨w.heap.size, 1, none⟩ = some (.slice xa xl xc) ∧ w'.cell? ⟨w.heap.size, 2, none⟩ = some (.slice xb xk xe) ∧ w'.cell? ⟨w.heap.size, 3, none⟩ = some (.bool us) ∧ w'.cell? ⟨w.heap.size, 4, none⟩ = some (.slice ua ul uc) ∧ w'.cell? ⟨w.heap.size, 5, none⟩ = some (.slice ub uk ue) ∧ w'.cell? ⟨w.heap.size + 1, 0, none⟩ = some (.bool ys) ∧ w'.cell? ⟨w.heap.size + 1, 1, none⟩ = some (.slice ya yl yc) ∧ w'.cell? ⟨w.heap.size + 1, 2, none⟩ = some (.slice yb yk ye) ∧ w'.cell? ⟨w.heap.size + 1, 3, none⟩ = some (.bool vs) ∧ w'.cell? ⟨w.heap.size + 1, 4, none⟩ = some (.slice va vl vc) ∧ w'.cell? ⟨w.heap.size + 1, 5, none⟩ = some (.slice vb vk ve) ∧ w'.cell? ⟨w.heap.size + 1 + 1, 0, none⟩ = some (.bool zs) ∧ w'.cell? ⟨w.heap.size + 1 + 1, 1, none⟩ = some (.slice za zl zc) ∧ w'.cell? ⟨w.heap.size + 1 + 1, 2, none⟩ = some (.slice zb zk ze) ∧ w'.cell? ⟨w.heap.size + 1 + 1, 3, none⟩ = some (.bool ts) ∧ w'.cell? ⟨w.heap.size + 1 + 1, 4, none⟩ = some (.slice ta tl tc) ∧ w'.cell? ⟨w.heap.size + 1 + 1, 5, none⟩ = some (.slice tb tk te) ∧ w'.cell? ⟨w.heap.size + 1 + 1 + 1, 0, none⟩ = some (.bool ks) ∧ w'.cell? ⟨w.heap.size + 1 + 1 + 1, 1, none⟩ = some (.slice ka kl kc) ∧ w'.cell? ⟨w.heap.size + 1 + 1 + 1, 2, none⟩ = some (.slice kb kk ke))) (by kernel_rfl) ?_ (fun hHeld => ?_)
    · exact HK5.out _ HRD.out
    refine wpAnyH_take (i := 0) (v := ?_) (by rfl) (by kernel_rfl) (by kernel_rfl) (by kernel_rfl) (by exact fun _ _ _ h => h) (Or.inl ⟨by rfl, ?_⟩) hHeld ?_
    rotate_left 1
    · intro w' hSw
      go_simp
      try with_reducible rfl
    try simp only [Act.put, List.setIfInBounds_toArray, List.set_cons_zero, List.set_cons_succ, List.getElem_toArray, List.getElem_cons_zero, List.getElem_cons_succ]
    refine wpAnyH_take (i := 1) (v := ?_) (by rfl) (by kernel_rfl) (by kernel_rfl) (by kernel_rfl) (by exact fun _ _ _ h => h) (Or.inl ⟨by rfl, ?_⟩) hHeld ?_
    rotate_left 1
    · intro w' hSw
      go_simp
      try with_reducible rfl
    try simp only [Act.put, List.setIfInBounds_toArray, List.set_cons_zero, List.set_cons_succ, List.getElem_toArray, List.getElem_cons_zero, List.getElem_cons_succ]
    refine wpAnyH_take (i := 2) (v := ?_) (by rfl) (by kernel_rfl) (by kernel_rfl) (by kernel_rfl) (by exact fun _ _ _ h => h) (Or.inl ⟨by rfl, ?_⟩) hHeld ?_
    rotate_left 1
    · intro w' hSw
      go_simp
      try with_reducible rfl
    try simp only [Act.put, List.setIfInBounds_toArray, List.set_cons_zero, List.set_cons_succ, List.getElem_toArray, List.getElem_cons_zero, List.getElem_cons_succ]
    refine wpAnyH_take (i := 3) (v := ?_) (by rfl) (by kernel_rfl) (by kernel_rfl) (by kernel_rfl) (by exact fun _ _ _ h => h) (Or.inl ⟨by rfl, ?_⟩) hHeld ?_
    rotate_left 1
    · intro w' hSw
      go_simp
      try with_reducible rfl
    try simp only [Act.put, List.setIfInBounds_toArray, List.set_cons_zero, List.set_cons_succ, List.getElem_toArray, List.getElem_cons_zero, List.getElem_cons_succ]
    refine wpAnyH_take (i := 5) (v := ?_) (by rfl) (by kernel_rfl) (by kernel_rfl) (by kernel_rfl) (by exact fun _ _ _ h => h) (Or.inl ⟨by rfl, ?_⟩) hHeld ?_
    rotate_left 1
    · intro w' hSw
      go_simp
      try with_reducible rfl
    try simp only [Act.put, List.setIfInBounds_toArray, List.set_cons_zero, List.set_cons_succ, List.getElem_toArray, List.getElem_cons_zero, List.getElem_cons_succ]
    refine wpAnyH_take (i := 6) (v := ?_) (by rfl) (by kernel_rfl) (by kernel_rfl) (by kernel_rfl) (by exact fun _ _ _ h => h) (Or.inl ⟨by rfl, ?_⟩) hHeld ?_
    rotate_left 1
    · intro w' hSw
      go_simp
      try with_reducible rfl
    try simp only [Act.put, List.setIfInBounds_toArray, List.set_cons_zero, List.set_cons_succ, List.getElem_toArray, List.getElem_cons_zero, List.getElem_cons_succ]
    refine wpAnyH_take (i := 7) (v := ?_) (by rfl) (by kernel_rfl) (by kernel_rfl) (by kernel_rfl) (by exact fun _ _ _ h => h) (Or.inl ⟨by rfl, ?_⟩) hHeld ?_
    rotate_left 1
    · intro w' hSw
      go_simp
      try with_reducible rfl
    try simp only [Act.put, List.setIfInBounds_toArray, List.set_cons_zero, List.set_cons_succ, List.getElem_toArray, List.getElem_cons_zero, List.getElem_cons_succ]
    refine wpAnyH_ready (rs := [4]) (by kernel_rfl) (by simp) ?_
    refine AllReadyH.cons (by rfl) (fun K hK => ?_) AllReadyH.nil
    go_simp
    with_reducible refine (addBB (Room.refl HRD.out.bench HRD.out.tab) (HV5.out _ HRD.out).1 (HV5.out _ HRD.out).2.1 (HV5.out _ HRD.out).2.2.2.2.1 (HV5.out _ HRD.out).2.2.2.2.2.1 (by have := HZ.out; omega) (by have := HZ.out; omega) (by have := HZ.out; omega) (by have := HZ.out; omega)).mono ?_
    rintro e w10 ⟨fs, fa, fl, fc, fb, fk, fe, hs, ha, hl, hc, hb, hk, he, rfl, S10, V10, U10⟩
    have HR10 := Lib.hid (HRD.out.trans S10.out)
    clear hHeld
    refine hK.out _ _ ?_ (fun hHeld => ?_)
    · exact HK5.out _ HR10.out
    clear hK K
    try simp only [Act.put, List.setIfInBounds_toArray, List.set_cons_zero, List.set_cons_succ, List.getElem_toArray, List.getElem_cons_zero, List.getElem_cons_succ]
    refine wpAnyH_ready (rs := [8]) (by kernel_rfl) (by simp) ?_
    refine AllReadyH.cons (by rfl) (fun K hK => ?_) AllReadyH.nil
    go_simp
    with_reducible refine (addBB (Room.refl HR10.out.bench HR10.out.tab) (HV5.out _ HR10.out).2.2.1 (HV5.out _ HR10.out).2.2.2.1 (HV5.out _ HR10.out).2.2.2.2.1 (HV5.out _ HR10.out).2.2.2.2.2.1 (by have := HZ.out; omega) (by have := HZ.out; omega) (by have := HZ.out; omega) (by have := HZ.out; omega)).mono ?_
    rintro e w11 ⟨ms, ma, ml, mc, mb, mk, me, os, oa, ol, oc, ob, ok, oe, rfl, S11, V11, U11⟩
    have HR11 := Lib.hid (HR10.out.trans S11.out)
    clear hHeld
    refine hK.out _ _ ?_ (fun hHeld => ?_)
    · exact HK5.out _ HR11.out
    clear hK K
    try simp only [Act.put, List.setIfInBounds_toArray, List.set_cons_zero, List.set_cons_succ, List.getElem_toArray, List.getElem_cons_zero, List.getElem_cons_succ]
    refine wpAnyH_ready (rs := [9]) (by kernel_rfl) (by simp) ?_
    refine AllReadyH.cons (by rfl) (fun K hK => ?_) AllReadyH.nil
    go_simp
    with_reducible refine (CmpPP (S11.out.vq HR10.out.bench V10.out) (S11.out.vq HR10.out.bench U10.out) V11.out U11.out HZA.out.1 HZA.out.2.1 HZA.out.2.2.1 HZA.out.2.2.2 (Below.refl _ _) HPL.out).mono ?_
    rintro e w12 ⟨rfl, G12⟩
    have HR12 := Lib.hid (HR11.out.kept G12.out)
    clear hHeld
    refine hK.out _ _ ?_ (fun hHeld => ?_)
    · exact HK5.out _ HR12.out
    clear hK K
    try simp only [Act.put, List.setIfInBounds_toArray, List.set_cons_zero, List.set_cons_succ, List.getElem_toArray, List.getElem_cons_zero, List.getElem_cons_succ]
    refine wpAnyH_take (i := 10) (v := ?_) (by rfl) (by kernel_rfl) (by kernel_rfl) (by kernel_rfl) (by exact fun _ _ _ h => h) (Or.inl ⟨by rfl, ?_⟩) hHeld ?_
    rotate_left 1
    · intro w' hSw
      go_simp
      try with_reducible rfl
    try simp only [Act.put, List.setIfInBounds_toArray, List.set_cons_zero, List.set_cons_succ, List.getElem_toArray, List.getElem_cons_zero, List.getElem_cons_succ]
    refine wpAnyH_take (i := 11) (v := ?_) (by rfl) (by kernel_rfl) (by kernel_rfl) (by kernel_rfl) (by exact fun _ _ _ h => h) (Or.inl ⟨by rfl, ?_⟩) hHeld ?_
    rotate_left 1
    · intro w' hSw
      go_simp
      try with_reducible rfl
    try simp only [Act.put, List.setIfInBounds_toArray, List.set_cons_zero, List.set_cons_succ, List.getElem_toArray, List.getElem_cons_zero, List.getElem_cons_succ]
    refine wpAnyH_take (i := 12) (v := ?_) (by rfl) (by kernel_rfl) (by kernel_rfl) (by kernel_rfl) (by exact fun _ _ _ h => h) (Or.inl ⟨by rfl, ?_⟩) hHeld ?_
    rotate_left 1
    · intro w' hSw
      go_simp
      try with_reducible rfl
    try simp only [Act.put, List.setIfInBounds_toArray, List.set_cons_zero, List.set_cons_succ, List.getElem_toArray, List.getElem_cons_zero, List.getElem_cons_succ]
    refine wpAnyH_take (i := 13) (v := ?_) (by rfl) (by kernel_rfl) (by kernel_rfl) (by kernel_rfl) (by exact fun _ _ _ h => h) (Or.inl ⟨by rfl, ?_⟩) hHeld ?_
    rotate_left 1
    · intro w' hSw
      go_simp
      try with_reducible rfl
    try simp only [Act.put, List.setIfInBounds_toArray, List.set_cons_zero, List.set_cons_succ, List.getElem_toArray, List.getElem_cons_zero, List.getElem_cons_succ]
    refine wpAnyH_take (i := 14) (v := ?_) (by rfl) (by kernel_rfl) (by kernel_rfl) (by kernel_rfl) (by exact fun _ _ _ h => h) (Or.inl ⟨by rfl, ?_⟩) hHeld ?_
    rotate_left 1
    · intro w' hSw
      go_simp
      try with_reducible rfl
    try simp only [Act.put, List.setIfInBounds_toArray, List.set_cons_zero, List.set_cons_succ, List.getElem_toArray, List.getElem_cons_zero, List.getElem_cons_succ]
    refine wpAnyH_ready (rs := [15]) (by kernel_rfl) (by simp) ?_
    refine AllReadyH.cons (by rfl) (fun K hK => ?_) AllReadyH.nil
    go_simp
    with_reducible refine (CmpPP (HV5.out _ HR12.out).2.2.1 (HV5.out _ HR12.out).2.2.2.1 (HV5.out _ HR12.out).1 (HV5.out _ HR12.out).2.1 (by have := HZ.out; omega) (by have := HZ.out; omega) (by have := HZ.out; omega) (by have := HZ.out; omega) (Below.refl _ _) HTU.out).mono ?_
    rintro e w13 ⟨rfl, G13⟩
    have HR13 := Lib.hid (HR12.out.kept G13.out)
    clear hHeld
    refine hK.out _ _ ?_ (fun hHeld => ?_)
    · exact HK5.out _ HR13.out
    clear hK K
    try simp only [Act.put, List.setIfInBounds_toArray, List.set_cons_zero, List.set_cons_succ, List.getElem_toArray, List.getElem_cons_zero, List.getElem_cons_succ]
    refine wpAnyH_take (i := 16) (v := ?_) (by rfl) (by kernel_rfl) (by kernel_rfl) (by kernel_rfl) (by exact fun _ _ _ h => h) (Or.inl ⟨by rfl, ?_⟩) hHeld ?_
    rotate_left 1
    · intro w' hSw
      go_simp
      try with_reducible rfl
    try simp only [Act.put, List.setIfInBounds_toArray, List.set_cons_zero, List.set_cons_succ, List.getElem_toArray, List.getElem_cons_zero, List.getElem_cons_succ]
    refine wpAnyH_take (i := 17) (v := ?_) (by rfl) (by kernel_rfl) (by kernel_rfl) (by kernel_rfl) (by exact fun _ _ _ h => h) (Or.inl ⟨by rfl, ?_⟩) hHeld ?_
    rotate_left 1
    · intro w' hSw
      go_simp
      try with_reducible rfl
    try simp only [Act.put, List.setIfInBounds_toArray, List.set_cons_zero, List.set_cons_succ, List.getElem_toArray, List.getElem_cons_zero, List.getElem_cons_succ]
    refine wpAnyH_take (i := 18) (v := ?_) (by rfl) (by kernel_rfl) (by kernel_rfl) (by kernel_rfl) (by exact fun _ _ _ h => h) (Or.inl ⟨by rfl, ?_⟩) hHeld ?_
    rotate_left 1
    · intro w' hSw
      go_simp
      try with_reducible rfl
    try simp only [Act.put, List.setIfInBounds_toArray, List.set_cons_zero, List.set_cons_succ, List.getElem_toArray, List.getElem_cons_zero, List.getElem_cons_succ]
    refine wpAnyH_take (i := 19) (v := ?_) (by rfl) (by kernel_rfl) (by kernel_rfl) (by kernel_rfl) (by exact fun _ _ _ h => h) (Or.inl ⟨by rfl, ?_⟩) hHeld ?_
    rotate_left 1
    · intro w' hSw
      go_simp
      try with_reducible rfl
    try simp only [Act.put, List.setIfInBounds_toArray, List.set_cons_zero, List.set_cons_succ, List.getElem_toArray, List.getElem_cons_zero, List.getElem_cons_succ]
    refine wpAnyH_take (i := 20) (v := ?_) (by rfl) (by kernel_rfl) (by kernel_rfl) (by kernel_rfl) (by exact fun _ _ _ h => h) (Or.inl ⟨by rfl, ?_⟩) hHeld ?_
    rotate_left 1
    · intro w' hSw
      go_simp
      try with_reducible rfl
    try simp only [Act.put, List.setIfInBounds_toArray, List.set_cons_zero, List.set_cons_succ, List.getElem_toArray, List.getElem_cons_zero, List.getElem_cons_succ]
    refine wpAnyH_take (i := 21) (v := ?_) (by rfl) (by kernel_rfl) (by kernel_rfl) (by kernel_rfl) (by exact fun _ _ _ h => h) (Or.inl ⟨by rfl, ?_⟩) hHeld ?_
    rotate_left 1
    · intro w' hSw
      go_simp
      try with_reducible rfl
    try simp only [Act.put, List.setIfInBounds_toArray, List.set_cons_zero, List.set_cons_succ, List.getElem_toArray, List.getElem_cons_zero, List.getElem_cons_succ]
    refine wpAnyH_take (i := 22) (v := ?_) (by rfl) (by kernel_rfl) (by kernel_rfl) (by kernel_rfl) (by exact fun _ _ _ h => h) (Or.inl ⟨by rfl, ?_⟩) hHeld ?_
    rotate_left 1
    · intro w' hSw
      go_simp
      try with_reducible rfl
    try simp only [Act.put, List.setIfInBounds_toArray, List.set_cons_zero, List.set_cons_succ, List.getElem_toArray, List.getElem_cons_zero, List.getElem_cons_succ]
    refine wpAnyH_take (i := 23) (v := ?_) (by rfl) (by kernel_rfl) (by kernel_rfl) (by kernel_rfl) (by exact fun _ _ _ h => h) (Or.inl ⟨by rfl, ?_⟩) hHeld ?_
    rotate_left 1
    · intro w' hSw
      go_simp
      try with_reducible rfl
    try simp only [Act.put, List.setIfInBounds_toArray, List.set_cons_zero, List.set_cons_succ, List.getElem_toArray, List.getElem_cons_zero, List.getElem_cons_succ]
    refine wpAnyH_take (i := 25) (v := ?_) (by rfl) (by kernel_rfl) (by kernel_rfl) (by kernel_rfl) (by exact fun _ _ _ h => h) (Or.inl ⟨by rfl, ?_⟩) hHeld ?_
    rotate_left 1
    · intro w' hSw
      go_simp
      try with_reducible rfl
    try simp only [Act.put, List.setIfInBounds_toArray, List.set_cons_zero, List.set_cons_succ, List.getElem_toArray, List.getElem_cons_zero, List.getElem_cons_succ]
    refine wpAnyH_take (i := 27) (v := ?_) (by rfl) (by kernel_rfl) (by kernel_rfl) (by kernel_rfl) (by exact fun _ _ _ h => h) (Or.inl ⟨by rfl, ?_⟩) hHeld ?_
    rotate_left 1
    · intro w' hSw
      go_simp
      try with_reducible rfl
    try simp only [Act.put, List.setIfInBounds_toArray, List.set_cons_zero, List.set_cons_succ, List.getElem_toArray, List.getElem_cons_zero, List.getElem_cons_succ]
    refine wpAnyH_ready (rs := [24]) (by kernel_rfl) (by simp) ?_
    refine AllReadyH.cons (by rfl) (fun K hK => ?_) AllReadyH.nil
    go_simp
    with_reducible refine (addBB (Room.refl HR13.out.bench HR13.out.tab) (HV5.out _ HR13.out).1 (HV5.out _ HR13.out).2.1 (HV5.out _ HR13.out).2.2.1 (HV5.out _ HR13.out).2.2.2.1 (by have := HZ.out; omega) (by have := HZ.out; omega) (by have := HZ.out; omega) (by have := HZ.out; omega)).mono ?_
    rintro e w14 ⟨ps, pa, pl, pc, pb, pk, pe, gs, ga, gl, gc, gb, gk, ge, rfl, S14, V14, U14⟩
    have HR14 := Lib.hid (HR13.out.trans S14.out)
    clear hHeld
    refine hK.out _ _ ?_ (fun hHeld => ?_)
    · exact HK5.out _ HR14.out
    clear hK K
    try simp only [Act.put, List.setIfInBounds_toArray, List.set_cons_zero, List.set_cons_succ, List.getElem_toArray, List.getElem_cons_zero, List.getElem_cons_succ]
    refine wpAnyH_ready (rs := [26]) (by kernel_rfl) (by simp) ?_
    refine AllReadyH.cons (by rfl) (fun K hK => ?_) AllReadyH.nil
    go_simp
    with_reducible refine (subBB (Room.refl HR14.out.bench HR14.out.tab) V14.out U14.out (HV5.out _ HR14.out).2.2.1 (HV5.out _ HR14.out).2.2.2.1 HZB.out.1 HZB.out.2 (by have := HZ.out; omega) (by have := HZ.out; omega)).mono ?_
    rintro e w15 ⟨is, ia, il, ic, ib, ik, ie, js, ja, jl, jc, jb, jk, je, rfl, S15, V15, U15⟩
    have HR15 := Lib.hid (HR14.out.trans S15.out)
    clear hHeld
    refine hK.out _ _ ?_ (fun hHeld => ?_)
    · exact HK5.out _ HR15.out
    clear hK K
    try simp only [Act.put, List.setIfInBounds_toArray, List.set_cons_zero, List.set_cons_succ, List.getElem_toArray, List.getElem_cons_zero, List.getElem_cons_succ]
    refine wpAnyH_ready (rs := [28]) (by kernel_rfl) (by simp) ?_
    refine AllReadyH.cons (by rfl) (fun K hK => ?_) AllReadyH.nil
    go_simp
    with_reducible refine (SameDD V15.out U15.out (HV5.out _ HR15.out).1 (HV5.out _ HR15.out).2.1 HZC.out.1 HZC.out.2 (by have := HZ.out; omega) (by have := HZ.out; omega) (Below.refl _ _) HBK.out.1 HBK.out.2).mono ?_
    rintro e w16 ⟨rfl, G16⟩
    have HR16 := Lib.hid (HR15.out.kept G16.out)
    clear hHeld
    refine hK.out _ _ ?_ (fun hHeld => ?_)
    · exact HK5.out _ HR16.out
    clear hK K
    try simp only [Act.put, List.setIfInBounds_toArray, List.set_cons_zero, List.set_cons_succ, List.getElem_toArray, List.getElem_cons_zero, List.getElem_cons_succ]
    refine wpAnyH_take (i := 29) (v := ?_) (by rfl) (by kernel_rfl) (by kernel_rfl) (by kernel_rfl) (by exact fun _ _ _ h => h) (Or.inl ⟨by rfl, ?_⟩) hHeld ?_
    rotate_left 1
    · intro w' hSw
      go_simp
      try with_reducible rfl
    try simp only [Act.put, List.setIfInBounds_toArray, List.set_cons_zero, List.set_cons_succ, List.getElem_toArray, List.getElem_cons_zero, List.getElem_cons_succ]
    refine wpAnyH_take (i := 30) (v := ?_) (by rfl) (by kernel_rfl) (by kernel_rfl) (by kernel_rfl) (by exact fun _ _ _ h => h) (Or.inl ⟨by rfl, ?_⟩) hHeld ?_
    rotate_left 1
    · intro w' hSw
      go_simp
      try with_reducible rfl
    try simp only [Act.put, List.setIfInBounds_toArray, List.set_cons_zero, List.set_cons_succ, List.getElem_toArray, List.getElem_cons_zero, List.getElem_cons_succ]
    refine wpAnyH_done (by kernel_rfl) ?_ _
    clear hHeld
    have HRE := Lib.hid (HR16.out.kept (below_drew _))
    obtain ⟨k0, k1, k2, k3, k4, k5, k6, k7, k8, k9, k10, k11, k12, k13, k14, k15, k16, k17, k18, k19, k20⟩ := HK5.out _ HR16.out
    clear HRD S10 V10 U10 S11 V11 U11 G12 G13 S14 V14 U14 S15 V15 U15 G16 HR10 HR11 HR12 HR13 HR14 HR15 HTU HPL HZA HZB HZC HBK
    go_wp2_with fail
    rcases hsv with rfl | rfl | rfl
    · have HTM : Hid (cmpDQ (kq * q) (kq * r) (kq * q') (kq * r') = 1) := Lib.hid (HTM0.out.trans (by decide))
      clear HTM0
      refine wp_region_held_drew (S := (fun w' => w'.cell? ⟨w.heap.size, 0, none⟩ = some (.bool xs) ∧ w'.cell? ⟨w.heap.size, 1, none⟩ = some (.slice xa xl xc) ∧ w'.cell? ⟨w.heap.size, 2, none⟩ = some (.slice xb xk xe) ∧ w'.cell? ⟨w.heap.size, 3, none⟩ = some (.bool us) ∧ w'.cell? ⟨w.heap.size, 4, none⟩ = some (.slice ua ul uc) ∧ w'.cell? ⟨w.heap.size, 5, none⟩ = some (.slice ub uk ue) ∧ w'.cell? ⟨w.heap.size + 1, 0, none⟩ = some (.bool ys) ∧ w'.cell? ⟨w.heap.size + 1, 1, none⟩ = some (.slice ya yl yc) ∧ w'.cell? ⟨w.heap.size + 1, 2, none⟩ = some (.slice yb yk ye) ∧ w'.cell? ⟨w.heap.size + 1, 3, none⟩ = some (.bool vs) ∧ w'.cell? ⟨w.heap.size + 1, 4, none⟩ = some (.slice va vl vc) ∧ w'.cell? ⟨w.heap.size + 1, 5, none⟩ = some (.slice vb vk ve) ∧ w'.cell? ⟨w.heap.size + 1 + 1, 0, none⟩ = some (.bool zs) ∧ w'.cell? ⟨w.heap.size + 1 + 1, 1, none⟩ = some (.slice za zl zc) ∧ w'.cell? ⟨w.heap.size + 1 + 1, 2, none⟩ = some (.slice zb zk ze) ∧ w'.cell? ⟨w.heap.size + 1 + 1, 3, none⟩ = some (.bool ts) ∧ w'.cell? ⟨w.heap.size + 1 + 1, 4, none⟩ = some (.slice ta tl tc) ∧ w'.cell? ⟨w.heap.size + 1 + 1, 5, none⟩ = some (.slice tb tk te) ∧ w'.cell? ⟨w.heap.size + 1 + 1 + 1, 0, none⟩ = some (.bool ks) ∧ w'.cell? ⟨w.heap.size + 1 + 1 + 1, 1, none⟩ = some (.slice ka kl kc) ∧ w'.cell? ⟨w.heap.size + 1 + 1 + 1, 2, none⟩ = some (.slice kb kk ke))) (by kernel_rfl) ?_ (fun hHeld => ?_)
      · exact HK5.out _ HRE.out
      refine wpAnyH_take (i := 0) (v := ?_) (by rfl) (by kernel_rfl) (by kernel_rfl) (by kernel_rfl) (by exact fun _ _ _ h => h) (Or.inl ⟨by rfl, ?_⟩) hHeld ?_
      rotate_left 1
      · intro w' hSw
        go_simp
        try with_reducible rfl
      try simp only [Act.put, List.setIfInBounds_toArray, List.set_cons_zero, List.set_cons_succ, List.getElem_toArray, List.getElem_cons_zero, List.getElem_cons_succ]
      refine wpAnyH_take (i := 1) (v := ?_) (by rfl) (by kernel_rfl) (by kernel_rfl) (by kernel_rfl) (by exact fun _ _ _ h => h) (Or.inl ⟨by rfl, ?_⟩) hHeld ?_
      rotate_left 1
      · intro w' hSw
        go_simp
        try with_reducible rfl
      try simp only [Act.put, List.setIfInBounds_toArray, List.set_cons_zero, List.set_cons_succ, List.getElem_toArray, List.getElem_cons_zero, List.getElem_cons_succ]
      refine wpAnyH_take (i := 2) (v := ?_) (by rfl) (by kernel_rfl) (by kernel_rfl) (by kernel_rfl) (by exact fun _ _ _ h => h) (Or.inl ⟨by rfl, ?_⟩) hHeld ?_
      rotate_left 1
      · intro w' hSw
        go_simp
        try with_reducible rfl
      try simp only [Act.put, List.setIfInBounds_toArray, List.set_cons_zero, List.set_cons_succ, List.getElem_toArray, List.getElem_cons_zero, List.getElem_cons_succ]
      refine wpAnyH_take (i := 4) (v := ?_) (by rfl) (by kernel_rfl) (by kernel_rfl) (by kernel_rfl) (by exact fun _ _ _ h => h) (Or.inl ⟨by rfl, ?_⟩) hHeld ?_
      rotate_left 1
      · intro w' hSw
        go_simp
        try with_reducible rfl
      try simp only [Act.put, List.setIfInBounds_toArray, List.set_cons_zero, List.set_cons_succ, List.getElem_toArray, List.getElem_cons_zero, List.getElem_cons_succ]
      refine wpAnyH_take (i := 5) (v := ?_) (by rfl) (by kernel_rfl) (by kernel_rfl) (by kernel_rfl) (by exact fun _ _ _ h => h) (Or.inl ⟨by rfl, ?_⟩) hHeld ?_
      rotate_left 1
      · intro w' hSw
        go_simp
        try with_reducible rfl
      try simp only [Act.put, List.setIfInBounds_toArray, List.set_cons_zero, List.set_cons_succ, List.getElem_toArray, List.getElem_cons_zero, List.getElem_cons_succ]
      refine wpAnyH_take (i := 6) (v := ?_) (by rfl) (by kernel_rfl) (by kernel_rfl) (by kernel_rfl) (by exact fun _ _ _ h => h) (Or.inl ⟨by rfl, ?_⟩) hHeld ?_
      rotate_left 1
      · intro w' hSw
        go_simp
        try with_reducible rfl
      try simp only [Act.put, List.setIfInBounds_toArray, List.set_cons_zero, List.set_cons_succ, List.getElem_toArray, List.getElem_cons_zero, List.getElem_cons_succ]
      refine wpAnyH_take (i := 9) (v := ?_) (by rfl) (by kernel_rfl) (by kernel_rfl) (by kernel_rfl) (by exact fun _ _ _ h => h) (Or.inl ⟨by rfl, ?_⟩) hHeld ?_
      rotate_left 1
      · intro w' hSw
        go_simp
        try with_reducible rfl
      try simp only [Act.put, List.setIfInBounds_toArray, List.set_cons_zero, List.set_cons_succ, List.getElem_toArray, List.getElem_cons_zero, List.getElem_cons_succ]
      refine wpAnyH_take (i := 10) (v := ?_) (by rfl) (by kernel_rfl) (by kernel_rfl) (by kernel_rfl) (by exact fun _ _ _ h => h) (Or.inl ⟨by rfl, ?_⟩) hHeld ?_
      rotate_left 1
      · intro w' hSw
        go_simp
        try with_reducible rfl
      try simp only [Act.put, List.setIfInBounds_toArray, List.set_cons_zero, List.set_cons_succ, List.getElem_toArray, List.getElem_cons_zero, List.getElem_cons_succ]
      refine wpAnyH_ready (rs := [3]) (by kernel_rfl) (by simp) ?_
      refine AllReadyH.cons (by rfl) (fun K hK => ?_) AllReadyH.nil
      go_simp
      with_reducible refine (scaleBB (Room.refl HRE.out.bench HRE.out.tab) (HV5.out _ HRE.out).1 (HV5.out _ HRE.out).2.1 (HV5.out _ HRE.out).2.2.2.2.2.2 (by have := HZ.out; omega) (by have := HZ.out; omega) (by have := HZ.out; omega)).mono ?_
      rintro e w20 ⟨fs, fa, fl, fc, fb, fk, fe, hs, ha, hl, hc, hb, hk, he, rfl, S20, V20, U20⟩
      have HR20 := Lib.hid (HRE.out.trans S20.out)
      clear hHeld
      refine hK.out _ _ ?_ (fun hHeld => ?_)
      · exact HK5.out _ HR20.out
      clear hK K
      try simp only [Act.put, List.setIfInBounds_toArray, List.set_cons_zero, List.set_cons_succ, List.getElem_toArray, List.getElem_cons_zero, List.getElem_cons_succ]
      refine wpAnyH_ready (rs := [7]) (by kernel_rfl) (by simp) ?_
      refine AllReadyH.cons (by rfl) (fun K hK => ?_) AllReadyH.nil
      go_simp
      with_reducible refine (scaleBB (Room.refl HR20.out.bench HR20.out.tab) (HV5.out _ HR20.out).2.2.1 (HV5.out _ HR20.out).2.2.2.1 (HV5.out _ HR20.out).2.2.2.2.2.2 (by have := HZ.out; omega) (by have := HZ.out; omega) (by have := HZ.out; omega)).mono ?_
      rintro e w21 ⟨ms, ma, ml, mc, mb, mk, me, os, oa, ol, oc, ob, ok, oe, rfl, S21, V21, U21⟩
      have HR21 := Lib.hid (HR20.out.trans S21.out)
      clear hHeld
      refine hK.out _ _ ?_ (fun hHeld => ?_)
      · exact HK5.out _ HR21.out
      clear hK K
      try simp only [Act.put, List.setIfInBounds_toArray, List.set_cons_zero, List.set_cons_succ, List.getElem_toArray, List.getElem_cons_zero, List.getElem_cons_succ]
      refine wpAnyH_ready (rs := [8]) (by kernel_rfl) (by simp) ?_
      refine AllReadyH.cons (by rfl) (fun K hK => ?_) AllReadyH.nil
      go_simp
      with_reducible refine (CmpPP (S21.out.vq HR20.out.bench V20.out) (S21.out.vq HR20.out.bench U20.out) V21.out U21.out HZD.out.1 HZD.out.2.1 HZD.out.2.2.1 HZD.out.2.2.2 (Below.refl _ _) HTM.out).mono ?_
      rintro e w22 ⟨rfl, G22⟩
      have HR22 := Lib.hid (HR21.out.kept G22.out)
      clear hHeld
      refine hK.out _ _ ?_ (fun hHeld => ?_)
      · exact HK5.out _ HR22.out
      clear hK K
      try simp only [Act.put, List.setIfInBounds_toArray, List.set_cons_zero, List.set_cons_succ, List.getElem_toArray, List.getElem_cons_zero, List.getElem_cons_succ]
      refine wpAnyH_ready (rs := [11]) (by kernel_rfl) (by simp) ?_
      refine AllReadyH.cons (by rfl) (fun K hK => ?_) AllReadyH.nil
      go_simp
      with_reducible refine (gotP_sign (HV5.out _ HR22.out).2.2.2.2.2.2 (by have := HZ.out; omega) (Below.refl _ _) HSG.out).mono ?_
      rintro e w23 ⟨rfl, G23⟩
      have HR23 := Lib.hid (HR22.out.kept G23.out)
      clear hHeld
      refine hK.out _ _ ?_ (fun hHeld => ?_)
      · exact HK5.out _ HR23.out
      clear hK K
      try simp only [Act.put, List.setIfInBounds_toArray, List.set_cons_zero, List.set_cons_succ, List.getElem_toArray, List.getElem_cons_zero, List.getElem_cons_succ]
      refine wpAnyH_take (i := 12) (v := ?_) (by rfl) (by kernel_rfl) (by kernel_rfl) (by kernel_rfl) (by exact fun _ _ _ h => h) (Or.inl ⟨by rfl, ?_⟩) hHeld ?_
      rotate_left 1
      · intro w' hSw
        go_simp
        try with_reducible rfl
      try simp only [Act.put, List.setIfInBounds_toArray, List.set_cons_zero, List.set_cons_succ, List.getElem_toArray, List.getElem_cons_zero, List.getElem_cons_succ]
      refine wpAnyH_take (i := 13) (v := ?_) (by rfl) (by kernel_rfl) (by kernel_rfl) (by kernel_rfl) (by exact fun _ _ _ h => h) (Or.inl ⟨by rfl, ?_⟩) hHeld ?_
      rotate_left 1
      · intro w' hSw
        go_simp
        try with_reducible rfl
      try simp only [Act.put, List.setIfInBounds_toArray, List.set_cons_zero, List.set_cons_succ, List.getElem_toArray, List.getElem_cons_zero, List.getElem_cons_succ]
      refine wpAnyH_done (by kernel_rfl) ?_ _
      clear hHeld
      have HR30 := Lib.hid HR23.out
      clear HRE S20 V20 U20 S21 V21 U21 G22 G23 HR20 HR21 HR22 HTM HSG HZD HR16
      obtain ⟨k0, k1, k2, k3, k4, k5, k6, k7, k8, k9, k10, k11, k12, k13, k14, k15, k16, k17, k18, k19, k20⟩ := HK5.out _ HR30.out
      obtain ⟨w31, hw31⟩ : ∃ w31, w31 = w23.alloc (.cells #[.bool xs, .slice xa xl xc, .slice xb xk xe, .bool ts, .slice ta tl tc, .slice tb tk te] 29) := ⟨_, rfl⟩
      have HR31 : Hid (Room b w5 w31) := Lib.hid (by rw [hw31]; exact HR30.out.alloc _)
      obtain ⟨l0, l1, l2, l3, l4, l5, l6, l7, l8, l9, l10, l11, l12, l13, l14, l15, l16, l17, l18, l19, l20⟩ := HK5.out _ HR31.out
      rw [hw31] at l0 l1 l2 l3 l4 l5 l6 l7 l8 l9 l10 l11 l12 l13 l14 l15 l16 l17 l18 l19 l20
      have HC31 := Lib.hid (gotP_cmp (W5 := w31) (HV5.out _ HR31.out).1 (HV5.out _ HR31.out).2.2.1 (by have := HZ.out; omega) (by have := HZ.out; omega) (Below.refl _ _) HC1.out)
      have HL31 : Hid (∀ W, Below w31.heap.size w31 W → (W.cell? ⟨w23.heap.size, 0, none⟩ = some (.bool xs) ∧ W.cell? ⟨w23.heap.size, 1, none⟩ = some (.slice xa xl xc) ∧ W.cell? ⟨w23.heap.size, 2, none⟩ = some (.slice xb xk xe) ∧ W.cell? ⟨w23.heap.size, 3, none⟩ = some (.bool ts) ∧ W.cell? ⟨w23.heap.size, 4, none⟩ = some (.slice ta tl tc) ∧ W.cell? ⟨w23.heap.size, 5, none⟩ = some (.slice tb tk te))) := Lib.hid fun W h => by
        obtain ⟨h0, h1, h2, h3, h4, h5, _⟩ := cells6 (stay (show w31.heap[w23.heap.size]? = _ by rw [hw31]; exact heap_alloc_new w23 _) h)
        exact ⟨h0, h1, h2, h3, h4, h5⟩
      have HW31 := Lib.hid hw31
      clear hw31
      go_wp2_with fail
      rw [← HW31.out]
      have HF : Hid (∀ W, Room b w5 W → Below w.heap.size w W) := Lib.hid fun W h => h.below HBW.out HGE.out (.inl (Nat.le_refl _)) HBW.out.size
      rcases h1v with rfl | rfl | rfl
      · refine HC31.out.mono ?_
        rintro e w32 ⟨rfl, G32⟩
        have HR32 := Lib.hid (HR31.out.kept G32.out)
        obtain ⟨k0, k1, k2, k3, k4, k5, k6, k7, k8, k9, k10, k11, k12, k13, k14, k15, k16, k17, k18, k19, k20⟩ := HK5.out _ HR32.out
        obtain ⟨i0, i1, i2, i3, i4, i5⟩ := HL31.out _ G32.out
        have HC32 := Lib.hid (CmpPP (W5 := w32) (HV5.out _ HR32.out).1 (HV5.out _ HR32.out).2.2.2.2.2.1 (HV5.out _ HR32.out).2.2.1 (HV5.out _ HR32.out).2.2.2.1 (by have := HZ.out; omega) (by have := HZ.out; omega) (by have := HZ.out; omega) (by have := HZ.out; omega) (Below.refl _ _) (HCW.out (by decide)))
        clear HC31 HL31 HW31 G32
        go_wp2_with fail
        refine HC32.out.mono ?_
        rintro e w33 ⟨rfl, G33⟩
        have HE := Lib.hid (HF.out _ (HR32.out.kept G33.out))
        clear G33 HC32 HR32 HR31 HR30 HF
        go_wp2_with fail
        go_ret
        exact ⟨rfl, HE.out⟩
      · refine HC31.out.mono ?_
        rintro e w32 ⟨rfl, G32⟩
        have HE := Lib.hid (HF.out _ (HR31.out.kept G32.out))
        clear G32 HC31 HL31 HW31 HR31 HR30 HF
        go_wp2_with fail
        go_ret
        exact ⟨rfl, HE.out⟩
      · refine HC31.out.mono ?_
        rintro e w32 ⟨rfl, G32⟩
        have HR32 := Lib.hid (HR31.out.kept G32.out)
        obtain ⟨k0, k1, k2, k3, k4, k5, k6, k7, k8, k9, k10, k11, k12, k13, k14, k15, k16, k17, k18, k19, k20⟩ := HK5.out _ HR32.out
        obtain ⟨i0, i1, i2, i3, i4, i5⟩ := HL31.out _ G32.out
        have HC32 := Lib.hid (CmpPP (W5 := w32) (HV5.out _ HR32.out).1 (HV5.out _ HR32.out).2.2.2.2.2.1 (HV5.out _ HR32.out).2.2.1 (HV5.out _ HR32.out).2.2.2.1 (by have := HZ.out; omega) (by have := HZ.out; omega) (by have := HZ.out; omega) (by have := HZ.out; omega) (Below.refl _ _) (HCW.out (by decide)))
        clear HC31 HL31 HW31 G32
        go_wp2_with fail
        refine HC32.out.mono ?_
        rintro e w33 ⟨rfl, G33⟩
        have HE := Lib.hid (HF.out _ (HR32.out.kept G33.out))
        clear G33 HC32 HR32 HR31 HR30 HF
        go_wp2_with fail
        go_ret
        exact ⟨rfl, HE.out⟩
    · have HTM : Hid (cmpDQ (kq * q) (kq * r) (kq * q') (kq * r') = 0) := Lib.hid (HTM0.out.trans (by decide))
      clear HTM0
      refine wp_region_held_drew (S := (fun w' => w'.cell? ⟨w.heap.size, 0, none⟩ = some (.bool xs) ∧ w'.cell? ⟨w.heap.size, 1, none⟩ = some (.slice xa xl xc) ∧ w'.cell? ⟨w.heap.size, 2, none⟩ = some (.slice xb xk xe) ∧ w'.cell? ⟨w.heap.size, 3, none⟩ = some (.bool us) ∧ w'.cell? ⟨w.heap.size, 4, none⟩ = some (.slice ua ul uc) ∧ w'.cell? ⟨w.heap.size, 5, none⟩ = some (.slice ub uk ue) ∧ w'.cell? ⟨w.heap.size + 1, 0, none⟩ = some (.bool ys) ∧ w'.cell? ⟨w.heap.size + 1, 1, none⟩ = some (.slice ya yl yc) ∧ w'.cell? ⟨w.heap.size + 1, 2, none⟩ = some (.slice yb yk ye) ∧ w'.cell? ⟨w.heap.size + 1, 3, none⟩ = some (.bool vs) ∧ w'.cell? ⟨w.heap.size + 1, 4, none⟩ = some (.slice va vl vc) ∧ w'.cell? ⟨w.heap.size + 1, 5, none⟩ = some (.slice vb vk ve) ∧ w'.cell? ⟨w.heap.size + 1 + 1, 0, none⟩ = some (.bool zs) ∧ w'.cell? ⟨w.heap.size + 1 + 1, 1, none⟩ = some (.slice za zl zc) ∧ w'.cell? ⟨w.heap.size + 1 + 1, 2, none⟩ = some (.slice zb zk ze) ∧ w'.cell? ⟨w.heap.size + 1 + 1, 3, none⟩ = some (.bool ts) ∧ w'.cell? ⟨w.heap.size + 1 + 1, 4, none⟩ = some (.slice ta tl tc) ∧ w'.cell? ⟨w.heap.size + 1 + 1, 5, none⟩ = some (.slice tb tk te) ∧ w'.cell? ⟨w.heap.size + 1 + 1 + 1, 0, none⟩ = some (.bool ks) ∧ w'.cell? ⟨w.heap.size + 1 + 1 + 1, 1, none⟩ = some (.slice ka kl kc) ∧ w'.cell? ⟨w.heap.size + 1 + 1 + 1, 2, none⟩ = some (.slice kb kk ke))) (by kernel_rfl) ?_ (fun hHeld => ?_)
      · exact HK5.out _ HRE.out
      refine wpAnyH_take (i := 0) (v := ?_) (by rfl) (by kernel_rfl) (by kernel_rfl) (by kernel_rfl) (by exact fun _ _ _ h => h) (Or.inl ⟨by rfl, ?_⟩) hHeld ?_
      rotate_left 1
      · intro w' hSw
        go_simp
        try with_reducible rfl
      try simp only [Act.put, List.setIfInBounds_toArray, List.set_cons_zero, List.set_cons_succ, List.getElem_toArray, List.getElem_cons_zero, List.getElem_cons_succ]
      refine wpAnyH_take (i := 1) (v := ?_) (by rfl) (by kernel_rfl) (by kernel_rfl) (by kernel_rfl) (by exact fun _ _ _ h => h) (Or.inl ⟨by rfl, ?_⟩) hHeld ?_
      rotate_left 1
      · intro w' hSw
        go_simp
        try with_reducible rfl
      try simp only [Act.put, List.setIfInBounds_toArray, List.set_cons_zero, List.set_cons_succ, List.getElem_toArray, List.getElem_cons_zero, List.getElem_cons_succ]
      refine wpAnyH_take (i := 2) (v := ?_) (by rfl) (by kernel_rfl) (by kernel_rfl) (by kernel_rfl) (by exact fun _ _ _ h => h) (Or.inl ⟨by rfl, ?_⟩) hHeld ?_
      rotate_left 1
      · intro w' hSw
        go_simp
        try with_reducible rfl
      try simp only [Act.put, List.setIfInBounds_toArray, List.set_cons_zero, List.set_cons_succ, List.getElem_toArray, List.getElem_cons_zero, List.getElem_cons_succ]
      refine wpAnyH_take (i := 4) (v := ?_) (by rfl) (by kernel_rfl) (by kernel_rfl) (by kernel_rfl) (by exact fun _ _ _ h => h) (Or.inl ⟨by rfl, ?_⟩) hHeld ?_
      rotate_left 1
      · intro w' hSw
        go_simp
        try with_reducible rfl
      try simp only [Act.put, List.setIfInBounds_toArray, List.set_cons_zero, List.set_cons_succ, List.getElem_toArray, List.getElem_cons_zero, List.getElem_cons_succ]
      refine wpAnyH_take (i := 5) (v := ?_) (by rfl) (by kernel_rfl) (by kernel_rfl) (by kernel_rfl) (by exact fun _ _ _ h => h) (Or.inl ⟨by rfl, ?_⟩) hHeld ?_
      rotate_left 1
      · intro w' hSw
        go_simp
        try with_reducible rfl
      try simp only [Act.put, List.setIfInBounds_toArray, List.set_cons_zero, List.set_cons_succ, List.getElem_toArray, List.getElem_cons_zero, List.getElem_cons_succ]
      refine wpAnyH_take (i := 6) (v := ?_) (by rfl) (by kernel_rfl) (by kernel_rfl) (by kernel_rfl) (by exact fun _ _ _ h => h) (Or.inl ⟨by rfl, ?_⟩) hHeld ?_
      rotate_left 1
      · intro w' hSw
        go_simp
        try with_reducible rfl
      try simp only [Act.put, List.setIfInBounds_toArray, List.set_cons_zero, List.set_cons_succ, List.getElem_toArray, List.getElem_cons_zero, List.getElem_cons_succ]
      refine wpAnyH_take (i := 9) (v := ?_) (by rfl) (by kernel_rfl) (by kernel_rfl) (by kernel_rfl) (by exact fun _ _ _ h => h) (Or.inl ⟨by rfl, ?_⟩) hHeld ?_
      rotate_left 1
      · intro w' hSw
        go_simp
        try with_reducible rfl
      try simp only [Act.put, List.setIfInBounds_toArray, List.set_cons_zero, List.set_cons_succ, List.getElem_toArray, List.getElem_cons_zero, List.getElem_cons_succ]
      refine wpAnyH_take (i := 10) (v := ?_) (by rfl) (by kernel_rfl) (by kernel_rfl) (by kernel_rfl) (by exact fun _ _ _ h => h) (Or.inl ⟨by rfl, ?_⟩) hHeld ?_
      rotate_left 1
      · intro w' hSw
        go_simp
        try with_reducible rfl
      try simp only [Act.put, List.setIfInBounds_toArray, List.set_cons_zero, List.set_cons_succ, List.getElem_toArray, List.getElem_cons_zero, List.getElem_cons_succ]
      refine wpAnyH_ready (rs := [3]) (by kernel_rfl) (by simp) ?_
      refine AllReadyH.cons (by rfl) (fun K hK => ?_) AllReadyH.nil
      go_simp
      with_reducible refine (scaleBB (Room.refl HRE.out.bench HRE.out.tab) (HV5.out _ HRE.out).1 (HV5.out _ HRE.out).2.1 (HV5.out _ HRE.out).2.2.2.2.2.2 (by have := HZ.out; omega) (by have := HZ.out; omega) (by have := HZ.out; omega)).mono ?_
      rintro e w20 ⟨fs, fa, fl, fc, fb, fk, fe, hs, ha, hl, hc, hb, hk, he, rfl, S20, V20, U20⟩
      have HR20 := Lib.hid (HRE.out.trans S20.out)
      clear hHeld
      refine hK.out _ _ ?_ (fun hHeld => ?_)
      · exact HK5.out _ HR20.out
      clear hK K
      try simp only [Act.put, List.setIfInBounds_toArray, List.set_cons_zero, List.set_cons_succ, List.getElem_toArray, List.getElem_cons_zero, List.getElem_cons_succ]
      refine wpAnyH_ready (rs := [7]) (by kernel_rfl) (by simp) ?_
      refine AllReadyH.cons (by rfl) (fun K hK => ?_) AllReadyH.nil
      go_simp
      with_reducible refine (scaleBB (Room.refl HR20.out.bench HR20.out.tab) (HV5.out _ HR20.out).2.2.1 (HV5.out _ HR20.out).2.2.2.1 (HV5.out _ HR20.out).2.2.2.2.2.2 (by have := HZ.out; omega) (by have := HZ.out; omega) (by have := HZ.out; omega)).mono ?_
      rintro e w21 ⟨ms, ma, ml, mc, mb, mk, me, os, oa, ol, oc, ob, ok, oe, rfl, S21, V21, U21⟩
      have HR21 := Lib.hid (HR20.out.trans S21.out)
      clear hHeld
      refine hK.out _ _ ?_ (fun hHeld => ?_)
      · exact HK5.out _ HR21.out
      clear hK K
      try simp only [Act.put, List.setIfInBounds_toArray, List.set_cons_zero, List.set_cons_succ, List.getElem_toArray, List.getElem_cons_zero, List.getElem_cons_succ]
      refine wpAnyH_ready (rs := [8]) (by kernel_rfl) (by simp) ?_
      refine AllReadyH.cons (by rfl) (fun K hK => ?_) AllReadyH.nil
      go_simp
      with_reducible refine (CmpPP (S21.out.vq HR20.out.bench V20.out) (S21.out.vq HR20.out.bench U20.out) V21.out U21.out HZD.out.1 HZD.out.2.1 HZD.out.2.2.1 HZD.out.2.2.2 (Below.refl _ _) HTM.out).mono ?_
      rintro e w22 ⟨rfl, G22⟩
      have HR22 := Lib.hid (HR21.out.kept G22.out)
      clear hHeld
      refine hK.out _ _ ?_ (fun hHeld => ?_)
      · exact HK5.out _ HR22.out
      clear hK K
      try simp only [Act.put, List.setIfInBounds_toArray, List.set_cons_zero, List.set_cons_succ, List.getElem_toArray, List.getElem_cons_zero, List.getElem_cons_succ]
      refine wpAnyH_ready (rs := [11]) (by kernel_rfl) (by simp) ?_
      refine AllReadyH.cons (by rfl) (fun K hK => ?_) AllReadyH.nil
      go_simp
      with_reducible refine (gotP_sign (HV5.out _ HR22.out).2.2.2.2.2.2 (by have := HZ.out; omega) (Below.refl _ _) HSG.out).mono ?_
      rintro e w23 ⟨rfl, G23⟩
      have HR23 := Lib.hid (HR22.out.kept G23.out)
      clear hHeld
      refine hK.out _ _ ?_ (fun hHeld => ?_)
      · exact HK5.out _ HR23.out
      clear hK K
      try simp only [Act.put, List.setIfInBounds_toArray, List.set_cons_zero, List.set_cons_succ, List.getElem_toArray, List.getElem_cons_zero, List.getElem_cons_succ]
      refine wpAnyH_take (i := 12) (v := ?_) (by rfl) (by kernel_rfl) (by kernel_rfl) (by kernel_rfl) (by exact fun _ _ _ h => h) (Or.inl ⟨by rfl, ?_⟩) hHeld ?_
      rotate_left 1
      · intro w' hSw
        go_simp
        try with_reducible rfl
      try simp only [Act.put, List.setIfInBounds_toArray, List.set_cons_zero, List.set_cons_succ, List.getElem_toArray, List.getElem_cons_zero, List.getElem_cons_succ]
      refine wpAnyH_take (i := 13) (v := ?_) (by rfl) (by kernel_rfl) (by kernel_rfl) (by kernel_rfl) (by exact fun _ _ _ h => h) (Or.inl ⟨by rfl, ?_⟩) hHeld ?_
      rotate_left 1
      · intro w' hSw
        go_simp
        try with_reducible rfl
      try simp only [Act.put, List.setIfInBounds_toArray, List.set_cons_zero, List.set_cons_succ, List.getElem_toArray, List.getElem_cons_zero, List.getElem_cons_succ]
      refine wpAnyH_done (by kernel_rfl) ?_ _
      clear hHeld
      have HR30 := Lib.hid HR23.out
      clear HRE S20 V20 U20 S21 V21 U21 G22 G23 HR20 HR21 HR22 HTM HSG HZD HR16
      obtain ⟨k0, k1, k2, k3, k4, k5, k6, k7, k8, k9, k10, k11, k12, k13, k14, k15, k16, k17, k18, k19, k20⟩ := HK5.out _ HR30.out
      obtain ⟨w31, hw31⟩ : ∃ w31, w31 = w23.alloc (.cells #[.bool xs, .slice xa xl xc, .slice xb xk xe, .bool ts, .slice ta tl tc, .slice tb tk te] 29) := ⟨_, rfl⟩
      have HR31 : Hid (Room b w5 w31) := Lib.hid (by rw [hw31]; exact HR30.out.alloc _)
      obtain ⟨l0, l1, l2, l3, l4, l5, l6, l7, l8, l9, l10, l11, l12, l13, l14, l15, l16, l17, l18, l19, l20⟩ := HK5.out _ HR31.out
      rw [hw31] at l0 l1 l2 l3 l4 l5 l6 l7 l8 l9 l10 l11 l12 l13 l14 l15 l16 l17 l18 l19 l20
      have HC31 := Lib.hid (gotP_cmp (W5 := w31) (HV5.out _ HR31.out).1 (HV5.out _ HR31.out).2.2.1 (by have := HZ.out; omega) (by have := HZ.out; omega) (Below.refl _ _) HC1.out)
      have HL31 : Hid (∀ W, Below w31.heap.size w31 W → (W.cell? ⟨w23.heap.size, 0, none⟩ = some (.bool xs) ∧ W.cell? ⟨w23.heap.size, 1, none⟩ = some (.slice xa xl xc) ∧ W.cell? ⟨w23.heap.size, 2, none⟩ = some (.slice xb xk xe) ∧ W.cell? ⟨w23.heap.size, 3, none⟩ = some (.bool ts) ∧ W.cell? ⟨w23.heap.size, 4, none⟩ = some (.slice ta tl tc) ∧ W.cell? ⟨w23.heap.size, 5, none⟩ = some (.slice tb tk te))) := Lib.hid fun W h => by
        obtain ⟨h0, h1, h2, h3, h4, h5, _⟩ := cells6 (stay (show w31.heap[w23.heap.size]? = _ by rw [hw31]; exact heap_alloc_new w23 _) h)
        exact ⟨h0, h1, h2, h3, h4, h5⟩
      have HW31 := Lib.hid hw31
      clear hw31
      go_wp2_with fail
      rw [← HW31.out]
      have HF : Hid (∀ W, Room b w5 W → Below w.heap.size w W) := Lib.hid fun W h => h.below HBW.out HGE.out (.inl (Nat.le_refl _)) HBW.out.size
      rcases h1v with rfl | rfl | rfl
      · refine HC31.out.mono ?_
        rintro e w32 ⟨rfl, G32⟩
        have HR32 := Lib.hid (HR31.out.kept G32.out)
        obtain ⟨k0, k1, k2, k3, k4, k5, k6, k7, k8, k9, k10, k11, k12, k13, k14, k15, k16, k17, k18, k19, k20⟩ := HK5.out _ HR32.out
        obtain ⟨i0, i1, i2, i3, i4, i5⟩ := HL31.out _ G32.out
        have HC32 := Lib.hid (CmpPP (W5 := w32) (HV5.out _ HR32.out).1 (HV5.out _ HR32.out).2.2.2.2.2.1 (HV5.out _ HR32.out).2.2.1 (HV5.out _ HR32.out).2.2.2.1 (by have := HZ.out; omega) (by have := HZ.out; omega) (by have := HZ.out; omega) (by have := HZ.out; omega) (Below.refl _ _) (HCW.out (by decide)))
        clear HC31 HL31 HW31 G32
        go_wp2_with fail
        refine HC32.out.mono ?_
        rintro e w33 ⟨rfl, G33⟩
        have HE := Lib.hid (HF.out _ (HR32.out.kept G33.out))
        clear G33 HC32 HR32 HR31 HR30 HF
        go_wp2_with fail
        go_ret
        exact ⟨rfl, HE.out⟩
      · refine HC31.out.mono ?_
        rintro e w32 ⟨rfl, G32⟩
        have HE := Lib.hid (HF.out _ (HR31.out.kept G32.out))
        clear G32 HC31 HL31 HW31 HR31 HR30 HF
        go_wp2_with fail
        go_ret
        exact ⟨rfl, HE.out⟩
      · refine HC31.out.mono ?_
        rintro e w32 ⟨rfl, G32⟩
        have HR32 := Lib.hid (HR31.out.kept G32.out)
        obtain ⟨k0, k1, k2, k3, k4, k5, k6, k7, k8, k9, k10, k11, k12, k13, k14, k15, k16, k17, k18, k19, k20⟩ := HK5.out _ HR32.out
        obtain ⟨i0, i1, i2, i3, i4, i5⟩ := HL31.out _ G32.out
        have HC32 := Lib.hid (CmpPP (W5 := w32) (HV5.out _ HR32.out).1 (HV5.out _ HR32.out).2.2.2.2.2.1 (HV5.out _ HR32.out).2.2.1 (HV5.out _ HR32.out).2.2.2.1 (by have := HZ.out; omega) (by have := HZ.out; omega) (by have := HZ.out; omega) (by have := HZ.out; omega) (Below.refl _ _) (HCW.out (by decide)))
        clear HC31 HL31 HW31 G32
        go_wp2_with fail
        refine HC32.out.mono ?_
        rintro e w33 ⟨rfl, G33⟩
        have HE := Lib.hid (HF.out _ (HR32.out.kept G33.out))
        clear G33 HC32 HR32 HR31 HR30 HF
        go_wp2_with fail
        go_ret
        exact ⟨rfl, HE.out⟩
    · have HTM : Hid (cmpDQ (kq * q) (kq * r) (kq * q') (kq * r') = -1) := Lib.hid (HTM0.out.trans (by decide))
      clear HTM0
      refine wp_region_held_drew (S := (fun w' => w'.cell? ⟨w.heap.size, 0, none⟩ = some (.bool xs) ∧ w'.cell? ⟨w.heap.size, 1, none⟩ = some (.slice xa xl xc) ∧ w'.cell? ⟨w.heap.size, 2, none⟩ = some (.slice xb xk xe) ∧ w'.cell? ⟨w.heap.size, 3, none⟩ = some (.bool us) ∧ w'.cell? ⟨w.heap.size, 4, none⟩ = some (.slice ua ul uc) ∧ w'.cell? ⟨w.heap.size, 5, none⟩ = some (.slice ub uk ue) ∧ w'.cell? ⟨w.heap.size + 1, 0, none⟩ = some (.bool ys) ∧ w'.cell? ⟨w.heap.size + 1, 1, none⟩ = some (.slice ya yl yc) ∧ w'.cell? ⟨w.heap.size + 1, 2, none⟩ = some (.slice yb yk ye) ∧ w'.cell? ⟨w.heap.size + 1, 3, none⟩ = some (.bool vs) ∧ w'.cell? ⟨w.heap.size + 1, 4, none⟩ = some (.slice va vl vc) ∧ w'.cell? ⟨w.heap.size + 1, 5, none⟩ = some (.slice vb vk ve) ∧ w'.cell? ⟨w.heap.size + 1 + 1, 0, none⟩ = some (.bool zs) ∧ w'.cell? ⟨w.heap.size + 1 + 1, 1, none⟩ = some (.slice za zl zc) ∧ w'.cell? ⟨w.heap.size + 1 + 1, 2, none⟩ = some (.slice zb zk ze) ∧ w'.cell? ⟨w.heap.size + 1 + 1, 3, none⟩ = some (.bool ts) ∧ w'.cell? ⟨w.heap.size + 1 + 1, 4, none⟩ = some (.slice ta tl tc) ∧ w'.cell? ⟨w.heap.size + 1 + 1, 5, none⟩ = some (.slice tb tk te) ∧ w'.cell? ⟨w.heap.size + 1 + 1 + 1, 0, none⟩ = some (.bool ks) ∧ w'.cell? ⟨w.heap.size + 1 + 1 + 1, 1, none⟩ = some (.slice ka kl kc) ∧ w'.cell? ⟨w.heap.size + 1 + 1 + 1, 2, none⟩ = some (.slice kb kk ke))) (by kernel_rfl) ?_ (fun hHeld => ?_)
      · exact HK5.out _ HRE.out
      refine wpAnyH_take (i := 0) (v := ?_) (by rfl) (by kernel_rfl) (by kernel_rfl) (by kernel_rfl) (by exact fun _ _ _ h => h) (Or.inl ⟨by rfl, ?_⟩) hHeld ?_
      rotate_left 1
      · intro w' hSw
        go_simp
        try with_reducible rfl
      try simp only [Act.put, List.setIfInBounds_toArray, List.set_cons_zero, List.set_cons_succ, List.getElem_toArray, List.getElem_cons_zero, List.getElem_cons_succ]
      refine wpAnyH_take (i := 1) (v := ?_) (by rfl) (by kernel_rfl) (by kernel_rfl) (by kernel_rfl) (by exact fun _ _ _ h => h) (Or.inl ⟨by rfl, ?_⟩) hHeld ?_
      rotate_left 1
      · intro w' hSw
        go_simp
        try with_reducible rfl
      try simp only [Act.put, List.setIfInBounds_toArray, List.set_cons_zero, List.set_cons_succ, List.getElem_toArray, List.getElem_cons_zero, List.getElem_cons_succ]
      refine wpAnyH_take (i := 2) (v := ?_) (by rfl) (by kernel_rfl) (by kernel_rfl) (by kernel_rfl) (by exact fun _ _ _ h => h) (Or.inl ⟨by rfl, ?_⟩) hHeld ?_
      rotate_left 1
      · intro w' hSw
        go_simp
        try with_reducible rfl
      try simp only [Act.put, List.setIfInBounds_toArray, List.set_cons_zero, List.set_cons_succ, List.getElem_toArray, List.getElem_cons_zero, List.getElem_cons_succ]
      refine wpAnyH_take (i := 4) (v := ?_) (by rfl) (by kernel_rfl) (by kernel_rfl) (by kernel_rfl) (by exact fun _ _ _ h => h) (Or.inl ⟨by rfl, ?_⟩) hHeld ?_
      rotate_left 1
      · intro w' hSw
        go_simp
        try with_reducible rfl
      try simp only [Act.put, List.setIfInBounds_toArray, List.set_cons_zero, List.set_cons_succ, List.getElem_toArray, List.getElem_cons_zero, List.getElem_cons_succ]
      refine wpAnyH_take (i := 5) (v := ?_) (by rfl) (by kernel_rfl) (by kernel_rfl) (by kernel_rfl) (by exact fun _ _ _ h => h) (Or.inl ⟨by rfl, ?_⟩) hHeld ?_
      rotate_left 1
      · intro w' hSw
        go_simp
        try with_reducible rfl
      try simp only [Act.put, List.setIfInBounds_toArray, List.set_cons_zero, List.set_cons_succ, List.getElem_toArray, List.getElem_cons_zero, List.getElem_cons_succ]
      refine wpAnyH_take (i := 6) (v := ?_) (by rfl) (by kernel_rfl) (by kernel_rfl) (by kernel_rfl) (by exact fun _ _ _ h => h) (Or.inl ⟨by rfl, ?_⟩) hHeld ?_
      rotate_left 1
      · intro w' hSw
        go_simp
        try with_reducible rfl
      try simp only [Act.put, List.setIfInBounds_toArray, List.set_cons_zero, List.set_cons_succ, List.getElem_toArray, List.getElem_cons_zero, List.getElem_cons_succ]
      refine wpAnyH_take (i := 9) (v := ?_) (by rfl) (by kernel_rfl) (by kernel_rfl) (by kernel_rfl) (by exact fun _ _ _ h => h) (Or.inl ⟨by rfl, ?_⟩) hHeld ?_
      rotate_left 1
      · intro w' hSw
        go_simp
        try with_reducible rfl
      try simp only [Act.put, List.setIfInBounds_toArray, List.set_cons_zero, List.set_cons_succ, List.getElem_toArray, List.getElem_cons_zero, List.getElem_cons_succ]
      refine wpAnyH_take (i := 10) (v := ?_) (by rfl) (by kernel_rfl) (by kernel_rfl) (by kernel_rfl) (by exact fun _ _ _ h => h) (Or.inl ⟨by rfl, ?_⟩) hHeld ?_
      rotate_left 1
      · intro w' hSw
        go_simp
        try with_reducible rfl
      try simp only [Act.put, List.setIfInBounds_toArray, List.set_cons_zero, List.set_cons_succ, List.getElem_toArray, List.getElem_cons_zero, List.getElem_cons_succ]
      refine wpAnyH_ready (rs := [3]) (by kernel_rfl) (by simp) ?_
      refine AllReadyH.cons (by rfl) (fun K hK => ?_) AllReadyH.nil
      go_simp
      with_reducible refine (scaleBB (Room.refl HRE.out.bench HRE.out.tab) (HV5.out _ HRE.out).1 (HV5.out _ HRE.out).2.1 (HV5.out _ HRE.out).2.2.2.2.2.2 (by have := HZ.out; omega) (by have := HZ.out; omega) (by have := HZ.out; omega)).mono ?_
      rintro e w20 ⟨fs, fa, fl, fc, fb, fk, fe, hs, ha, hl, hc, hb, hk, he, rfl, S20, V20, U20⟩
      have HR20 := Lib.hid (HRE.out.trans S20.out)
      clear hHeld
      refine hK.out _ _ ?_ (fun hHeld => ?_)
      · exact HK5.out _ HR20.out
      clear hK K
      try simp only [Act.put, List.setIfInBounds_toArray, List.set_cons_zero, List.set_cons_succ, List.getElem_toArray, List.getElem_cons_zero, List.getElem_cons_succ]
      refine wpAnyH_ready (rs := [7]) (by kernel_rfl) (by simp) ?_
      refine AllReadyH.cons (by rfl) (fun K hK => ?_) AllReadyH.nil
      go_simp
      with_reducible refine (scaleBB (Room.refl HR20.out.bench HR20.out.tab) (HV5.out _ HR20.out).2.2.1 (HV5.out _ HR20.out).2.2.2.1 (HV5.out _ HR20.out).2.2.2.2.2.2 (by have := HZ.out; omega) (by have := HZ.out; omega) (by have := HZ.out; omega)).mono ?_
      rintro e w21 ⟨ms, ma, ml, mc, mb, mk, me, os, oa, ol, oc, ob, ok, oe, rfl, S21, V21, U21⟩
      have HR21 := Lib.hid (HR20.out.trans S21.out)
      clear hHeld
      refine hK.out _ _ ?_ (fun hHeld => ?_)
      · exact HK5.out _ HR21.out
      clear hK K
      try simp only [Act.put, List.setIfInBounds_toArray, List.set_cons_zero, List.set_cons_succ, List.getElem_toArray, List.getElem_cons_zero, List.getElem_cons_succ]
      refine wpAnyH_ready (rs := [8]) (by kernel_rfl) (by simp) ?_
      refine AllReadyH.cons (by rfl) (fun K hK => ?_) AllReadyH.nil
      go_simp
      with_reducible refine (CmpPP (S21.out.vq HR20.out.bench V20.out) (S21.out.vq HR20.out.bench U20.out) V21.out U21.out HZD.out.1 HZD.out.2.1 HZD.out.2.2.1 HZD.out.2.2.2 (Below.refl _ _) HTM.out).mono ?_
      rintro e w22 ⟨rfl, G22⟩
      have HR22 := Lib.hid (HR21.out.kept G22.out)
      clear hHeld
      refine hK.out _ _ ?_ (fun hHeld => ?_)
      · exact HK5.out _ HR22.out
      clear hK K
      try simp only [Act.put, List.setIfInBounds_toArray, List.set_cons_zero, List.set_cons_succ, List.getElem_toArray, List.getElem_cons_zero, List.getElem_cons_succ]
      refine wpAnyH_ready (rs := [11]) (by kernel_rfl) (by simp) ?_
      refine AllReadyH.cons (by rfl) (fun K hK => ?_) AllReadyH.nil
      go_simp
      with_reducible refine (gotP_sign (HV5.out _ HR22.out).2.2.2.2.2.2 (by have := HZ.out; omega) (Below.refl _ _) HSG.out).mono ?_
      rintro e w23 ⟨rfl, G23⟩
      have HR23 := Lib.hid (HR22.out.kept G23.out)
      clear hHeld
      refine hK.out _ _ ?_ (fun hHeld => ?_)
      · exact HK5.out _ HR23.out
      clear hK K
      try simp only [Act.put, List.setIfInBounds_toArray, List.set_cons_zero, List.set_cons_succ, List.getElem_toArray, List.getElem_cons_zero, List.getElem_cons_succ]
      refine wpAnyH_take (i := 12) (v := ?_) (by rfl) (by kernel_rfl) (by kernel_rfl) (by kernel_rfl) (by exact fun _ _ _ h => h) (Or.inl ⟨by rfl, ?_⟩) hHeld ?_
      rotate_left 1
      · intro w' hSw
        go_simp
        try with_reducible rfl
      try simp only [Act.put, List.setIfInBounds_toArray, List.set_cons_zero, List.set_cons_succ, List.getElem_toArray, List.getElem_cons_zero, List.getElem_cons_succ]
      refine wpAnyH_take (i := 13) (v := ?_) (by rfl) (by kernel_rfl) (by kernel_rfl) (by kernel_rfl) (by exact fun _ _ _ h => h) (Or.inl ⟨by rfl, ?_⟩) hHeld ?_
      rotate_left 1
      · intro w' hSw
        go_simp
        try with_reducible rfl
      try simp only [Act.put, List.setIfInBounds_toArray, List.set_cons_zero, List.set_cons_succ, List.getElem_toArray, List.getElem_cons_zero, List.getElem_cons_succ]
      refine wpAnyH_done (by kernel_rfl) ?_ _
      clear hHeld
      have HR30 := Lib.hid HR23.out
      clear HRE S20 V20 U20 S21 V21 U21 G22 G23 HR20 HR21 HR22 HTM HSG HZD HR16
      obtain ⟨k0, k1, k2, k3, k4, k5, k6, k7, k8, k9, k10, k11, k12, k13, k14, k15, k16, k17, k18, k19, k20⟩ := HK5.out _ HR30.out
      obtain ⟨w31, hw31⟩ : ∃ w31, w31 = w23.alloc (.cells #[.bool xs, .slice xa xl xc, .slice xb xk xe, .bool ts, .slice ta tl tc, .slice tb tk te] 29) := ⟨_, rfl⟩
      have HR31 : Hid (Room b w5 w31) := Lib.hid (by rw [hw31]; exact HR30.out.alloc _)
      obtain ⟨l0, l1, l2, l3, l4, l5, l6, l7, l8, l9, l10, l11, l12, l13, l14, l15, l16, l17, l18, l19, l20⟩ := HK5.out _ HR31.out
      rw [hw31] at l0 l1 l2 l3 l4 l5 l6 l7 l8 l9 l10 l11 l12 l13 l14 l15 l16 l17 l18 l19 l20
      have HC31 := Lib.hid (gotP_cmp (W5 := w31) (HV5.out _ HR31.out).1 (HV5.out _ HR31.out).2.2.1 (by have := HZ.out; omega) (by have := HZ.out; omega) (Below.refl _ _) HC1.out)
      have HL31 : Hid (∀ W, Below w31.heap.size w31 W → (W.cell? ⟨w23.heap.size, 0, none⟩ = some (.bool xs) ∧ W.cell? ⟨w23.heap.size, 1, none⟩ = some (.slice xa xl xc) ∧ W.cell? ⟨w23.heap.size, 2, none⟩ = some (.slice xb xk xe) ∧ W.cell? ⟨w23.heap.size, 3, none⟩ = some (.bool ts) ∧ W.cell? ⟨w23.heap.size, 4, none⟩ = some (.slice ta tl tc) ∧ W.cell? ⟨w23.heap.size, 5, none⟩ = some (.slice tb tk te))) := Lib.hid fun W h => by
        obtain ⟨h0, h1, h2, h3, h4, h5, _⟩ := cells6 (stay (show w31.heap[w23.heap.size]? = _ by rw [hw31]; exact heap_alloc_new w23 _) h)
        exact ⟨h0, h1, h2, h3, h4, h5⟩
      have HW31 := Lib.hid hw31
      clear hw31
      go_wp2_with fail
      rw [← HW31.out]
      have HF : Hid (∀ W, Room b w5 W → Below w.heap.size w W) := Lib.hid fun W h => h.below HBW.out HGE.out (.inl (Nat.le_refl _)) HBW.out.size
      rcases h1v with rfl | rfl | rfl
      · refine HC31.out.mono ?_
        rintro e w32 ⟨rfl, G32⟩
        have HR32 := Lib.hid (HR31.out.kept G32.out)
        obtain ⟨k0, k1, k2, k3, k4, k5, k6, k7, k8, k9, k10, k11, k12, k13, k14, k15, k16, k17, k18, k19, k20⟩ := HK5.out _ HR32.out
        obtain ⟨i0, i1, i2, i3, i4, i5⟩ := HL31.out _ G32.out
        have HC32 := Lib.hid (CmpPP (W5 := w32) (HV5.out _ HR32.out).1 (HV5.out _ HR32.out).2.2.2.2.2.1 (HV5.out _ HR32.out).2.2.1 (HV5.out _ HR32.out).2.2.2.1 (by have := HZ.out; omega) (by have := HZ.out; omega) (by have := HZ.out; omega) (by have := HZ.out; omega) (Below.refl _ _) (HCW.out (by decide)))
        clear HC31 HL31 HW31 G32
        go_wp2_with fail
        refine HC32.out.mono ?_
        rintro e w33 ⟨rfl, G33⟩
        have HE := Lib.hid (HF.out _ (HR32.out.kept G33.out))
        clear G33 HC32 HR32 HR31 HR30 HF
        go_wp2_with fail
        go_ret
        exact ⟨rfl, HE.out⟩
      · refine HC31.out.mono ?_
        rintro e w32 ⟨rfl, G32⟩
        have HE := Lib.hid (HF.out _ (HR31.out.kept G32.out))
        clear G32 HC31 HL31 HW31 HR31 HR30 HF
        go_wp2_with fail
        go_ret
        exact ⟨rfl, HE.out⟩
      · refine HC31.out.mono ?_
        rintro e w32 ⟨rfl, G32⟩
        have HR32 := Lib.hid (HR31.out.kept G32.out)
        obtain ⟨k0, k1, k2, k3, k4, k5, k6, k7, k8, k9, k10, k11, k12, k13, k14, k15, k16, k17, k18, k19, k20⟩ := HK5.out _ HR32.out
        obtain ⟨i0, i1, i2, i3, i4, i5⟩ := HL31.out _ G32.out
        have HC32 := Lib.hid (CmpPP (W5 := w32) (HV5.out _ HR32.out).1 (HV5.out _ HR32.out).2.2.2.2.2.1 (HV5.out _ HR32.out).2.2.1 (HV5.out _ HR32.out).2.2.2.1 (by have := HZ.out; omega) (by have := HZ.out; omega) (by have := HZ.out; omega) (by have := HZ.out; omega) (Below.refl _ _) (HCW.out (by decide)))
        clear HC31 HL31 HW31 G32
        go_wp2_with fail
        refine HC32.out.mono ?_
        rintro e w33 ⟨rfl, G33⟩
        have HE := Lib.hid (HF.out _ (HR32.out.kept G33.out))
        clear G33 HC32 HR32 HR31 HR30 HF
        go_wp2_with fail
        go_ret
        exact ⟨rfl, HE.out⟩
  · have HTU : Hid (cmpDQ q' r' q r = 0) := Lib.hid (HTU0.out.trans (by decide))
    clear HTU0
    have hwa : IntKind.i64.wrap (-1) = -1 := by decide
    have hwb : IntKind.i64.wrap 0 = 0 := by decide
    have hwc : IntKind.i64.wrap 1 = 1 := by decide
    go_wp2_with fail
    refine wp_region_held_drew (S := (fun w' => w'.cell? ⟨w.heap.size, 0, none⟩ = some (.bool xs) ∧ w'.cell? ⟨w.heap.size, 1, none⟩ = some (.slice xa xl xc) ∧ w'.cell? ⟨w.heap.size, 2, none⟩ = some (.slice xb xk xe) ∧ w'.cell? ⟨w.heap.size, 3, none⟩ = some (.bool us) ∧ w'.cell? ⟨w.heap.size, 4, none⟩ = some (.slice ua ul uc) ∧ w'.cell? ⟨w.heap.size, 5, none⟩ = some (.slice ub uk ue) ∧ w'.cell? ⟨w.heap.size + 1, 0, none⟩ = some (.bool ys) ∧ w'.cell? ⟨w.heap.size + 1, 1, none⟩ = some (.slice ya yl yc) ∧ w'.cell? ⟨w.heap.size + 1, 2, none⟩ = some (.slice yb yk ye) ∧ w'.cell? ⟨w.heap.size + 1, 3, none⟩ = some (.bool vs) ∧ w'.cell? ⟨w.heap.size + 1, 4, none⟩ = some (.slice va vl vc) ∧ w'.cell? ⟨w.heap.size + 1, 5, none⟩ = some (.slice vb vk ve) ∧ w'.cell? ⟨w.heap.size + 1 + 1, 0, none⟩ = some (.bool zs) ∧ w'.cell? ⟨w.heap.size + 1 + 1, 1, none⟩ = some (.slice za zl zc) ∧ w'.cell? ⟨w.heap.size + 1 + 1, 2, none⟩ = some (.slice zb zk ze) ∧ w'.cell? ⟨w.heap.size + 1 + 1, 3, none⟩ = some (.bool ts) ∧ w'.cell? ⟨w.heap.size + 1 + 1, 4, none⟩ = some (.slice ta tl tc) ∧ w'.cell? ⟨w.heap.size + 1 + 1, 5, none⟩ = some (.slice tb tk te) ∧ w'.cell? ⟨w.heap.size + 1 + 1 + 1, 0, none⟩ = some (.bool ks) ∧ w'.cell? ⟨w.heap.size + 1 + 1 + 1, 1, none⟩ = some (.slice ka kl kc) ∧ w'.cell? ⟨w.heap.size + 1 + 1 + 1, 2, none⟩ = some (.slice kb kk ke))) (by kernel_rfl) ?_ (fun hHeld => ?_)
    · exact HK5.out _ HRD.out
    refine wpAnyH_take (i := 0) (v := ?_) (by rfl) (by kernel_rfl) (by kernel_rfl) (by kernel_rfl) (by exact fun _ _ _ h => h) (Or.inl ⟨by rfl, ?_⟩) hHeld ?_
    rotate_left 1
    · intro w' hSw
      go_simp
      try with_reducible rfl
    try simp only [Act.put, List.setIfInBounds_toArray, List.set_cons_zero, List.set_cons_succ, List.getElem_toArray, List.getElem_cons_zero, List.getElem_cons_succ]
    refine wpAnyH_take (i := 1) (v := ?_) (by rfl) (by kernel_rfl) (by kernel_rfl) (by kernel_rfl) (by exact fun _ _ _ h => h) (Or.inl ⟨by rfl, ?_⟩) hHeld ?_
    rotate_left 1
    · intro w' hSw
      go_simp
      try with_reducible rfl
    try simp only [Act.put, List.setIfInBounds_toArray, List.set_cons_zero, List.set_cons_succ, List.getElem_toArray, List.getElem_cons_zero, List.getElem_cons_succ]
    refine wpAnyH_take (i := 2) (v := ?_) (by rfl) (by kernel_rfl) (by kernel_rfl) (by kernel_rfl) (by exact fun _ _ _ h => h) (Or.inl ⟨by rfl, ?_⟩) hHeld ?_
    rotate_left 1
    · intro w' hSw
      go_simp
      try with_reducible rfl
    try simp only [Act.put, List.setIfInBounds_toArray, List.set_cons_zero, List.set_cons_succ, List.getElem_toArray, List.getElem_cons_zero, List.getElem_cons_succ]
    refine wpAnyH_take (i := 3) (v := ?_) (by rfl) (by kernel_rfl) (by kernel_rfl) (by kernel_rfl) (by exact fun _ _ _ h => h) (Or.inl ⟨by rfl, ?_⟩) hHeld ?_
    rotate_left 1
    · intro w' hSw
      go_simp
      try with_reducible rfl
    try simp only [Act.put, List.setIfInBounds_toArray, List.set_cons_zero, List.set_cons_succ, List.getElem_toArray, List.getElem_cons_zero, List.getElem_cons_succ]
    refine wpAnyH_take (i := 5) (v := ?_) (by rfl) (by kernel_rfl) (by kernel_rfl) (by kernel_rfl) (by exact fun _ _ _ h => h) (Or.inl ⟨by rfl, ?_⟩) hHeld ?_
    rotate_left 1
    · intro w' hSw
      go_simp
      try with_reducible rfl
    try simp only [Act.put, List.setIfInBounds_toArray, List.set_cons_zero, List.set_cons_succ, List.getElem_toArray, List.getElem_cons_zero, List.getElem_cons_succ]
    refine wpAnyH_take (i := 6) (v := ?_) (by rfl) (by kernel_rfl) (by kernel_rfl) (by kernel_rfl) (by exact fun _ _ _ h => h) (Or.inl ⟨by rfl, ?_⟩) hHeld ?_
    rotate_left 1
    · intro w' hSw
      go_simp
      try with_reducible rfl
    try simp only [Act.put, List.setIfInBounds_toArray, List.set_cons_zero, List.set_cons_succ, List.getElem_toArray, List.getElem_cons_zero, List.getElem_cons_succ]
    refine wpAnyH_take (i := 7) (v := ?_) (by rfl) (by kernel_rfl) (by kernel_rfl) (by kernel_rfl) (by exact fun _ _ _ h => h) (Or.inl ⟨by rfl, ?_⟩) hHeld ?_
    rotate_left 1
    · intro w' hSw
      go_simp
      try with_reducible rfl
    try simp only [Act.put, List.setIfInBounds_toArray, List.set_cons_zero, List.set_cons_succ, List.getElem_toArray, List.getElem_cons_zero, List.getElem_cons_succ]
    refine wpAnyH_ready (rs := [4]) (by kernel_rfl) (by simp) ?_
    refine AllReadyH.cons (by rfl) (fun K hK => ?_) AllReadyH.nil
    go_simp
    with_reducible refine (addBB (Room.refl HRD.out.bench HRD.out.tab) (HV5.out _ HRD.out).1 (HV5.out _ HRD.out).2.1 (HV5.out _ HRD.out).2.2.2.2.1 (HV5.out _ HRD.out).2.2.2.2.2.1 (by have := HZ.out; omega) (by have := HZ.out; omega) (by have := HZ.out; omega) (by have := HZ.out; omega)).mono ?_
    rintro e w10 ⟨fs, fa, fl, fc, fb, fk, fe, hs, ha, hl, hc, hb, hk, he, rfl, S10, V10, U10⟩
    have HR10 := Lib.hid (HRD.out.trans S10.out)
    clear hHeld
    refine hK.out _ _ ?_ (fun hHeld => ?_)
    · exact HK5.out _ HR10.out
    clear hK K
    try simp only [Act.put, List.setIfInBounds_toArray, List.set_cons_zero, List.set_cons_succ, List.getElem_toArray, List.getElem_cons_zero, List.getElem_cons_succ]
    refine wpAnyH_ready (rs := [8]) (by kernel_rfl) (by simp) ?_
    refine AllReadyH.cons (by rfl) (fun K hK => ?_) AllReadyH.nil
    go_simp
    with_reducible refine (addBB (Room.refl HR10.out.bench HR10.out.tab) (HV5.out _ HR10.out).2.2.1 (HV5.out _ HR10.out).2.2.2.1 (HV5.out _ HR10.out).2.2.2.2.1 (HV5.out _ HR10.out).2.2.2.2.2.1 (by have := HZ.out; omega) (by have := HZ.out; omega) (by have := HZ.out; omega) (by have := HZ.out; omega)).mono ?_
    rintro e w11 ⟨ms, ma, ml, mc, mb, mk, me, os, oa, ol, oc, ob, ok, oe, rfl, S11, V11, U11⟩
    have HR11 := Lib.hid (HR10.out.trans S11.out)
    clear hHeld
    refine hK.out _ _ ?_ (fun hHeld => ?_)
    · exact HK5.out _ HR11.out
    clear hK K
    try simp only [Act.put, List.setIfInBounds_toArray, List.set_cons_zero, List.set_cons_succ, List.getElem_toArray, List.getElem_cons_zero, List.getElem_cons_succ]
    refine wpAnyH_ready (rs := [9]) (by kernel_rfl) (by simp) ?_
    refine AllReadyH.cons (by rfl) (fun K hK => ?_) AllReadyH.nil
    go_simp
    with_reducible refine (CmpPP (S11.out.vq HR10.out.bench V10.out) (S11.out.vq HR10.out.bench U10.out) V11.out U11.out HZA.out.1 HZA.out.2.1 HZA.out.2.2.1 HZA.out.2.2.2 (Below.refl _ _) HPL.out).mono ?_
    rintro e w12 ⟨rfl, G12⟩
    have HR12 := Lib.hid (HR11.out.kept G12.out)
    clear hHeld
    refine hK.out _ _ ?_ (fun hHeld => ?_)
    · exact HK5.out _ HR12.out
    clear hK K
    try simp only [Act.put, List.setIfInBounds_toArray, List.set_cons_zero, List.set_cons_succ, List.getElem_toArray, List.getElem_cons_zero, List.getElem_cons_succ]
    refine wpAnyH_take (i := 10) (v := ?_) (by rfl) (by kernel_rfl) (by kernel_rfl) (by kernel_rfl) (by exact fun _ _ _ h => h) (Or.inl ⟨by rfl, ?_⟩) hHeld ?_
    rotate_left 1
    · intro w' hSw
      go_simp
      try with_reducible rfl
    try simp only [Act.put, List.setIfInBounds_toArray, List.set_cons_zero, List.set_cons_succ, List.getElem_toArray, List.getElem_cons_zero, List.getElem_cons_succ]
    refine wpAnyH_take (i := 11) (v := ?_) (by rfl) (by kernel_rfl) (by kernel_rfl) (by kernel_rfl) (by exact fun _ _ _ h => h) (Or.inl ⟨by rfl, ?_⟩) hHeld ?_
    rotate_left 1
    · intro w' hSw
      go_simp
      try with_reducible rfl
    try simp only [Act.put, List.setIfInBounds_toArray, List.set_cons_zero, List.set_cons_succ, List.getElem_toArray, List.getElem_cons_zero, List.getElem_cons_succ]
    refine wpAnyH_take (i := 12) (v := ?_) (by rfl) (by kernel_rfl) (by kernel_rfl) (by kernel_rfl) (by exact fun _ _ _ h => h) (Or.inl ⟨by rfl, ?_⟩) hHeld ?_
    rotate_left 1
    · intro w' hSw
      go_simp
      try with_reducible rfl
    try simp only [Act.put, List.setIfInBounds_toArray, List.set_cons_zero, List.set_cons_succ, List.getElem_toArray, List.getElem_cons_zero, List.getElem_cons_succ]
    refine wpAnyH_take (i := 13) (v := ?_) (by rfl) (by kernel_rfl) (by kernel_rfl) (by kernel_rfl) (by exact fun _ _ _ h => h) (Or.inl ⟨by rfl, ?_⟩) hHeld ?_
    rotate_left 1
    · intro w' hSw
      go_simp
      try with_reducible rfl
    try simp only [Act.put, List.setIfInBounds_toArray, List.set_cons_zero, List.set_cons_succ, List.getElem_toArray, List.getElem_cons_zero, List.getElem_cons_succ]
    refine wpAnyH_take (i := 14) (v := ?_) (by rfl) (by kernel_rfl) (by kernel_rfl) (by kernel_rfl) (by exact fun _ _ _ h => h) (Or.inl ⟨by rfl, ?_⟩) hHeld ?_
    rotate_left 1
    · intro w' hSw
      go_simp
      try with_reducible rfl
    try simp only [Act.put, List.setIfInBounds_toArray, List.set_cons_zero, List.set_cons_succ, List.getElem_toArray, List.getElem_cons_zero, List.getElem_cons_succ]
    refine wpAnyH_ready (rs := [15]) (by kernel_rfl) (by simp) ?_
    refine AllReadyH.cons (by rfl) (fun K hK => ?_) AllReadyH.nil
    go_simp
    with_reducible refine (CmpPP (HV5.out _ HR12.out).2.2.1 (HV5.out _ HR12.out).2.2.2.1 (HV5.out _ HR12.out).1 (HV5.out _ HR12.out).2.1 (by have := HZ.out; omega) (by have := HZ.out; omega) (by have := HZ.out; omega) (by have := HZ.out; omega) (Below.refl _ _) HTU.out).mono ?_
    rintro e w13 ⟨rfl, G13⟩
    have HR13 := Lib.hid (HR12.out.kept G13.out)
    clear hHeld
    refine hK.out _ _ ?_ (fun hHeld => ?_)
    · exact HK5.out _ HR13.out
    clear hK K
    try simp only [Act.put, List.setIfInBounds_toArray, List.set_cons_zero, List.set_cons_succ, List.getElem_toArray, List.getElem_cons_zero, List.getElem_cons_succ]
    refine wpAnyH_take (i := 16) (v := ?_) (by rfl) (by kernel_rfl) (by kernel_rfl) (by kernel_rfl) (by exact fun _ _ _ h => h) (Or.inl ⟨by rfl, ?_⟩) hHeld ?_
    rotate_left 1
    · intro w' hSw
      go_simp
      try with_reducible rfl
    try simp only [Act.put, List.setIfInBounds_toArray, List.set_cons_zero, List.set_cons_succ, List.getElem_toArray, List.getElem_cons_zero, List.getElem_cons_succ]
    refine wpAnyH_take (i := 17) (v := ?_) (by rfl) (by kernel_rfl) (by kernel_rfl) (by kernel_rfl) (by exact fun _ _ _ h => h) (Or.inl ⟨by rfl, ?_⟩) hHeld ?_
    rotate_left 1
    · intro w' hSw
      go_simp
      try with_reducible rfl
    try simp only [Act.put, List.setIfInBounds_toArray, List.set_cons_zero, List.set_cons_succ, List.getElem_toArray, List.getElem_cons_zero, List.getElem_cons_succ]
    refine wpAnyH_take (i := 18) (v := ?_) (by rfl) (by kernel_rfl) (by kernel_rfl) (by kernel_rfl) (by exact fun _ _ _ h => h) (Or.inl ⟨by rfl, ?_⟩) hHeld ?_
    rotate_left 1
    · intro w' hSw
      go_simp
      try with_reducible rfl
    try simp only [Act.put, List.setIfInBounds_toArray, List.set_cons_zero, List.set_cons_succ, List.getElem_toArray, List.getElem_cons_zero, List.getElem_cons_succ]
    refine wpAnyH_take (i := 19) (v := ?_) (by rfl) (by kernel_rfl) (by kernel_rfl) (by kernel_rfl) (by exact fun _ _ _ h => h) (Or.inl ⟨by rfl, ?_⟩) hHeld ?_
    rotate_left 1
    · intro w' hSw
      go_simp
      try with_reducible rfl
    try simp only [Act.put, List.setIfInBounds_toArray, List.set_cons_zero, List.set_cons_succ, List.getElem_toArray, List.getElem_cons_zero, List.getElem_cons_succ]
    refine wpAnyH_take (i := 20) (v := ?_) (by rfl) (by kernel_rfl) (by kernel_rfl) (by kernel_rfl) (by exact fun _ _ _ h => h) (Or.inl ⟨by rfl, ?_⟩) hHeld ?_
    rotate_left 1
    · intro w' hSw
      go_simp
      try with_reducible rfl
    try simp only [Act.put, List.setIfInBounds_toArray, List.set_cons_zero, List.set_cons_succ, List.getElem_toArray, List.getElem_cons_zero, List.getElem_cons_succ]
    refine wpAnyH_take (i := 21) (v := ?_) (by rfl) (by kernel_rfl) (by kernel_rfl) (by kernel_rfl) (by exact fun _ _ _ h => h) (Or.inl ⟨by rfl, ?_⟩) hHeld ?_
    rotate_left 1
    · intro w' hSw
      go_simp
      try with_reducible rfl
    try simp only [Act.put, List.setIfInBounds_toArray, List.set_cons_zero, List.set_cons_succ, List.getElem_toArray, List.getElem_cons_zero, List.getElem_cons_succ]
    refine wpAnyH_take (i := 22) (v := ?_) (by rfl) (by kernel_rfl) (by kernel_rfl) (by kernel_rfl) (by exact fun _ _ _ h => h) (Or.inl ⟨by rfl, ?_⟩) hHeld ?_
    rotate_left 1
    · intro w' hSw
      go_simp
      try with_reducible rfl
    try simp only [Act.put, List.setIfInBounds_toArray, List.set_cons_zero, List.set_cons_succ, List.getElem_toArray, List.getElem_cons_zero, List.getElem_cons_succ]
    refine wpAnyH_take (i := 23) (v := ?_) (by rfl) (by kernel_rfl) (by kernel_rfl) (by kernel_rfl) (by exact fun _ _ _ h => h) (Or.inl ⟨by rfl, ?_⟩) hHeld ?_
    rotate_left 1
    · intro w' hSw
      go_simp
      try with_reducible rfl
    try simp only [Act.put, List.setIfInBounds_toArray, List.set_cons_zero, List.set_cons_succ, List.getElem_toArray, List.getElem_cons_zero, List.getElem_cons_succ]
    refine wpAnyH_take (i := 25) (v := ?_) (by rfl) (by kernel_rfl) (by kernel_rfl) (by kernel_rfl) (by exact fun _ _ _ h => h) (Or.inl ⟨by rfl, ?_⟩) hHeld ?_
    rotate_left 1
    · intro w' hSw
      go_simp
      try with_reducible rfl
    try simp only [Act.put, List.setIfInBounds_toArray, List.set_cons_zero, List.set_cons_succ, List.getElem_toArray, List.getElem_cons_zero, List.getElem_cons_succ]
    refine wpAnyH_take (i := 27) (v := ?_) (by rfl) (by kernel_rfl) (by kernel_rfl) (by kernel_rfl) (by exact fun _ _ _ h => h) (Or.inl ⟨by rfl, ?_⟩) hHeld ?_
    rotate_left 1
    · intro w' hSw
      go_simp
      try with_reducible rfl
    try simp only [Act.put, List.setIfInBounds_toArray, List.set_cons_zero, List.set_cons_succ, List.getElem_toArray, List.getElem_cons_zero, List.getElem_cons_succ]
    refine wpAnyH_ready (rs := [24]) (by kernel_rfl) (by simp) ?_
    refine AllReadyH.cons (by rfl) (fun K hK => ?_) AllReadyH.nil
    go_simp
    with_reducible refine (addBB (Room.refl HR13.out.bench HR13.out.tab) (HV5.out _ HR13.out).1 (HV5.out _ HR13.out).2.1 (HV5.out _ HR13.out).2.2.1 (HV5.out _ HR13.out).2.2.2.1 (by have := HZ.out; omega) (by have := HZ.out; omega) (by have := HZ.out; omega) (by have := HZ.out; omega)).mono ?_
    rintro e w14 ⟨ps, pa, pl, pc, pb, pk, pe, gs, ga, gl, gc, gb, gk, ge, rfl, S14, V14, U14⟩
    have HR14 := Lib.hid (HR13.out.trans S14.out)
    clear hHeld
    refine hK.out _ _ ?_ (fun hHeld => ?_)
    · exact HK5.out _ HR14.out
    clear hK K
    try simp only [Act.put, List.setIfInBounds_toArray, List.set_cons_zero, List.set_cons_succ, List.getElem_toArray, List.getElem_cons_zero, List.getElem_cons_succ]
    refine wpAnyH_ready (rs := [26]) (by kernel_rfl) (by simp) ?_
    refine AllReadyH.cons (by rfl) (fun K hK => ?_) AllReadyH.nil
    go_simp
    with_reducible refine (subBB (Room.refl HR14.out.bench HR14.out.tab) V14.out U14.out (HV5.out _ HR14.out).2.2.1 (HV5.out _ HR14.out).2.2.2.1 HZB.out.1 HZB.out.2 (by have := HZ.out; omega) (by have := HZ.out; omega)).mono ?_
    rintro e w15 ⟨is, ia, il, ic, ib, ik, ie, js, ja, jl, jc, jb, jk, je, rfl, S15, V15, U15⟩
    have HR15 := Lib.hid (HR14.out.trans S15.out)
    clear hHeld
    refine hK.out _ _ ?_ (fun hHeld => ?_)
    · exact HK5.out _ HR15.out
    clear hK K
    try simp only [Act.put, List.setIfInBounds_toArray, List.set_cons_zero, List.set_cons_succ, List.getElem_toArray, List.getElem_cons_zero, List.getElem_cons_succ]
    refine wpAnyH_ready (rs := [28]) (by kernel_rfl) (by simp) ?_
    refine AllReadyH.cons (by rfl) (fun K hK => ?_) AllReadyH.nil
    go_simp
    with_reducible refine (SameDD V15.out U15.out (HV5.out _ HR15.out).1 (HV5.out _ HR15.out).2.1 HZC.out.1 HZC.out.2 (by have := HZ.out; omega) (by have := HZ.out; omega) (Below.refl _ _) HBK.out.1 HBK.out.2).mono ?_
    rintro e w16 ⟨rfl, G16⟩
    have HR16 := Lib.hid (HR15.out.kept G16.out)
    clear hHeld
    refine hK.out _ _ ?_ (fun hHeld => ?_)
    · exact HK5.out _ HR16.out
    clear hK K
    try simp only [Act.put, List.setIfInBounds_toArray, List.set_cons_zero, List.set_cons_succ, List.getElem_toArray, List.getElem_cons_zero, List.getElem_cons_succ]
    refine wpAnyH_take (i := 29) (v := ?_) (by rfl) (by kernel_rfl) (by kernel_rfl) (by kernel_rfl) (by exact fun _ _ _ h => h) (Or.inl ⟨by rfl, ?_⟩) hHeld ?_
    rotate_left 1
    · intro w' hSw
      go_simp
      try with_reducible rfl
    try simp only [Act.put, List.setIfInBounds_toArray, List.set_cons_zero, List.set_cons_succ, List.getElem_toArray, List.getElem_cons_zero, List.getElem_cons_succ]
    refine wpAnyH_take (i := 30) (v := ?_) (by rfl) (by kernel_rfl) (by kernel_rfl) (by kernel_rfl) (by exact fun _ _ _ h => h) (Or.inl ⟨by rfl, ?_⟩) hHeld ?_
    rotate_left 1
    · intro w' hSw
      go_simp
      try with_reducible rfl
    try simp only [Act.put, List.setIfInBounds_toArray, List.set_cons_zero, List.set_cons_succ, List.getElem_toArray, List.getElem_cons_zero, List.getElem_cons_succ]
    refine wpAnyH_done (by kernel_rfl) ?_ _
    clear hHeld
    have HRE := Lib.hid (HR16.out.kept (below_drew _))
    obtain ⟨k0, k1, k2, k3, k4, k5, k6, k7, k8, k9, k10, k11, k12, k13, k14, k15, k16, k17, k18, k19, k20⟩ := HK5.out _ HR16.out
    clear HRD S10 V10 U10 S11 V11 U11 G12 G13 S14 V14 U14 S15 V15 U15 G16 HR10 HR11 HR12 HR13 HR14 HR15 HTU HPL HZA HZB HZC HBK
    go_wp2_with fail
    rcases hsv with rfl | rfl | rfl
    · have HTM : Hid (cmpDQ (kq * q) (kq * r) (kq * q') (kq * r') = 0) := Lib.hid (HTM0.out.trans (by decide))
      clear HTM0
      refine wp_region_held_drew (S := (fun w' => w'.cell? ⟨w.heap.size, 0, none⟩ = some (.bool xs) ∧ w'.cell? ⟨w.heap.size, 1, none⟩ = some (.slice xa xl xc) ∧ w'.cell? ⟨w.heap.size, 2, none⟩ = some (.slice xb xk xe) ∧ w'.cell? ⟨w.heap.size, 3, none⟩ = some (.bool us) ∧ w'.cell? ⟨w.heap.size, 4, none⟩ = some (.slice ua ul uc) ∧ w'.cell? ⟨w.heap.size, 5, none⟩ = some (.slice ub uk ue) ∧ w'.cell? ⟨w.heap.size + 1, 0, none⟩ = some (.bool ys) ∧ w'.cell? ⟨w.heap.size + 1, 1, none⟩ = some (.slice ya yl yc) ∧ w'.cell? ⟨w.heap.size + 1, 2, none⟩ = some (.slice yb yk ye) ∧ w'.cell? ⟨w.heap.size + 1, 3, none⟩ = some (.bool vs) ∧ w'.cell? ⟨w.heap.size + 1, 4, none⟩ = some (.slice va vl vc) ∧ w'.cell? ⟨w.heap.size + 1, 5, none⟩ = some (.slice vb vk ve) ∧ w'.cell? ⟨w.heap.size + 1 + 1, 0, none⟩ = some (.bool zs) ∧ w'.cell? ⟨w.heap.size + 1 + 1, 1, none⟩ = some (.slice za zl zc) ∧ w'.cell? ⟨w.heap.size + 1 + 1, 2, none⟩ = some (.slice zb zk ze) ∧ w'.cell? ⟨w.heap.size + 1 + 1, 3, none⟩ = some (.bool ts) ∧ w'.cell? ⟨w.heap.size + 1 + 1, 4, none⟩ = some (.slice ta tl tc) ∧ w'.cell? ⟨w.heap.size + 1 + 1, 5, none⟩ = some (.slice tb tk te) ∧ w'.cell? ⟨w.heap.size + 1 + 1 + 1, 0, none⟩ = some (.bool ks) ∧ w'.cell? ⟨w.heap.size + 1 + 1 + 1, 1, none⟩ = some (.slice ka kl kc) ∧ w'.cell? ⟨w.heap.size + 1 + 1 + 1, 2, none⟩ = some (.slice kb kk ke))) (by kernel_rfl) ?_ (fun hHeld => ?_)
      · exact HK5.out _ HRE.out
      refine wpAnyH_take (i := 0) (v := ?_) (by rfl) (by kernel_rfl) (by kernel_rfl) (by kernel_rfl) (by exact fun _ _ _ h => h) (Or.inl ⟨by rfl, ?_⟩) hHeld ?_
      rotate_left 1
      · intro w' hSw
        go_simp
        try with_reducible rfl
      try simp only [Act.put, List.setIfInBounds_toArray, List.set_cons_zero, List.set_cons_succ, List.getElem_toArray, List.getElem_cons_zero, List.getElem_cons_succ]
      refine wpAnyH_take (i := 1) (v := ?_) (by rfl) (by kernel_rfl) (by kernel_rfl) (by kernel_rfl) (by exact fun _ _ _ h => h) (Or.inl ⟨by rfl, ?_⟩) hHeld ?_
      rotate_left 1
      · intro w' hSw
        go_simp
        try with_reducible rfl
      try simp only [Act.put, List.setIfInBounds_toArray, List.set_cons_zero, List.set_cons_succ, List.getElem_toArray, List.getElem_cons_zero, List.getElem_cons_succ]
      refine wpAnyH_take (i := 2) (v := ?_) (by rfl) (by kernel_rfl) (by kernel_rfl) (by kernel_rfl) (by exact fun _ _ _ h => h) (Or.inl ⟨by rfl, ?_⟩) hHeld ?_
      rotate_left 1
      · intro w' hSw
        go_simp
        try with_reducible rfl
      try simp only [Act.put, List.setIfInBounds_toArray, List.set_cons_zero, List.set_cons_succ, List.getElem_toArray, List.getElem_cons_zero, List.getElem_cons_succ]
      refine wpAnyH_take (i := 4) (v := ?_) (by rfl) (by kernel_rfl) (by kernel_rfl) (by kernel_rfl) (by exact fun _ _ _ h => h) (Or.inl ⟨by rfl, ?_⟩) hHeld ?_
      rotate_left 1
      · intro w' hSw
        go_simp
        try with_reducible rfl
      try simp only [Act.put, List.setIfInBounds_toArray, List.set_cons_zero, List.set_cons_succ, List.getElem_toArray, List.getElem_cons_zero, List.getElem_cons_succ]
      refine wpAnyH_take (i := 5) (v := ?_) (by rfl) (by kernel_rfl) (by kernel_rfl) (by kernel_rfl) (by exact fun _ _ _ h => h) (Or.inl ⟨by rfl, ?_⟩) hHeld ?_
      rotate_left 1
      · intro w' hSw
        go_simp
        try with_reducible rfl
      try simp only [Act.put, List.setIfInBounds_toArray, List.set_cons_zero, List.set_cons_succ, List.getElem_toArray, List.getElem_cons_zero, List.getElem_cons_succ]
      refine wpAnyH_take (i := 6) (v := ?_) (by rfl) (by kernel_rfl) (by kernel_rfl) (by kernel_rfl) (by exact fun _ _ _ h => h) (Or.inl ⟨by rfl, ?_⟩) hHeld ?_
      rotate_left 1
      · intro w' hSw
        go_simp
        try with_reducible rfl
      try simp only [Act.put, List.setIfInBounds_toArray, List.set_cons_zero, List.set_cons_succ, List.getElem_toArray, List.getElem_cons_zero, List.getElem_cons_succ]
      refine wpAnyH_take (i := 9) (v := ?_) (by rfl) (by kernel_rfl) (by kernel_rfl) (by kernel_rfl) (by exact fun _ _ _ h => h) (Or.inl ⟨by rfl, ?_⟩) hHeld ?_
      rotate_left 1
      · intro w' hSw
        go_simp
        try with_reducible rfl
      try simp only [Act.put, List.setIfInBounds_toArray, List.set_cons_zero, List.set_cons_succ, List.getElem_toArray, List.getElem_cons_zero, List.getElem_cons_succ]
      refine wpAnyH_take (i := 10) (v := ?_) (by rfl) (by kernel_rfl) (by kernel_rfl) (by kernel_rfl) (by exact fun _ _ _ h => h) (Or.inl ⟨by rfl, ?_⟩) hHeld ?_
      rotate_left 1
      · intro w' hSw
        go_simp
        try with_reducible rfl
      try simp only [Act.put, List.setIfInBounds_toArray, List.set_cons_zero, List.set_cons_succ, List.getElem_toArray, List.getElem_cons_zero, List.getElem_cons_succ]
      refine wpAnyH_ready (rs := [3]) (by kernel_rfl) (by simp) ?_
      refine AllReadyH.cons (by rfl) (fun K hK => ?_) AllReadyH.nil
      go_simp
      with_reducible refine (scaleBB (Room.refl HRE.out.bench HRE.out.tab) (HV5.out _ HRE.out).1 (HV5.out _ HRE.out).2.1 (HV5.out _ HRE.out).2.2.2.2.2.2 (by have := HZ.out; omega) (by have := HZ.out; omega) (by have := HZ.out; omega)).mono ?_
      rintro e w20 ⟨fs, fa, fl, fc, fb, fk, fe, hs, ha, hl, hc, hb, hk, he, rfl, S20, V20, U20⟩
      have HR20 := Lib.hid (HRE.out.trans S20.out)
      clear hHeld
      refine hK.out _ _ ?_ (fun hHeld => ?_)
      · exact HK5.out _ HR20.out
      clear hK K
      try simp only [Act.put, List.setIfInBounds_toArray, List.set_cons_zero, List.set_cons_succ, List.getElem_toArray, List.getElem_cons_zero, List.getElem_cons_succ]
      refine wpAnyH_ready (rs := [7]) (by kernel_rfl) (by simp) ?_
      refine AllReadyH.cons (by rfl) (fun K hK => ?_) AllReadyH.nil
      go_simp
      with_reducible refine (scaleBB (Room.refl HR20.out.bench HR20.out.tab) (HV5.out _ HR20.out).2.2.1 (HV5.out _ HR20.out).2.2.2.1 (HV5.out _ HR20.out).2.2.2.2.2.2 (by have := HZ.out; omega) (by have := HZ.out; omega) (by have := HZ.out; omega)).mono ?_
      rintro e w21 ⟨ms, ma, ml, mc, mb, mk, me, os, oa, ol, oc, ob, ok, oe, rfl, S21, V21, U21⟩
      have HR21 := Lib.hid (HR20.out.trans S21.out)
      clear hHeld
      refine hK.out _ _ ?_ (fun hHeld => ?_)
      · exact HK5.out _ HR21.out
      clear hK K
      try simp only [Act.put, List.setIfInBounds_toArray, List.set_cons_zero, List.set_cons_succ, List.getElem_toArray, List.getElem_cons_zero, List.getElem_cons_succ]
      refine wpAnyH_ready (rs := [8]) (by kernel_rfl) (by simp) ?_
      refine AllReadyH.cons (by rfl) (fun K hK => ?_) AllReadyH.nil
      go_simp
      with_reducible refine (CmpPP (S21.out.vq HR20.out.bench V20.out) (S21.out.vq HR20.out.bench U20.out) V21.out U21.out HZD.out.1 HZD.out.2.1 HZD.out.2.2.1 HZD.out.2.2.2 (Below.refl _ _) HTM.out).mono ?_
      rintro e w22 ⟨rfl, G22⟩
      have HR22 := Lib.hid (HR21.out.kept G22.out)
      clear hHeld
      refine hK.out _ _ ?_ (fun hHeld => ?_)
      · exact HK5.out _ HR22.out
      clear hK K
      try simp only [Act.put, List.setIfInBounds_toArray, List.set_cons_zero, List.set_cons_succ, List.getElem_toArray, List.getElem_cons_zero, List.getElem_cons_succ]
      refine wpAnyH_ready (rs := [11]) (by kernel_rfl) (by simp) ?_
      refine AllReadyH.cons (by rfl) (fun K hK => ?_) AllReadyH.nil
      go_simp
      with_reducible refine (gotP_sign (HV5.out _ HR22.out).2.2.2.2.2.2 (by have := HZ.out; omega) (Below.refl _ _) HSG.out).mono ?_
      rintro e w23 ⟨rfl, G23⟩
      have HR23 := Lib.hid (HR22.out.kept G23.out)
      clear hHeld
      refine hK.out _ _ ?_ (fun hHeld => ?_)
      · exact HK5.out _ HR23.out
      clear hK K
      try simp only [Act.put, List.setIfInBounds_toArray, List.set_cons_zero, List.set_cons_succ, List.getElem_toArray, List.getElem_cons_zero, List.getElem_cons_succ]
      refine wpAnyH_take (i := 12) (v := ?_) (by rfl) (by kernel_rfl) (by kernel_rfl) (by kernel_rfl) (by exact fun _ _ _ h => h) (Or.inl ⟨by rfl, ?_⟩) hHeld ?_
      rotate_left 1
      · intro w' hSw
        go_simp
        try with_reducible rfl
      try simp only [Act.put, List.setIfInBounds_toArray, List.set_cons_zero, List.set_cons_succ, List.getElem_toArray, List.getElem_cons_zero, List.getElem_cons_succ]
      refine wpAnyH_take (i := 13) (v := ?_) (by rfl) (by kernel_rfl) (by kernel_rfl) (by kernel_rfl) (by exact fun _ _ _ h => h) (Or.inl ⟨by rfl, ?_⟩) hHeld ?_
      rotate_left 1
      · intro w' hSw
        go_simp
        try with_reducible rfl
      try simp only [Act.put, List.setIfInBounds_toArray, List.set_cons_zero, List.set_cons_succ, List.getElem_toArray, List.getElem_cons_zero, List.getElem_cons_succ]
      refine wpAnyH_done (by kernel_rfl) ?_ _
      clear hHeld
      have HR30 := Lib.hid HR23.out
      clear HRE S20 V20 U20 S21 V21 U21 G22 G23 HR20 HR21 HR22 HTM HSG HZD HR16
      obtain ⟨k0, k1, k2, k3, k4, k5, k6, k7, k8, k9, k10, k11, k12, k13, k14, k15, k16, k17, k18, k19, k20⟩ := HK5.out _ HR30.out
      obtain ⟨w31, hw31⟩ : ∃ w31, w31 = w23.alloc (.cells #[.bool xs, .slice xa xl xc, .slice xb xk xe, .bool ts, .slice ta tl tc, .slice tb tk te] 29) := ⟨_, rfl⟩
      have HR31 : Hid (Room b w5 w31) := Lib.hid (by rw [hw31]; exact HR30.out.alloc _)
      obtain ⟨l0, l1, l2, l3, l4, l5, l6, l7, l8, l9, l10, l11, l12, l13, l14, l15, l16, l17, l18, l19, l20⟩ := HK5.out _ HR31.out
      rw [hw31] at l0 l1 l2 l3 l4 l5 l6 l7 l8 l9 l10 l11 l12 l13 l14 l15 l16 l17 l18 l19 l20
      have HC31 := Lib.hid (gotP_cmp (W5 := w31) (HV5.out _ HR31.out).1 (HV5.out _ HR31.out).2.2.1 (by have := HZ.out; omega) (by have := HZ.out; omega) (Below.refl _ _) HC1.out)
      have HL31 : Hid (∀ W, Below w31.heap.size w31 W → (W.cell? ⟨w23.heap.size, 0, none⟩ = some (.bool xs) ∧ W.cell? ⟨w23.heap.size, 1, none⟩ = some (.slice xa xl xc) ∧ W.cell? ⟨w23.heap.size, 2, none⟩ = some (.slice xb xk xe) ∧ W.cell? ⟨w23.heap.size, 3, none⟩ = some (.bool ts) ∧ W.cell? ⟨w23.heap.size, 4, none⟩ = some (.slice ta tl tc) ∧ W.cell? ⟨w23.heap.size, 5, none⟩ = some (.slice tb tk te))) := Lib.hid fun W h => by
        obtain ⟨h0, h1, h2, h3, h4, h5, _⟩ := cells6 (stay (show w31.heap[w23.heap.size]? = _ by rw [hw31]; exact heap_alloc_new w23 _) h)
        exact ⟨h0, h1, h2, h3, h4, h5⟩
      have HW31 := Lib.hid hw31
      clear hw31
      go_wp2_with fail
      rw [← HW31.out]
      have HF : Hid (∀ W, Room b w5 W → Below w.heap.size w W) := Lib.hid fun W h => h.below HBW.out HGE.out (.inl (Nat.le_refl _)) HBW.out.size
      rcases h1v with rfl | rfl | rfl
      · refine HC31.out.mono ?_
        rintro e w32 ⟨rfl, G32⟩
        have HR32 := Lib.hid (HR31.out.kept G32.out)
        obtain ⟨k0, k1, k2, k3, k4, k5, k6, k7, k8, k9, k10, k11, k12, k13, k14, k15, k16, k17, k18, k19, k20⟩ := HK5.out _ HR32.out
        obtain ⟨i0, i1, i2, i3, i4, i5⟩ := HL31.out _ G32.out
        have HC32 := Lib.hid (CmpPP (W5 := w32) (HV5.out _ HR32.out).1 (HV5.out _ HR32.out).2.2.2.2.2.1 (HV5.out _ HR32.out).2.2.1 (HV5.out _ HR32.out).2.2.2.1 (by have := HZ.out; omega) (by have := HZ.out; omega) (by have := HZ.out; omega) (by have := HZ.out; omega) (Below.refl _ _) (HCW.out (by decide)))
        clear HC31 HL31 HW31 G32
        go_wp2_with fail
        refine HC32.out.mono ?_
        rintro e w33 ⟨rfl, G33⟩
        have HE := Lib.hid (HF.out _ (HR32.out.kept G33.out))
        clear G33 HC32 HR32 HR31 HR30 HF
        go_wp2_with fail
        go_ret
        exact ⟨rfl, HE.out⟩
      · refine HC31.out.mono ?_
        rintro e w32 ⟨rfl, G32⟩
        have HE := Lib.hid (HF.out _ (HR31.out.kept G32.out))
        clear G32 HC31 HL31 HW31 HR31 HR30 HF
        go_wp2_with fail
        go_ret
        exact ⟨rfl, HE.out⟩
      · refine HC31.out.mono ?_
        rintro e w32 ⟨rfl, G32⟩
        have HR32 := Lib.hid (HR31.out.kept G32.out)
        obtain ⟨k0, k1, k2, k3, k4, k5, k6, k7, k8, k9, k10, k11, k12, k13, k14, k15, k16, k17, k18, k19, k20⟩ := HK5.out _ HR32.out
        obtain ⟨i0, i1, i2, i3, i4, i5⟩ := HL31.out _ G32.out
        have HC32 := Lib.hid (CmpPP (W5 := w32) (HV5.out _ HR32.out).1 (HV5.out _ HR32.out).2.2.2.2.2.1 (HV5.out _ HR32.out).2.2.1 (HV5.out _ HR32.out).2.2.2.1 (by have := HZ.out; omega) (by have := HZ.out; omega) (by have := HZ.out; omega) (by have := HZ.out; omega) (Below.refl _ _) (HCW.out (by decide)))
        clear HC31 HL31 HW31 G32
        go_wp2_with fail
        refine HC32.out.mono ?_
        rintro e w33 ⟨rfl, G33⟩
        have HE := Lib.hid (HF.out _ (HR32.out.kept G33.out))
        clear G33 HC32 HR32 HR31 HR30 HF
        go_wp2_with fail
        go_ret
        exact ⟨rfl, HE.out⟩
    · have HTM : Hid (cmpDQ (kq * q) (kq * r) (kq * q') (kq * r') = 0) := Lib.hid (HTM0.out.trans (by decide))
      clear HTM0
      refine wp_region_held_drew (S := (fun w' => w'.cell? ⟨w.heap.size, 0, none⟩ = some (.bool xs) ∧ w'.cell? ⟨w.heap.size, 1, none⟩ = some (.slice xa xl xc) ∧ w'.cell? ⟨w.heap.size, 2, none⟩ = some (.slice xb xk xe) ∧ w'.cell? ⟨w.heap.size, 3, none⟩ = some (.bool us) ∧ w'.cell? ⟨w.heap.size, 4, none⟩ = some (.slice ua ul uc) ∧ w'.cell? ⟨w.heap.size, 5, none⟩ = some (.slice ub uk ue) ∧ w'.cell? ⟨w.heap.size + 1, 0, none⟩ = some (.bool ys) ∧ w'.cell? ⟨w.heap.size + 1, 1, none⟩ = some (.slice ya yl yc) ∧ w'.cell? ⟨w.heap.size + 1, 2, none⟩ = some (.slice yb yk ye) ∧ w'.cell? ⟨w.heap.size + 1, 3, none⟩ = some (.bool vs) ∧ w'.cell? ⟨w.heap.size + 1, 4, none⟩ = some (.slice va vl vc) ∧ w'.cell? ⟨w.heap.size + 1, 5, none⟩ = some (.slice vb vk ve) ∧ w'.cell? ⟨w.heap.size + 1 + 1, 0, none⟩ = some (.bool zs) ∧ w'.cell? ⟨w.heap.size + 1 + 1, 1, none⟩ = some (.slice za zl zc) ∧ w'.cell? ⟨w.heap.size + 1 + 1, 2, none⟩ = some (.slice zb zk ze) ∧ w'.cell? ⟨w.heap.size + 1 + 1, 3, none⟩ = some (.bool ts) ∧ w'.cell? ⟨w.heap.size + 1 + 1, 4, none⟩ = some (.slice ta tl tc) ∧ w'.cell? ⟨w.heap.size + 1 + 1, 5, none⟩ = some (.slice tb tk te) ∧ w'.cell? ⟨w.heap.size + 1 + 1 + 1, 0, none⟩ = some (.bool ks) ∧ w'.cell? ⟨w.heap.size + 1 + 1 + 1, 1, none⟩ = some (.slice ka kl kc) ∧ w'.cell? ⟨w.heap.size + 1 + 1 + 1, 2, none⟩ = some (.slice kb kk ke))) (by kernel_rfl) ?_ (fun hHeld => ?_)
      · exact HK5.out _ HRE.out
      refine wpAnyH_take (i := 0) (v := ?_) (by rfl) (by kernel_rfl) (by kernel_rfl) (by kernel_rfl) (by exact fun _ _ _ h => h) (Or.inl ⟨by rfl, ?_⟩) hHeld ?_
      rotate_left 1
      · intro w' hSw
        go_simp
        try with_reducible rfl
      try simp only [Act.put, List.setIfInBounds_toArray, List.set_cons_zero, List.set_cons_succ, List.getElem_toArray, List.getElem_cons_zero, List.getElem_cons_succ]
      refine wpAnyH_take (i := 1) (v := ?_) (by rfl) (by kernel_rfl) (by kernel_rfl) (by kernel_rfl) (by exact fun _ _ _ h => h) (Or.inl ⟨by rfl, ?_⟩) hHeld ?_
      rotate_left 1
      · intro w' hSw
        go_simp
        try with_reducible rfl
      try simp only [Act.put, List.setIfInBounds_toArray, List.set_cons_zero, List.set_cons_succ, List.getElem_toArray, List.getElem_cons_zero, List.getElem_cons_succ]
      refine wpAnyH_take (i := 2) (v := ?_) (by rfl) (by kernel_rfl) (by kernel_rfl) (by kernel_rfl) (by exact fun _ _ _ h => h) (Or.inl ⟨by rfl, ?_⟩) hHeld ?_
      rotate_left 1
      · intro w' hSw
        go_simp
        try with_reducible rfl
      try simp only [Act.put, List.setIfInBounds_toArray, List.set_cons_zero, List.set_cons_succ, List.getElem_toArray, List.getElem_cons_zero, List.getElem_cons_succ]
      refine wpAnyH_take (i := 4) (v := ?_) (by rfl) (by kernel_rfl) (by kernel_rfl) (by kernel_rfl) (by exact fun _ _ _ h => h) (Or.inl ⟨by rfl, ?_⟩) hHeld ?_
      rotate_left 1
      · intro w' hSw
        go_simp
        try with_reducible rfl
      try simp only [Act.put, List.setIfInBounds_toArray, List.set_cons_zero, List.set_cons_succ, List.getElem_toArray, List.getElem_cons_zero, List.getElem_cons_succ]
      refine wpAnyH_take (i := 5) (v := ?_) (by rfl) (by kernel_rfl) (by kernel_rfl) (by kernel_rfl) (by exact fun _ _ _ h => h) (Or.inl ⟨by rfl, ?_⟩) hHeld ?_
      rotate_left 1
      · intro w' hSw
        go_simp
        try with_reducible rfl
      try simp only [Act.put, List.setIfInBounds_toArray, List.set_cons_zero, List.set_cons_succ, List.getElem_toArray, List.getElem_cons_zero, List.getElem_cons_succ]
      refine wpAnyH_take (i := 6) (v := ?_) (by rfl) (by kernel_rfl) (by kernel_rfl) (by kernel_rfl) (by exact fun _ _ _ h => h) (Or.inl ⟨by rfl, ?_⟩) hHeld ?_
      rotate_left 1
      · intro w' hSw
        go_simp
        try with_reducible rfl
      try simp only [Act.put, List.setIfInBounds_toArray, List.set_cons_zero, List.set_cons_succ, List.getElem_toArray, List.getElem_cons_zero, List.getElem_cons_succ]
      refine wpAnyH_take (i := 9) (v := ?_) (by rfl) (by kernel_rfl) (by kernel_rfl) (by kernel_rfl) (by exact fun _ _ _ h => h) (Or.inl ⟨by rfl, ?_⟩) hHeld ?_
      rotate_left 1
      · intro w' hSw
        go_simp
        try with_reducible rfl
      try simp only [Act.put, List.setIfInBounds_toArray, List.set_cons_zero, List.set_cons_succ, List.getElem_toArray, List.getElem_cons_zero, List.getElem_cons_succ]
      refine wpAnyH_take (i := 10) (v := ?_) (by rfl) (by kernel_rfl) (by kernel_rfl) (by kernel_rfl) (by exact fun _ _ _ h => h) (Or.inl ⟨by rfl, ?_⟩) hHeld ?_
      rotate_left 1
      · intro w' hSw
        go_simp
        try with_reducible rfl
      try simp only [Act.put, List.setIfInBounds_toArray, List.set_cons_zero, List.set_cons_succ, List.getElem_toArray, List.getElem_cons_zero, List.getElem_cons_succ]
      refine wpAnyH_ready (rs := [3]) (by kernel_rfl) (by simp) ?_
      refine AllReadyH.cons (by rfl) (fun K hK => ?_) AllReadyH.nil
      go_simp
      with_reducible refine (scaleBB (Room.refl HRE.out.bench HRE.out.tab) (HV5.out _ HRE.out).1 (HV5.out _ HRE.out).2.1 (HV5.out _ HRE.out).2.2.2.2.2.2 (by have := HZ.out; omega) (by have := HZ.out; omega) (by have := HZ.out; omega)).mono ?_
      rintro e w20 ⟨fs, fa, fl, fc, fb, fk, fe, hs, ha, hl, hc, hb, hk, he, rfl, S20, V20, U20⟩
      have HR20 := Lib.hid (HRE.out.trans S20.out)
      clear hHeld
      refine hK.out _ _ ?_ (fun hHeld => ?_)
      · exact HK5.out _ HR20.out
      clear hK K
      try simp only [Act.put, List.setIfInBounds_toArray, List.set_cons_zero, List.set_cons_succ, List.getElem_toArray, List.getElem_cons_zero, List.getElem_cons_succ]
      refine wpAnyH_ready (rs := [7]) (by kernel_rfl) (by simp) ?_
      refine AllReadyH.cons (by rfl) (fun K hK => ?_) AllReadyH.nil
      go_simp
      with_reducible refine (scaleBB (Room.refl HR20.out.bench HR20.out.tab) (HV5.out _ HR20.out).2.2.1 (HV5.out _ HR20.out).2.2.2.1 (HV5.out _ HR20.out).2.2.2.2.2.2 (by have := HZ.out; omega) (by have := HZ.out; omega) (by have := HZ.out; omega)).mono ?_
      rintro e w21 ⟨ms, ma, ml, mc, mb, mk, me, os, oa, ol, oc, ob, ok, oe, rfl, S21, V21, U21⟩
      have HR21 := Lib.hid (HR20.out.trans S21.out)
      clear hHeld
      refine hK.out _ _ ?_ (fun hHeld => ?_)
      · exact HK5.out _ HR21.out
      clear hK K
      try simp only [Act.put, List.setIfInBounds_toArray, List.set_cons_zero, List.set_cons_succ, List.getElem_toArray, List.getElem_cons_zero, List.getElem_cons_succ]
      refine wpAnyH_ready (rs := [8]) (by kernel_rfl) (by simp) ?_
      refine AllReadyH.cons (by rfl) (fun K hK => ?_) AllReadyH.nil
      go_simp
      with_reducible refine (CmpPP (S21.out.vq HR20.out.bench V20.out) (S21.out.vq HR20.out.bench U20.out) V21.out U21.out HZD.out.1 HZD.out.2.1 HZD.out.2.2.1 HZD.out.2.2.2 (Below.refl _ _) HTM.out).mono ?_
      rintro e w22 ⟨rfl, G22⟩
      have HR22 := Lib.hid (HR21.out.kept G22.out)
      clear hHeld
      refine hK.out _ _ ?_ (fun hHeld => ?_)
      · exact HK5.out _ HR22.out
      clear hK K
      try simp only [Act.put, List.setIfInBounds_toArray, List.set_cons_zero, List.set_cons_succ, List.getElem_toArray, List.getElem_cons_zero, List.getElem_cons_succ]
      refine wpAnyH_ready (rs := [11]) (by kernel_rfl) (by simp) ?_
      refine AllReadyH.cons (by rfl) (fun K hK => ?_) AllReadyH.nil
      go_simp
      with_reducible refine (gotP_sign (HV5.out _ HR22.out).2.2.2.2.2.2 (by have := HZ.out; omega) (Below.refl _ _) HSG.out).mono ?_
      rintro e w23 ⟨rfl, G23⟩
      have HR23 := Lib.hid (HR22.out.kept G23.out)
      clear hHeld
      refine hK.out _ _ ?_ (fun hHeld => ?_)
      · exact HK5.out _ HR23.out
      clear hK K
      try simp only [Act.put, List.setIfInBounds_toArray, List.set_cons_zero, List.set_cons_succ, List.getElem_toArray, List.getElem_cons_zero, List.getElem_cons_succ]
      refine wpAnyH_take (i := 12) (v := ?_) (by rfl) (by kernel_rfl) (by kernel_rfl) (by kernel_rfl) (by exact fun _ _ _ h => h) (Or.inl ⟨by rfl, ?_⟩) hHeld ?_
      rotate_left 1
      · intro w' hSw
        go_simp
        try with_reducible rfl
      try simp only [Act.put, List.setIfInBounds_toArray, List.set_cons_zero, List.set_cons_succ, List.getElem_toArray, List.getElem_cons_zero, List.getElem_cons_succ]
      refine wpAnyH_take (i := 13) (v := ?_) (by rfl) (by kernel_rfl) (by kernel_rfl) (by kernel_rfl) (by exact fun _ _ _ h => h) (Or.inl ⟨by rfl, ?_⟩) hHeld ?_
      rotate_left 1
      · intro w' hSw
        go_simp
        try with_reducible rfl
      try simp only [Act.put, List.setIfInBounds_toArray, List.set_cons_zero, List.set_cons_succ, List.getElem_toArray, List.getElem_cons_zero, List.getElem_cons_succ]
      refine wpAnyH_done (by kernel_rfl) ?_ _
      clear hHeld
      have HR30 := Lib.hid HR23.out
      clear HRE S20 V20 U20 S21 V21 U21 G22 G23 HR20 HR21 HR22 HTM HSG HZD HR16
      obtain ⟨k0, k1, k2, k3, k4, k5, k6, k7, k8, k9, k10, k11, k12, k13, k14, k15, k16, k17, k18, k19, k20⟩ := HK5.out _ HR30.out
      obtain ⟨w31, hw31⟩ : ∃ w31, w31 = w23.alloc (.cells #[.bool xs, .slice xa xl xc, .slice xb xk xe, .bool ts, .slice ta tl tc, .slice tb tk te] 29) := ⟨_, rfl⟩
      have HR31 : Hid (Room b w5 w31) := Lib.hid (by rw [hw31]; exact HR30.out.alloc _)
      obtain ⟨l0, l1, l2, l3, l4, l5, l6, l7, l8, l9, l10, l11, l12, l13, l14, l15, l16, l17, l18, l19, l20⟩ := HK5.out _ HR31.out
      rw [hw31] at l0 l1 l2 l3 l4 l5 l6 l7 l8 l9 l10 l11 l12 l13 l14 l15 l16 l17 l18 l19 l20
      have HC31 := Lib.hid (gotP_cmp (W5 := w31) (HV5.out _ HR31.out).1 (HV5.out _ HR31.out).2.2.1 (by have := HZ.out; omega) (by have := HZ.out; omega) (Below.refl _ _) HC1.out)
      have HL31 : Hid (∀ W, Below w31.heap.size w31 W → (W.cell? ⟨w23.heap.size, 0, none⟩ = some (.bool xs) ∧ W.cell? ⟨w23.heap.size, 1, none⟩ = some (.slice xa xl xc) ∧ W.cell? ⟨w23.heap.size, 2, none⟩ = some (.slice xb xk xe) ∧ W.cell? ⟨w23.heap.size, 3, none⟩ = some (.bool ts) ∧ W.cell? ⟨w23.heap.size, 4, none⟩ = some (.slice ta tl tc) ∧ W.cell? ⟨w23.heap.size, 5, none⟩ = some (.slice tb tk te))) := Lib.hid fun W h => by
        obtain ⟨h0, h1, h2, h3, h4, h5, _⟩ := cells6 (stay (show w31.heap[w23.heap.size]? = _ by rw [hw31]; exact heap_alloc_new w23 _) h)
        exact ⟨h0, h1, h2, h3, h4, h5⟩
      have HW31 := Lib.hid hw31
      clear hw31
      go_wp2_with fail
      rw [← HW31.out]
      have HF : Hid (∀ W, Room b w5 W → Below w.heap.size w W) := Lib.hid fun W h => h.below HBW.out HGE.out (.inl (Nat.le_refl _)) HBW.out.size
      rcases h1v with rfl | rfl | rfl
      · refine HC31.out.mono ?_
        rintro e w32 ⟨rfl, G32⟩
        have HR32 := Lib.hid (HR31.out.kept G32.out)
        obtain ⟨k0, k1, k2, k3, k4, k5, k6, k7, k8, k9, k10, k11, k12, k13, k14, k15, k16, k17, k18, k19, k20⟩ := HK5.out _ HR32.out
        obtain ⟨i0, i1, i2, i3, i4, i5⟩ := HL31.out _ G32.out
        have HC32 := Lib.hid (CmpPP (W5 := w32) (HV5.out _ HR32.out).1 (HV5.out _ HR32.out).2.2.2.2.2.1 (HV5.out _ HR32.out).2.2.1 (HV5.out _ HR32.out).2.2.2.1 (by have := HZ.out; omega) (by have := HZ.out; omega) (by have := HZ.out; omega) (by have := HZ.out; omega) (Below.refl _ _) (HCW.out (by decide)))
        clear HC31 HL31 HW31 G32
        go_wp2_with fail
        refine HC32.out.mono ?_
        rintro e w33 ⟨rfl, G33⟩
        have HE := Lib.hid (HF.out _ (HR32.out.kept G33.out))
        clear G33 HC32 HR32 HR31 HR30 HF
        go_wp2_with fail
        go_ret
        exact ⟨rfl, HE.out⟩
      · refine HC31.out.mono ?_
        rintro e w32 ⟨rfl, G32⟩
        have HE := Lib.hid (HF.out _ (HR31.out.kept G32.out))
        clear G32 HC31 HL31 HW31 HR31 HR30 HF
        go_wp2_with fail
        go_ret
        exact ⟨rfl, HE.out⟩
      · refine HC31.out.mono ?_
        rintro e w32 ⟨rfl, G32⟩
        have HR32 := Lib.hid (HR31.out.kept G32.out)
        obtain ⟨k0, k1, k2, k3, k4, k5, k6, k7, k8, k9, k10, k11, k12, k13, k14, k15, k16, k17, k18, k19, k20⟩ := HK5.out _ HR32.out
        obtain ⟨i0, i1, i2, i3, i4, i5⟩ := HL31.out _ G32.out
        have HC32 := Lib.hid (CmpPP (W5 := w32) (HV5.out _ HR32.out).1 (HV5.out _ HR32.out).2.2.2.2.2.1 (HV5.out _ HR32.out).2.2.1 (HV5.out _ HR32.out).2.2.2.1 (by have := HZ.out; omega) (by have := HZ.out; omega) (by have := HZ.out; omega) (by have := HZ.out; omega) (Below.refl _ _) (HCW.out (by decide)))
        clear HC31 HL31 HW31 G32
        go_wp2_with fail
        refine HC32.out.mono ?_
        rintro e w33 ⟨rfl, G33⟩
        have HE := Lib.hid (HF.out _ (HR32.out.kept G33.out))
        clear G33 HC32 HR32 HR31 HR30 HF
        go_wp2_with fail
        go_ret
        exact ⟨rfl, HE.out⟩
    · have HTM : Hid (cmpDQ (kq * q) (kq * r) (kq * q') (kq * r') = 0) := Lib.hid (HTM0.out.trans (by decide))
      clear HTM0
      refine wp_region_held_drew (S := (fun w' => w'.cell? ⟨w.heap.size, 0, none⟩ = some (.bool xs) ∧ w'.cell? ⟨w.heap.size, 1, none⟩ = some (.slice xa xl xc) ∧ w'.cell? ⟨w.heap.size, 2, none⟩ = some (.slice xb xk xe) ∧ w'.cell? ⟨w.heap.size, 3, none⟩ = some (.bool us) ∧ w'.cell? ⟨w.heap.size, 4, none⟩ = some (.slice ua ul uc) ∧ w'.cell? ⟨w.heap.size, 5, none⟩ = some (.slice ub uk ue) ∧ w'.cell? ⟨w.heap.size + 1, 0, none⟩ = some (.bool ys) ∧ w'.cell? ⟨w.heap.size + 1, 1, none⟩ = some (.slice ya yl yc) ∧ w'.cell? ⟨w.heap.size + 1, 2, none⟩ = some (.slice yb yk ye) ∧ w'.cell? ⟨w.heap.size + 1, 3, none⟩ = some (.bool vs) ∧ w'.cell? ⟨w.heap.size + 1, 4, none⟩ = some (.slice va vl vc) ∧ w'.cell? ⟨w.heap.size + 1, 5, none⟩ = some (.slice vb vk ve) ∧ w'.cell? ⟨w.heap.size + 1 + 1, 0, none⟩ = some (.bool zs) ∧ w'.cell? ⟨w.heap.size + 1 + 1, 1, none⟩ = some (.slice za zl zc) ∧ w'.cell? ⟨w.heap.size + 1 + 1, 2, none⟩ = some (.slice zb zk ze) ∧ w'.cell? ⟨w.heap.size + 1 + 1, 3, none⟩ = some (.bool ts) ∧ w'.cell? ⟨w.heap.size + 1 + 1, 4, none⟩ = some (.slice ta tl tc) ∧ w'.cell? ⟨w.heap.size + 1 + 1, 5, none⟩ = some (.slice tb tk te) ∧ w'.cell? ⟨w.heap.size + 1 + 1 + 1, 0, none⟩ = some (.bool ks) ∧ w'.cell? ⟨w.heap.size + 1 + 1 + 1, 1, none⟩ = some (.slice ka kl kc) ∧ w'.cell? ⟨w.heap.size + 1 + 1 + 1, 2, none⟩ = some (.slice kb kk ke))) (by kernel_rfl) ?_ (fun hHeld => ?_)
      · exact HK5.out _ HRE.out
      refine wpAnyH_take (i := 0) (v := ?_) (by rfl) (by kernel_rfl) (by kernel_rfl) (by kernel_rfl) (by exact fun _ _ _ h => h) (Or.inl ⟨by rfl, ?_⟩) hHeld ?_
      rotate_left 1
      · intro w' hSw
        go_simp
        try with_reducible rfl
      try simp only [Act.put, List.setIfInBounds_toArray, List.set_cons_zero, List.set_cons_succ, List.getElem_toArray, List.getElem_cons_zero, List.getElem_cons_succ]
      refine wpAnyH_take (i := 1) (v := ?_) (by rfl) (by kernel_rfl) (by kernel_rfl) (by kernel_rfl) (by exact fun _ _ _ h => h) (Or.inl ⟨by rfl, ?_⟩) hHeld ?_
      rotate_left 1
      · intro w' hSw
        go_simp
        try with_reducible rfl
      try simp only [Act.put, List.setIfInBounds_toArray, List.set_cons_zero, List.set_cons_succ, List.getElem_toArray, List.getElem_cons_zero, List.getElem_cons_succ]
      refine wpAnyH_take (i := 2) (v := ?_) (by rfl) (by kernel_rfl) (by kernel_rfl) (by kernel_rfl) (by exact fun _ _ _ h => h) (Or.inl ⟨by rfl, ?_⟩) hHeld ?_
      rotate_left 1
      · intro w' hSw
        go_simp
        try with_reducible rfl
      try simp only [Act.put, List.setIfInBounds_toArray, List.set_cons_zero, List.set_cons_succ, List.getElem_toArray, List.getElem_cons_zero, List.getElem_cons_succ]
      refine wpAnyH_take (i := 4) (v := ?_) (by rfl) (by kernel_rfl) (by kernel_rfl) (by kernel_rfl) (by exact fun _ _ _ h => h) (Or.inl ⟨by rfl, ?_⟩) hHeld ?_
      rotate_left 1
      · intro w' hSw
        go_simp
        try with_reducible rfl
      try simp only [Act.put, List.setIfInBounds_toArray, List.set_cons_zero, List.set_cons_succ, List.getElem_toArray, List.getElem_cons_zero, List.getElem_cons_succ]
      refine wpAnyH_take (i := 5) (v := ?_) (by rfl) (by kernel_rfl) (by kernel_rfl) (by kernel_rfl) (by exact fun _ _ _ h => h) (Or.inl ⟨by rfl, ?_⟩) hHeld ?_
      rotate_left 1
      · intro w' hSw
        go_simp
        try with_reducible rfl
      try simp only [Act.put, List.setIfInBounds_toArray, List.set_cons_zero, List.set_cons_succ, List.getElem_toArray, List.getElem_cons_zero, List.getElem_cons_succ]
      refine wpAnyH_take (i := 6) (v := ?_) (by rfl) (by kernel_rfl) (by kernel_rfl) (by kernel_rfl) (by exact fun _ _ _ h => h) (Or.inl ⟨by rfl, ?_⟩) hHeld ?_
      rotate_left 1
      · intro w' hSw
        go_simp
        try with_reducible rfl
      try simp only [Act.put, List.setIfInBounds_toArray, List.set_cons_zero, List.set_cons_succ, List.getElem_toArray, List.getElem_cons_zero, List.getElem_cons_succ]
      refine wpAnyH_take (i := 9) (v := ?_) (by rfl) (by kernel_rfl) (by kernel_rfl) (by kernel_rfl) (by exact fun _ _ _ h => h) (Or.inl ⟨by rfl, ?_⟩) hHeld ?_
      rotate_left 1
      · intro w' hSw
        go_simp
        try with_reducible rfl
      try simp only [Act.put, List.setIfInBounds_toArray, List.set_cons_zero, List.set_cons_succ, List.getElem_toArray, List.getElem_cons_zero, List.getElem_cons_succ]
      refine wpAnyH_take (i := 10) (v := ?_) (by rfl) (by kernel_rfl) (by kernel_rfl) (by kernel_rfl) (by exact fun _ _ _ h => h) (Or.inl ⟨by rfl, ?_⟩) hHeld ?_
      rotate_left 1
      · intro w' hSw
        go_simp
        try with_reducible rfl
      try simp only [Act.put, List.setIfInBounds_toArray, List.set_cons_zero, List.set_cons_succ, List.getElem_toArray, List.getElem_cons_zero, List.getElem_cons_succ]
      refine wpAnyH_ready (rs := [3]) (by kernel_rfl) (by simp) ?_
      refine AllReadyH.cons (by rfl) (fun K hK => ?_) AllReadyH.nil
      go_simp
      with_reducible refine (scaleBB (Room.refl HRE.out.bench HRE.out.tab) (HV5.out _ HRE.out).1 (HV5.out _ HRE.out).2.1 (HV5.out _ HRE.out).2.2.2.2.2.2 (by have := HZ.out; omega) (by have := HZ.out; omega) (by have := HZ.out; omega)).mono ?_
      rintro e w20 ⟨fs, fa, fl, fc, fb, fk, fe, hs, ha, hl, hc, hb, hk, he, rfl, S20, V20, U20⟩
      have HR20 := Lib.hid (HRE.out.trans S20.out)
      clear hHeld
      refine hK.out _ _ ?_ (fun hHeld => ?_)
      · exact HK5.out _ HR20.out
      clear hK K
      try simp only [Act.put, List.setIfInBounds_toArray, List.set_cons_zero, List.set_cons_succ, List.getElem_toArray, List.getElem_cons_zero, List.getElem_cons_succ]
      refine wpAnyH_ready (rs := [7]) (by kernel_rfl) (by simp) ?_
      refine AllReadyH.cons (by rfl) (fun K hK => ?_) AllReadyH.nil
      go_simp
      with_reducible refine (scaleBB (Room.refl HR20.out.bench HR20.out.tab) (HV5.out _ HR20.out).2.2.1 (HV5.out _ HR20.out).2.2.2.1 (HV5.out _ HR20.out).2.2.2.2.2.2 (by have := HZ.out; omega) (by have := HZ.out; omega) (by have := HZ.out; omega)).mono ?_
      rintro e w21 ⟨ms, ma, ml, mc, mb, mk, me, os, oa, ol, oc, ob, ok, oe, rfl, S21, V21, U21⟩
      have HR21 := Lib.hid (HR20.out.trans S21.out)
      clear hHeld
      refine hK.out _ _ ?_ (fun hHeld => ?_)
      · exact HK5.out _ HR21.out
      clear hK K
      try simp only [Act.put, List.setIfInBounds_toArray, List.set_cons_zero, List.set_cons_succ, List.getElem_toArray, List.getElem_cons_zero, List.getElem_cons_succ]
      refine wpAnyH_ready (rs := [8]) (by kernel_rfl) (by simp) ?_
      refine AllReadyH.cons (by rfl) (fun K hK => ?_) AllReadyH.nil
      go_simp
      with_reducible refine (CmpPP (S21.out.vq HR20.out.bench V20.out) (S21.out.vq HR20.out.bench U20.out) V21.out U21.out HZD.out.1 HZD.out.2.1 HZD.out.2.2.1 HZD.out.2.2.2 (Below.refl _ _) HTM.out).mono ?_
      rintro e w22 ⟨rfl, G22⟩
      have HR22 := Lib.hid (HR21.out.kept G22.out)
      clear hHeld
      refine hK.out _ _ ?_ (fun hHeld => ?_)
      · exact HK5.out _ HR22.out
      clear hK K
      try simp only [Act.put, List.setIfInBounds_toArray, List.set_cons_zero, List.set_cons_succ, List.getElem_toArray, List.getElem_cons_zero, List.getElem_cons_succ]
      refine wpAnyH_ready (rs := [11]) (by kernel_rfl) (by simp) ?_
      refine AllReadyH.cons (by rfl) (fun K hK => ?_) AllReadyH.nil
      go_simp
      with_reducible refine (gotP_sign (HV5.out _ HR22.out).2.2.2.2.2.2 (by have := HZ.out; omega) (Below.refl _ _) HSG.out).mono ?_
      rintro e w23 ⟨rfl, G23⟩
      have HR23 := Lib.hid (HR22.out.kept G23.out)
      clear hHeld
      refine hK.out _ _ ?_ (fun hHeld => ?_)
      · exact HK5.out _ HR23.out
      clear hK K
      try simp only [Act.put, List.setIfInBounds_toArray, List.set_cons_zero, List.set_cons_succ, List.getElem_toArray, List.getElem_cons_zero, List.getElem_cons_succ]
      refine wpAnyH_take (i := 12) (v := ?_) (by rfl) (by kernel_rfl) (by kernel_rfl) (by kernel_rfl) (by exact fun _ _ _ h => h) (Or.inl ⟨by rfl, ?_⟩) hHeld ?_
      rotate_left 1
      · intro w' hSw
        go_simp
        try with_reducible rfl
      try simp only [Act.put, List.setIfInBounds_toArray, List.set_cons_zero, List.set_cons_succ, List.getElem_toArray, List.getElem_cons_zero, List.getElem_cons_succ]
      refine wpAnyH_take (i := 13) (v := ?_) (by rfl) (by kernel_rfl) (by kernel_rfl) (by kernel_rfl) (by exact fun _ _ _ h => h) (Or.inl ⟨by rfl, ?_⟩) hHeld ?_
      rotate_left 1
      · intro w' hSw
        go_simp
        try with_reducible rfl
      try simp only [Act.put, List.setIfInBounds_toArray, List.set_cons_zero, List.set_cons_succ, List.getElem_toArray, List.getElem_cons_zero, List.getElem_cons_succ]
      refine wpAnyH_done (by kernel_rfl) ?_ _
      clear hHeld
      have HR30 := Lib.hid HR23.out
      clear HRE S20 V20 U20 S21 V21 U21 G22 G23 HR20 HR21 HR22 HTM HSG HZD HR16
      obtain ⟨k0, k1, k2, k3, k4, k5, k6, k7, k8, k9, k10, k11, k12, k13, k14, k15, k16, k17, k18, k19, k20⟩ := HK5.out _ HR30.out
      obtain ⟨w31, hw31⟩ : ∃ w31, w31 = w23.alloc (.cells #[.bool xs, .slice xa xl xc, .slice xb xk xe, .bool ts, .slice ta tl tc, .slice tb tk te] 29) := ⟨_, rfl⟩
      have HR31 : Hid (Room b w5 w31) := Lib.hid (by rw [hw31]; exact HR30.out.alloc _)
      obtain ⟨l0, l1, l2, l3, l4, l5, l6, l7, l8, l9, l10, l11, l12, l13, l14, l15, l16, l17, l18, l19, l20⟩ := HK5.out _ HR31.out
      rw [hw31] at l0 l1 l2 l3 l4 l5 l6 l7 l8 l9 l10 l11 l12 l13 l14 l15 l16 l17 l18 l19 l20
      have HC31 := Lib.hid (gotP_cmp (W5 := w31) (HV5.out _ HR31.out).1 (HV5.out _ HR31.out).2.2.1 (by have := HZ.out; omega) (by have := HZ.out; omega) (Below.refl _ _) HC1.out)
      have HL31 : Hid (∀ W, Below w31.heap.size w31 W → (W.cell? ⟨w23.heap.size, 0, none⟩ = some (.bool xs) ∧ W.cell? ⟨w23.heap.size, 1, none⟩ = some (.slice xa xl xc) ∧ W.cell? ⟨w23.heap.size, 2, none⟩ = some (.slice xb xk xe) ∧ W.cell? ⟨w23.heap.size, 3, none⟩ = some (.bool ts) ∧ W.cell? ⟨w23.heap.size, 4, none⟩ = some (.slice ta tl tc) ∧ W.cell? ⟨w23.heap.size, 5, none⟩ = some (.slice tb tk te))) := Lib.hid fun W h => by
        obtain ⟨h0, h1, h2, h3, h4, h5, _⟩ := cells6 (stay (show w31.heap[w23.heap.size]? = _ by rw [hw31]; exact heap_alloc_new w23 _) h)
        exact ⟨h0, h1, h2, h3, h4, h5⟩
      have HW31 := Lib.hid hw31
      clear hw31
      go_wp2_with fail
      rw [← HW31.out]
      have HF : Hid (∀ W, Room b w5 W → Below w.heap.size w W) := Lib.hid fun W h => h.below HBW.out HGE.out (.inl (Nat.le_refl _)) HBW.out.size
      rcases h1v with rfl | rfl | rfl
      · refine HC31.out.mono ?_
        rintro e w32 ⟨rfl, G32⟩
        have HR32 := Lib.hid (HR31.out.kept G32.out)
        obtain ⟨k0, k1, k2, k3, k4, k5, k6, k7, k8, k9, k10, k11, k12, k13, k14, k15, k16, k17, k18, k19, k20⟩ := HK5.out _ HR32.out
        obtain ⟨i0, i1, i2, i3, i4, i5⟩ := HL31.out _ G32.out
        have HC32 := Lib.hid (CmpPP (W5 := w32) (HV5.out _ HR32.out).1 (HV5.out _ HR32.out).2.2.2.2.2.1 (HV5.out _ HR32.out).2.2.1 (HV5.out _ HR32.out).2.2.2.1 (by have := HZ.out; omega) (by have := HZ.out; omega) (by have := HZ.out; omega) (by have := HZ.out; omega) (Below.refl _ _) (HCW.out (by decide)))
        clear HC31 HL31 HW31 G32
        go_wp2_with fail
        refine HC32.out.mono ?_
        rintro e w33 ⟨rfl, G33⟩
        have HE := Lib.hid (HF.out _ (HR32.out.kept G33.out))
        clear G33 HC32 HR32 HR31 HR30 HF
        go_wp2_with fail
        go_ret
        exact ⟨rfl, HE.out⟩
      · refine HC31.out.mono ?_
        rintro e w32 ⟨rfl, G32⟩
        have HE := Lib.hid (HF.out _ (HR31.out.kept G32.out))
        clear G32 HC31 HL31 HW31 HR31 HR30 HF
        go_wp2_with fail
        go_ret
        exact ⟨rfl, HE.out⟩
      · refine HC31.out.mono ?_
        rintro e w32 ⟨rfl, G32⟩
        have HR32 := Lib.hid (HR31.out.kept G32.out)
        obtain ⟨k0, k1, k2, k3, k4, k5, k6, k7, k8, k9, k10, k11, k12, k13, k14, k15, k16, k17, k18, k19, k20⟩ := HK5.out _ HR32.out
        obtain ⟨i0, i1, i2, i3, i4, i5⟩ := HL31.out _ G32.out
        have HC32 := Lib.hid (CmpPP (W5 := w32) (HV5.out _ HR32.out).1 (HV5.out _ HR32.out).2.2.2.2.2.1 (HV5.out _ HR32.out).2.2.1 (HV5.out _ HR32.out).2.2.2.1 (by have := HZ.out; omega) (by have := HZ.out; omega) (by have := HZ.out; omega) (by have := HZ.out; omega) (Below.refl _ _) (HCW.out (by decide)))
        clear HC31 HL31 HW31 G32
        go_wp2_with fail
        refine HC32.out.mono ?_
        rintro e w33 ⟨rfl, G33⟩
        have HE := Lib.hid (HF.out _ (HR32.out.kept G33.out))
        clear G33 HC32 HR32 HR31 HR30 HF
        go_wp2_with fail
        go_ret
        exact ⟨rfl, HE.out⟩
  · have HTU : Hid (cmpDQ q' r' q r = -1) := Lib.hid (HTU0.out.trans (by decide))
    clear HTU0
    have hwa : IntKind.i64.wrap (-1) = -1 := by decide
    have hwb : IntKind.i64.wrap 0 = 0 := by decide
    have hwc : IntKind.i64.wrap 1 = 1 := by decide
    go_wp2_with fail
    refine wp_region_held_drew (S := (fun w' => w'.cell? ⟨w.heap.size, 0, none⟩ = some (.bool xs) ∧ w'.cell? ⟨w.heap.size, 1, none⟩ = some (.slice xa xl xc) ∧ w'.cell? ⟨w.heap.size, 2, none⟩ = some (.slice xb xk xe) ∧ w'.cell? ⟨w.heap.size, 3, none⟩ = some (.bool us) ∧ w'.cell? ⟨w.heap.size, 4, none⟩ = some (.slice ua ul uc) ∧ w'.cell? ⟨w.heap.size, 5, none⟩ = some (.slice ub uk ue) ∧ w'.cell? ⟨w.heap.size + 1, 0, none⟩ = some (.bool ys) ∧ w'.cell? ⟨w.heap.size + 1, 1, none⟩ = some (.slice ya yl yc) ∧ w'.cell? ⟨w.heap.size + 1, 2, none⟩ = some (.slice yb yk ye) ∧ w'.cell? ⟨w.heap.size + 1, 3, none⟩ = some (.bool vs) ∧ w'.cell? ⟨w.heap.size + 1, 4, none⟩ = some (.slice va vl vc) ∧ w'.cell? ⟨w.heap.size + 1, 5, none⟩ = some (.slice vb vk ve) ∧ w'.cell? ⟨w.heap.size + 1 + 1, 0, none⟩ = some (.bool zs) ∧ w'.cell? ⟨w.heap.size + 1 + 1, 1, none⟩ = some (.slice za zl zc) ∧ w'.cell? ⟨w.heap.size + 1 + 1, 2, none⟩ = some (.slice zb zk ze) ∧ w'.cell? ⟨w.heap.size + 1 + 1, 3, none⟩ = some (.bool ts) ∧ w'.cell? ⟨w.heap.size + 1 + 1, 4, none⟩ = some (.slice ta tl tc) ∧ w'.cell? ⟨w.heap.size + 1 + 1, 5, none⟩ = some (.slice tb tk te) ∧ w'.cell? ⟨w.heap.size + 1 + 1 + 1, 0, none⟩ = some (.bool ks) ∧ w'.cell? ⟨w.heap.size + 1 + 1 + 1, 1, none⟩ = some (.slice ka kl kc) ∧ w'.cell? ⟨w.heap.size + 1 + 1 + 1, 2, none⟩ = some (.slice kb kk ke))) (by kernel_rfl) ?_ (fun hHeld => ?_)
    · exact HK5.out _ HRD.out
    refine wpAnyH_take (i := 0) (v := ?_) (by rfl) (by kernel_rfl) (by kernel_rfl) (by kernel_rfl) (by exact fun _ _ _ h => h) (Or.inl ⟨by rfl, ?_⟩) hHeld ?_
    rotate_left 1
    · intro w' hSw
      go_simp
      try with_reducible rfl
    try simp only [Act.put, List.setIfInBounds_toArray, List.set_cons_zero, List.set_cons_succ, List.getElem_toArray, List.getElem_cons_zero, List.getElem_cons_succ]
    refine wpAnyH_take (i := 1) (v := ?_) (by rfl) (by kernel_rfl) (by kernel_rfl) (by kernel_rfl) (by exact fun _ _ _ h => h) (Or.inl ⟨by rfl, ?_⟩) hHeld ?_
    rotate_left 1
    · intro w' hSw
      go_simp
      try with_reducible rfl
    try simp only [Act.put, List.setIfInBounds_toArray, List.set_cons_zero, List.set_cons_succ, List.getElem_toArray, List.getElem_cons_zero, List.getElem_cons_succ]
    refine wpAnyH_take (i := 2) (v := ?_) (by rfl) (by kernel_rfl) (by kernel_rfl) (by kernel_rfl) (by exact fun _ _ _ h => h) (Or.inl ⟨by rfl, ?_⟩) hHeld ?_
    rotate_left 1
    · intro w' hSw
      go_simp
      try with_reducible rfl
    try simp only [Act.put, List.setIfInBounds_toArray, List.set_cons_zero, List.set_cons_succ, List.getElem_toArray, List.getElem_cons_zero, List.getElem_cons_succ]
    refine wpAnyH_take (i := 3) (v := ?_) (by rfl) (by kernel_rfl) (by kernel_rfl) (by kernel_rfl) (by exact fun _ _ _ h => h) (Or.inl ⟨by rfl, ?_⟩) hHeld ?_
    rotate_left 1
    · intro w' hSw
      go_simp
      try with_reducible rfl
    try simp only [Act.put, List.setIfInBounds_toArray, List.set_cons_zero, List.set_cons_succ, List.getElem_toArray, List.getElem_cons_zero, List.getElem_cons_succ]
    refine wpAnyH_take (i := 5) (v := ?_) (by rfl) (by kernel_rfl) (by kernel_rfl) (by kernel_rfl) (by exact fun _ _ _ h => h) (Or.inl ⟨by rfl, ?_⟩) hHeld ?_
    rotate_left 1
    · intro w' hSw
      go_simp
      try with_reducible rfl
    try simp only [Act.put, List.setIfInBounds_toArray, List.set_cons_zero, List.set_cons_succ, List.getElem_toArray, List.getElem_cons_zero, List.getElem_cons_succ]
    refine wpAnyH_take (i := 6) (v := ?_) (by rfl) (by kernel_rfl) (by kernel_rfl) (by kernel_rfl) (by exact fun _ _ _ h => h) (Or.inl ⟨by rfl, ?_⟩) hHeld ?_
    rotate_left 1
    · intro w' hSw
      go_simp
      try with_reducible rfl
    try simp only [Act.put, List.setIfInBounds_toArray, List.set_cons_zero, List.set_cons_succ, List.getElem_toArray, List.getElem_cons_zero, List.getElem_cons_succ]
    refine wpAnyH_take (i := 7) (v := ?_) (by rfl) (by kernel_rfl) (by kernel_rfl) (by kernel_rfl) (by exact fun _ _ _ h => h) (Or.inl ⟨by rfl, ?_⟩) hHeld ?_
    rotate_left 1
    · intro w' hSw
      go_simp
      try with_reducible rfl
    try simp only [Act.put, List.setIfInBounds_toArray, List.set_cons_zero, List.set_cons_succ, List.getElem_toArray, List.getElem_cons_zero, List.getElem_cons_succ]
    refine wpAnyH_ready (rs := [4]) (by kernel_rfl) (by simp) ?_
    refine AllReadyH.cons (by rfl) (fun K hK => ?_) AllReadyH.nil
    go_simp
    with_reducible refine (addBB (Room.refl HRD.out.bench HRD.out.tab) (HV5.out _ HRD.out).1 (HV5.out _ HRD.out).2.1 (HV5.out _ HRD.out).2.2.2.2.1 (HV5.out _ HRD.out).2.2.2.2.2.1 (by have := HZ.out; omega) (by have := HZ.out; omega) (by have := HZ.out; omega) (by have := HZ.out; omega)).mono ?_
    rintro e w10 ⟨fs, fa, fl, fc, fb, fk, fe, hs, ha, hl, hc, hb, hk, he, rfl, S10, V10, U10⟩
    have HR10 := Lib.hid (HRD.out.trans S10.out)
    clear hHeld
    refine hK.out _ _ ?_ (fun hHeld => ?_)
    · exact HK5.out _ HR10.out
    clear hK K
    try simp only [Act.put, List.setIfInBounds_toArray, List.set_cons_zero, List.set_cons_succ, List.getElem_toArray, List.getElem_cons_zero, List.getElem_cons_succ]
    refine wpAnyH_ready (rs := [8]) (by kernel_rfl) (by simp) ?_
    refine AllReadyH.cons (by rfl) (fun K hK => ?_) AllReadyH.nil
    go_simp
    with_reducible refine (addBB (Room.refl HR10.out.bench HR10.out.tab) (HV5.out _ HR10.out).2.2.1 (HV5.out _ HR10.out).2.2.2.1 (HV5.out _ HR10.out).2.2.2.2.1 (HV5.out _ HR10.out).2.2.2.2.2.1 (by have := HZ.out; omega) (by have := HZ.out; omega) (by have := HZ.out; omega) (by have := HZ.out; omega)).mono ?_
    rintro e w11 ⟨ms, ma, ml, mc, mb, mk, me, os, oa, ol, oc, ob, ok, oe, rfl, S11, V11, U11⟩
    have HR11 := Lib.hid (HR10.out.trans S11.out)
    clear hHeld
    refine hK.out _ _ ?_ (fun hHeld => ?_)
    · exact HK5.out _ HR11.out
    clear hK K
    try simp only [Act.put, List.setIfInBounds_toArray, List.set_cons_zero, List.set_cons_succ, List.getElem_toArray, List.getElem_cons_zero, List.getElem_cons_succ]
    refine wpAnyH_ready (rs := [9]) (by kernel_rfl) (by simp) ?_
    refine AllReadyH.cons (by rfl) (fun K hK => ?_) AllReadyH.nil
    go_simp
    with_reducible refine (CmpPP (S11.out.vq HR10.out.bench V10.out) (S11.out.vq HR10.out.bench U10.out) V11.out U11.out HZA.out.1 HZA.out.2.1 HZA.out.2.2.1 HZA.out.2.2.2 (Below.refl _ _) HPL.out).mono ?_
    rintro e w12 ⟨rfl, G12⟩
    have HR12 := Lib.hid (HR11.out.kept G12.out)
    clear hHeld
    refine hK.out _ _ ?_ (fun hHeld => ?_)
    · exact HK5.out _ HR12.out
    clear hK K
    try simp only [Act.put, List.setIfInBounds_toArray, List.set_cons_zero, List.set_cons_succ, List.getElem_toArray, List.getElem_cons_zero, List.getElem_cons_succ]
    refine wpAnyH_take (i := 10) (v := ?_) (by rfl) (by kernel_rfl) (by kernel_rfl) (by kernel_rfl) (by exact fun _ _ _ h => h) (Or.inl ⟨by rfl, ?_⟩) hHeld ?_
    rotate_left 1
    · intro w' hSw
      go_simp
      try with_reducible rfl
    try simp only [Act.put, List.setIfInBounds_toArray, List.set_cons_zero, List.set_cons_succ, List.getElem_toArray, List.getElem_cons_zero, List.getElem_cons_succ]
    refine wpAnyH_take (i := 11) (v := ?_) (by rfl) (by kernel_rfl) (by kernel_rfl) (by kernel_rfl) (by exact fun _ _ _ h => h) (Or.inl ⟨by rfl, ?_⟩) hHeld ?_
    rotate_left 1
    · intro w' hSw
      go_simp
      try with_reducible rfl
    try simp only [Act.put, List.setIfInBounds_toArray, List.set_cons_zero, List.set_cons_succ, List.getElem_toArray, List.getElem_cons_zero, List.getElem_cons_succ]
    refine wpAnyH_take (i := 12) (v := ?_) (by rfl) (by kernel_rfl) (by kernel_rfl) (by kernel_rfl) (by exact fun _ _ _ h => h) (Or.inl ⟨by rfl, ?_⟩) hHeld ?_
    rotate_left 1
    · intro w' hSw
      go_simp
      try with_reducible rfl
    try simp only [Act.put, List.setIfInBounds_toArray, List.set_cons_zero, List.set_cons_succ, List.getElem_toArray, List.getElem_cons_zero, List.getElem_cons_succ]
    refine wpAnyH_take (i := 13) (v := ?_) (by rfl) (by kernel_rfl) (by kernel_rfl) (by kernel_rfl) (by exact fun _ _ _ h => h) (Or.inl ⟨by rfl, ?_⟩) hHeld ?_
    rotate_left 1
    · intro w' hSw
      go_simp
      try with_reducible rfl
    try simp only [Act.put, List.setIfInBounds_toArray, List.set_cons_zero, List.set_cons_succ, List.getElem_toArray, List.getElem_cons_zero, List.getElem_cons_succ]
    refine wpAnyH_take (i := 14) (v := ?_) (by rfl) (by kernel_rfl) (by kernel_rfl) (by kernel_rfl) (by exact fun _ _ _ h => h) (Or.inl ⟨by rfl, ?_⟩) hHeld ?_
    rotate_left 1
    · intro w' hSw
      go_simp
      try with_reducible rfl
    try simp only [Act.put, List.setIfInBounds_toArray, List.set_cons_zero, List.set_cons_succ, List.getElem_toArray, List.getElem_cons_zero, List.getElem_cons_succ]
    refine wpAnyH_ready (rs := [15]) (by kernel_rfl) (by simp) ?_
    refine AllReadyH.cons (by rfl) (fun K hK => ?_) AllReadyH.nil
    go_simp
    with_reducible refine (CmpPP (HV5.out _ HR12.out).2.2.1 (HV5.out _ HR12.out).2.2.2.1 (HV5.out _ HR12.out).1 (HV5.out _ HR12.out).2.1 (by have := HZ.out; omega) (by have := HZ.out; omega) (by have := HZ.out; omega) (by have := HZ.out; omega) (Below.refl _ _) HTU.out).mono ?_
    rintro e w13 ⟨rfl, G13⟩
    have HR13 := Lib.hid (HR12.out.kept G13.out)
    clear hHeld
    refine hK.out _ _ ?_ (fun hHeld => ?_)
    · exact HK5.out _ HR13.out
    clear hK K
    try simp only [Act.put, List.setIfInBounds_toArray, List.set_cons_zero, List.set_cons_succ, List.getElem_toArray, List.getElem_cons_zero, List.getElem_cons_succ]
    refine wpAnyH_take (i := 16) (v := ?_) (by rfl) (by kernel_rfl) (by kernel_rfl) (by kernel_rfl) (by exact fun _ _ _ h => h) (Or.inl ⟨by rfl, ?_⟩) hHeld ?_
    rotate_left 1
    · intro w' hSw
      go_simp
      try with_reducible rfl
    try simp only [Act.put, List.setIfInBounds_toArray, List.set_cons_zero, List.set_cons_succ, List.getElem_toArray, List.getElem_cons_zero, List.getElem_cons_succ]
    refine wpAnyH_take (i := 17) (v := ?_) (by rfl) (by kernel_rfl) (by kernel_rfl) (by kernel_rfl) (by exact fun _ _ _ h => h) (Or.inl ⟨by rfl, ?_⟩) hHeld ?_
    rotate_left 1
    · intro w' hSw
      go_simp
      try with_reducible rfl
    try simp only [Act.put, List.setIfInBounds_toArray, List.set_cons_zero, List.set_cons_succ, List.getElem_toArray, List.getElem_cons_zero, List.getElem_cons_succ]
    refine wpAnyH_take (i := 18) (v := ?_) (by rfl) (by kernel_rfl) (by kernel_rfl) (by kernel_rfl) (by exact fun _ _ _ h => h) (Or.inl ⟨by rfl, ?_⟩) hHeld ?_
    rotate_left 1
    · intro w' hSw
      go_simp
      try with_reducible rfl
    try simp only [Act.put, List.setIfInBounds_toArray, List.set_cons_zero, List.set_cons_succ, List.getElem_toArray, List.getElem_cons_zero, List.getElem_cons_succ]
    refine wpAnyH_take (i := 19) (v := ?_) (by rfl) (by kernel_rfl) (by kernel_rfl) (by kernel_rfl) (by exact fun _ _ _ h => h) (Or.inl ⟨by rfl, ?_⟩) hHeld ?_
    rotate_left 1
    · intro w' hSw
      go_simp
      try with_reducible rfl
    try simp only [Act.put, List.setIfInBounds_toArray, List.set_cons_zero, List.set_cons_succ, List.getElem_toArray, List.getElem_cons_zero, List.getElem_cons_succ]
    refine wpAnyH_take (i := 20) (v := ?_) (by rfl) (by kernel_rfl) (by kernel_rfl) (by kernel_rfl) (by exact fun _ _ _ h => h) (Or.inl ⟨by rfl, ?_⟩) hHeld ?_
    rotate_left 1
    · intro w' hSw
      go_simp
      try with_reducible rfl
    try simp only [Act.put, List.setIfInBounds_toArray, List.set_cons_zero, List.set_cons_succ, List.getElem_toArray, List.getElem_cons_zero, List.getElem_cons_succ]
    refine wpAnyH_take (i := 21) (v := ?_) (by rfl) (by kernel_rfl) (by kernel_rfl) (by kernel_rfl) (by exact fun _ _ _ h => h) (Or.inl ⟨by rfl, ?_⟩) hHeld ?_
    rotate_left 1
    · intro w' hSw
      go_simp
      try with_reducible rfl
    try simp only [Act.put, List.setIfInBounds_toArray, List.set_cons_zero, List.set_cons_succ, List.getElem_toArray, List.getElem_cons_zero, List.getElem_cons_succ]
    refine wpAnyH_take (i := 22) (v := ?_) (by rfl) (by kernel_rfl) (by kernel_rfl) (by kernel_rfl) (by exact fun _ _ _ h => h) (Or.inl ⟨by rfl, ?_⟩) hHeld ?_
    rotate_left 1
    · intro w' hSw
      go_simp
      try with_reducible rfl
    try simp only [Act.put, List.setIfInBounds_toArray, List.set_cons_zero, List.set_cons_succ, List.getElem_toArray, List.getElem_cons_zero, List.getElem_cons_succ]
    refine wpAnyH_take (i := 23) (v := ?_) (by rfl) (by kernel_rfl) (by kernel_rfl) (by kernel_rfl) (by exact fun _ _ _ h => h) (Or.inl ⟨by rfl, ?_⟩) hHeld ?_
    rotate_left 1
    · intro w' hSw
      go_simp
      try with_reducible rfl
    try simp only [Act.put, List.setIfInBounds_toArray, List.set_cons_zero, List.set_cons_succ, List.getElem_toArray, List.getElem_cons_zero, List.getElem_cons_succ]
    refine wpAnyH_take (i := 25) (v := ?_) (by rfl) (by kernel_rfl) (by kernel_rfl) (by kernel_rfl) (by exact fun _ _ _ h => h) (Or.inl ⟨by rfl, ?_⟩) hHeld ?_
    rotate_left 1
    · intro w' hSw
      go_simp
      try with_reducible rfl
    try simp only [Act.put, List.setIfInBounds_toArray, List.set_cons_zero, List.set_cons_succ, List.getElem_toArray, List.getElem_cons_zero, List.getElem_cons_succ]
    refine wpAnyH_take (i := 27) (v := ?_) (by rfl) (by kernel_rfl) (by kernel_rfl) (by kernel_rfl) (by exact fun _ _ _ h => h) (Or.inl ⟨by rfl, ?_⟩) hHeld ?_
    rotate_left 1
    · intro w' hSw
      go_simp
      try with_reducible rfl
    try simp only [Act.put, List.setIfInBounds_toArray, List.set_cons_zero, List.set_cons_succ, List.getElem_toArray, List.getElem_cons_zero, List.getElem_cons_succ]
    refine wpAnyH_ready (rs := [24]) (by kernel_rfl) (by simp) ?_
    refine AllReadyH.cons (by rfl) (fun K hK => ?_) AllReadyH.nil
    go_simp
    with_reducible refine (addBB (Room.refl HR13.out.bench HR13.out.tab) (HV5.out _ HR13.out).1 (HV5.out _ HR13.out).2.1 (HV5.out _ HR13.out).2.2.1 (HV5.out _ HR13.out).2.2.2.1 (by have := HZ.out; omega) (by have := HZ.out; omega) (by have := HZ.out; omega) (by have := HZ.out; omega)).mono ?_
    rintro e w14 ⟨ps, pa, pl, pc, pb, pk, pe, gs, ga, gl, gc, gb, gk, ge, rfl, S14, V14, U14⟩
    have HR14 := Lib.hid (HR13.out.trans S14.out)
    clear hHeld
    refine hK.out _ _ ?_ (fun hHeld => ?_)
    · exact HK5.out _ HR14.out
    clear hK K
    try simp only [Act.put, List.setIfInBounds_toArray, List.set_cons_zero, List.set_cons_succ, List.getElem_toArray, List.getElem_cons_zero, List.getElem_cons_succ]
    refine wpAnyH_ready (rs := [26]) (by kernel_rfl) (by simp) ?_
    refine AllReadyH.cons (by rfl) (fun K hK => ?_) AllReadyH.nil
    go_simp
    with_reducible refine (subBB (Room.refl HR14.out.bench HR14.out.tab) V14.out U14.out (HV5.out _ HR14.out).2.2.1 (HV5.out _ HR14.out).2.2.2.1 HZB.out.1 HZB.out.2 (by have := HZ.out; omega) (by have := HZ.out; omega)).mono ?_
    rintro e w15 ⟨is, ia, il, ic, ib, ik, ie, js, ja, jl, jc, jb, jk, je, rfl, S15, V15, U15⟩
    have HR15 := Lib.hid (HR14.out.trans S15.out)
    clear hHeld
    refine hK.out _ _ ?_ (fun hHeld => ?_)
    · exact HK5.out _ HR15.out
    clear hK K
    try simp only [Act.put, List.setIfInBounds_toArray, List.set_cons_zero, List.set_cons_succ, List.getElem_toArray, List.getElem_cons_zero, List.getElem_cons_succ]
    refine wpAnyH_ready (rs := [28]) (by kernel_rfl) (by simp) ?_
    refine AllReadyH.cons (by rfl) (fun K hK => ?_) AllReadyH.nil
    go_simp
    with_reducible refine (SameDD V15.out U15.out (HV5.out _ HR15.out).1 (HV5.out _ HR15.out).2.1 HZC.out.1 HZC.out.2 (by have := HZ.out; omega) (by have := HZ.out; omega) (Below.refl _ _) HBK.out.1 HBK.out.2).mono ?_
    rintro e w16 ⟨rfl, G16⟩
    have HR16 := Lib.hid (HR15.out.kept G16.out)
    clear hHeld
    refine hK.out _ _ ?_ (fun hHeld => ?_)
    · exact HK5.out _ HR16.out
    clear hK K
    try simp only [Act.put, List.setIfInBounds_toArray, List.set_cons_zero, List.set_cons_succ, List.getElem_toArray, List.getElem_cons_zero, List.getElem_cons_succ]
    refine wpAnyH_take (i := 29) (v := ?_) (by rfl) (by kernel_rfl) (by kernel_rfl) (by kernel_rfl) (by exact fun _ _ _ h => h) (Or.inl ⟨by rfl, ?_⟩) hHeld ?_
    rotate_left 1
    · intro w' hSw
      go_simp
      try with_reducible rfl
    try simp only [Act.put, List.setIfInBounds_toArray, List.set_cons_zero, List.set_cons_succ, List.getElem_toArray, List.getElem_cons_zero, List.getElem_cons_succ]
    refine wpAnyH_take (i := 30) (v := ?_) (by rfl) (by kernel_rfl) (by kernel_rfl) (by kernel_rfl) (by exact fun _ _ _ h => h) (Or.inl ⟨by rfl, ?_⟩) hHeld ?_
    rotate_left 1
    · intro w' hSw
      go_simp
      try with_reducible rfl
    try simp only [Act.put, List.setIfInBounds_toArray, List.set_cons_zero, List.set_cons_succ, List.getElem_toArray, List.getElem_cons_zero, List.getElem_cons_succ]
    refine wpAnyH_done (by kernel_rfl) ?_ _
    clear hHeld
    have HRE := Lib.hid (HR16.out.kept (below_drew _))
    obtain ⟨k0, k1, k2, k3, k4, k5, k6, k7, k8, k9, k10, k11, k12, k13, k14, k15, k16, k17, k18, k19, k20⟩ := HK5.out _ HR16.out
    clear HRD S10 V10 U10 S11 V11 U11 G12 G13 S14 V14 U14 S15 V15 U15 G16 HR10 HR11 HR12 HR13 HR14 HR15 HTU HPL HZA HZB HZC HBK
    go_wp2_with fail
    rcases hsv with rfl | rfl | rfl
    · have HTM : Hid (cmpDQ (kq * q) (kq * r) (kq * q') (kq * r') = -1) := Lib.hid (HTM0.out.trans (by decide))
      clear HTM0
      refine wp_region_held_drew (S := (fun w' => w'.cell? ⟨w.heap.size, 0, none⟩ = some (.bool xs) ∧ w'.cell? ⟨w.heap.size, 1, none⟩ = some (.slice xa xl xc) ∧ w'.cell? ⟨w.heap.size, 2, none⟩ = some (.slice xb xk xe) ∧ w'.cell? ⟨w.heap.size, 3, none⟩ = some (.bool us) ∧ w'.cell? ⟨w.heap.size, 4, none⟩ = some (.slice ua ul uc) ∧ w'.cell? ⟨w.heap.size, 5, none⟩ = some (.slice ub uk ue) ∧ w'.cell? ⟨w.heap.size + 1, 0, none⟩ = some (.bool ys) ∧ w'.cell? ⟨w.heap.size + 1, 1, none⟩ = some (.slice ya yl yc) ∧ w'.cell? ⟨w.heap.size + 1, 2, none⟩ = some (.slice yb yk ye) ∧ w'.cell? ⟨w.heap.size + 1, 3, none⟩ = some (.bool vs) ∧ w'.cell? ⟨w.heap.size + 1, 4, none⟩ = some (.slice va vl vc) ∧ w'.cell? ⟨w.heap.size + 1, 5, none⟩ = some (.slice vb vk ve) ∧ w'.cell? ⟨w.heap.size + 1 + 1, 0, none⟩ = some (.bool zs) ∧ w'.cell? ⟨w.heap.size + 1 + 1, 1, none⟩ = some (.slice za zl zc) ∧ w'.cell? ⟨w.heap.size + 1 + 1, 2, none⟩ = some (.slice zb zk ze) ∧ w'.cell? ⟨w.heap.size + 1 + 1, 3, none⟩ = some (.bool ts) ∧ w'.cell? ⟨w.heap.size + 1 + 1, 4, none⟩ = some (.slice ta tl tc) ∧ w'.cell? ⟨w.heap.size + 1 + 1, 5, none⟩ = some (.slice tb tk te) ∧ w'.cell? ⟨w.heap.size + 1 + 1 + 1, 0, none⟩ = some (.bool ks) ∧ w'.cell? ⟨w.heap.size + 1 + 1 + 1, 1, none⟩ = some (.slice ka kl kc) ∧ w'.cell? ⟨w.heap.size + 1 + 1 + 1, 2, none⟩ = some (.slice kb kk ke))) (by kernel_rfl) ?_ (fun hHeld => ?_)
      · exact HK5.out _ HRE.out
      refine wpAnyH_take (i := 0) (v := ?_) (by rfl) (by kernel_rfl) (by kernel_rfl) (by kernel_rfl) (by exact fun _ _ _ h => h) (Or.inl ⟨by rfl, ?_⟩) hHeld ?_
      rotate_left 1
      · intro w' hSw
        go_simp
        try with_reducible rfl
      try simp only [Act.put, List.setIfInBounds_toArray, List.set_cons_zero, List.set_cons_succ, List.getElem_toArray, List.getElem_cons_zero, List.getElem_cons_succ]
      refine wpAnyH_take (i := 1) (v := ?_) (by rfl) (by kernel_rfl) (by kernel_rfl) (by kernel_rfl) (by exact fun _ _ _ h => h) (Or.inl ⟨by rfl, ?_⟩) hHeld ?_
      rotate_left 1
      · intro w' hSw
        go_simp
        try with_reducible rfl
      try simp only [Act.put, List.setIfInBounds_toArray, List.set_cons_zero, List.set_cons_succ, List.getElem_toArray, List.getElem_cons_zero, List.getElem_cons_succ]
      refine wpAnyH_take (i := 2) (v := ?_) (by rfl) (by kernel_rfl) (by kernel_rfl) (by kernel_rfl) (by exact fun _ _ _ h => h) (Or.inl ⟨by rfl, ?_⟩) hHeld ?_
      rotate_left 1
      · intro w' hSw
        go_simp
        try with_reducible rfl
      try simp only [Act.put, List.setIfInBounds_toArray, List.set_cons_zero, List.set_cons_succ, List.getElem_toArray, List.getElem_cons_zero, List.getElem_cons_succ]
      refine wpAnyH_take (i := 4) (v := ?_) (by rfl) (by kernel_rfl) (by kernel_rfl) (by kernel_rfl) (by exact fun _ _ _ h => h) (Or.inl ⟨by rfl, ?_⟩) hHeld ?_
      rotate_left 1
      · intro w' hSw
        go_simp
        try with_reducible rfl
      try simp only [Act.put, List.setIfInBounds_toArray, List.set_cons_zero, List.set_cons_succ, List.getElem_toArray, List.getElem_cons_zero, List.getElem_cons_succ]
      refine wpAnyH_take (i := 5) (v := ?_) (by rfl) (by kernel_rfl) (by kernel_rfl) (by kernel_rfl) (by exact fun _ _ _ h => h) (Or.inl ⟨by rfl, ?_⟩) hHeld ?_
      rotate_left 1
      · intro w' hSw
        go_simp
        try with_reducible rfl
      try simp only [Act.put, List.setIfInBounds_toArray, List.set_cons_zero, List.set_cons_succ, List.getElem_toArray, List.getElem_cons_zero, List.getElem_cons_succ]
      refine wpAnyH_take (i := 6) (v := ?_) (by rfl) (by kernel_rfl) (by kernel_rfl) (by kernel_rfl) (by exact fun _ _ _ h => h) (Or.inl ⟨by rfl, ?_⟩) hHeld ?_
      rotate_left 1
      · intro w' hSw
        go_simp
        try with_reducible rfl
      try simp only [Act.put, List.setIfInBounds_toArray, List.set_cons_zero, List.set_cons_succ, List.getElem_toArray, List.getElem_cons_zero, List.getElem_cons_succ]
      refine wpAnyH_take (i := 9) (v := ?_) (by rfl) (by kernel_rfl) (by kernel_rfl) (by kernel_rfl) (by exact fun _ _ _ h => h) (Or.inl ⟨by rfl, ?_⟩) hHeld ?_
      rotate_left 1
      · intro w' hSw
        go_simp
        try with_reducible rfl
      try simp only [Act.put, List.setIfInBounds_toArray, List.set_cons_zero, List.set_cons_succ, List.getElem_toArray, List.getElem_cons_zero, List.getElem_cons_succ]
      refine wpAnyH_take (i := 10) (v := ?_) (by rfl) (by kernel_rfl) (by kernel_rfl) (by kernel_rfl) (by exact fun _ _ _ h => h) (Or.inl ⟨by rfl, ?_⟩) hHeld ?_
      rotate_left 1
      · intro w' hSw
        go_simp
        try with_reducible rfl
      try simp only [Act.put, List.setIfInBounds_toArray, List.set_cons_zero, List.set_cons_succ, List.getElem_toArray, List.getElem_cons_zero, List.getElem_cons_succ]
      refine wpAnyH_ready (rs := [3]) (by kernel_rfl) (by simp) ?_
      refine AllReadyH.cons (by rfl) (fun K hK => ?_) AllReadyH.nil
      go_simp
      with_reducible refine (scaleBB (Room.refl HRE.out.bench HRE.out.tab) (HV5.out _ HRE.out).1 (HV5.out _ HRE.out).2.1 (HV5.out _ HRE.out).2.2.2.2.2.2 (by have := HZ.out; omega) (by have := HZ.out; omega) (by have := HZ.out; omega)).mono ?_
      rintro e w20 ⟨fs, fa, fl, fc, fb, fk, fe, hs, ha, hl, hc, hb, hk, he, rfl, S20, V20, U20⟩
      have HR20 := Lib.hid (HRE.out.trans S20.out)
      clear hHeld
      refine hK.out _ _ ?_ (fun hHeld => ?_)
      · exact HK5.out _ HR20.out
      clear hK K
      try simp only [Act.put, List.setIfInBounds_toArray, List.set_cons_zero, List.set_cons_succ, List.getElem_toArray, List.getElem_cons_zero, List.getElem_cons_succ]
      refine wpAnyH_ready (rs := [7]) (by kernel_rfl) (by simp) ?_
      refine AllReadyH.cons (by rfl) (fun K hK => ?_) AllReadyH.nil
      go_simp
      with_reducible refine (scaleBB (Room.refl HR20.out.bench HR20.out.tab) (HV5.out _ HR20.out).2.2.1 (HV5.out _ HR20.out).2.2.2.1 (HV5.out _ HR20.out).2.2.2.2.2.2 (by have := HZ.out; omega) (by have := HZ.out; omega) (by have := HZ.out; omega)).mono ?_
      rintro e w21 ⟨ms, ma, ml, mc, mb, mk, me, os, oa, ol, oc, ob, ok, oe, rfl, S21, V21, U21⟩
      have HR21 := Lib.hid (HR20.out.trans S21.out)
      clear hHeld
      refine hK.out _ _ ?_ (fun hHeld => ?_)
      · exact HK5.out _ HR21.out
      clear hK K
      try simp only [Act.put, List.setIfInBounds_toArray, List.set_cons_zero, List.set_cons_succ, List.getElem_toArray, List.getElem_cons_zero, List.getElem_cons_succ]
      refine wpAnyH_ready (rs := [8]) (by kernel_rfl) (by simp) ?_
      refine AllReadyH.cons (by rfl) (fun K hK => ?_) AllReadyH.nil
      go_simp
      with_reducible refine (CmpPP (S21.out.vq HR20.out.bench V20.out) (S21.out.vq HR20.out.bench U20.out) V21.out U21.out HZD.out.1 HZD.out.2.1 HZD.out.2.2.1 HZD.out.2.2.2 (Below.refl _ _) HTM.out).mono ?_
      rintro e w22 ⟨rfl, G22⟩
      have HR22 := Lib.hid (HR21.out.kept G22.out)
      clear hHeld
      refine hK.out _ _ ?_ (fun hHeld => ?_)
      · exact HK5.out _ HR22.out
      clear hK K
      try simp only [Act.put, List.setIfInBounds_toArray, List.set_cons_zero, List.set_cons_succ, List.getElem_toArray, List.getElem_cons_zero, List.getElem_cons_succ]
      refine wpAnyH_ready (rs := [11]) (by kernel_rfl) (by simp) ?_
      refine AllReadyH.cons (by rfl) (fun K hK => ?_) AllReadyH.nil
      go_simp
      with_reducible refine (gotP_sign (HV5.out _ HR22.out).2.2.2.2.2.2 (by have := HZ.out; omega) (Below.refl _ _) HSG.out).mono ?_
      rintro e w23 ⟨rfl, G23⟩
      have HR23 := Lib.hid (HR22.out.kept G23.out)
      clear hHeld
      refine hK.out _ _ ?_ (fun hHeld => ?_)
      · exact HK5.out _ HR23.out
      clear hK K
      try simp only [Act.put, List.setIfInBounds_toArray, List.set_cons_zero, List.set_cons_succ, List.getElem_toArray, List.getElem_cons_zero, List.getElem_cons_succ]
      refine wpAnyH_take (i := 12) (v := ?_) (by rfl) (by kernel_rfl) (by kernel_rfl) (by kernel_rfl) (by exact fun _ _ _ h => h) (Or.inl ⟨by rfl, ?_⟩) hHeld ?_
      rotate_left 1
      · intro w' hSw
        go_simp
        try with_reducible rfl
      try simp only [Act.put, List.setIfInBounds_toArray, List.set_cons_zero, List.set_cons_succ, List.getElem_toArray, List.getElem_cons_zero, List.getElem_cons_succ]
      refine wpAnyH_take (i := 13) (v := ?_) (by rfl) (by kernel_rfl) (by kernel_rfl) (by kernel_rfl) (by exact fun _ _ _ h => h) (Or.inl ⟨by rfl, ?_⟩) hHeld ?_
      rotate_left 1
      · intro w' hSw
        go_simp
        try with_reducible rfl
      try simp only [Act.put, List.setIfInBounds_toArray, List.set_cons_zero, List.set_cons_succ, List.getElem_toArray, List.getElem_cons_zero, List.getElem_cons_succ]
      refine wpAnyH_done (by kernel_rfl) ?_ _
      clear hHeld
      have HR30 := Lib.hid HR23.out
      clear HRE S20 V20 U20 S21 V21 U21 G22 G23 HR20 HR21 HR22 HTM HSG HZD HR16
      obtain ⟨k0, k1, k2, k3, k4, k5, k6, k7, k8, k9, k10, k11, k12, k13, k14, k15, k16, k17, k18, k19, k20⟩ := HK5.out _ HR30.out
      obtain ⟨w31, hw31⟩ : ∃ w31, w31 = w23.alloc (.cells #[.bool xs, .slice xa xl xc, .slice xb xk xe, .bool ts, .slice ta tl tc, .slice tb tk te] 29) := ⟨_, rfl⟩
      have HR31 : Hid (Room b w5 w31) := Lib.hid (by rw [hw31]; exact HR30.out.alloc _)
      obtain ⟨l0, l1, l2, l3, l4, l5, l6, l7, l8, l9, l10, l11, l12, l13, l14, l15, l16, l17, l18, l19, l20⟩ := HK5.out _ HR31.out
      rw [hw31] at l0 l1 l2 l3 l4 l5 l6 l7 l8 l9 l10 l11 l12 l13 l14 l15 l16 l17 l18 l19 l20
      have HC31 := Lib.hid (gotP_cmp (W5 := w31) (HV5.out _ HR31.out).1 (HV5.out _ HR31.out).2.2.1 (by have := HZ.out; omega) (by have := HZ.out; omega) (Below.refl _ _) HC1.out)
      have HL31 : Hid (∀ W, Below w31.heap.size w31 W → (W.cell? ⟨w23.heap.size, 0, none⟩ = some (.bool xs) ∧ W.cell? ⟨w23.heap.size, 1, none⟩ = some (.slice xa xl xc) ∧ W.cell? ⟨w23.heap.size, 2, none⟩ = some (.slice xb xk xe) ∧ W.cell? ⟨w23.heap.size, 3, none⟩ = some (.bool ts) ∧ W.cell? ⟨w23.heap.size, 4, none⟩ = some (.slice ta tl tc) ∧ W.cell? ⟨w23.heap.size, 5, none⟩ = some (.slice tb tk te))) := Lib.hid fun W h => by
        obtain ⟨h0, h1, h2, h3, h4, h5, _⟩ := cells6 (stay (show w31.heap[w23.heap.size]? = _ by rw [hw31]; exact heap_alloc_new w23 _) h)
        exact ⟨h0, h1, h2, h3, h4, h5⟩
      have HW31 := Lib.hid hw31
      clear hw31
      go_wp2_with fail
      rw [← HW31.out]
      have HF : Hid (∀ W, Room b w5 W → Below w.heap.size w W) := Lib.hid fun W h => h.below HBW.out HGE.out (.inl (Nat.le_refl _)) HBW.out.size
      rcases h1v with rfl | rfl | rfl
      · refine HC31.out.mono ?_
        rintro e w32 ⟨rfl, G32⟩
        have HR32 := Lib.hid (HR31.out.kept G32.out)
        obtain ⟨k0, k1, k2, k3, k4, k5, k6, k7, k8, k9, k10, k11, k12, k13, k14, k15, k16, k17, k18, k19, k20⟩ := HK5.out _ HR32.out
        obtain ⟨i0, i1, i2, i3, i4, i5⟩ := HL31.out _ G32.out
        have HC32 := Lib.hid (CmpPP (W5 := w32) (HV5.out _ HR32.out).1 (HV5.out _ HR32.out).2.2.2.2.2.1 (HV5.out _ HR32.out).2.2.1 (HV5.out _ HR32.out).2.2.2.1 (by have := HZ.out; omega) (by have := HZ.out; omega) (by have := HZ.out; omega) (by have := HZ.out; omega) (Below.refl _ _) (HCW.out (by decide)))
        clear HC31 HL31 HW31 G32
        go_wp2_with fail
        refine HC32.out.mono ?_
        rintro e w33 ⟨rfl, G33⟩
        have HE := Lib.hid (HF.out _ (HR32.out.kept G33.out))
        clear G33 HC32 HR32 HR31 HR30 HF
        go_wp2_with fail
        go_ret
        exact ⟨rfl, HE.out⟩
      · refine HC31.out.mono ?_
        rintro e w32 ⟨rfl, G32⟩
        have HE := Lib.hid (HF.out _ (HR31.out.kept G32.out))
        clear G32 HC31 HL31 HW31 HR31 HR30 HF
        go_wp2_with fail
        go_ret
        exact ⟨rfl, HE.out⟩
      · refine HC31.out.mono ?_
        rintro e w32 ⟨rfl, G32⟩
        have HR32 := Lib.hid (HR31.out.kept G32.out)
        obtain ⟨k0, k1, k2, k3, k4, k5, k6, k7, k8, k9, k10, k11, k12, k13, k14, k15, k16, k17, k18, k19, k20⟩ := HK5.out _ HR32.out
        obtain ⟨i0, i1, i2, i3, i4, i5⟩ := HL31.out _ G32.out
        have HC32 := Lib.hid (CmpPP (W5 := w32) (HV5.out _ HR32.out).1 (HV5.out _ HR32.out).2.2.2.2.2.1 (HV5.out _ HR32.out).2.2.1 (HV5.out _ HR32.out).2.2.2.1 (by have := HZ.out; omega) (by have := HZ.out; omega) (by have := HZ.out; omega) (by have := HZ.out; omega) (Below.refl _ _) (HCW.out (by decide)))
        clear HC31 HL31 HW31 G32
        go_wp2_with fail
        refine HC32.out.mono ?_
        rintro e w33 ⟨rfl, G33⟩
        have HE := Lib.hid (HF.out _ (HR32.out.kept G33.out))
        clear G33 HC32 HR32 HR31 HR30 HF
        go_wp2_with fail
        go_ret
        exact ⟨rfl, HE.out⟩
    · have HTM : Hid (cmpDQ (kq * q) (kq * r) (kq * q') (kq * r') = 0) := Lib.hid (HTM0.out.trans (by decide))
      clear HTM0
      refine wp_region_held_drew (S := (fun w' => w'.cell? ⟨w.heap.size, 0, none⟩ = some (.bool xs) ∧ w'.cell? ⟨w.heap.size, 1, none⟩ = some (.slice xa xl xc) ∧ w'.cell? ⟨w.heap.size, 2, none⟩ = some (.slice xb xk xe) ∧ w'.cell? ⟨w.heap.size, 3, none⟩ = some (.bool us) ∧ w'.cell? ⟨w.heap.size, 4, none⟩ = some (.slice ua ul uc) ∧ w'.cell? ⟨w.heap.size, 5, none⟩ = some (.slice ub uk ue) ∧ w'.cell? ⟨w.heap.size + 1, 0, none⟩ = some (.bool ys) ∧ w'.cell? ⟨w.heap.size + 1, 1, none⟩ = some (.slice ya yl yc) ∧ w'.cell? ⟨w.heap.size + 1, 2, none⟩ = some (.slice yb yk ye) ∧ w'.cell? ⟨w.heap.size + 1, 3, none⟩ = some (.bool vs) ∧ w'.cell? ⟨w.heap.size + 1, 4, none⟩ = some (.slice va vl vc) ∧ w'.cell? ⟨w.heap.size + 1, 5, none⟩ = some (.slice vb vk ve) ∧ w'.cell? ⟨w.heap.size + 1 + 1, 0, none⟩ = some (.bool zs) ∧ w'.cell? ⟨w.heap.size + 1 + 1, 1, none⟩ = some (.slice za zl zc) ∧ w'.cell? ⟨w.heap.size + 1 + 1, 2, none⟩ = some (.slice zb zk ze) ∧ w'.cell? ⟨w.heap.size + 1 + 1, 3, none⟩ = some (.bool ts) ∧ w'.cell? ⟨w.heap.size + 1 + 1, 4, none⟩ = some (.slice ta tl tc) ∧ w'.cell? ⟨w.heap.size + 1 + 1, 5, none⟩ = some (.slice tb tk te) ∧ w'.cell? ⟨w.heap.size + 1 + 1 + 1, 0, none⟩ = some (.bool ks) ∧ w'.cell? ⟨w.heap.size + 1 + 1 + 1, 1, none⟩ = some (.slice ka kl kc) ∧ w'.cell? ⟨w.heap.size + 1 + 1 + 1, 2, none⟩ = some (.slice kb kk ke))) (by kernel_rfl) ?_ (fun hHeld => ?_)
      · exact HK5.out _ HRE.out
      refine wpAnyH_take (i := 0) (v := ?_) (by rfl) (by kernel_rfl) (by kernel_rfl) (by kernel_rfl) (by exact fun _ _ _ h => h) (Or.inl ⟨by rfl, ?_⟩) hHeld ?_
      rotate_left 1
      · intro w' hSw
        go_simp
        try with_reducible rfl
      try simp only [Act.put, List.setIfInBounds_toArray, List.set_cons_zero, List.set_cons_succ, List.getElem_toArray, List.getElem_cons_zero, List.getElem_cons_succ]
      refine wpAnyH_take (i := 1) (v := ?_) (by rfl) (by kernel_rfl) (by kernel_rfl) (by kernel_rfl) (by exact fun _ _ _ h => h) (Or.inl ⟨by rfl, ?_⟩) hHeld ?_
      rotate_left 1
      · intro w' hSw
        go_simp
        try with_reducible rfl
      try simp only [Act.put, List.setIfInBounds_toArray, List.set_cons_zero, List.set_cons_succ, List.getElem_toArray, List.getElem_cons_zero, List.getElem_cons_succ]
      refine wpAnyH_take (i := 2) (v := ?_) (by rfl) (by kernel_rfl) (by kernel_rfl) (by kernel_rfl) (by exact fun _ _ _ h => h) (Or.inl ⟨by rfl, ?_⟩) hHeld ?_
      rotate_left 1
      · intro w' hSw
        go_simp
        try with_reducible rfl
      try simp only [Act.put, List.setIfInBounds_toArray, List.set_cons_zero, List.set_cons_succ, List.getElem_toArray, List.getElem_cons_zero, List.getElem_cons_succ]
      refine wpAnyH_take (i := 4) (v := ?_) (by rfl) (by kernel_rfl) (by kernel_rfl) (by kernel_rfl) (by exact fun _ _ _ h => h) (Or.inl ⟨by rfl, ?_⟩) hHeld ?_
      rotate_left 1
      · intro w' hSw
        go_simp
        try with_reducible rfl
      try simp only [Act.put, List.setIfInBounds_toArray, List.set_cons_zero, List.set_cons_succ, List.getElem_toArray, List.getElem_cons_zero, List.getElem_cons_succ]
      refine wpAnyH_take (i := 5) (v := ?_) (by rfl) (by kernel_rfl) (by kernel_rfl) (by kernel_rfl) (by exact fun _ _ _ h => h) (Or.inl ⟨by rfl, ?_⟩) hHeld ?_
      rotate_left 1
      · intro w' hSw
        go_simp
        try with_reducible rfl
      try simp only [Act.put, List.setIfInBounds_toArray, List.set_cons_zero, List.set_cons_succ, List.getElem_toArray, List.getElem_cons_zero, List.getElem_cons_succ]
      refine wpAnyH_take (i := 6) (v := ?_) (by rfl) (by kernel_rfl) (by kernel_rfl) (by kernel_rfl) (by exact fun _ _ _ h => h) (Or.inl ⟨by rfl, ?_⟩) hHeld ?_
      rotate_left 1
      · intro w' hSw
        go_simp
        try with_reducible rfl
      try simp only [Act.put, List.setIfInBounds_toArray, List.set_cons_zero, List.set_cons_succ, List.getElem_toArray, List.getElem_cons_zero, List.getElem_cons_succ]
      refine wpAnyH_take (i := 9) (v := ?_) (by rfl) (by kernel_rfl) (by kernel_rfl) (by kernel_rfl) (by exact fun _ _ _ h => h) (Or.inl ⟨by rfl, ?_⟩) hHeld ?_
      rotate_left 1
      · intro w' hSw
        go_simp
        try with_reducible rfl
      try simp only [Act.put, List.setIfInBounds_toArray, List.set_cons_zero, List.set_cons_succ, List.getElem_toArray, List.getElem_cons_zero, List.getElem_cons_succ]
      refine wpAnyH_take (i := 10) (v := ?_) (by rfl) (by kernel_rfl) (by kernel_rfl) (by kernel_rfl) (by exact fun _ _ _ h => h) (Or.inl ⟨by rfl, ?_⟩) hHeld ?_
      rotate_left 1
      · intro w' hSw
        go_simp
        try with_reducible rfl
      try simp only [Act.put, List.setIfInBounds_toArray, List.set_cons_zero, List.set_cons_succ, List.getElem_toArray, List.getElem_cons_zero, List.getElem_cons_succ]
      refine wpAnyH_ready (rs := [3]) (by kernel_rfl) (by simp) ?_
      refine AllReadyH.cons (by rfl) (fun K hK => ?_) AllReadyH.nil
      go_simp
      with_reducible refine (scaleBB (Room.refl HRE.out.bench HRE.out.tab) (HV5.out _ HRE.out).1 (HV5.out _ HRE.out).2.1 (HV5.out _ HRE.out).2.2.2.2.2.2 (by have := HZ.out; omega) (by have := HZ.out; omega) (by have := HZ.out; omega)).mono ?_
      rintro e w20 ⟨fs, fa, fl, fc, fb, fk, fe, hs, ha, hl, hc, hb, hk, he, rfl, S20, V20, U20⟩
      have HR20 := Lib.hid (HRE.out.trans S20.out)
      clear hHeld
      refine hK.out _ _ ?_ (fun hHeld => ?_)
      · exact HK5.out _ HR20.out
      clear hK K
      try simp only [Act.put, List.setIfInBounds_toArray, List.set_cons_zero, List.set_cons_succ, List.getElem_toArray, List.getElem_cons_zero, List.getElem_cons_succ]
      refine wpAnyH_ready (rs := [7]) (by kernel_rfl) (by simp) ?_
      refine AllReadyH.cons (by rfl) (fun K hK => ?_) AllReadyH.nil
      go_simp
      with_reducible refine (scaleBB (Room.refl HR20.out.bench HR20.out.tab) (HV5.out _ HR20.out).2.2.1 (HV5.out _ HR20.out).2.2.2.1 (HV5.out _ HR20.out).2.2.2.2.2.2 (by have := HZ.out; omega) (by have := HZ.out; omega) (by have := HZ.out; omega)).mono ?_
      rintro e w21 ⟨ms, ma, ml, mc, mb, mk, me, os, oa, ol, oc, ob, ok, oe, rfl, S21, V21, U21⟩
      have HR21 := Lib.hid (HR20.out.trans S21.out)
      clear hHeld
      refine hK.out _ _ ?_ (fun hHeld => ?_)
      · exact HK5.out _ HR21.out
      clear hK K
      try simp only [Act.put, List.setIfInBounds_toArray, List.set_cons_zero, List.set_cons_succ, List.getElem_toArray, List.getElem_cons_zero, List.getElem_cons_succ]
      refine wpAnyH_ready (rs := [8]) (by kernel_rfl) (by simp) ?_
      refine AllReadyH.cons (by rfl) (fun K hK => ?_) AllReadyH.nil
      go_simp
      with_reducible refine (CmpPP (S21.out.vq HR20.out.bench V20.out) (S21.out.vq HR20.out.bench U20.out) V21.out U21.out HZD.out.1 HZD.out.2.1 HZD.out.2.2.1 HZD.out.2.2.2 (Below.refl _ _) HTM.out).mono ?_
      rintro e w22 ⟨rfl, G22⟩
      have HR22 := Lib.hid (HR21.out.kept G22.out)
      clear hHeld
      refine hK.out _ _ ?_ (fun hHeld => ?_)
      · exact HK5.out _ HR22.out
      clear hK K
      try simp only [Act.put, List.setIfInBounds_toArray, List.set_cons_zero, List.set_cons_succ, List.getElem_toArray, List.getElem_cons_zero, List.getElem_cons_succ]
      refine wpAnyH_ready (rs := [11]) (by kernel_rfl) (by simp) ?_
      refine AllReadyH.cons (by rfl) (fun K hK => ?_) AllReadyH.nil
      go_simp
      with_reducible refine (gotP_sign (HV5.out _ HR22.out).2.2.2.2.2.2 (by have := HZ.out; omega) (Below.refl _ _) HSG.out).mono ?_
      rintro e w23 ⟨rfl, G23⟩
      have HR23 := Lib.hid (HR22.out.kept G23.out)
      clear hHeld
      refine hK.out _ _ ?_ (fun hHeld => ?_)
      · exact HK5.out _ HR23.out
      clear hK K
      try simp only [Act.put, List.setIfInBounds_toArray, List.set_cons_zero, List.set_cons_succ, List.getElem_toArray, List.getElem_cons_zero, List.getElem_cons_succ]
      refine wpAnyH_take (i := 12) (v := ?_) (by rfl) (by kernel_rfl) (by kernel_rfl) (by kernel_rfl) (by exact fun _ _ _ h => h) (Or.inl ⟨by rfl, ?_⟩) hHeld ?_
      rotate_left 1
      · intro w' hSw
        go_simp
        try with_reducible rfl
      try simp only [Act.put, List.setIfInBounds_toArray, List.set_cons_zero, List.set_cons_succ, List.getElem_toArray, List.getElem_cons_zero, List.getElem_cons_succ]
      refine wpAnyH_take (i := 13) (v := ?_) (by rfl) (by kernel_rfl) (by kernel_rfl) (by kernel_rfl) (by exact fun _ _ _ h => h) (Or.inl ⟨by rfl, ?_⟩) hHeld ?_
      rotate_left 1
      · intro w' hSw
        go_simp
        try with_reducible rfl
      try simp only [Act.put, List.setIfInBounds_toArray, List.set_cons_zero, List.set_cons_succ, List.getElem_toArray, List.getElem_cons_zero, List.getElem_cons_succ]
      refine wpAnyH_done (by kernel_rfl) ?_ _
      clear hHeld
      have HR30 := Lib.hid HR23.out
      clear HRE S20 V20 U20 S21 V21 U21 G22 G23 HR20 HR21 HR22 HTM HSG HZD HR16
      obtain ⟨k0, k1, k2, k3, k4, k5, k6, k7, k8, k9, k10, k11, k12, k13, k14, k15, k16, k17, k18, k19, k20⟩ := HK5.out _ HR30.out
      obtain ⟨w31, hw31⟩ : ∃ w31, w31 = w23.alloc (.cells #[.bool xs, .slice xa xl xc, .slice xb xk xe, .bool ts, .slice ta tl tc, .slice tb tk te] 29) := ⟨_, rfl⟩
      have HR31 : Hid (Room b w5 w31) := Lib.hid (by rw [hw31]; exact HR30.out.alloc _)
      obtain ⟨l0, l1, l2, l3, l4, l5, l6, l7, l8, l9, l10, l11, l12, l13, l14, l15, l16, l17, l18, l19, l20⟩ := HK5.out _ HR31.out
      rw [hw31] at l0 l1 l2 l3 l4 l5 l6 l7 l8 l9 l10 l11 l12 l13 l14 l15 l16 l17 l18 l19 l20
      have HC31 := Lib.hid (gotP_cmp (W5 := w31) (HV5.out _ HR31.out).1 (HV5.out _ HR31.out).2.2.1 (by have := HZ.out; omega) (by have := HZ.out; omega) (Below.refl _ _) HC1.out)
      have HL31 : Hid (∀ W, Below w31.heap.size w31 W → (W.cell? ⟨w23.heap.size, 0, none⟩ = some (.bool xs) ∧ W.cell? ⟨w23.heap.size, 1, none⟩ = some (.slice xa xl xc) ∧ W.cell? ⟨w23.heap.size, 2, none⟩ = some (.slice xb xk xe) ∧ W.cell? ⟨w23.heap.size, 3, none⟩ = some (.bool ts) ∧ W.cell? ⟨w23.heap.size, 4, none⟩ = some (.slice ta tl tc) ∧ W.cell? ⟨w23.heap.size, 5, none⟩ = some (.slice tb tk te))) := Lib.hid fun W h => by
        obtain ⟨h0, h1, h2, h3, h4, h5, _⟩ := cells6 (stay (show w31.heap[w23.heap.size]? = _ by rw [hw31]; exact heap_alloc_new w23 _) h)
        exact ⟨h0, h1, h2, h3, h4, h5⟩
      have HW31 := Lib.hid hw31
      clear hw31
      go_wp2_with fail
      rw [← HW31.out]
      have HF : Hid (∀ W, Room b w5 W → Below w.heap.size w W) := Lib.hid fun W h => h.below HBW.out HGE.out (.inl (Nat.le_refl _)) HBW.out.size
      rcases h1v with rfl | rfl | rfl
      · refine HC31.out.mono ?_
        rintro e w32 ⟨rfl, G32⟩
        have HR32 := Lib.hid (HR31.out.kept G32.out)
        obtain ⟨k0, k1, k2, k3, k4, k5, k6, k7, k8, k9, k10, k11, k12, k13, k14, k15, k16, k17, k18, k19, k20⟩ := HK5.out _ HR32.out
        obtain ⟨i0, i1, i2, i3, i4, i5⟩ := HL31.out _ G32.out
        have HC32 := Lib.hid (CmpPP (W5 := w32) (HV5.out _ HR32.out).1 (HV5.out _ HR32.out).2.2.2.2.2.1 (HV5.out _ HR32.out).2.2.1 (HV5.out _ HR32.out).2.2.2.1 (by have := HZ.out; omega) (by have := HZ.out; omega) (by have := HZ.out; omega) (by have := HZ.out; omega) (Below.refl _ _) (HCW.out (by decide)))
        clear HC31 HL31 HW31 G32
        go_wp2_with fail
        refine HC32.out.mono ?_
        rintro e w33 ⟨rfl, G33⟩
        have HE := Lib.hid (HF.out _ (HR32.out.kept G33.out))
        clear G33 HC32 HR32 HR31 HR30 HF
        go_wp2_with fail
        go_ret
        exact ⟨rfl, HE.out⟩
      · refine HC31.out.mono ?_
        rintro e w32 ⟨rfl, G32⟩
        have HE := Lib.hid (HF.out _ (HR31.out.kept G32.out))
        clear G32 HC31 HL31 HW31 HR31 HR30 HF
        go_wp2_with fail
        go_ret
        exact ⟨rfl, HE.out⟩
      · refine HC31.out.mono ?_
        rintro e w32 ⟨rfl, G32⟩
        have HR32 := Lib.hid (HR31.out.kept G32.out)
        obtain ⟨k0, k1, k2, k3, k4, k5, k6, k7, k8, k9, k10, k11, k12, k13, k14, k15, k16, k17, k18, k19, k20⟩ := HK5.out _ HR32.out
        obtain ⟨i0, i1, i2, i3, i4, i5⟩ := HL31.out _ G32.out
        have HC32 := Lib.hid (CmpPP (W5 := w32) (HV5.out _ HR32.out).1 (HV5.out _ HR32.out).2.2.2.2.2.1 (HV5.out _ HR32.out).2.2.1 (HV5.out _ HR32.out).2.2.2.1 (by have := HZ.out; omega) (by have := HZ.out; omega) (by have := HZ.out; omega) (by have := HZ.out; omega) (Below.refl _ _) (HCW.out (by decide)))
        clear HC31 HL31 HW31 G32
        go_wp2_with fail
        refine HC32.out.mono ?_
        rintro e w33 ⟨rfl, G33⟩
        have HE := Lib.hid (HF.out _ (HR32.out.kept G33.out))
        clear G33 HC32 HR32 HR31 HR30 HF
        go_wp2_with fail
        go_ret
        exact ⟨rfl, HE.out⟩
    · have HTM : Hid (cmpDQ (kq * q) (kq * r) (kq * q') (kq * r') = 1) := Lib.hid (HTM0.out.trans (by decide))
      clear HTM0
      refine wp_region_held_drew (S := (fun w' => w'.cell? ⟨w.heap.size, 0, none⟩ = some (.bool xs) ∧ w'.cell? ⟨w.heap.size, 1, none⟩ = some (.slice xa xl xc) ∧ w'.cell? ⟨w.heap.size, 2, none⟩ = some (.slice xb xk xe) ∧ w'.cell? ⟨w.heap.size, 3, none⟩ = some (.bool us) ∧ w'.cell? ⟨w.heap.size, 4, none⟩ = some (.slice ua ul uc) ∧ w'.cell? ⟨w.heap.size, 5, none⟩ = some (.slice ub uk ue) ∧ w'.cell? ⟨w.heap.size + 1, 0, none⟩ = some (.bool ys) ∧ w'.cell? ⟨w.heap.size + 1, 1, none⟩ = some (.slice ya yl yc) ∧ w'.cell? ⟨w.heap.size + 1, 2, none⟩ = some (.slice yb yk ye) ∧ w'.cell? ⟨w.heap.size + 1, 3, none⟩ = some (.bool vs) ∧ w'.cell? ⟨w.heap.size + 1, 4, none⟩ = some (.slice va vl vc) ∧ w'.cell? ⟨w.heap.size + 1, 5, none⟩ = some (.slice vb vk ve) ∧ w'.cell? ⟨w.heap.size + 1 + 1, 0, none⟩ = some (.bool zs) ∧ w'.cell? ⟨w.heap.size + 1 + 1, 1, none⟩ = some (.slice za zl zc) ∧ w'.cell? ⟨w.heap.size + 1 + 1, 2, none⟩ = some (.slice zb zk ze) ∧ w'.cell? ⟨w.heap.size + 1 + 1, 3, none⟩ = some (.bool ts) ∧ w'.cell? ⟨w.heap.size + 1 + 1, 4, none⟩ = some (.slice ta tl tc) ∧ w'.cell? ⟨w.heap.size + 1 + 1, 5, none⟩ = some (.slice tb tk te) ∧ w'.cell? ⟨w.heap.size + 1 + 1 + 1, 0, none⟩ = some (.bool ks) ∧ w'.cell? ⟨w.heap.size + 1 + 1 + 1, 1, none⟩ = some (.slice ka kl kc) ∧ w'.cell? ⟨w.heap.size + 1 + 1 + 1, 2, none⟩ = some (.slice kb kk ke))) (by kernel_rfl) ?_ (fun hHeld => ?_)
      · exact HK5.out _ HRE.out
      refine wpAnyH_take (i := 0) (v := ?_) (by rfl) (by kernel_rfl) (by kernel_rfl) (by kernel_rfl) (by exact fun _ _ _ h => h) (Or.inl ⟨by rfl, ?_⟩) hHeld ?_
      rotate_left 1
      · intro w' hSw
        go_simp
        try with_reducible rfl
      try simp only [Act.put, List.setIfInBounds_toArray, List.set_cons_zero, List.set_cons_succ, List.getElem_toArray, List.getElem_cons_zero, List.getElem_cons_succ]
      refine wpAnyH_take (i := 1) (v := ?_) (by rfl) (by kernel_rfl) (by kernel_rfl) (by kernel_rfl) (by exact fun _ _ _ h => h) (Or.inl ⟨by rfl, ?_⟩) hHeld ?_
      rotate_left 1
      · intro w' hSw
        go_simp
        try with_reducible rfl
      try simp only [Act.put, List.setIfInBounds_toArray, List.set_cons_zero, List.set_cons_succ, List.getElem_toArray, List.getElem_cons_zero, List.getElem_cons_succ]
      refine wpAnyH_take (i := 2) (v := ?_) (by rfl) (by kernel_rfl) (by kernel_rfl) (by kernel_rfl) (by exact fun _ _ _ h => h) (Or.inl ⟨by rfl, ?_⟩) hHeld ?_
      rotate_left 1
      · intro w' hSw
        go_simp
        try with_reducible rfl
      try simp only [Act.put, List.setIfInBounds_toArray, List.set_cons_zero, List.set_cons_succ, List.getElem_toArray, List.getElem_cons_zero, List.getElem_cons_succ]
      refine wpAnyH_take (i := 4) (v := ?_) (by rfl) (by kernel_rfl) (by kernel_rfl) (by kernel_rfl) (by exact fun _ _ _ h => h) (Or.inl ⟨by rfl, ?_⟩) hHeld ?_
      rotate_left 1
      · intro w' hSw
        go_simp
        try with_reducible rfl
      try simp only [Act.put, List.setIfInBounds_toArray, List.set_cons_zero, List.set_cons_succ, List.getElem_toArray, List.getElem_cons_zero, List.getElem_cons_succ]
      refine wpAnyH_take (i := 5) (v := ?_) (by rfl) (by kernel_rfl) (by kernel_rfl) (by kernel_rfl) (by exact fun _ _ _ h => h) (Or.inl ⟨by rfl, ?_⟩) hHeld ?_
      rotate_left 1
      · intro w' hSw
        go_simp
        try with_reducible rfl
      try simp only [Act.put, List.setIfInBounds_toArray, List.set_cons_zero, List.set_cons_succ, List.getElem_toArray, List.getElem_cons_zero, List.getElem_cons_succ]
      refine wpAnyH_take (i := 6) (v := ?_) (by rfl) (by kernel_rfl) (by kernel_rfl) (by kernel_rfl) (by exact fun _ _ _ h => h) (Or.inl ⟨by rfl, ?_⟩) hHeld ?_
      rotate_left 1
      · intro w' hSw
        go_simp
        try with_reducible rfl
      try simp only [Act.put, List.setIfInBounds_toArray, List.set_cons_zero, List.set_cons_succ, List.getElem_toArray, List.getElem_cons_zero, List.getElem_cons_succ]
      refine wpAnyH_take (i := 9) (v := ?_) (by rfl) (by kernel_rfl) (by kernel_rfl) (by kernel_rfl) (by exact fun _ _ _ h => h) (Or.inl ⟨by rfl, ?_⟩) hHeld ?_
      rotate_left 1
      · intro w' hSw
        go_simp
        try with_reducible rfl
      try simp only [Act.put, List.setIfInBounds_toArray, List.set_cons_zero, List.set_cons_succ, List.getElem_toArray, List.getElem_cons_zero, List.getElem_cons_succ]
      refine wpAnyH_take (i := 10) (v := ?_) (by rfl) (by kernel_rfl) (by kernel_rfl) (by kernel_rfl) (by exact fun _ _ _ h => h) (Or.inl ⟨by rfl, ?_⟩) hHeld ?_
      rotate_left 1
      · intro w' hSw
        go_simp
        try with_reducible rfl
      try simp only [Act.put, List.setIfInBounds_toArray, List.set_cons_zero, List.set_cons_succ, List.getElem_toArray, List.getElem_cons_zero, List.getElem_cons_succ]
      refine wpAnyH_ready (rs := [3]) (by kernel_rfl) (by simp) ?_
      refine AllReadyH.cons (by rfl) (fun K hK => ?_) AllReadyH.nil
      go_simp
      with_reducible refine (scaleBB (Room.refl HRE.out.bench HRE.out.tab) (HV5.out _ HRE.out).1 (HV5.out _ HRE.out).2.1 (HV5.out _ HRE.out).2.2.2.2.2.2 (by have := HZ.out; omega) (by have := HZ.out; omega) (by have := HZ.out; omega)).mono ?_
      rintro e w20 ⟨fs, fa, fl, fc, fb, fk, fe, hs, ha, hl, hc, hb, hk, he, rfl, S20, V20, U20⟩
      have HR20 := Lib.hid (HRE.out.trans S20.out)
      clear hHeld
      refine hK.out _ _ ?_ (fun hHeld => ?_)
      · exact HK5.out _ HR20.out
      clear hK K
      try simp only [Act.put, List.setIfInBounds_toArray, List.set_cons_zero, List.set_cons_succ, List.getElem_toArray, List.getElem_cons_zero, List.getElem_cons_succ]
      refine wpAnyH_ready (rs := [7]) (by kernel_rfl) (by simp) ?_
      refine AllReadyH.cons (by rfl) (fun K hK => ?_) AllReadyH.nil
      go_simp
      with_reducible refine (scaleBB (Room.refl HR20.out.bench HR20.out.tab) (HV5.out _ HR20.out).2.2.1 (HV5.out _ HR20.out).2.2.2.1 (HV5.out _ HR20.out).2.2.2.2.2.2 (by have := HZ.out; omega) (by have := HZ.out; omega) (by have := HZ.out; omega)).mono ?_
      rintro e w21 ⟨ms, ma, ml, mc, mb, mk, me, os, oa, ol, oc, ob, ok, oe, rfl, S21, V21, U21⟩
      have HR21 := Lib.hid (HR20.out.trans S21.out)
      clear hHeld
      refine hK.out _ _ ?_ (fun hHeld => ?_)
      · exact HK5.out _ HR21.out
      clear hK K
      try simp only [Act.put, List.setIfInBounds_toArray, List.set_cons_zero, List.set_cons_succ, List.getElem_toArray, List.getElem_cons_zero, List.getElem_cons_succ]
      refine wpAnyH_ready (rs := [8]) (by kernel_rfl) (by simp) ?_
      refine AllReadyH.cons (by rfl) (fun K hK => ?_) AllReadyH.nil
      go_simp
      with_reducible refine (CmpPP (S21.out.vq HR20.out.bench V20.out) (S21.out.vq HR20.out.bench U20.out) V21.out U21.out HZD.out.1 HZD.out.2.1 HZD.out.2.2.1 HZD.out.2.2.2 (Below.refl _ _) HTM.out).mono ?_
      rintro e w22 ⟨rfl, G22⟩
      have HR22 := Lib.hid (HR21.out.kept G22.out)
      clear hHeld
      refine hK.out _ _ ?_ (fun hHeld => ?_)
      · exact HK5.out _ HR22.out
      clear hK K
      try simp only [Act.put, List.setIfInBounds_toArray, List.set_cons_zero, List.set_cons_succ, List.getElem_toArray, List.getElem_cons_zero, List.getElem_cons_succ]
      refine wpAnyH_ready (rs := [11]) (by kernel_rfl) (by simp) ?_
      refine AllReadyH.cons (by rfl) (fun K hK => ?_) AllReadyH.nil
      go_simp
      with_reducible refine (gotP_sign (HV5.out _ HR22.out).2.2.2.2.2.2 (by have := HZ.out; omega) (Below.refl _ _) HSG.out).mono ?_
      rintro e w23 ⟨rfl, G23⟩
      have HR23 := Lib.hid (HR22.out.kept G23.out)
      clear hHeld
      refine hK.out _ _ ?_ (fun hHeld => ?_)
      · exact HK5.out _ HR23.out
      clear hK K
      try simp only [Act.put, List.setIfInBounds_toArray, List.set_cons_zero, List.set_cons_succ, List.getElem_toArray, List.getElem_cons_zero, List.getElem_cons_succ]
      refine wpAnyH_take (i := 12) (v := ?_) (by rfl) (by kernel_rfl) (by kernel_rfl) (by kernel_rfl) (by exact fun _ _ _ h => h) (Or.inl ⟨by rfl, ?_⟩) hHeld ?_
      rotate_left 1
      · intro w' hSw
        go_simp
        try with_reducible rfl
      try simp only [Act.put, List.setIfInBounds_toArray, List.set_cons_zero, List.set_cons_succ, List.getElem_toArray, List.getElem_cons_zero, List.getElem_cons_succ]
      refine wpAnyH_take (i := 13) (v := ?_) (by rfl) (by kernel_rfl) (by kernel_rfl) (by kernel_rfl) (by exact fun _ _ _ h => h) (Or.inl ⟨by rfl, ?_⟩) hHeld ?_
      rotate_left 1
      · intro w' hSw
        go_simp
        try with_reducible rfl
      try simp only [Act.put, List.setIfInBounds_toArray, List.set_cons_zero, List.set_cons_succ, List.getElem_toArray, List.getElem_cons_zero, List.getElem_cons_succ]
      refine wpAnyH_done (by kernel_rfl) ?_ _
      clear hHeld
      have HR30 := Lib.hid HR23.out
      clear HRE S20 V20 U20 S21 V21 U21 G22 G23 HR20 HR21 HR22 HTM HSG HZD HR16
      obtain ⟨k0, k1, k2, k3, k4, k5, k6, k7, k8, k9, k10, k11, k12, k13, k14, k15, k16, k17, k18, k19, k20⟩ := HK5.out _ HR30.out
      obtain ⟨w31, hw31⟩ : ∃ w31, w31 = w23.alloc (.cells #[.bool xs, .slice xa xl xc, .slice xb xk xe, .bool ts, .slice ta tl tc, .slice tb tk te] 29) := ⟨_, rfl⟩
      have HR31 : Hid (Room b w5 w31) := Lib.hid (by rw [hw31]; exact HR30.out.alloc _)
      obtain ⟨l0, l1, l2, l3, l4, l5, l6, l7, l8, l9, l10, l11, l12, l13, l14, l15, l16, l17, l18, l19, l20⟩ := HK5.out _ HR31.out
      rw [hw31] at l0 l1 l2 l3 l4 l5 l6 l7 l8 l9 l10 l11 l12 l13 l14 l15 l16 l17 l18 l19 l20
      have HC31 := Lib.hid (gotP_cmp (W5 := w31) (HV5.out _ HR31.out).1 (HV5.out _ HR31.out).2.2.1 (by have := HZ.out; omega) (by have := HZ.out; omega) (Below.refl _ _) HC1.out)
      have HL31 : Hid (∀ W, Below w31.heap.size w31 W → (W.cell? ⟨w23.heap.size, 0, none⟩ = some (.bool xs) ∧ W.cell? ⟨w23.heap.size, 1, none⟩ = some (.slice xa xl xc) ∧ W.cell? ⟨w23.heap.size, 2, none⟩ = some (.slice xb xk xe) ∧ W.cell? ⟨w23.heap.size, 3, none⟩ = some (.bool ts) ∧ W.cell? ⟨w23.heap.size, 4, none⟩ = some (.slice ta tl tc) ∧ W.cell? ⟨w23.heap.size, 5, none⟩ = some (.slice tb tk te))) := Lib.hid fun W h => by
        obtain ⟨h0, h1, h2, h3, h4, h5, _⟩ := cells6 (stay (show w31.heap[w23.heap.size]? = _ by rw [hw31]; exact heap_alloc_new w23 _) h)
        exact ⟨h0, h1, h2, h3, h4, h5⟩
      have HW31 := Lib.hid hw31
      clear hw31
      go_wp2_with fail
      rw [← HW31.out]
      have HF : Hid (∀ W, Room b w5 W → Below w.heap.size w W) := Lib.hid fun W h => h.below HBW.out HGE.out (.inl (Nat.le_refl _)) HBW.out.size
      rcases h1v with rfl | rfl | rfl
      · refine HC31.out.mono ?_
        rintro e w32 ⟨rfl, G32⟩
        have HR32 := Lib.hid (HR31.out.kept G32.out)
        obtain ⟨k0, k1, k2, k3, k4, k5, k6, k7, k8, k9, k10, k11, k12, k13, k14, k15, k16, k17, k18, k19, k20⟩ := HK5.out _ HR32.out
        obtain ⟨i0, i1, i2, i3, i4, i5⟩ := HL31.out _ G32.out
        have HC32 := Lib.hid (CmpPP (W5 := w32) (HV5.out _ HR32.out).1 (HV5.out _ HR32.out).2.2.2.2.2.1 (HV5.out _ HR32.out).2.2.1 (HV5.out _ HR32.out).2.2.2.1 (by have := HZ.out; omega) (by have := HZ.out; omega) (by have := HZ.out; omega) (by have := HZ.out; omega) (Below.refl _ _) (HCW.out (by decide)))
        clear HC31 HL31 HW31 G32
        go_wp2_with fail
        refine HC32.out.mono ?_
        rintro e w33 ⟨rfl, G33⟩
        have HE := Lib.hid (HF.out _ (HR32.out.kept G33.out))
        clear G33 HC32 HR32 HR31 HR30 HF
        go_wp2_with fail
        go_ret
        exact ⟨rfl, HE.out⟩
      · refine HC31.out.mono ?_
        rintro e w32 ⟨rfl, G32⟩
        have HE := Lib.hid (HF.out _ (HR31.out.kept G32.out))
        clear G32 HC31 HL31 HW31 HR31 HR30 HF
        go_wp2_with fail
        go_ret
        exact ⟨rfl, HE.out⟩
      · refine HC31.out.mono ?_
        rintro e w32 ⟨rfl, G32⟩
        have HR32 := Lib.hid (HR31.out.kept G32.out)
        obtain ⟨k0, k1, k2, k3, k4, k5, k6, k7, k8, k9, k10, k11, k12, k13, k14, k15, k16, k17, k18, k19, k20⟩ := HK5.out _ HR32.out
        obtain ⟨i0, i1, i2, i3, i4, i5⟩ := HL31.out _ G32.out
        have HC32 := Lib.hid (CmpPP (W5 := w32) (HV5.out _ HR32.out).1 (HV5.out _ HR32.out).2.2.2.2.2.1 (HV5.out _ HR32.out).2.2.1 (HV5.out _ HR32.out).2.2.2.1 (by have := HZ.out; omega) (by have := HZ.out; omega) (by have := HZ.out; omega) (by have := HZ.out; omega) (Below.refl _ _) (HCW.out (by decide)))
        clear HC31 HL31 HW31 G32
        go_wp2_with fail
        refine HC32.out.mono ?_
        rintro e w33 ⟨rfl, G33⟩
        have HE := Lib.hid (HF.out _ (HR32.out.kept G33.out))
        clear G33 HC32 HR32 HR31 HR30 HF
        go_wp2_with fail
        go_ret
        exact ⟨rfl, HE.out⟩

theorem hand00 (W : World) : HandR W none 0 [] none 0 [] := ⟨⟨Dig.nil _, Reads.nil _ _, by simp, by simp [maxLen]⟩, ⟨Dig.nil _, Reads.nil _ _, by simp, by simp [maxLen]⟩⟩
theorem OkQ.vq4 {W : World} {s : Bool} {a1 a2 : Option Addr} {l1 c1 l2 c2 : Nat} {x : Rat} (h : OkQ W ((s, (a1, l1, c1), (a2, l2, c2)), x)) : VQ x (s, (a1, l1, c1), (a2, l2, c2)) W := ⟨h.sg, h.l1, h.l2, h.at'⟩
theorem odd_none {W : World} {d : HD} (h : oddE d = false) (hh : HandD W d) : ∃ q r, VQ q (d.s, (d.a1, d.xs.length, d.c1), (d.a2, d.ds.length, d.c2)) W ∧ VQ r (d.t, (d.b1, d.ys.length, d.e1), (d.b2, d.es.length, d.e2)) W ∧ szQ q ≤ 6 ∧ szQ r ≤ 6 := by
  unfold oddE HD.ra HD.rb at h
  rw [Bool.or_eq_false_iff] at h
  obtain ⟨h1, h2⟩ := h
  obtain ⟨l1, l2, l3, l4⟩ := great_two h1
  rw [Bool.not_eq_false', Bool.and_eq_true] at h2
  obtain ⟨q, oq, zq⟩ := okq_of_right hh.a h2.1 l1 l2
  obtain ⟨r, or', zr⟩ := okq_of_right hh.b h2.2 l3 l4
  exact ⟨q, r, oq.vq4, or'.vq4, zq, zr⟩
def sixC (d : HD) : List Value := [.bool d.s, .slice d.a1 d.xs.length d.c1, .slice d.a2 d.ds.length d.c2, .bool d.t, .slice d.b1 d.ys.length d.e1, .slice d.b2 d.es.length d.e2]
theorem dels_four {W : World} {g : Nat} {d1 d2 d3 d4 : HD} {ty : TypeId} (h : W.heap[g]? = some (.cells (sixC d1 ++ (sixC d2 ++ (sixC d3 ++ sixC d4))).toArray ty (0, 0))) : Dels W g [d1, d2, d3, d4] := by
  intro k d hk
  have hc : ∀ i v, (sixC d1 ++ (sixC d2 ++ (sixC d3 ++ sixC d4)))[i]? = some v → W.cell? ⟨g, i, none⟩ = some v := fun i v hv => by simp only [World.cell?, h]; simpa using hv
  rcases k with _ | _ | _ | _ | k
  · simp only [List.getElem?_cons_zero, Option.some.injEq] at hk
    subst hk
    exact ⟨hc 0 _ rfl, hc 1 _ rfl, hc 2 _ rfl, hc 3 _ rfl, hc 4 _ rfl, hc 5 _ rfl⟩
  · simp only [List.getElem?_cons_succ, List.getElem?_cons_zero, Option.some.injEq] at hk
    subst hk
    exact ⟨hc 6 _ rfl, hc 7 _ rfl, hc 8 _ rfl, hc 9 _ rfl, hc 10 _ rfl, hc 11 _ rfl⟩
  · simp only [List.getElem?_cons_succ, List.getElem?_cons_zero, Option.some.injEq] at hk
    subst hk
    exact ⟨hc 12 _ rfl, hc 13 _ rfl, hc 14 _ rfl, hc 15 _ rfl, hc 16 _ rfl, hc 17 _ rfl⟩
  · simp only [List.getElem?_cons_succ, List.getElem?_cons_zero, Option.some.injEq] at hk
    subst hk
    exact ⟨hc 18 _ rfl, hc 19 _ rfl, hc 20 _ rfl, hc 21 _ rfl, hc 22 _ rfl, hc 23 _ rfl⟩
  · simp at hk
theorem rulesD_walk {x y z : HD} {s : Bool} {a1 a2 : Option Addr} {c1 c2 : Nat} {xs ds : List Nat} {w : World} (hx : HandD w x) (hy : HandD w y) (hz : HandD w z) (hk : HandR w a1 c1 xs a2 c2 ds) (hT : Tab w) :
    Calls Tryd.prog 3 #[.agg #[.bool x.s, .slice x.a1 x.xs.length x.c1, .slice x.a2 x.ds.length x.c2, .bool x.t, .slice x.b1 x.ys.length x.e1, .slice x.b2 x.es.length x.e2], .agg #[.bool y.s, .slice y.a1 y.xs.length y.c1, .slice y.a2 y.ds.length y.c2, .bool y.t, .slice y.b1 y.ys.length y.e1, .slice y.b2 y.es.length y.e2],
      .agg #[.bool z.s, .slice z.a1 z.xs.length z.c1, .slice z.a2 z.ds.length z.c2, .bool z.t, .slice z.b1 z.ys.length z.e1, .slice z.b2 z.es.length z.e2], .agg #[.bool s, .slice a1 xs.length c1, .slice a2 ds.length c2]] w (Holds w) := by
  have hkd : HandD w ⟨s, a1, c1, xs, a2, c2, ds, false, none, 0, [], none, 0, []⟩ := ⟨hk, hand00 w⟩
  refine rulesD_raw (o := [x, y, z, ⟨s, a1, c1, xs, a2, c2, ds, false, none, 0, [], none, 0, []⟩].any oddE) (fun W gg hb hc => ?_) (fun ho => ?_) hT
  · refine Odd_any gg 4 [x, y, z, ⟨s, a1, c1, xs, a2, c2, ds, false, none, 0, [], none, 0, []⟩] W (dels_four hc) (fun d hd => ?_) (Array.getElem?_eq_some_iff.1 hc).1 (by simp)
    simp only [List.mem_cons, List.not_mem_nil, or_false] at hd
    rcases hd with rfl | rfl | rfl | rfl
    · exact hx.kept hb
    · exact hy.kept hb
    · exact hz.kept hb
    · exact hkd.kept hb
  · simp only [List.any_cons, List.any_nil, Bool.or_false, Bool.or_eq_false_iff] at ho
    obtain ⟨o1, o2, o3, o4⟩ := ho
    obtain ⟨q, r, v1, v2, z1, z2⟩ := odd_none o1 hx
    obtain ⟨q', r', v3, v4, z3, z4⟩ := odd_none o2 hy
    obtain ⟨q2, r2, v5, v6, z5, z6⟩ := odd_none o3 hz
    obtain ⟨kq, k0, v7, _, z7, _⟩ := odd_none o4 hkd
    exact ⟨q, r, q', r', q2, r2, kq, ⟨v1, v2, v3, v4, v5, v6, v7⟩, z1, z2, z3, z4, z5, z6, z7⟩
end Go.Proofs.YtomoemgoglghlaaDoor

