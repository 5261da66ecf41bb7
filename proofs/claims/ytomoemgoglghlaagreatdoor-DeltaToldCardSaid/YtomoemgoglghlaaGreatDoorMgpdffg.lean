/- By program out of: DelRef, DelCmp, DelText, DelBy, DelBySub, DelByMul, DelOps. -/
import Derived.Test.YtomoemgoglghlaaGreatDoorMakdhlh
/-
  The document's Of, Form, Add, Neg, Scale of numbers with a delta.
-/
set_option linter.unusedVariables false
set_option linter.unusedSimpArgs false
namespace Go.Proofs.YtomoemgoglghlaaGreatDoor
open Go.RowKit Rep


set_option maxRecDepth 100000 in
set_option maxHeartbeats 4000000 in
theorem OfDD {W5 w : World} {xs : Bool} {xa xb : Option Addr} {xl xc xk xe : Nat} {us : Bool} {ua ub : Option Addr} {ul uc uk ue : Nat} {q r : Rat} (hx : VQ q (xs, (xa, xl, xc), (xb, xk, xe)) w) (hu : VQ r (us, (ua, ul, uc), (ub, uk, ue)) w) (zq : szQ q ≤ 100) (zr : szQ r ≤ 100) (hb5 : Below W5.heap.size W5 w) :
    Calls Tryz.prog 54 #[.agg #[.bool xs, .slice xa xl xc, .slice xb xk xe, .bool us, .slice ua ul uc, .slice ub uk ue]] w (GotDD W5 (q) (r)) := by
  obtain ⟨W0, hW0, hB0, b0, b1, hs⟩ := boxes2 w #[.bool xs, .slice xa xl xc, .slice xb xk xe, .bool us, .slice ua ul uc, .slice ub uk ue] #[.bool false, .slice none 0 0, .slice none 0 0, .bool false, .slice none 0 0, .slice none 0 0] 70 73
  have HC1 : Hid (∀ W, Below W0.heap.size W0 W → _) := Lib.hid fun W h => got_of ((hx.kept hB0).kept h) zq h
  have HC2 : Hid (∀ W, Below W0.heap.size W0 W → _) := Lib.hid fun W h => got_of ((hu.kept hB0).kept h) zr (Below.refl W.heap.size W)
  have HK : Hid (∀ W, Below W0.heap.size W0 W → (W.cell? ⟨w.heap.size, 0, none⟩ = some (.bool xs) ∧ W.cell? ⟨w.heap.size, 1, none⟩ = some (.slice xa xl xc) ∧ W.cell? ⟨w.heap.size, 2, none⟩ = some (.slice xb xk xe) ∧ W.cell? ⟨w.heap.size, 3, none⟩ = some (.bool us) ∧ W.cell? ⟨w.heap.size, 4, none⟩ = some (.slice ua ul uc) ∧ W.cell? ⟨w.heap.size, 5, none⟩ = some (.slice ub uk ue))) := Lib.hid fun W h => by
    obtain ⟨k0_0, k0_1, k0_2, k0_3, k0_4, k0_5, _⟩ := cells6 (stay b0 h)
    exact ⟨k0_0, k0_1, k0_2, k0_3, k0_4, k0_5⟩
  have HR := Lib.hid (fun W (h : Below W0.heap.size W0 W) => cells6 (stay b1 h))
  have HFIN := Lib.hid (fun W (h : Below W0.heap.size W0 W) s z1 m1 k1 z2 m2 k2 t y1 n1 j1 y2 n2 j2 => @finDD W5 w W0 W (w.heap.size + 1) 73 (q) (r) s t z1 z2 y1 y2 m1 k1 m2 k2 n1 j1 n2 j2 hb5 hB0 (by omega) b1 h)
  have HW0 := Lib.hid hW0
  obtain ⟨k0_0, k0_1, k0_2, k0_3, k0_4, k0_5⟩ := HK.out W0 (Below.refl _ _)
  have hn0 : w.heap.size ≠ w.heap.size + 1 := by omega
  have hm0 : w.heap.size + 1 ≠ w.heap.size := by omega
  clear hW0 hB0 b0 b1 hs hx hu zq zr hb5
  go_enter Tryz.func54, Tryz.ntmps54
  go_wp2_with fail
  rw [← HW0.out]
  go_region_held3 (fun w' => w'.cell? ⟨w.heap.size, 0, none⟩ = some (.bool xs) ∧ w'.cell? ⟨w.heap.size, 1, none⟩ = some (.slice xa xl xc) ∧ w'.cell? ⟨w.heap.size, 2, none⟩ = some (.slice xb xk xe) ∧ w'.cell? ⟨w.heap.size, 3, none⟩ = some (.bool us) ∧ w'.cell? ⟨w.heap.size, 4, none⟩ = some (.slice ua ul uc) ∧ w'.cell? ⟨w.heap.size, 5, none⟩ = some (.slice ub uk ue)) (first | with_reducible exact HK.out _ hb4 | with_reducible exact HK.out _ hb3 | go_keep)
    (first
      | (go_at_call 13; (with_reducible refine (HC1.out _ (below_drew _)).mono ?_); rintro e w3 ⟨as1, a1, a2, a3, a4, a5, a6, rfl, G3, V3⟩; have hb3 := G3.out)
      | (go_at_call 13; (with_reducible refine (HC2.out _ hb3).mono ?_); rintro e w4 ⟨bs1, b1, b2, b3, b4, b5, b6, rfl, G4, V4⟩; have hb4 := hb3.trans (G4.out.mono hb3.size); obtain ⟨m0, m1, m2, m3, m4, m5, n0, n1, n2, n3, n4, n5⟩ := HR.out _ hb4; have HE := Lib.hid (HFIN.out _ hb4 _ _ _ _ _ _ _ _ _ _ _ _ _ _ (V3.out.kept G4.out) V4.out)))
  clear HFIN HC1 HC2 HK HR HW0
  go_wp2_with fail
  exact bodyPost_ret (v := .agg #[.bool as1, .slice a1 a2 a3, .slice a4 a5 a6, .bool bs1, .slice b1 b2 b3, .slice b4 b5 b6]) (by simp [results, Tryz.results54, go_sem, m0, m1, m2, m3, m4, m5]) rfl HE.out

set_option maxRecDepth 100000 in
set_option maxHeartbeats 4000000 in
theorem FormDD {W5 w : World} {xs : Bool} {xa xb : Option Addr} {xl xc xk xe : Nat} {us : Bool} {ua ub : Option Addr} {ul uc uk ue : Nat} {q r : Rat} (hx : VD q (xs, (xa, xl, xc), (xb, xk, xe)) w) (hu : VD r (us, (ua, ul, uc), (ub, uk, ue)) w) (zq : szQ q ≤ 100) (zr : szQ r ≤ 100) (hb5 : Below W5.heap.size W5 w) :
    Calls Tryz.prog 106 #[.agg #[.bool xs, .slice xa xl xc, .slice xb xk xe, .bool us, .slice ua ul uc, .slice ub uk ue]] w (GotQQ W5 (q) (r)) := by
  obtain ⟨W0, hW0, hB0, b0, b1, hs⟩ := boxes2 w #[.bool xs, .slice xa xl xc, .slice xb xk xe, .bool us, .slice ua ul uc, .slice ub uk ue] #[.bool false, .slice none 0 0, .slice none 0 0, .bool false, .slice none 0 0, .slice none 0 0] 73 70
  have HC1 : Hid (∀ W, Below W0.heap.size W0 W → _) := Lib.hid fun W h => got_form ((hx.kept hB0).kept h) zq h
  have HC2 : Hid (∀ W, Below W0.heap.size W0 W → _) := Lib.hid fun W h => got_form ((hu.kept hB0).kept h) zr (Below.refl W.heap.size W)
  have HK : Hid (∀ W, Below W0.heap.size W0 W → (W.cell? ⟨w.heap.size, 0, none⟩ = some (.bool xs) ∧ W.cell? ⟨w.heap.size, 1, none⟩ = some (.slice xa xl xc) ∧ W.cell? ⟨w.heap.size, 2, none⟩ = some (.slice xb xk xe) ∧ W.cell? ⟨w.heap.size, 3, none⟩ = some (.bool us) ∧ W.cell? ⟨w.heap.size, 4, none⟩ = some (.slice ua ul uc) ∧ W.cell? ⟨w.heap.size, 5, none⟩ = some (.slice ub uk ue))) := Lib.hid fun W h => by
    obtain ⟨k0_0, k0_1, k0_2, k0_3, k0_4, k0_5, _⟩ := cells6 (stay b0 h)
    exact ⟨k0_0, k0_1, k0_2, k0_3, k0_4, k0_5⟩
  have HR := Lib.hid (fun W (h : Below W0.heap.size W0 W) => cells6 (stay b1 h))
  have HFIN := Lib.hid (fun W (h : Below W0.heap.size W0 W) s z1 m1 k1 z2 m2 k2 t y1 n1 j1 y2 n2 j2 => @finQQ W5 w W0 W (w.heap.size + 1) 70 (q) (r) s t z1 z2 y1 y2 m1 k1 m2 k2 n1 j1 n2 j2 hb5 hB0 (by omega) b1 h)
  have HW0 := Lib.hid hW0
  obtain ⟨k0_0, k0_1, k0_2, k0_3, k0_4, k0_5⟩ := HK.out W0 (Below.refl _ _)
  have hn0 : w.heap.size ≠ w.heap.size + 1 := by omega
  have hm0 : w.heap.size + 1 ≠ w.heap.size := by omega
  clear hW0 hB0 b0 b1 hs hx hu zq zr hb5
  go_enter Tryz.func106, Tryz.ntmps106
  go_wp2_with fail
  rw [← HW0.out]
  go_region_held3 (fun w' => w'.cell? ⟨w.heap.size, 0, none⟩ = some (.bool xs) ∧ w'.cell? ⟨w.heap.size, 1, none⟩ = some (.slice xa xl xc) ∧ w'.cell? ⟨w.heap.size, 2, none⟩ = some (.slice xb xk xe) ∧ w'.cell? ⟨w.heap.size, 3, none⟩ = some (.bool us) ∧ w'.cell? ⟨w.heap.size, 4, none⟩ = some (.slice ua ul uc) ∧ w'.cell? ⟨w.heap.size, 5, none⟩ = some (.slice ub uk ue)) (first | with_reducible exact HK.out _ hb4 | with_reducible exact HK.out _ hb3 | go_keep)
    (first
      | (go_at_call 33; (with_reducible refine (HC1.out _ (below_drew _)).mono ?_); rintro e w3 ⟨as1, a1, a2, a3, a4, a5, a6, rfl, G3, V3⟩; have hb3 := G3.out)
      | (go_at_call 33; (with_reducible refine (HC2.out _ hb3).mono ?_); rintro e w4 ⟨bs1, b1, b2, b3, b4, b5, b6, rfl, G4, V4⟩; have hb4 := hb3.trans (G4.out.mono hb3.size); obtain ⟨m0, m1, m2, m3, m4, m5, n0, n1, n2, n3, n4, n5⟩ := HR.out _ hb4; have HE := Lib.hid (HFIN.out _ hb4 _ _ _ _ _ _ _ _ _ _ _ _ _ _ (V3.out.kept G4.out) V4.out)))
  clear HFIN HC1 HC2 HK HR HW0
  go_wp2_with fail
  exact bodyPost_ret (v := .agg #[.bool as1, .slice a1 a2 a3, .slice a4 a5 a6, .bool bs1, .slice b1 b2 b3, .slice b4 b5 b6]) (by simp [results, Tryz.results106, go_sem, m0, m1, m2, m3, m4, m5]) rfl HE.out

set_option maxRecDepth 100000 in
set_option maxHeartbeats 4000000 in
theorem NegDD {W5 w : World} {xs : Bool} {xa xb : Option Addr} {xl xc xk xe : Nat} {us : Bool} {ua ub : Option Addr} {ul uc uk ue : Nat} {q r : Rat} (hx : VD q (xs, (xa, xl, xc), (xb, xk, xe)) w) (hu : VD r (us, (ua, ul, uc), (ub, uk, ue)) w) (zq : szQ q ≤ 100) (zr : szQ r ≤ 100) (hb5 : Below W5.heap.size W5 w) :
    Calls Tryz.prog 61 #[.agg #[.bool xs, .slice xa xl xc, .slice xb xk xe, .bool us, .slice ua ul uc, .slice ub uk ue]] w (GotDD W5 (-q) (-r)) := by
  obtain ⟨W0, hW0, hB0, b0, b1, hs⟩ := boxes2 w #[.bool xs, .slice xa xl xc, .slice xb xk xe, .bool us, .slice ua ul uc, .slice ub uk ue] #[.bool false, .slice none 0 0, .slice none 0 0, .bool false, .slice none 0 0, .slice none 0 0] 73 73
  have HC1 : Hid (∀ W, Below W0.heap.size W0 W → _) := Lib.hid fun W h => got_neg ((hx.kept hB0).kept h) h
  have HC2 : Hid (∀ W, Below W0.heap.size W0 W → _) := Lib.hid fun W h => got_neg ((hu.kept hB0).kept h) (Below.refl W.heap.size W)
  have HK : Hid (∀ W, Below W0.heap.size W0 W → (W.cell? ⟨w.heap.size, 0, none⟩ = some (.bool xs) ∧ W.cell? ⟨w.heap.size, 1, none⟩ = some (.slice xa xl xc) ∧ W.cell? ⟨w.heap.size, 2, none⟩ = some (.slice xb xk xe) ∧ W.cell? ⟨w.heap.size, 3, none⟩ = some (.bool us) ∧ W.cell? ⟨w.heap.size, 4, none⟩ = some (.slice ua ul uc) ∧ W.cell? ⟨w.heap.size, 5, none⟩ = some (.slice ub uk ue))) := Lib.hid fun W h => by
    obtain ⟨k0_0, k0_1, k0_2, k0_3, k0_4, k0_5, _⟩ := cells6 (stay b0 h)
    exact ⟨k0_0, k0_1, k0_2, k0_3, k0_4, k0_5⟩
  have HR := Lib.hid (fun W (h : Below W0.heap.size W0 W) => cells6 (stay b1 h))
  have HFIN := Lib.hid (fun W (h : Below W0.heap.size W0 W) s z1 m1 k1 z2 m2 k2 t y1 n1 j1 y2 n2 j2 => @finDD W5 w W0 W (w.heap.size + 1) 73 (-q) (-r) s t z1 z2 y1 y2 m1 k1 m2 k2 n1 j1 n2 j2 hb5 hB0 (by omega) b1 h)
  have HW0 := Lib.hid hW0
  obtain ⟨k0_0, k0_1, k0_2, k0_3, k0_4, k0_5⟩ := HK.out W0 (Below.refl _ _)
  have hn0 : w.heap.size ≠ w.heap.size + 1 := by omega
  have hm0 : w.heap.size + 1 ≠ w.heap.size := by omega
  clear hW0 hB0 b0 b1 hs hx hu zq zr hb5
  go_enter Tryz.func61, Tryz.ntmps61
  go_wp2_with fail
  rw [← HW0.out]
  go_region_held3 (fun w' => w'.cell? ⟨w.heap.size, 0, none⟩ = some (.bool xs) ∧ w'.cell? ⟨w.heap.size, 1, none⟩ = some (.slice xa xl xc) ∧ w'.cell? ⟨w.heap.size, 2, none⟩ = some (.slice xb xk xe) ∧ w'.cell? ⟨w.heap.size, 3, none⟩ = some (.bool us) ∧ w'.cell? ⟨w.heap.size, 4, none⟩ = some (.slice ua ul uc) ∧ w'.cell? ⟨w.heap.size, 5, none⟩ = some (.slice ub uk ue)) (first | with_reducible exact HK.out _ hb4 | with_reducible exact HK.out _ hb3 | go_keep)
    (first
      | (go_at_call 20; (with_reducible refine (HC1.out _ (below_drew _)).mono ?_); rintro e w3 ⟨as1, a1, a2, a3, a4, a5, a6, rfl, G3, V3⟩; have hb3 := G3.out)
      | (go_at_call 20; (with_reducible refine (HC2.out _ hb3).mono ?_); rintro e w4 ⟨bs1, b1, b2, b3, b4, b5, b6, rfl, G4, V4⟩; have hb4 := hb3.trans (G4.out.mono hb3.size); obtain ⟨m0, m1, m2, m3, m4, m5, n0, n1, n2, n3, n4, n5⟩ := HR.out _ hb4; have HE := Lib.hid (HFIN.out _ hb4 _ _ _ _ _ _ _ _ _ _ _ _ _ _ (V3.out.kept G4.out) V4.out)))
  clear HFIN HC1 HC2 HK HR HW0
  go_wp2_with fail
  exact bodyPost_ret (v := .agg #[.bool as1, .slice a1 a2 a3, .slice a4 a5 a6, .bool bs1, .slice b1 b2 b3, .slice b4 b5 b6]) (by simp [results, Tryz.results61, go_sem, m0, m1, m2, m3, m4, m5]) rfl HE.out

set_option maxRecDepth 100000 in
set_option maxHeartbeats 4000000 in
theorem AddDD {W5 w : World} {xs : Bool} {xa xb : Option Addr} {xl xc xk xe : Nat} {us : Bool} {ua ub : Option Addr} {ul uc uk ue : Nat} {ys : Bool} {ya yb : Option Addr} {yl yc yk ye : Nat} {vs : Bool} {va vb : Option Addr} {vl vc vk ve : Nat} {q q' r r' : Rat} (hx : VD q (xs, (xa, xl, xc), (xb, xk, xe)) w) (hu : VD r (us, (ua, ul, uc), (ub, uk, ue)) w) (hy : VD q' (ys, (ya, yl, yc), (yb, yk, ye)) w) (hv : VD r' (vs, (va, vl, vc), (vb, vk, ve)) w) (zq : szQ q ≤ 100) (zq' : szQ q' ≤ 100) (zr : szQ r ≤ 100) (zr' : szQ r' ≤ 100) (hb5 : Below W5.heap.size W5 w) :
    Calls Tryz.prog 58 #[.agg #[.bool xs, .slice xa xl xc, .slice xb xk xe, .bool us, .slice ua ul uc, .slice ub uk ue], .agg #[.bool ys, .slice ya yl yc, .slice yb yk ye, .bool vs, .slice va vl vc, .slice vb vk ve]] w (GotDD W5 (q + q') (r + r')) := by
  obtain ⟨W0, hW0, hB0, b0, b1, b2, hs⟩ := boxes3 w #[.bool xs, .slice xa xl xc, .slice xb xk xe, .bool us, .slice ua ul uc, .slice ub uk ue] #[.bool ys, .slice ya yl yc, .slice yb yk ye, .bool vs, .slice va vl vc, .slice vb vk ve] #[.bool false, .slice none 0 0, .slice none 0 0, .bool false, .slice none 0 0, .slice none 0 0] 73 73 73
  have HC1 : Hid (∀ W, Below W0.heap.size W0 W → _) := Lib.hid fun W h => got_add ((hx.kept hB0).kept h) ((hy.kept hB0).kept h) zq zq' h
  have HC2 : Hid (∀ W, Below W0.heap.size W0 W → _) := Lib.hid fun W h => got_add ((hu.kept hB0).kept h) ((hv.kept hB0).kept h) zr zr' (Below.refl W.heap.size W)
  have HK : Hid (∀ W, Below W0.heap.size W0 W → (W.cell? ⟨w.heap.size, 0, none⟩ = some (.bool xs) ∧ W.cell? ⟨w.heap.size, 1, none⟩ = some (.slice xa xl xc) ∧ W.cell? ⟨w.heap.size, 2, none⟩ = some (.slice xb xk xe) ∧ W.cell? ⟨w.heap.size, 3, none⟩ = some (.bool us) ∧ W.cell? ⟨w.heap.size, 4, none⟩ = some (.slice ua ul uc) ∧ W.cell? ⟨w.heap.size, 5, none⟩ = some (.slice ub uk ue) ∧ W.cell? ⟨w.heap.size + 1, 0, none⟩ = some (.bool ys) ∧ W.cell? ⟨w.heap.size + 1, 1, none⟩ = some (.slice ya yl yc) ∧ W.cell? ⟨w.heap.size + 1, 2, none⟩ = some (.slice yb yk ye) ∧ W.cell? ⟨w.heap.size + 1, 3, none⟩ = some (.bool vs) ∧ W.cell? ⟨w.heap.size + 1, 4, none⟩ = some (.slice va vl vc) ∧ W.cell? ⟨w.heap.size + 1, 5, none⟩ = some (.slice vb vk ve))) := Lib.hid fun W h => by
    obtain ⟨k0_0, k0_1, k0_2, k0_3, k0_4, k0_5, _⟩ := cells6 (stay b0 h)
    obtain ⟨k1_0, k1_1, k1_2, k1_3, k1_4, k1_5, _⟩ := cells6 (stay b1 h)
    exact ⟨k0_0, k0_1, k0_2, k0_3, k0_4, k0_5, k1_0, k1_1, k1_2, k1_3, k1_4, k1_5⟩
  have HR := Lib.hid (fun W (h : Below W0.heap.size W0 W) => cells6 (stay b2 h))
  have HFIN := Lib.hid (fun W (h : Below W0.heap.size W0 W) s z1 m1 k1 z2 m2 k2 t y1 n1 j1 y2 n2 j2 => @finDD W5 w W0 W (w.heap.size + 1 + 1) 73 (q + q') (r + r') s t z1 z2 y1 y2 m1 k1 m2 k2 n1 j1 n2 j2 hb5 hB0 (by omega) b2 h)
  have HW0 := Lib.hid hW0
  obtain ⟨k0_0, k0_1, k0_2, k0_3, k0_4, k0_5, k1_0, k1_1, k1_2, k1_3, k1_4, k1_5⟩ := HK.out W0 (Below.refl _ _)
  have hn0 : w.heap.size ≠ w.heap.size + 1 + 1 := by omega
  have hm0 : w.heap.size + 1 + 1 ≠ w.heap.size := by omega
  have hn1 : w.heap.size + 1 ≠ w.heap.size + 1 + 1 := by omega
  have hm1 : w.heap.size + 1 + 1 ≠ w.heap.size + 1 := by omega
  clear hW0 hB0 b0 b1 b2 hs hx hu hy hv zq zq' zr zr' hb5
  go_enter Tryz.func58, Tryz.ntmps58
  go_wp2_with fail
  rw [← HW0.out]
  go_region_held3 (fun w' => w'.cell? ⟨w.heap.size, 0, none⟩ = some (.bool xs) ∧ w'.cell? ⟨w.heap.size, 1, none⟩ = some (.slice xa xl xc) ∧ w'.cell? ⟨w.heap.size, 2, none⟩ = some (.slice xb xk xe) ∧ w'.cell? ⟨w.heap.size, 3, none⟩ = some (.bool us) ∧ w'.cell? ⟨w.heap.size, 4, none⟩ = some (.slice ua ul uc) ∧ w'.cell? ⟨w.heap.size, 5, none⟩ = some (.slice ub uk ue) ∧ w'.cell? ⟨w.heap.size + 1, 0, none⟩ = some (.bool ys) ∧ w'.cell? ⟨w.heap.size + 1, 1, none⟩ = some (.slice ya yl yc) ∧ w'.cell? ⟨w.heap.size + 1, 2, none⟩ = some (.slice yb yk ye) ∧ w'.cell? ⟨w.heap.size + 1, 3, none⟩ = some (.bool vs) ∧ w'.cell? ⟨w.heap.size + 1, 4, none⟩ = some (.slice va vl vc) ∧ w'.cell? ⟨w.heap.size + 1, 5, none⟩ = some (.slice vb vk ve)) (first | with_reducible exact HK.out _ hb4 | with_reducible exact HK.out _ hb3 | go_keep)
    (first
      | (go_at_call 17; (with_reducible refine (HC1.out _ (below_drew _)).mono ?_); rintro e w3 ⟨as1, a1, a2, a3, a4, a5, a6, rfl, G3, V3⟩; have hb3 := G3.out)
      | (go_at_call 17; (with_reducible refine (HC2.out _ hb3).mono ?_); rintro e w4 ⟨bs1, b1, b2, b3, b4, b5, b6, rfl, G4, V4⟩; have hb4 := hb3.trans (G4.out.mono hb3.size); obtain ⟨m0, m1, m2, m3, m4, m5, n0, n1, n2, n3, n4, n5⟩ := HR.out _ hb4; have HE := Lib.hid (HFIN.out _ hb4 _ _ _ _ _ _ _ _ _ _ _ _ _ _ (V3.out.kept G4.out) V4.out)))
  clear HFIN HC1 HC2 HK HR HW0
  go_wp2_with fail
  exact bodyPost_ret (v := .agg #[.bool as1, .slice a1 a2 a3, .slice a4 a5 a6, .bool bs1, .slice b1 b2 b3, .slice b4 b5 b6]) (by simp [results, Tryz.results58, go_sem, m0, m1, m2, m3, m4, m5]) rfl HE.out

set_option maxRecDepth 100000 in
set_option maxHeartbeats 4000000 in
theorem ScaleDD {W5 w : World} {ys : Bool} {ya yb : Option Addr} {yl yc yk ye : Nat} {xs : Bool} {xa xb : Option Addr} {xl xc xk xe : Nat} {us : Bool} {ua ub : Option Addr} {ul uc uk ue : Nat} {p q r : Rat} (hy : VD p (ys, (ya, yl, yc), (yb, yk, ye)) w) (hx : VD q (xs, (xa, xl, xc), (xb, xk, xe)) w) (hu : VD r (us, (ua, ul, uc), (ub, uk, ue)) w) (zp : szQ p ≤ 100) (zq : szQ q ≤ 100) (zr : szQ r ≤ 100) (hb5 : Below W5.heap.size W5 w) :
    Calls Tryz.prog 64 #[.agg #[.bool ys, .slice ya yl yc, .slice yb yk ye], .agg #[.bool xs, .slice xa xl xc, .slice xb xk xe, .bool us, .slice ua ul uc, .slice ub uk ue]] w (GotDD W5 (p * q) (p * r)) := by
  obtain ⟨W0, hW0, hB0, b0, b1, b2, hs⟩ := boxes3 w #[.bool ys, .slice ya yl yc, .slice yb yk ye] #[.bool xs, .slice xa xl xc, .slice xb xk xe, .bool us, .slice ua ul uc, .slice ub uk ue] #[.bool false, .slice none 0 0, .slice none 0 0, .bool false, .slice none 0 0, .slice none 0 0] 34 73 73
  have HC1 : Hid (∀ W, Below W0.heap.size W0 W → _) := Lib.hid fun W h => got_mul ((hy.kept hB0).kept h) ((hx.kept hB0).kept h) zp zq h
  have HC2 : Hid (∀ W, Below W0.heap.size W0 W → _) := Lib.hid fun W h => got_mul ((hy.kept hB0).kept h) ((hu.kept hB0).kept h) zp zr (Below.refl W.heap.size W)
  have HK : Hid (∀ W, Below W0.heap.size W0 W → (W.cell? ⟨w.heap.size, 0, none⟩ = some (.bool ys) ∧ W.cell? ⟨w.heap.size, 1, none⟩ = some (.slice ya yl yc) ∧ W.cell? ⟨w.heap.size, 2, none⟩ = some (.slice yb yk ye) ∧ W.cell? ⟨w.heap.size + 1, 0, none⟩ = some (.bool xs) ∧ W.cell? ⟨w.heap.size + 1, 1, none⟩ = some (.slice xa xl xc) ∧ W.cell? ⟨w.heap.size + 1, 2, none⟩ = some (.slice xb xk xe) ∧ W.cell? ⟨w.heap.size + 1, 3, none⟩ = some (.bool us) ∧ W.cell? ⟨w.heap.size + 1, 4, none⟩ = some (.slice ua ul uc) ∧ W.cell? ⟨w.heap.size + 1, 5, none⟩ = some (.slice ub uk ue))) := Lib.hid fun W h => by
    obtain ⟨k0_0, k0_1, k0_2, _⟩ := cells3 (stay b0 h)
    obtain ⟨k1_0, k1_1, k1_2, k1_3, k1_4, k1_5, _⟩ := cells6 (stay b1 h)
    exact ⟨k0_0, k0_1, k0_2, k1_0, k1_1, k1_2, k1_3, k1_4, k1_5⟩
  have HR := Lib.hid (fun W (h : Below W0.heap.size W0 W) => cells6 (stay b2 h))
  have HFIN := Lib.hid (fun W (h : Below W0.heap.size W0 W) s z1 m1 k1 z2 m2 k2 t y1 n1 j1 y2 n2 j2 => @finDD W5 w W0 W (w.heap.size + 1 + 1) 73 (p * q) (p * r) s t z1 z2 y1 y2 m1 k1 m2 k2 n1 j1 n2 j2 hb5 hB0 (by omega) b2 h)
  have HW0 := Lib.hid hW0
  obtain ⟨k0_0, k0_1, k0_2, k1_0, k1_1, k1_2, k1_3, k1_4, k1_5⟩ := HK.out W0 (Below.refl _ _)
  have hn0 : w.heap.size ≠ w.heap.size + 1 + 1 := by omega
  have hm0 : w.heap.size + 1 + 1 ≠ w.heap.size := by omega
  have hn1 : w.heap.size + 1 ≠ w.heap.size + 1 + 1 := by omega
  have hm1 : w.heap.size + 1 + 1 ≠ w.heap.size + 1 := by omega
  clear hW0 hB0 b0 b1 b2 hs hy hx hu zp zq zr hb5
  go_enter Tryz.func64, Tryz.ntmps64
  go_wp2_with fail
  rw [← HW0.out]
  go_region_held3 (fun w' => w'.cell? ⟨w.heap.size, 0, none⟩ = some (.bool ys) ∧ w'.cell? ⟨w.heap.size, 1, none⟩ = some (.slice ya yl yc) ∧ w'.cell? ⟨w.heap.size, 2, none⟩ = some (.slice yb yk ye) ∧ w'.cell? ⟨w.heap.size + 1, 0, none⟩ = some (.bool xs) ∧ w'.cell? ⟨w.heap.size + 1, 1, none⟩ = some (.slice xa xl xc) ∧ w'.cell? ⟨w.heap.size + 1, 2, none⟩ = some (.slice xb xk xe) ∧ w'.cell? ⟨w.heap.size + 1, 3, none⟩ = some (.bool us) ∧ w'.cell? ⟨w.heap.size + 1, 4, none⟩ = some (.slice ua ul uc) ∧ w'.cell? ⟨w.heap.size + 1, 5, none⟩ = some (.slice ub uk ue)) (first | with_reducible exact HK.out _ hb4 | with_reducible exact HK.out _ hb3 | go_keep)
    (first
      | (go_at_call 23; (with_reducible refine (HC1.out _ (below_drew _)).mono ?_); rintro e w3 ⟨as1, a1, a2, a3, a4, a5, a6, rfl, G3, V3⟩; have hb3 := G3.out)
      | (go_at_call 23; (with_reducible refine (HC2.out _ hb3).mono ?_); rintro e w4 ⟨bs1, b1, b2, b3, b4, b5, b6, rfl, G4, V4⟩; have hb4 := hb3.trans (G4.out.mono hb3.size); obtain ⟨m0, m1, m2, m3, m4, m5, n0, n1, n2, n3, n4, n5⟩ := HR.out _ hb4; have HE := Lib.hid (HFIN.out _ hb4 _ _ _ _ _ _ _ _ _ _ _ _ _ _ (V3.out.kept G4.out) V4.out)))
  clear HFIN HC1 HC2 HK HR HW0
  go_wp2_with fail
  exact bodyPost_ret (v := .agg #[.bool as1, .slice a1 a2 a3, .slice a4 a5 a6, .bool bs1, .slice b1 b2 b3, .slice b4 b5 b6]) (by simp [results, Tryz.results64, go_sem, m0, m1, m2, m3, m4, m5]) rfl HE.out
end Go.Proofs.YtomoemgoglghlaaGreatDoor

/-
  Numbers with a delta: how two stand to one another, the document's and the program's; Same, Right.
-/
set_option linter.unusedVariables false
set_option linter.unusedSimpArgs false
namespace Go.Proofs.YtomoemgoglghlaaGreatDoor
open Go.RowKit Rep

/-- How two numbers with a delta stand to one another. -/
def cmpDQ (q r q' r' : Rat) : Int := if cmpQ q q' = 0 then cmpQ r r' else cmpQ q q'
theorem VQ.ratx {q : Rat} {s : Bool} {a b : Option Addr} {l c k e : Nat} {W : World} (h : VQ q (s, (a, l, c), (b, k, e)) W) (hs : szQ q ≤ 100) : RatX W s a l c b k e (mgQ q) q.den (denN q.den) q := by
  obtain ⟨h0, h1, h2, h3⟩ := h
  dsimp only at h0 h1 h2 h3
  subst h0 h1 h2
  exact h3.x (by omega)
section
variable {W5 W : World} {q r : Rat} {s t : Bool} {z1 z2 y1 y2 : Option Addr} {m1 k1 m2 k2 n1 j1 n2 j2 : Nat}
theorem gotP_cmp (h : VQ q (s, (z1, m1, k1), (z2, m2, k2)) W) (g : VQ r (t, (y1, n1, j1), (y2, n2, j2)) W) (hq : szQ q ≤ 100) (hr : szQ r ≤ 100) (hb : Below W5.heap.size W5 W) {c : Int} (hc : cmpQ q r = c) :
    Calls Tryz.prog 27 #[.agg #[.bool s, .slice z1 m1 k1, .slice z2 m2 k2], .agg #[.bool t, .slice y1 n1 j1, .slice y2 n2 j2]] W (GotV W5 (.int .i64 c)) := by
  subst hc
  exact (CmpP_q (h.ratx hq) (g.ratx hr)).mono fun e W' hg => ⟨hg.1, Lib.hid (hb.trans (hg.2.mono hb.size))⟩
theorem gotP_sign (h : VQ q (s, (z1, m1, k1), (z2, m2, k2)) W) (hq : szQ q ≤ 100) (hb : Below W5.heap.size W5 W) {c : Int} (hc : cmpQ q 0 = c) :
    Calls Tryz.prog 29 #[.agg #[.bool s, .slice z1 m1 k1, .slice z2 m2 k2]] W (GotV W5 (.int .i64 c)) := by
  subst hc
  exact (Sign_q (h.ratx hq)).mono fun e W' hg => ⟨hg.1, Lib.hid (hb.trans (hg.2.mono hb.size))⟩
theorem gotP_text (h : VQ q (s, (z1, m1, k1), (z2, m2, k2)) W) (hq : szQ q ≤ 100) (hb : Below W5.heap.size W5 W) {v : ByteArray} (hv : textQ q = v) :
    Calls Tryz.prog 34 #[.agg #[.bool s, .slice z1 m1 k1, .slice z2 m2 k2]] W (GotV W5 (.string v)) := by
  obtain ⟨e1, d1⟩ := h.eq
  subst hv
  rw [e1]
  exact (Text_q d1 (by omega)).mono fun e W' hg => ⟨hg.1, Lib.hid (hb.trans (hg.2.mono hb.size))⟩
end

set_option maxRecDepth 100000 in
set_option maxHeartbeats 4000000 in
theorem CmpDD {W5 w : World} {xs : Bool} {xa xb : Option Addr} {xl xc xk xe : Nat} {us : Bool} {ua ub : Option Addr} {ul uc uk ue : Nat} {ys : Bool} {ya yb : Option Addr} {yl yc yk ye : Nat} {vs : Bool} {va vb : Option Addr} {vl vc vk ve : Nat} {q r q' r' : Rat} (hx : VD q (xs, (xa, xl, xc), (xb, xk, xe)) w) (hu : VD r (us, (ua, ul, uc), (ub, uk, ue)) w) (hy : VD q' (ys, (ya, yl, yc), (yb, yk, ye)) w) (hv : VD r' (vs, (va, vl, vc), (vb, vk, ve)) w) (zq : szQ q ≤ 100) (zr : szQ r ≤ 100) (zq' : szQ q' ≤ 100) (zr' : szQ r' ≤ 100) (hb5 : Below W5.heap.size W5 w) {c : Int} (hc : cmpDQ q r q' r' = c) :
    Calls Tryz.prog 66 #[.agg #[.bool xs, .slice xa xl xc, .slice xb xk xe, .bool us, .slice ua ul uc, .slice ub uk ue], .agg #[.bool ys, .slice ya yl yc, .slice yb yk ye, .bool vs, .slice va vl vc, .slice vb vk ve]] w (GotV W5 (.int .i64 c)) := by
  obtain ⟨W0, hW0, hB0, b0, b1, hs⟩ := boxes2 w #[.bool xs, .slice xa xl xc, .slice xb xk xe, .bool us, .slice ua ul uc, .slice ub uk ue] #[.bool ys, .slice ya yl yc, .slice yb yk ye, .bool vs, .slice va vl vc, .slice vb vk ve] 73 73
  have HK : Hid (∀ W, Below W0.heap.size W0 W → (W.cell? ⟨w.heap.size, 0, none⟩ = some (.bool xs) ∧ W.cell? ⟨w.heap.size, 1, none⟩ = some (.slice xa xl xc) ∧ W.cell? ⟨w.heap.size, 2, none⟩ = some (.slice xb xk xe) ∧ W.cell? ⟨w.heap.size, 3, none⟩ = some (.bool us) ∧ W.cell? ⟨w.heap.size, 4, none⟩ = some (.slice ua ul uc) ∧ W.cell? ⟨w.heap.size, 5, none⟩ = some (.slice ub uk ue) ∧ W.cell? ⟨w.heap.size + 1, 0, none⟩ = some (.bool ys) ∧ W.cell? ⟨w.heap.size + 1, 1, none⟩ = some (.slice ya yl yc) ∧ W.cell? ⟨w.heap.size + 1, 2, none⟩ = some (.slice yb yk ye) ∧ W.cell? ⟨w.heap.size + 1, 3, none⟩ = some (.bool vs) ∧ W.cell? ⟨w.heap.size + 1, 4, none⟩ = some (.slice va vl vc) ∧ W.cell? ⟨w.heap.size + 1, 5, none⟩ = some (.slice vb vk ve))) := Lib.hid fun W h => by
    obtain ⟨k0, k1, k2, k3, k4, k5, _⟩ := cells6 (stay b0 h)
    obtain ⟨k6, k7, k8, k9, k10, k11, _⟩ := cells6 (stay b1 h)
    exact ⟨k0, k1, k2, k3, k4, k5, k6, k7, k8, k9, k10, k11⟩
  have HBL := Lib.hid (hb5.trans (hB0.mono hb5.size))
  have HW0 := Lib.hid hW0
  obtain ⟨k0, k1, k2, k3, k4, k5, k6, k7, k8, k9, k10, k11⟩ := HK.out W0 (Below.refl _ _)
  obtain ⟨c2, hc2⟩ : ∃ c2, cmpQ r r' = c2 := ⟨_, rfl⟩
  have HC2 : Hid (∀ W, Below W0.heap.size W0 W → _) := Lib.hid fun W h => got_cmp ((hu.kept hB0).kept h) ((hv.kept hB0).kept h) zr zr' h hc2
  unfold cmpDQ at hc
  rw [hc2] at hc
  rcases cmpQ_vals q q' with hz | hz | hz
  · have HC1 : Hid (∀ W, Below W0.heap.size W0 W → _) := Lib.hid fun W h => got_cmp ((hx.kept hB0).kept h) ((hy.kept hB0).kept h) zq zq' h hz
    rw [hz] at hc
    rw [if_neg (by decide)] at hc
    subst hc
    clear hW0 hB0 b0 b1 hs hx hu hy hv zq zr zq' zr' hb5 hz hc2 HC2
    go_enter Tryz.func66, Tryz.ntmps66
    go_wp2_with fail
    rw [← HW0.out]
    refine (HC1.out W0 (Below.refl _ _)).mono ?_
    rintro e w3 ⟨rfl, G3⟩
    have HE := Lib.hid (HBL.out.trans (G3.out.mono HBL.out.size))
    clear HC1 G3
    go_wp2_with fail
    go_ret
    exact ⟨rfl, HE⟩
  · have HC1 : Hid (∀ W, Below W0.heap.size W0 W → _) := Lib.hid fun W h => got_cmp ((hx.kept hB0).kept h) ((hy.kept hB0).kept h) zq zq' h hz
    rw [hz] at hc
    rw [if_pos rfl] at hc
    subst hc
    clear hW0 hB0 b0 b1 hs hx hu hy hv zq zr zq' zr' hb5 hz hc2
    go_enter Tryz.func66, Tryz.ntmps66
    go_wp2_with fail
    rw [← HW0.out]
    refine (HC1.out W0 (Below.refl _ _)).mono ?_
    rintro e w3 ⟨rfl, G3⟩
    obtain ⟨k0, k1, k2, k3, k4, k5, k6, k7, k8, k9, k10, k11⟩ := HK.out _ G3.out
    clear HC1
    go_wp2_with fail
    refine (HC2.out _ G3.out).mono ?_
    rintro e w4 ⟨rfl, G4⟩
    have HE := Lib.hid (HBL.out.trans (G4.out.mono HBL.out.size))
    clear HC2 G3 G4
    go_wp2_with fail
    go_ret
    exact ⟨rfl, HE⟩
  · have HC1 : Hid (∀ W, Below W0.heap.size W0 W → _) := Lib.hid fun W h => got_cmp ((hx.kept hB0).kept h) ((hy.kept hB0).kept h) zq zq' h hz
    rw [hz] at hc
    rw [if_neg (by decide)] at hc
    subst hc
    clear hW0 hB0 b0 b1 hs hx hu hy hv zq zr zq' zr' hb5 hz hc2 HC2
    go_enter Tryz.func66, Tryz.ntmps66
    go_wp2_with fail
    rw [← HW0.out]
    refine (HC1.out W0 (Below.refl _ _)).mono ?_
    rintro e w3 ⟨rfl, G3⟩
    have HE := Lib.hid (HBL.out.trans (G3.out.mono HBL.out.size))
    clear HC1 G3
    go_wp2_with fail
    go_ret
    exact ⟨rfl, HE⟩


set_option maxRecDepth 100000 in
set_option maxHeartbeats 4000000 in
theorem CmpPP {W5 w : World} {xs : Bool} {xa xb : Option Addr} {xl xc xk xe : Nat} {us : Bool} {ua ub : Option Addr} {ul uc uk ue : Nat} {ys : Bool} {ya yb : Option Addr} {yl yc yk ye : Nat} {vs : Bool} {va vb : Option Addr} {vl vc vk ve : Nat} {q r q' r' : Rat} (hx : VQ q (xs, (xa, xl, xc), (xb, xk, xe)) w) (hu : VQ r (us, (ua, ul, uc), (ub, uk, ue)) w) (hy : VQ q' (ys, (ya, yl, yc), (yb, yk, ye)) w) (hv : VQ r' (vs, (va, vl, vc), (vb, vk, ve)) w) (zq : szQ q ≤ 100) (zr : szQ r ≤ 100) (zq' : szQ q' ≤ 100) (zr' : szQ r' ≤ 100) (hb5 : Below W5.heap.size W5 w) {c : Int} (hc : cmpDQ q r q' r' = c) :
    Calls Tryz.prog 65 #[.agg #[.bool xs, .slice xa xl xc, .slice xb xk xe, .bool us, .slice ua ul uc, .slice ub uk ue], .agg #[.bool ys, .slice ya yl yc, .slice yb yk ye, .bool vs, .slice va vl vc, .slice vb vk ve]] w (GotV W5 (.int .i64 c)) := by
  obtain ⟨W0, hW0, hB0, b0, b1, hs⟩ := boxes2 w #[.bool xs, .slice xa xl xc, .slice xb xk xe, .bool us, .slice ua ul uc, .slice ub uk ue] #[.bool ys, .slice ya yl yc, .slice yb yk ye, .bool vs, .slice va vl vc, .slice vb vk ve] 70 70
  have HK : Hid (∀ W, Below W0.heap.size W0 W → (W.cell? ⟨w.heap.size, 0, none⟩ = some (.bool xs) ∧ W.cell? ⟨w.heap.size, 1, none⟩ = some (.slice xa xl xc) ∧ W.cell? ⟨w.heap.size, 2, none⟩ = some (.slice xb xk xe) ∧ W.cell? ⟨w.heap.size, 3, none⟩ = some (.bool us) ∧ W.cell? ⟨w.heap.size, 4, none⟩ = some (.slice ua ul uc) ∧ W.cell? ⟨w.heap.size, 5, none⟩ = some (.slice ub uk ue) ∧ W.cell? ⟨w.heap.size + 1, 0, none⟩ = some (.bool ys) ∧ W.cell? ⟨w.heap.size + 1, 1, none⟩ = some (.slice ya yl yc) ∧ W.cell? ⟨w.heap.size + 1, 2, none⟩ = some (.slice yb yk ye) ∧ W.cell? ⟨w.heap.size + 1, 3, none⟩ = some (.bool vs) ∧ W.cell? ⟨w.heap.size + 1, 4, none⟩ = some (.slice va vl vc) ∧ W.cell? ⟨w.heap.size + 1, 5, none⟩ = some (.slice vb vk ve))) := Lib.hid fun W h => by
    obtain ⟨k0, k1, k2, k3, k4, k5, _⟩ := cells6 (stay b0 h)
    obtain ⟨k6, k7, k8, k9, k10, k11, _⟩ := cells6 (stay b1 h)
    exact ⟨k0, k1, k2, k3, k4, k5, k6, k7, k8, k9, k10, k11⟩
  have HBL := Lib.hid (hb5.trans (hB0.mono hb5.size))
  have HW0 := Lib.hid hW0
  obtain ⟨k0, k1, k2, k3, k4, k5, k6, k7, k8, k9, k10, k11⟩ := HK.out W0 (Below.refl _ _)
  obtain ⟨c2, hc2⟩ : ∃ c2, cmpQ r r' = c2 := ⟨_, rfl⟩
  have HC2 : Hid (∀ W, Below W0.heap.size W0 W → _) := Lib.hid fun W h => gotP_cmp ((hu.kept hB0).kept h) ((hv.kept hB0).kept h) zr zr' h hc2
  unfold cmpDQ at hc
  rw [hc2] at hc
  rcases cmpQ_vals q q' with hz | hz | hz
  · have HC1 : Hid (∀ W, Below W0.heap.size W0 W → _) := Lib.hid fun W h => gotP_cmp ((hx.kept hB0).kept h) ((hy.kept hB0).kept h) zq zq' h hz
    rw [hz] at hc
    rw [if_neg (by decide)] at hc
    subst hc
    clear hW0 hB0 b0 b1 hs hx hu hy hv zq zr zq' zr' hb5 hz hc2 HC2
    go_enter Tryz.func65, Tryz.ntmps65
    go_wp2_with fail
    rw [← HW0.out]
    refine (HC1.out W0 (Below.refl _ _)).mono ?_
    rintro e w3 ⟨rfl, G3⟩
    have HE := Lib.hid (HBL.out.trans (G3.out.mono HBL.out.size))
    clear HC1 G3
    go_wp2_with fail
    go_ret
    exact ⟨rfl, HE⟩
  · have HC1 : Hid (∀ W, Below W0.heap.size W0 W → _) := Lib.hid fun W h => gotP_cmp ((hx.kept hB0).kept h) ((hy.kept hB0).kept h) zq zq' h hz
    rw [hz] at hc
    rw [if_pos rfl] at hc
    subst hc
    clear hW0 hB0 b0 b1 hs hx hu hy hv zq zr zq' zr' hb5 hz hc2
    go_enter Tryz.func65, Tryz.ntmps65
    go_wp2_with fail
    rw [← HW0.out]
    refine (HC1.out W0 (Below.refl _ _)).mono ?_
    rintro e w3 ⟨rfl, G3⟩
    obtain ⟨k0, k1, k2, k3, k4, k5, k6, k7, k8, k9, k10, k11⟩ := HK.out _ G3.out
    clear HC1
    go_wp2_with fail
    refine (HC2.out _ G3.out).mono ?_
    rintro e w4 ⟨rfl, G4⟩
    have HE := Lib.hid (HBL.out.trans (G4.out.mono HBL.out.size))
    clear HC2 G3 G4
    go_wp2_with fail
    go_ret
    exact ⟨rfl, HE⟩
  · have HC1 : Hid (∀ W, Below W0.heap.size W0 W → _) := Lib.hid fun W h => gotP_cmp ((hx.kept hB0).kept h) ((hy.kept hB0).kept h) zq zq' h hz
    rw [hz] at hc
    rw [if_neg (by decide)] at hc
    subst hc
    clear hW0 hB0 b0 b1 hs hx hu hy hv zq zr zq' zr' hb5 hz hc2 HC2
    go_enter Tryz.func65, Tryz.ntmps65
    go_wp2_with fail
    rw [← HW0.out]
    refine (HC1.out W0 (Below.refl _ _)).mono ?_
    rintro e w3 ⟨rfl, G3⟩
    have HE := Lib.hid (HBL.out.trans (G3.out.mono HBL.out.size))
    clear HC1 G3
    go_wp2_with fail
    go_ret
    exact ⟨rfl, HE⟩


set_option maxRecDepth 100000 in
set_option maxHeartbeats 4000000 in
theorem SameDD {W5 w : World} {xs : Bool} {xa xb : Option Addr} {xl xc xk xe : Nat} {us : Bool} {ua ub : Option Addr} {ul uc uk ue : Nat} {ys : Bool} {ya yb : Option Addr} {yl yc yk ye : Nat} {vs : Bool} {va vb : Option Addr} {vl vc vk ve : Nat} {q r q' r' : Rat} (hx : VQ q (xs, (xa, xl, xc), (xb, xk, xe)) w) (hu : VQ r (us, (ua, ul, uc), (ub, uk, ue)) w) (hy : VQ q' (ys, (ya, yl, yc), (yb, yk, ye)) w) (hv : VQ r' (vs, (va, vl, vc), (vb, vk, ve)) w) (zq : szQ q ≤ 100) (zr : szQ r ≤ 100) (zq' : szQ q' ≤ 100) (zr' : szQ r' ≤ 100) (hb5 : Below W5.heap.size W5 w) (e1 : q = q') (e2 : r = r') :
    Calls Tryz.prog 69 #[.agg #[.bool xs, .slice xa xl xc, .slice xb xk xe, .bool us, .slice ua ul uc, .slice ub uk ue], .agg #[.bool ys, .slice ya yl yc, .slice yb yk ye, .bool vs, .slice va vl vc, .slice vb vk ve]] w (GotV W5 (.bool true)) := by
  obtain ⟨W0, hW0, hB0, b0, b1, hs⟩ := boxes2 w #[.bool xs, .slice xa xl xc, .slice xb xk xe, .bool us, .slice ua ul uc, .slice ub uk ue] #[.bool ys, .slice ya yl yc, .slice yb yk ye, .bool vs, .slice va vl vc, .slice vb vk ve] 70 70
  have HK : Hid (∀ W, Below W0.heap.size W0 W → (W.cell? ⟨w.heap.size, 0, none⟩ = some (.bool xs) ∧ W.cell? ⟨w.heap.size, 1, none⟩ = some (.slice xa xl xc) ∧ W.cell? ⟨w.heap.size, 2, none⟩ = some (.slice xb xk xe) ∧ W.cell? ⟨w.heap.size, 3, none⟩ = some (.bool us) ∧ W.cell? ⟨w.heap.size, 4, none⟩ = some (.slice ua ul uc) ∧ W.cell? ⟨w.heap.size, 5, none⟩ = some (.slice ub uk ue) ∧ W.cell? ⟨w.heap.size + 1, 0, none⟩ = some (.bool ys) ∧ W.cell? ⟨w.heap.size + 1, 1, none⟩ = some (.slice ya yl yc) ∧ W.cell? ⟨w.heap.size + 1, 2, none⟩ = some (.slice yb yk ye) ∧ W.cell? ⟨w.heap.size + 1, 3, none⟩ = some (.bool vs) ∧ W.cell? ⟨w.heap.size + 1, 4, none⟩ = some (.slice va vl vc) ∧ W.cell? ⟨w.heap.size + 1, 5, none⟩ = some (.slice vb vk ve))) := Lib.hid fun W h => by
    obtain ⟨k0, k1, k2, k3, k4, k5, _⟩ := cells6 (stay b0 h)
    obtain ⟨k6, k7, k8, k9, k10, k11, _⟩ := cells6 (stay b1 h)
    exact ⟨k0, k1, k2, k3, k4, k5, k6, k7, k8, k9, k10, k11⟩
  have HBL := Lib.hid (hb5.trans (hB0.mono hb5.size))
  have HW0 := Lib.hid hW0
  obtain ⟨k0, k1, k2, k3, k4, k5, k6, k7, k8, k9, k10, k11⟩ := HK.out W0 (Below.refl _ _)
  subst e1 e2
  have HC1 : Hid (∀ W, Below W0.heap.size W0 W → _) := Lib.hid fun W h => got_same ((hx.kept hB0).kept h) ((hy.kept hB0).kept h) zq h
  have HC2 : Hid (∀ W, Below W0.heap.size W0 W → _) := Lib.hid fun W h => got_same ((hu.kept hB0).kept h) ((hv.kept hB0).kept h) zr h
  clear hW0 hB0 b0 b1 hs hx hu hy hv zq zr zq' zr' hb5
  go_enter Tryz.func69, Tryz.ntmps69
  go_wp2_with fail
  rw [← HW0.out]
  refine (HC1.out W0 (Below.refl _ _)).mono ?_
  rintro e w3 ⟨rfl, G3⟩
  obtain ⟨k0, k1, k2, k3, k4, k5, k6, k7, k8, k9, k10, k11⟩ := HK.out _ G3.out
  clear HC1
  go_wp2_with fail
  refine (HC2.out _ G3.out).mono ?_
  rintro e w4 ⟨rfl, G4⟩
  have HE := Lib.hid (HBL.out.trans (G4.out.mono HBL.out.size))
  clear HC2 G3 G4
  go_wp2_with fail
  go_ret
  exact ⟨rfl, HE⟩


set_option maxRecDepth 100000 in
set_option maxHeartbeats 2000000 in
theorem RightDD {W5 w : World} {s t : Bool} {a1 a2 b1 b2 : Option Addr} {c1 c2 e1 e2 : Nat} {xs ds ys es : List Nat} (hx : HandR w a1 c1 xs a2 c2 ds) (hu : HandR w b1 e1 ys b2 e2 es) (l1 : xs.length ≤ 6) (l2 : ds.length ≤ 6) (l3 : ys.length ≤ 6) (l4 : es.length ≤ 6) (hb5 : Below W5.heap.size W5 w) :
    Calls Tryz.prog 105 #[.agg #[.bool s, .slice a1 xs.length c1, .slice a2 ds.length c2, .bool t, .slice b1 ys.length e1, .slice b2 es.length e2]] w (GotV W5 (.bool (rightB s xs ds && rightB t ys es))) := by
  obtain ⟨W0, hW0⟩ : ∃ W0, W0 = w.alloc (.cells #[.bool s, .slice a1 xs.length c1, .slice a2 ds.length c2, .bool t, .slice b1 ys.length e1, .slice b2 es.length e2] 70) := ⟨_, rfl⟩
  have hB0 : Below w.heap.size w W0 := by rw [hW0]; exact (Below.refl _ _).alloc (Nat.le_refl _) _
  have b0 : W0.heap[w.heap.size]? = some (.cells #[.bool s, .slice a1 xs.length c1, .slice a2 ds.length c2, .bool t, .slice b1 ys.length e1, .slice b2 es.length e2] 70 (0, 0)) := by rw [hW0]; exact heap_alloc_new w _
  have HC1 : Hid (∀ W, Below W0.heap.size W0 W → _) := Lib.hid fun W h => RightR_any' (s := s) ((hx.kept hB0).kept h) l1 l2
  have HC2 : Hid (∀ W, Below W0.heap.size W0 W → _) := Lib.hid fun W h => RightR_any' (s := t) ((hu.kept hB0).kept h) l3 l4
  have HK : Hid (∀ W, Below W0.heap.size W0 W → _) := Lib.hid fun W h => cells6 (stay b0 h)
  have HBL := Lib.hid (hb5.trans (hB0.mono hb5.size))
  have HW0 := Lib.hid hW0
  obtain ⟨k0, k1, k2, k3, k4, k5, _⟩ := HK.out W0 (Below.refl _ _)
  obtain ⟨p, hp⟩ : ∃ p, rightB s xs ds = p := ⟨_, rfl⟩
  obtain ⟨q, hq⟩ : ∃ q, rightB t ys es = q := ⟨_, rfl⟩
  rw [hp] at HC1
  rw [hq] at HC2
  rw [hp, hq]
  clear hW0 hB0 b0 hx hu l1 l2 l3 l4 hb5 hp hq
  go_enter Tryz.func105, Tryz.ntmps105
  go_wp2_with fail
  rw [← HW0.out]
  have HD := Lib.hid (HC1.out W0 (Below.refl _ _))
  cases p
  · refine HD.out.mono ?_
    rintro e w3 ⟨rfl, h3⟩
    have HE := Lib.hid (HBL.out.trans (h3.mono HBL.out.size))
    clear h3 HC1 HC2 HK HD
    go_wp2_with fail
    go_ret
    exact ⟨rfl, HE⟩
  · refine HD.out.mono ?_
    rintro e w3 ⟨rfl, h3⟩
    obtain ⟨k0, k1, k2, k3, k4, k5, _⟩ := HK.out _ h3
    have HC3 := Lib.hid (HC2.out _ h3)
    have HE1 := Lib.hid (HBL.out.trans (h3.mono HBL.out.size))
    clear h3 HC1 HC2 HK HD
    go_wp2_with fail
    refine HC3.out.mono ?_
    rintro e w4 ⟨rfl, h4⟩
    have HE := Lib.hid (HE1.out.trans (h4.mono HE1.out.size))
    clear h4 HC3
    go_wp2_with fail
    go_ret
    exact ⟨by rw [Bool.true_and]; rfl, HE⟩
end Go.Proofs.YtomoemgoglghlaaGreatDoor

/-
  Numbers with a delta as texts: the document's and the program's.
-/
set_option linter.unusedVariables false
set_option linter.unusedSimpArgs false
namespace Go.Proofs.YtomoemgoglghlaaGreatDoor
open Go.RowKit Rep


theorem sign_cases (r : Rat) : (r = 0 ∧ cmpQ r 0 = 0) ∨ (mgQ r ≠ 0 ∧ ngQ r = true ∧ cmpQ r 0 = -1) ∨ (mgQ r ≠ 0 ∧ ngQ r = false ∧ cmpQ r 0 = 1) := by
  have h := cmpQ_sub r 0
  rw [show r - 0 = r from by grind] at h
  by_cases h0 : mgQ r = 0
  · rw [if_pos h0] at h
    exact .inl ⟨mg_zero.1 h0, h⟩
  · rw [if_neg h0] at h
    cases hn : ngQ r
    · rw [hn, if_neg (by decide)] at h
      exact .inr (.inr ⟨h0, rfl, h⟩)
    · rw [hn, if_pos rfl] at h
      exact .inr (.inl ⟨h0, rfl, h⟩)
theorem text_neg {r : Rat} (h0 : mgQ r ≠ 0) (h : ngQ r = true) : textQ r = ⟨#[45]⟩ ++ textQ (-r) := by
  unfold textQ
  rw [neg_ng, if_neg h0, h, neg_mg, neg_den]
  cases decide (r.den = 1)
  · rw [textB_more, textB_more, if_pos rfl, if_neg (by decide), ByteArray.append_assoc]
  · rw [textB_one, textB_one, if_pos rfl, if_neg (by decide)]
theorem text_size {q : Rat} (h : szQ q ≤ 100) : (textQ q).size ≤ 5000 := by
  unfold szQ at h
  have h1 := dlen_L (n := mgQ q) (k := 100) (by omega)
  have h2 := dlen_L (n := denN q.den) (k := 100) (by omega)
  have h3 := tN_len (mgQ q)
  have h4 := tN_len (denN q.den)
  have e1 : (⟨#[45]⟩ : ByteArray).size = 1 := rfl
  have e2 : (⟨#[47]⟩ : ByteArray).size = 1 := rfl
  have e3 : (⟨#[]⟩ : ByteArray).size = 0 := rfl
  unfold textQ textB
  rw [ByteArray.size_append]
  split <;> split <;> simp only [ByteArray.size_append, e1, e2, e3] <;> omega
/-- A number with a delta as a text. -/
def textDQ (q r : Rat) : ByteArray := if r = 0 then textQ q else if ngQ r = true then textQ q ++ (textQ r ++ ⟨#[100]⟩) else textQ q ++ ((⟨#[43]⟩ ++ textQ r) ++ ⟨#[100]⟩)

set_option maxRecDepth 100000 in
set_option maxHeartbeats 4000000 in
theorem TextDD {W5 w : World} {xs : Bool} {xa xb : Option Addr} {xl xc xk xe : Nat} {us : Bool} {ua ub : Option Addr} {ul uc uk ue : Nat} {q r : Rat} (hx : VD q (xs, (xa, xl, xc), (xb, xk, xe)) w) (hu : VD r (us, (ua, ul, uc), (ub, uk, ue)) w) (zq : szQ q ≤ 100) (zr : szQ r ≤ 100) (hb5 : Below W5.heap.size W5 w) {v : ByteArray} (hv : textDQ q r = v) :
    Calls Tryz.prog 68 #[.agg #[.bool xs, .slice xa xl xc, .slice xb xk xe, .bool us, .slice ua ul uc, .slice ub uk ue]] w (GotV W5 (.string v)) := by
  obtain ⟨W0, hW0⟩ : ∃ W0, W0 = w.alloc (.cells #[.bool xs, .slice xa xl xc, .slice xb xk xe, .bool us, .slice ua ul uc, .slice ub uk ue] 73) := ⟨_, rfl⟩
  have hB0 : Below w.heap.size w W0 := by rw [hW0]; exact (Below.refl _ _).alloc (Nat.le_refl _) _
  have b0 : W0.heap[w.heap.size]? = some (.cells #[.bool xs, .slice xa xl xc, .slice xb xk xe, .bool us, .slice ua ul uc, .slice ub uk ue] 73 (0, 0)) := by rw [hW0]; exact heap_alloc_new w _
  have HK : Hid (∀ W, Below W0.heap.size W0 W → _) := Lib.hid fun W h => cells6 (stay b0 h)
  obtain ⟨ta, hta⟩ : ∃ ta, textQ q = ta := ⟨_, rfl⟩
  have sa : ta.size ≤ 5000 := by rw [← hta]; exact text_size zq
  have HT1 : Hid (∀ W, Below W0.heap.size W0 W → _) := Lib.hid fun W h => got_text ((hx.kept hB0).kept h) zq h hta
  have HU : Hid (∀ W, Below W0.heap.size W0 W → VD r (us, (ua, ul, uc), (ub, uk, ue)) W) := Lib.hid fun W h => (hu.kept hB0).kept h
  have HBL := Lib.hid (hb5.trans (hB0.mono hb5.size))
  have HW0 := Lib.hid hW0
  have he0 : us = ngQ r := hu.e0
  have he1 : ul = (D (mgQ r)).length := hu.e1
  obtain ⟨k0, k1, k2, k3, k4, k5, _⟩ := HK.out W0 (Below.refl _ _)
  unfold textDQ at hv
  rw [hta] at hv
  rcases sign_cases r with ⟨h0, _⟩ | ⟨h0, hn, _⟩ | ⟨h0, hn, _⟩
  · have hz : ((ul : Int) == 0) = true := by rw [he1, h0]; rfl
    rw [if_pos h0] at hv
    subst hv
    clear hW0 hB0 b0 hx hu zq zr hb5 h0 he0 he1 hta HU
    go_enter Tryz.func68, Tryz.ntmps68
    go_wp2_with fail
    rw [← HW0.out]
    refine (HT1.out W0 (Below.refl _ _)).mono ?_
    rintro e w3 ⟨rfl, G3⟩
    obtain ⟨k0, k1, k2, k3, k4, k5, _⟩ := HK.out _ G3.out
    have HE := Lib.hid (HBL.out.trans (G3.out.mono HBL.out.size))
    clear HT1 G3 HK
    go_wp2_with fail
    go_ret
    exact ⟨rfl, HE⟩
  · have hr0 : r ≠ 0 := fun e => h0 (mg_zero.2 e)
    have hz : ((ul : Int) == 0) = false := cast_beq_no (by rw [he1, Ne, D_len_zero]; exact h0)
    rw [if_neg hr0, if_pos hn] at hv
    obtain ⟨tb, htb⟩ : ∃ tb, textQ (-r) = tb := ⟨_, rfl⟩
    have sb : tb.size ≤ 5000 := by rw [← htb]; exact text_size (by rw [szQ_neg]; exact zr)
    have hv2 : ((ta ++ ⟨#[45]⟩) ++ tb) ++ ⟨#[100]⟩ = v := by rw [← hv, text_neg h0 hn, htb]; simp only [ByteArray.append_assoc]
    subst hv2
    rw [hn] at he0
    subst he0
    have HN : Hid (∀ W, Below W0.heap.size W0 W → _) := Lib.hid fun W h => got_neg (HU.out W h) h
    have HT2 : Hid (∀ W z0 z1 z2 z3 z4 z5 z6, Below W0.heap.size W0 W → VD (-r) (z0, (z1, z2, z3), (z4, z5, z6)) W → Calls Tryz.prog 35 #[.agg #[.bool z0, .slice z1 z2 z3, .slice z4 z5 z6]] W (GotV W0 (.string tb))) := Lib.hid fun W z0 z1 z2 z3 z4 z5 z6 h hv => got_text hv (by rw [szQ_neg]; exact zr) h htb
    clear hW0 hB0 b0 hx hu zq zr hb5 h0 he1 hta htb HU hr0 hn hv
    go_enter Tryz.func68, Tryz.ntmps68
    go_wp2_with fail
    rw [← HW0.out]
    refine (HT1.out W0 (Below.refl _ _)).mono ?_
    rintro e w3 ⟨rfl, G3⟩
    obtain ⟨k0, k1, k2, k3, k4, k5, _⟩ := HK.out _ G3.out
    clear HT1
    go_wp2_with fail
    refine (HN.out _ G3.out).mono ?_
    rintro e w4 ⟨z0, z1, z2, z3, z4, z5, z6, rfl, G4, V4⟩
    have HT3 := Lib.hid (HT2.out _ _ _ _ _ _ _ _ G4.out V4.out)
    clear HN HT2 V4 G3
    go_wp2_with fail
    refine HT3.out.mono ?_
    rintro e w5 ⟨rfl, G5⟩
    have HE := Lib.hid (HBL.out.trans (G5.out.mono HBL.out.size))
    clear HT3 G5 HK G4
    go_wp2_with fail
    go_ret
    exact ⟨rfl, HE⟩
  · have hr0 : r ≠ 0 := fun e => h0 (mg_zero.2 e)
    have hz : ((ul : Int) == 0) = false := cast_beq_no (by rw [he1, Ne, D_len_zero]; exact h0)
    rw [if_neg hr0, if_neg (by rw [hn]; decide)] at hv
    obtain ⟨tb, htb⟩ : ∃ tb, textQ r = tb := ⟨_, rfl⟩
    have sb : tb.size ≤ 5000 := by rw [← htb]; exact text_size zr
    have hv2 : ((ta ++ ⟨#[43]⟩) ++ tb) ++ ⟨#[100]⟩ = v := by rw [← hv, htb]; simp only [ByteArray.append_assoc]
    subst hv2
    rw [hn] at he0
    subst he0
    have HT2 : Hid (∀ W, Below W0.heap.size W0 W → _) := Lib.hid fun W h => got_text (HU.out W h) zr h htb
    clear hW0 hB0 b0 hx hu zq zr hb5 h0 he1 hta htb HU hr0 hn hv
    go_enter Tryz.func68, Tryz.ntmps68
    go_wp2_with fail
    rw [← HW0.out]
    refine (HT1.out W0 (Below.refl _ _)).mono ?_
    rintro e w3 ⟨rfl, G3⟩
    obtain ⟨k0, k1, k2, k3, k4, k5, _⟩ := HK.out _ G3.out
    have HT3 := Lib.hid (HT2.out _ G3.out)
    clear HT1 HT2 HK G3
    go_wp2_with fail
    refine HT3.out.mono ?_
    rintro e w5 ⟨rfl, G5⟩
    have HE := Lib.hid (HBL.out.trans (G5.out.mono HBL.out.size))
    clear HT3 G5
    go_wp2_with fail
    go_ret
    exact ⟨rfl, HE⟩

set_option maxRecDepth 100000 in
set_option maxHeartbeats 4000000 in
theorem TextPP {W5 w : World} {xs : Bool} {xa xb : Option Addr} {xl xc xk xe : Nat} {us : Bool} {ua ub : Option Addr} {ul uc uk ue : Nat} {q r : Rat} (hx : VQ q (xs, (xa, xl, xc), (xb, xk, xe)) w) (hu : VQ r (us, (ua, ul, uc), (ub, uk, ue)) w) (zq : szQ q ≤ 100) (zr : szQ r ≤ 100) (hb5 : Below W5.heap.size W5 w) {v : ByteArray} (hv : textDQ q r = v) :
    Calls Tryz.prog 67 #[.agg #[.bool xs, .slice xa xl xc, .slice xb xk xe, .bool us, .slice ua ul uc, .slice ub uk ue]] w (GotV W5 (.string v)) := by
  obtain ⟨W0, hW0⟩ : ∃ W0, W0 = w.alloc (.cells #[.bool xs, .slice xa xl xc, .slice xb xk xe, .bool us, .slice ua ul uc, .slice ub uk ue] 70) := ⟨_, rfl⟩
  have hB0 : Below w.heap.size w W0 := by rw [hW0]; exact (Below.refl _ _).alloc (Nat.le_refl _) _
  have b0 : W0.heap[w.heap.size]? = some (.cells #[.bool xs, .slice xa xl xc, .slice xb xk xe, .bool us, .slice ua ul uc, .slice ub uk ue] 70 (0, 0)) := by rw [hW0]; exact heap_alloc_new w _
  have HK : Hid (∀ W, Below W0.heap.size W0 W → _) := Lib.hid fun W h => cells6 (stay b0 h)
  obtain ⟨ta, hta⟩ : ∃ ta, textQ q = ta := ⟨_, rfl⟩
  obtain ⟨tb, htb⟩ : ∃ tb, textQ r = tb := ⟨_, rfl⟩
  have sa : ta.size ≤ 5000 := by rw [← hta]; exact text_size zq
  have sb : tb.size ≤ 5000 := by rw [← htb]; exact text_size zr
  have HT1 : Hid (∀ W, Below W0.heap.size W0 W → _) := Lib.hid fun W h => gotP_text ((hx.kept hB0).kept h) zq h hta
  have HT2 : Hid (∀ W, Below W0.heap.size W0 W → _) := Lib.hid fun W h => gotP_text ((hu.kept hB0).kept h) zr h htb
  have HBL := Lib.hid (hb5.trans (hB0.mono hb5.size))
  have HW0 := Lib.hid hW0
  obtain ⟨k0, k1, k2, k3, k4, k5, _⟩ := HK.out W0 (Below.refl _ _)
  unfold textDQ at hv
  rw [hta, htb] at hv
  rcases sign_cases r with ⟨h0, hs⟩ | ⟨h0, hn, hs⟩ | ⟨h0, hn, hs⟩
  · have HS : Hid (∀ W, Below W0.heap.size W0 W → _) := Lib.hid fun W h => gotP_sign ((hu.kept hB0).kept h) zr h hs
    rw [if_pos h0] at hv
    subst hv
    clear hW0 hB0 b0 hx hu zq zr hb5 h0 hs hta htb HT2
    go_enter Tryz.func67, Tryz.ntmps67
    go_wp2_with fail
    rw [← HW0.out]
    refine (HT1.out W0 (Below.refl _ _)).mono ?_
    rintro e w3 ⟨rfl, G3⟩
    obtain ⟨k0, k1, k2, k3, k4, k5, _⟩ := HK.out _ G3.out
    clear HT1
    go_wp2_with fail
    refine (HS.out _ G3.out).mono ?_
    rintro e w4 ⟨rfl, G4⟩
    have HE := Lib.hid (HBL.out.trans (G4.out.mono HBL.out.size))
    clear HS G3 G4 HK
    go_wp2_with fail
    go_ret
    exact ⟨rfl, HE⟩
  · have HS : Hid (∀ W, Below W0.heap.size W0 W → _) := Lib.hid fun W h => gotP_sign ((hu.kept hB0).kept h) zr h hs
    have hr0 : r ≠ 0 := fun e => h0 (mg_zero.2 e)
    rw [if_neg hr0, if_pos hn] at hv
    subst hv
    clear hW0 hB0 b0 hx hu zq zr hb5 h0 hs hta htb hr0 hn
    go_enter Tryz.func67, Tryz.ntmps67
    go_wp2_with fail
    rw [← HW0.out]
    refine (HT1.out W0 (Below.refl _ _)).mono ?_
    rintro e w3 ⟨rfl, G3⟩
    obtain ⟨k0, k1, k2, k3, k4, k5, _⟩ := HK.out _ G3.out
    clear HT1
    go_wp2_with fail
    refine (HS.out _ G3.out).mono ?_
    rintro e w4 ⟨rfl, G4⟩
    obtain ⟨k0, k1, k2, k3, k4, k5, _⟩ := HK.out _ G4.out
    have HT3 := Lib.hid (HT2.out _ G4.out)
    clear HS G3 HT2
    go_wp2_with fail
    refine HT3.out.mono ?_
    rintro e w5 ⟨rfl, G5⟩
    have HE := Lib.hid (HBL.out.trans (G5.out.mono HBL.out.size))
    clear HT3 G5 G4 HK
    go_wp2_with fail
    go_ret
    exact ⟨rfl, HE⟩
  · have HS : Hid (∀ W, Below W0.heap.size W0 W → _) := Lib.hid fun W h => gotP_sign ((hu.kept hB0).kept h) zr h hs
    have hr0 : r ≠ 0 := fun e => h0 (mg_zero.2 e)
    rw [if_neg hr0, if_neg (by rw [hn]; decide)] at hv
    subst hv
    clear hW0 hB0 b0 hx hu zq zr hb5 h0 hs hta htb hr0 hn
    go_enter Tryz.func67, Tryz.ntmps67
    go_wp2_with fail
    rw [← HW0.out]
    refine (HT1.out W0 (Below.refl _ _)).mono ?_
    rintro e w3 ⟨rfl, G3⟩
    obtain ⟨k0, k1, k2, k3, k4, k5, _⟩ := HK.out _ G3.out
    clear HT1
    go_wp2_with fail
    refine (HS.out _ G3.out).mono ?_
    rintro e w4 ⟨rfl, G4⟩
    obtain ⟨k0, k1, k2, k3, k4, k5, _⟩ := HK.out _ G4.out
    have HT3 := Lib.hid (HT2.out _ G4.out)
    clear HS G3 HT2
    go_wp2_with fail
    refine HT3.out.mono ?_
    rintro e w5 ⟨rfl, G5⟩
    have HE := Lib.hid (HBL.out.trans (G5.out.mono HBL.out.size))
    clear HT3 G5 G4 HK
    go_wp2_with fail
    go_ret
    exact ⟨rfl, HE⟩
end Go.Proofs.YtomoemgoglghlaaGreatDoor

/-
  delta.byParts, with each of ratio's Add, Sub and Mul.
-/
set_option linter.unusedVariables false
set_option linter.unusedSimpArgs false
namespace Go.Proofs.YtomoemgoglghlaaGreatDoor
open Go.RowKit Rep


theorem vq_z (W : World) : VQ 0 (false, (none, 0, 0), (none, 0, 0)) W := ⟨by decide, rfl, rfl, AtQ.zero W⟩
theorem grown_set6 {w W : World} {b r : Nat} (h : w.grownBy W (some b)) (hr : w.heap.size ≤ r) (s : Bool) (v1 v2 : Value) (t : Bool) (v3 v4 : Value) : w.grownBy (set6 W r s v1 v2 t v3 v4) (some b) := by
  have hg := set6_grown W r s v1 v2 t v3 v4
  exact ⟨hg.os.trans h.os, hg.tape.trans h.tape, hg.output.trans h.output, Nat.le_trans h.size hg.size, fun k hk hne => (hg.block k (Nat.lt_of_lt_of_le hk h.size) (by simp; omega)).trans (h.block k hk hne)⟩
theorem Bench.set6 {W : World} {b m r : Nat} {o : Bool} (h : Bench W b m o) (hne : b ≠ r) (s : Bool) (v1 v2 : Value) (t : Bool) (v3 v4 : Value) : Bench (Go.Proofs.YtomoemgoglghlaaGreatDoor.set6 W r s v1 v2 t v3 v4) b m o := h.of_block ((set6_grown W r s v1 v2 t v3 v4).block b h.lt (by simpa using hne))
theorem Six.grown {W W' : World} {r b : Nat} {ty : TypeId} (h : Six W r ty) (hg : W.grownBy W' (some b)) (hne : r ≠ b) : Six W' r ty := (hg.block r (Array.getElem?_eq_some_iff.1 h).1 (by simpa using hne)).trans h
theorem VQ.bench {q : Rat} {v : RawR} {W W' : World} {b m : Nat} {o : Bool} (h : VQ q v W) (hb : Bench W b m o) (hg : W.grownBy W' (some b)) : VQ q v W' := ⟨h.e0, h.e1, h.e2, h.lies.bench hb hg⟩
/-- Behind the first call. -/
structure S1 (W0 : World) (b m : Nat) (q : Rat) (o : Bool) (x : RawR) (W : World) : Prop where
  vx : VQ q x W
  bench : Bench W b m o
  grown : W0.grownBy W (some b)
/-- Behind both calls. -/
structure S2 (W0 : World) (b m : Nat) (q r : Rat) (o : Bool) (x y : RawR) (W : World) : Prop where
  vx : VQ q x W
  vy : VQ r y W
  bench : Bench W b m o
  grown : W0.grownBy W (some b)
section
variable {W0 W : World} {b m : Nat} {q r : Rat} {o : Bool} {x y : RawR}
theorem S1.kept {W' : World} (h : S1 W0 b m q o x W) (hb : Below W.heap.size W W') : S1 W0 b m q o x W' := ⟨h.vx.kept hb, h.bench.kept hb, grownBy_trans' h.grown (grown_of_below hb _)⟩
theorem S2.kept {W' : World} (h : S2 W0 b m q r o x y W) (hb : Below W.heap.size W W') : S2 W0 b m q r o x y W' := ⟨h.vx.kept hb, h.vy.kept hb, h.bench.kept hb, grownBy_trans' h.grown (grown_of_below hb _)⟩
theorem S2.set6 {g : Nat} {ty : TypeId} (h : S2 W0 b m q r o x y W) (hb : Six W g ty) (hg : W0.heap.size ≤ g) (hne : b ≠ g) (s : Bool) (v1 v2 : Value) (t : Bool) (v3 v4 : Value) : S2 W0 b m q r o x y (Go.Proofs.YtomoemgoglghlaaGreatDoor.set6 W g s v1 v2 t v3 v4) :=
  ⟨h.vx.set6 hb _ _ _ _ _ _, h.vy.set6 hb _ _ _ _ _ _, h.bench.set6 hne _ _ _ _ _ _, grown_set6 h.grown hg _ _ _ _ _ _⟩
/-- Behind the region: where both answers lie. -/
structure ByAt (W0 : World) (b m : Nat) (q r : Rat) (o : Bool) (i : Nat × RawR × RawR) (W : World) : Prop where
  lies : W.heap[i.1]? = some (.cells #[.bool i.2.1.1, .slice i.2.1.2.1.1 i.2.1.2.1.2.1 i.2.1.2.1.2.2, .slice i.2.1.2.2.1 i.2.1.2.2.2.1 i.2.1.2.2.2.2, .bool i.2.2.1, .slice i.2.2.2.1.1 i.2.2.2.1.2.1 i.2.2.2.1.2.2, .slice i.2.2.2.2.1 i.2.2.2.2.2.1 i.2.2.2.2.2.2] 70 (0, 0))
  t : S2 W0 b m q r o i.2.1 i.2.2 W
theorem S2.endA (h : S2 W0 b m q r o x y W) : ByAt W0 b m q r o (W.heap.size, x, y) (W.alloc (.cells #[.bool x.1, .slice x.2.1.1 x.2.1.2.1 x.2.1.2.2, .slice x.2.2.1 x.2.2.2.1 x.2.2.2.2, .bool y.1, .slice y.2.1.1 y.2.1.2.1 y.2.1.2.2, .slice y.2.2.1 y.2.2.2.1 y.2.2.2.2] 70)) := ⟨heap_alloc_new W _, h.kept ((Below.refl _ _).alloc (Nat.le_refl _) _)⟩
theorem S2.endB {g : Nat} (h : S2 W0 b m q r o x y W) (hb : Six W g 70) (hg : W0.heap.size ≤ g) (hne : b ≠ g) :
    ByAt W0 b m q r o (g, x, y) (Go.Proofs.YtomoemgoglghlaaGreatDoor.set6 W g x.1 (.slice x.2.1.1 x.2.1.2.1 x.2.1.2.2) (.slice x.2.2.1 x.2.2.2.1 x.2.2.2.2) y.1 (.slice y.2.1.1 y.2.1.2.1 y.2.1.2.2) (.slice y.2.2.1 y.2.2.2.1 y.2.2.2.2)) := by
  refine ⟨?_, h.set6 hb hg hne _ _ _ _ _ _⟩
  unfold Six at hb
  simp [Go.Proofs.YtomoemgoglghlaaGreatDoor.set6, World.setCell, Array.getElem?_modify, hb]
end
theorem farG {w W0 W : World} {b : Nat} (h : w.heap.size + 1 + 1 < W0.heap.size) (hb : W0.grownBy W (some b)) : w.heap.size ≠ W.heap.size ∧ W.heap.size ≠ w.heap.size ∧ w.heap.size + 1 ≠ W.heap.size ∧ W.heap.size ≠ w.heap.size + 1 := by
  have := hb.size
  omega
/-- A call gives both parts, as far as a bench lets them be (o: it is over). -/
def GivesQQ (b m : Nat) (o : Bool) (q r : Rat) (w : World) (e : Ending) (w' : World) : Prop :=
  ∃ s z1 m1 k1 z2 m2 k2 t y1 n1 j1 y2 n2 j2, e = .returned (.agg #[.bool s, .slice z1 m1 k1, .slice z2 m2 k2, .bool t, .slice y1 n1 j1, .slice y2 n2 j2]) ∧
    Hid (VQ (if o = true then 0 else q) (s, (z1, m1, k1), (z2, m2, k2)) w') ∧ Hid (VQ (if o = true then 0 else r) (t, (y1, n1, j1), (y2, n2, j2)) w') ∧ Hid (Bench w' b m o) ∧ Hid (w.grownBy w' (some b))
/-- What the first call of a reckoning by parts gives. -/
def First (f : FuncId) (w : World) (b m : Nat) (q : Rat) (o : Bool) (v1 v2 : Value) : Prop :=
  ∀ V W, Below w.heap.size w V → Below V.heap.size V W → Calls Tryz.prog f #[.pointer (some ⟨b, 0, none⟩), v1, v2] W fun e W' => ∃ s z1 m1 k1 z2 m2 k2, e = .returned (.agg #[.bool s, .slice z1 m1 k1, .slice z2 m2 k2]) ∧ Hid (S1 V b m q o (s, (z1, m1, k1), (z2, m2, k2)) W') ∧ Hid (W.grownBy W' (some b))
/-- What the second one gives. -/
def Second (f : FuncId) (w : World) (b m : Nat) (q r : Rat) (o o2 : Bool) (v1 v2 : Value) : Prop :=
  ∀ V W3 W x, Below w.heap.size w V → S1 V b m q o x W3 → Below W3.heap.size W3 W → Calls Tryz.prog f #[.pointer (some ⟨b, 0, none⟩), v1, v2] W fun e W' => ∃ s z1 m1 k1 z2 m2 k2, e = .returned (.agg #[.bool s, .slice z1 m1 k1, .slice z2 m2 k2]) ∧ Hid (S2 V b m q r o2 x (s, (z1, m1, k1), (z2, m2, k2)) W') ∧ Hid (W.grownBy W' (some b))
theorem fin_by {w W0 W : World} {b m r : Nat} {o : Bool} {qa qb : Rat} {s t : Bool} {z1 z2 y1 y2 : Option Addr} {m1 k1 m2 k2 n1 j1 n2 j2 : Nat} (hB0 : Below w.heap.size w W0) (hr : w.heap.size ≤ r) (hb : Six W r 70) (hne : b ≠ r) (hg : W0.grownBy W (some b)) (hbe : Bench W b m o)
    (h1 : VQ (if o = true then 0 else qa) (s, (z1, m1, k1), (z2, m2, k2)) W) (h2 : VQ (if o = true then 0 else qb) (t, (y1, n1, j1), (y2, n2, j2)) W) :
    GivesQQ b m o qa qb w (.returned (.agg #[.bool s, .slice z1 m1 k1, .slice z2 m2 k2, .bool t, .slice y1 n1 j1, .slice y2 n2 j2])) (set6 W r s (.slice z1 m1 k1) (.slice z2 m2 k2) t (.slice y1 n1 j1) (.slice y2 n2 j2)) :=
  ⟨s, z1, m1, k1, z2, m2, k2, t, y1, n1, j1, y2, n2, j2, rfl, Lib.hid (h1.set6 hb _ _ _ _ _ _), Lib.hid (h2.set6 hb _ _ _ _ _ _), Lib.hid (hbe.set6 hne _ _ _ _ _ _), Lib.hid (grown_set6 (grownBy_trans' (grown_of_below hB0 _) hg) hr _ _ _ _ _ _)⟩

set_option maxRecDepth 100000 in
set_option maxHeartbeats 8000000 in
theorem byAdd {w : World} {b m : Nat} {xs : Bool} {xa xb : Option Addr} {xl xc xk xe : Nat} {us : Bool} {ua ub : Option Addr} {ul uc uk ue : Nat} {ys : Bool} {ya yb : Option Addr} {yl yc yk ye : Nat} {vs : Bool} {va vb : Option Addr} {vl vc vk ve : Nat} {qa qb : Rat} {o1 o2 : Bool} (hb : b < w.heap.size) (h1 : First 16 w b m qa o1 (.agg #[.bool xs, .slice xa xl xc, .slice xb xk xe]) (.agg #[.bool ys, .slice ya yl yc, .slice yb yk ye])) (h2 : Second 16 w b m qa qb o1 o2 (.agg #[.bool us, .slice ua ul uc, .slice ub uk ue]) (.agg #[.bool vs, .slice va vl vc, .slice vb vk ve])) :
    Calls Tryz.prog 107 #[.pointer (some ⟨b, 0, none⟩), .func (.func 16) #[] #[], .agg #[.bool xs, .slice xa xl xc, .slice xb xk xe, .bool us, .slice ua ul uc, .slice ub uk ue], .agg #[.bool ys, .slice ya yl yc, .slice yb yk ye, .bool vs, .slice va vl vc, .slice vb vk ve]] w (GivesQQ b m o2 qa qb w) := by
  obtain ⟨W0, hW0, hB0, b0, b1, b2, hs⟩ := boxes3 w #[.bool xs, .slice xa xl xc, .slice xb xk xe, .bool us, .slice ua ul uc, .slice ub uk ue] #[.bool ys, .slice ya yl yc, .slice yb yk ye, .bool vs, .slice va vl vc, .slice vb vk ve] #[.bool false, .slice none 0 0, .slice none 0 0, .bool false, .slice none 0 0, .slice none 0 0] 70 70 70
  have HK : Hid (∀ W, W0.grownBy W (some b) → (W.cell? ⟨w.heap.size, 0, none⟩ = some (.bool xs) ∧ W.cell? ⟨w.heap.size, 1, none⟩ = some (.slice xa xl xc) ∧ W.cell? ⟨w.heap.size, 2, none⟩ = some (.slice xb xk xe) ∧ W.cell? ⟨w.heap.size, 3, none⟩ = some (.bool us) ∧ W.cell? ⟨w.heap.size, 4, none⟩ = some (.slice ua ul uc) ∧ W.cell? ⟨w.heap.size, 5, none⟩ = some (.slice ub uk ue) ∧ W.cell? ⟨w.heap.size + 1, 0, none⟩ = some (.bool ys) ∧ W.cell? ⟨w.heap.size + 1, 1, none⟩ = some (.slice ya yl yc) ∧ W.cell? ⟨w.heap.size + 1, 2, none⟩ = some (.slice yb yk ye) ∧ W.cell? ⟨w.heap.size + 1, 3, none⟩ = some (.bool vs) ∧ W.cell? ⟨w.heap.size + 1, 4, none⟩ = some (.slice va vl vc) ∧ W.cell? ⟨w.heap.size + 1, 5, none⟩ = some (.slice vb vk ve))) := Lib.hid fun W h => by
    obtain ⟨k0, k1, k2, k3, k4, k5, _⟩ := cells6 ((h.block _ (Array.getElem?_eq_some_iff.1 b0).1 (by simp; omega)).trans b0)
    obtain ⟨k6, k7, k8, k9, k10, k11, _⟩ := cells6 ((h.block _ (Array.getElem?_eq_some_iff.1 b1).1 (by simp; omega)).trans b1)
    exact ⟨k0, k1, k2, k3, k4, k5, k6, k7, k8, k9, k10, k11⟩
  have HR : Hid (∀ W, W0.grownBy W (some b) → Six W (w.heap.size + 1 + 1) 70) := Lib.hid fun W h => (h.block _ (Array.getElem?_eq_some_iff.1 b2).1 (by simp; omega)).trans b2
  have HWL : Hid (w.heap.size + 1 + 1 < W0.heap.size) := Lib.hid (by omega)
  have HN : Hid (b ≠ W0.heap.size ∧ W0.heap.size ≠ b) := Lib.hid (by omega)
  have HBN : Hid (b ≠ w.heap.size + 1 + 1 ∧ w.heap.size ≤ w.heap.size + 1 + 1) := Lib.hid (by omega)
  have HB0 := Lib.hid hB0
  have HW0 := Lib.hid hW0
  unfold First at h1
  unfold Second at h2
  have HF1 := Lib.hid h1
  have HS := Lib.hid h2
  have HDA := Lib.hid (h1 W0 W0.drew hB0 (below_drew W0))
  have HDB := Lib.hid (h1 W0 (W0.alloc (.cells #[.bool false, .slice none 0 0, .slice none 0 0, .bool false, .slice none 0 0, .slice none 0 0] 70)).drew hB0 (show Below W0.heap.size W0 (W0.alloc (.cells #[.bool false, .slice none 0 0, .slice none 0 0, .bool false, .slice none 0 0, .slice none 0 0] 70)).drew from Below.drewN' ((Below.refl W0.heap.size W0).alloc (Nat.le_refl _) (.cells #[.bool false, .slice none 0 0, .slice none 0 0, .bool false, .slice none 0 0, .slice none 0 0] 70)) 1))
  have HZB : Hid (Six (W0.alloc (.cells #[.bool false, .slice none 0 0, .slice none 0 0, .bool false, .slice none 0 0, .slice none 0 0] 70)).drew W0.heap.size 70) := Lib.hid (heap_alloc_new W0 _)
  obtain ⟨k0, k1, k2, k3, k4, k5, k6, k7, k8, k9, k10, k11⟩ := HK.out W0 (grown_refl _ _)
  obtain ⟨z0, z1, z2, z3⟩ := farG (W := W0) (b := b) HWL.out (grown_refl _ _)
  clear hW0 hB0 b0 b1 b2 hs h1 h2 hb
  go_enter Tryz.func107, Tryz.ntmps107
  go_wp2_with fail
  rw [← HW0.out]
  refine wp_region_ex (ι := Nat × RawR × RawR) (fun i => [(10, .func (.func 16) #[] #[]), (11, .pointer (some ⟨b, 0, none⟩)), (12, .pointer (some ⟨w.heap.size, 0, none⟩)), (13, .agg #[.bool xs, .slice xa xl xc, .slice xb xk xe]), (14, .pointer (some ⟨w.heap.size + 1, 0, none⟩)), (15, .agg #[.bool ys, .slice ya yl yc, .slice yb yk ye]),
    (16, .agg #[.bool i.2.1.1, .slice i.2.1.2.1.1 i.2.1.2.1.2.1 i.2.1.2.1.2.2, .slice i.2.1.2.2.1 i.2.1.2.2.2.1 i.2.1.2.2.2.2]), (17, .func (.func 16) #[] #[]), (18, .pointer (some ⟨b, 0, none⟩)), (19, .pointer (some ⟨w.heap.size, 3, none⟩)), (20, .agg #[.bool us, .slice ua ul uc, .slice ub uk ue]), (21, .pointer (some ⟨w.heap.size + 1, 3, none⟩)), (22, .agg #[.bool vs, .slice va vl vc, .slice vb vk ve]),
    (23, .agg #[.bool i.2.2.1, .slice i.2.2.2.1.1 i.2.2.2.1.2.1 i.2.2.2.1.2.2, .slice i.2.2.2.2.1 i.2.2.2.2.2.1 i.2.2.2.2.2.2]), (24, .agg #[.bool i.2.1.1, .slice i.2.1.2.1.1 i.2.1.2.1.2.1 i.2.1.2.1.2.2, .slice i.2.1.2.2.1 i.2.1.2.2.2.1 i.2.1.2.2.2.2, .bool i.2.2.1, .slice i.2.2.2.1.1 i.2.2.2.1.2.1 i.2.2.2.1.2.2, .slice i.2.2.2.2.1 i.2.2.2.2.2.1 i.2.2.2.2.2.2]), (9, .pointer (some ⟨i.1, 0, none⟩))]) (ByAt W0 b m qa qb o2) ?region ?rest
  case region =>
    go_region_held3 (fun w' => w'.cell? ⟨w.heap.size, 0, none⟩ = some (.bool xs) ∧ w'.cell? ⟨w.heap.size, 1, none⟩ = some (.slice xa xl xc) ∧ w'.cell? ⟨w.heap.size, 2, none⟩ = some (.slice xb xk xe) ∧ w'.cell? ⟨w.heap.size, 3, none⟩ = some (.bool us) ∧ w'.cell? ⟨w.heap.size, 4, none⟩ = some (.slice ua ul uc) ∧ w'.cell? ⟨w.heap.size, 5, none⟩ = some (.slice ub uk ue) ∧ w'.cell? ⟨w.heap.size + 1, 0, none⟩ = some (.bool ys) ∧ w'.cell? ⟨w.heap.size + 1, 1, none⟩ = some (.slice ya yl yc) ∧ w'.cell? ⟨w.heap.size + 1, 2, none⟩ = some (.slice yb yk ye) ∧ w'.cell? ⟨w.heap.size + 1, 3, none⟩ = some (.bool vs) ∧ w'.cell? ⟨w.heap.size + 1, 4, none⟩ = some (.slice va vl vc) ∧ w'.cell? ⟨w.heap.size + 1, 5, none⟩ = some (.slice vb vk ve)) (first | with_reducible exact HK.out _ hg4 | with_reducible exact HK.out _ hga | with_reducible exact HK.out _ hgb | go_keep)
      (first
        | (go_at_call 16; (with_reducible refine HDA.out.mono ?_); rintro e wa ⟨ra, a1, a2, a3, a4, a5, a6, rfl, HTA, HGA⟩; have hga := HTA.out.grown; obtain ⟨e00, e01, e02, e03, e04, e05, e06, e07, e08, e09, e10, e11⟩ := HK.out _ hga; obtain ⟨u0, u1, u2, u3⟩ := farG HWL.out hga)
        | (go_at_call 16; (with_reducible refine HDB.out.mono ?_); rintro e wb ⟨rb, a1, a2, a3, a4, a5, a6, rfl, HTB, HGB⟩; have hgb := HTB.out.grown; obtain ⟨e00, e01, e02, e03, e04, e05, e06, e07, e08, e09, e10, e11⟩ := HK.out _ hgb; obtain ⟨u0, u1, u2, u3⟩ := farG HWL.out hgb; have HBB := Lib.hid (HZB.out.grown HGB.out HN.out.2))
        | (go_at_call 16; (with_reducible refine (HS.out _ _ _ _ HB0.out HTA.out (Below.refl _ _)).mono ?_); rintro e w4 ⟨r4, c1, c2, c3, c4, c5, c6, rfl, H2, HG4⟩; have hg4 := H2.out.grown; obtain ⟨c00, c01, c02, c03, c04, c05, c06, c07, c08, c09, c10, c11⟩ := HK.out _ hg4; obtain ⟨o0, o1, o2, o3⟩ := farG HWL.out hg4; have HF := Lib.hid H2.out.endA)
        | (go_at_call 16; (with_reducible refine (HS.out _ _ _ _ HB0.out HTA.out ((Below.refl wa.heap.size wa).alloc (Nat.le_refl _) (.cells #[.bool false, .slice none 0 0, .slice none 0 0, .bool false, .slice none 0 0, .slice none 0 0] 70))).mono ?_); rintro e w4 ⟨r4, c1, c2, c3, c4, c5, c6, rfl, H2, HG4⟩; have hg4 := H2.out.grown; obtain ⟨c00, c01, c02, c03, c04, c05, c06, c07, c08, c09, c10, c11⟩ := HK.out _ hg4; obtain ⟨o0, o1, o2, o3⟩ := farG HWL.out hg4; have HX1 := Lib.hid (Six.grown (show Six (wa.alloc (.cells #[.bool false, .slice none 0 0, .slice none 0 0, .bool false, .slice none 0 0, .slice none 0 0] 70)) wa.heap.size 70 from heap_alloc_new wa _) HG4.out (Ne.symm (Nat.ne_of_lt HTA.out.bench.lt))); have hf := H2.out.endB HX1.out HTA.out.grown.size (Nat.ne_of_lt HTA.out.bench.lt); dsimp only [Go.Proofs.YtomoemgoglghlaaGreatDoor.set6] at hf; have HF := Lib.hid hf; clear hf; obtain ⟨g0, g1, g2, g3, g4, g5, g6, g7, g8, g9, g10, g11⟩ := cells6 HX1.out)
        | (go_at_call 16; (with_reducible refine (HS.out _ _ _ _ HB0.out HTB.out (Below.refl _ _)).mono ?_); rintro e w4 ⟨r4, c1, c2, c3, c4, c5, c6, rfl, H2, HG4⟩; have hg4 := H2.out.grown; obtain ⟨c00, c01, c02, c03, c04, c05, c06, c07, c08, c09, c10, c11⟩ := HK.out _ hg4; obtain ⟨o0, o1, o2, o3⟩ := farG HWL.out hg4; have HX1 := Lib.hid (HBB.out.grown HG4.out HN.out.2); have hf := H2.out.endB HX1.out (Nat.le_refl _) HN.out.1; dsimp only [Go.Proofs.YtomoemgoglghlaaGreatDoor.set6] at hf; have HF := Lib.hid hf; clear hf; obtain ⟨g0, g1, g2, g3, g4, g5, g6, g7, g8, g9, g10, g11⟩ := cells6 HX1.out))
    all_goals
      refine OnlyEx.mk' ?_
      with_reducible refine ⟨_, ?_, HF.out⟩
      simp only [puts, Act.put, List.setIfInBounds_toArray, List.set_cons_zero, List.set_cons_succ]
      done
  case rest =>
    rintro ⟨g, ⟨s3, ⟨x1, n1, l1⟩, ⟨x2, n2, l2⟩⟩, ⟨t3, ⟨y1, m1, j1⟩, ⟨y2, m2, j2⟩⟩⟩ w5 hF
    obtain ⟨hl, hS⟩ := hF
    dsimp only at hl hS
    obtain ⟨i0, i1, i2, i3, i4, i5, _⟩ := cells6 hl
    obtain ⟨m00, m01, m02, m03, m04, m05, q00, q01, q02, q03, q04, q05⟩ := cells6 (HR.out _ hS.grown)
    have HOV := Lib.hid (over_any w5 b m o2 hS.bench)
    have HFIN : Hid (∀ s z1 m1 k1 z2 m2 k2 t y1 n1 j1 y2 n2 j2, VQ (if o2 = true then 0 else qa) (s, (z1, m1, k1), (z2, m2, k2)) w5 → VQ (if o2 = true then 0 else qb) (t, (y1, n1, j1), (y2, n2, j2)) w5 → _) := Lib.hid fun s z1 m1 k1 z2 m2 k2 t y1 n1 j1 y2 n2 j2 => fin_by HB0.out HBN.out.2 (HR.out _ hS.grown) HBN.out.1 hS.grown hS.bench
    have HVX := Lib.hid hS.vx
    have HVY := Lib.hid hS.vy
    clear hl hS HDA HDB HZB HK HR HF1 HS HB0 HW0 HWL HN HBN k0 k1 k2 k3 k4 k5 k6 k7 k8 k9 k10 k11 z0 z1 z2 z3
    simp only [puts, Act.put, List.setIfInBounds_toArray, List.set_cons_zero, List.set_cons_succ]
    cases o2
    · have HE := Lib.hid (HFIN.out _ _ _ _ _ _ _ _ _ _ _ _ _ _ HVX.out HVY.out)
      clear HFIN HVX HVY
      go_wp2_with fail
      refine HOV.out.mono ?_
      rintro e w6 ⟨rfl, rfl⟩
      go_wp2_with fail
      exact bodyPost_ret (v := .agg #[.bool s3, .slice x1 n1 l1, .slice x2 n2 l2, .bool t3, .slice y1 m1 j1, .slice y2 m2 j2]) (by simp [results, Tryz.results107, go_sem, m00, m01, m02, m03, m04, m05]) rfl HE.out
    · have HE := Lib.hid (HFIN.out _ _ _ _ _ _ _ _ _ _ _ _ _ _ (vq_z w5) (vq_z w5))
      clear HFIN HVX HVY
      go_wp2_with fail
      refine HOV.out.mono ?_
      rintro e w6 ⟨rfl, rfl⟩
      go_wp2_with fail
      exact bodyPost_ret (v := .agg #[.bool false, .slice none 0 0, .slice none 0 0, .bool false, .slice none 0 0, .slice none 0 0]) (by simp [results, Tryz.results107, go_sem, m00, m01, m02, m03, m04, m05]) rfl HE.out
end Go.Proofs.YtomoemgoglghlaaGreatDoor

/-
  delta.byParts with ratio's Sub.
-/
set_option linter.unusedVariables false
set_option linter.unusedSimpArgs false
namespace Go.Proofs.YtomoemgoglghlaaGreatDoor
open Go.RowKit Rep


set_option maxRecDepth 100000 in
set_option maxHeartbeats 8000000 in
theorem bySub {w : World} {b m : Nat} {xs : Bool} {xa xb : Option Addr} {xl xc xk xe : Nat} {us : Bool} {ua ub : Option Addr} {ul uc uk ue : Nat} {ys : Bool} {ya yb : Option Addr} {yl yc yk ye : Nat} {vs : Bool} {va vb : Option Addr} {vl vc vk ve : Nat} {qa qb : Rat} {o1 o2 : Bool} (hb : b < w.heap.size) (h1 : First 19 w b m qa o1 (.agg #[.bool xs, .slice xa xl xc, .slice xb xk xe]) (.agg #[.bool ys, .slice ya yl yc, .slice yb yk ye])) (h2 : Second 19 w b m qa qb o1 o2 (.agg #[.bool us, .slice ua ul uc, .slice ub uk ue]) (.agg #[.bool vs, .slice va vl vc, .slice vb vk ve])) :
    Calls Tryz.prog 107 #[.pointer (some ⟨b, 0, none⟩), .func (.func 19) #[] #[], .agg #[.bool xs, .slice xa xl xc, .slice xb xk xe, .bool us, .slice ua ul uc, .slice ub uk ue], .agg #[.bool ys, .slice ya yl yc, .slice yb yk ye, .bool vs, .slice va vl vc, .slice vb vk ve]] w (GivesQQ b m o2 qa qb w) := by
  obtain ⟨W0, hW0, hB0, b0, b1, b2, hs⟩ := boxes3 w #[.bool xs, .slice xa xl xc, .slice xb xk xe, .bool us, .slice ua ul uc, .slice ub uk ue] #[.bool ys, .slice ya yl yc, .slice yb yk ye, .bool vs, .slice va vl vc, .slice vb vk ve] #[.bool false, .slice none 0 0, .slice none 0 0, .bool false, .slice none 0 0, .slice none 0 0] 70 70 70
  have HK : Hid (∀ W, W0.grownBy W (some b) → (W.cell? ⟨w.heap.size, 0, none⟩ = some (.bool xs) ∧ W.cell? ⟨w.heap.size, 1, none⟩ = some (.slice xa xl xc) ∧ W.cell? ⟨w.heap.size, 2, none⟩ = some (.slice xb xk xe) ∧ W.cell? ⟨w.heap.size, 3, none⟩ = some (.bool us) ∧ W.cell? ⟨w.heap.size, 4, none⟩ = some (.slice ua ul uc) ∧ W.cell? ⟨w.heap.size, 5, none⟩ = some (.slice ub uk ue) ∧ W.cell? ⟨w.heap.size + 1, 0, none⟩ = some (.bool ys) ∧ W.cell? ⟨w.heap.size + 1, 1, none⟩ = some (.slice ya yl yc) ∧ W.cell? ⟨w.heap.size + 1, 2, none⟩ = some (.slice yb yk ye) ∧ W.cell? ⟨w.heap.size + 1, 3, none⟩ = some (.bool vs) ∧ W.cell? ⟨w.heap.size + 1, 4, none⟩ = some (.slice va vl vc) ∧ W.cell? ⟨w.heap.size + 1, 5, none⟩ = some (.slice vb vk ve))) := Lib.hid fun W h => by
    obtain ⟨k0, k1, k2, k3, k4, k5, _⟩ := cells6 ((h.block _ (Array.getElem?_eq_some_iff.1 b0).1 (by simp; omega)).trans b0)
    obtain ⟨k6, k7, k8, k9, k10, k11, _⟩ := cells6 ((h.block _ (Array.getElem?_eq_some_iff.1 b1).1 (by simp; omega)).trans b1)
    exact ⟨k0, k1, k2, k3, k4, k5, k6, k7, k8, k9, k10, k11⟩
  have HR : Hid (∀ W, W0.grownBy W (some b) → Six W (w.heap.size + 1 + 1) 70) := Lib.hid fun W h => (h.block _ (Array.getElem?_eq_some_iff.1 b2).1 (by simp; omega)).trans b2
  have HWL : Hid (w.heap.size + 1 + 1 < W0.heap.size) := Lib.hid (by omega)
  have HN : Hid (b ≠ W0.heap.size ∧ W0.heap.size ≠ b) := Lib.hid (by omega)
  have HBN : Hid (b ≠ w.heap.size + 1 + 1 ∧ w.heap.size ≤ w.heap.size + 1 + 1) := Lib.hid (by omega)
  have HB0 := Lib.hid hB0
  have HW0 := Lib.hid hW0
  unfold First at h1
  unfold Second at h2
  have HF1 := Lib.hid h1
  have HS := Lib.hid h2
  have HDA := Lib.hid (h1 W0 W0.drew hB0 (below_drew W0))
  have HDB := Lib.hid (h1 W0 (W0.alloc (.cells #[.bool false, .slice none 0 0, .slice none 0 0, .bool false, .slice none 0 0, .slice none 0 0] 70)).drew hB0 (show Below W0.heap.size W0 (W0.alloc (.cells #[.bool false, .slice none 0 0, .slice none 0 0, .bool false, .slice none 0 0, .slice none 0 0] 70)).drew from Below.drewN' ((Below.refl W0.heap.size W0).alloc (Nat.le_refl _) (.cells #[.bool false, .slice none 0 0, .slice none 0 0, .bool false, .slice none 0 0, .slice none 0 0] 70)) 1))
  have HZB : Hid (Six (W0.alloc (.cells #[.bool false, .slice none 0 0, .slice none 0 0, .bool false, .slice none 0 0, .slice none 0 0] 70)).drew W0.heap.size 70) := Lib.hid (heap_alloc_new W0 _)
  obtain ⟨k0, k1, k2, k3, k4, k5, k6, k7, k8, k9, k10, k11⟩ := HK.out W0 (grown_refl _ _)
  obtain ⟨z0, z1, z2, z3⟩ := farG (W := W0) (b := b) HWL.out (grown_refl _ _)
  clear hW0 hB0 b0 b1 b2 hs h1 h2 hb
  go_enter Tryz.func107, Tryz.ntmps107
  go_wp2_with fail
  rw [← HW0.out]
  refine wp_region_ex (ι := Nat × RawR × RawR) (fun i => [(10, .func (.func 19) #[] #[]), (11, .pointer (some ⟨b, 0, none⟩)), (12, .pointer (some ⟨w.heap.size, 0, none⟩)), (13, .agg #[.bool xs, .slice xa xl xc, .slice xb xk xe]), (14, .pointer (some ⟨w.heap.size + 1, 0, none⟩)), (15, .agg #[.bool ys, .slice ya yl yc, .slice yb yk ye]),
    (16, .agg #[.bool i.2.1.1, .slice i.2.1.2.1.1 i.2.1.2.1.2.1 i.2.1.2.1.2.2, .slice i.2.1.2.2.1 i.2.1.2.2.2.1 i.2.1.2.2.2.2]), (17, .func (.func 19) #[] #[]), (18, .pointer (some ⟨b, 0, none⟩)), (19, .pointer (some ⟨w.heap.size, 3, none⟩)), (20, .agg #[.bool us, .slice ua ul uc, .slice ub uk ue]), (21, .pointer (some ⟨w.heap.size + 1, 3, none⟩)), (22, .agg #[.bool vs, .slice va vl vc, .slice vb vk ve]),
    (23, .agg #[.bool i.2.2.1, .slice i.2.2.2.1.1 i.2.2.2.1.2.1 i.2.2.2.1.2.2, .slice i.2.2.2.2.1 i.2.2.2.2.2.1 i.2.2.2.2.2.2]), (24, .agg #[.bool i.2.1.1, .slice i.2.1.2.1.1 i.2.1.2.1.2.1 i.2.1.2.1.2.2, .slice i.2.1.2.2.1 i.2.1.2.2.2.1 i.2.1.2.2.2.2, .bool i.2.2.1, .slice i.2.2.2.1.1 i.2.2.2.1.2.1 i.2.2.2.1.2.2, .slice i.2.2.2.2.1 i.2.2.2.2.2.1 i.2.2.2.2.2.2]), (9, .pointer (some ⟨i.1, 0, none⟩))]) (ByAt W0 b m qa qb o2) ?region ?rest
  case region =>
    go_region_held3 (fun w' => w'.cell? ⟨w.heap.size, 0, none⟩ = some (.bool xs) ∧ w'.cell? ⟨w.heap.size, 1, none⟩ = some (.slice xa xl xc) ∧ w'.cell? ⟨w.heap.size, 2, none⟩ = some (.slice xb xk xe) ∧ w'.cell? ⟨w.heap.size, 3, none⟩ = some (.bool us) ∧ w'.cell? ⟨w.heap.size, 4, none⟩ = some (.slice ua ul uc) ∧ w'.cell? ⟨w.heap.size, 5, none⟩ = some (.slice ub uk ue) ∧ w'.cell? ⟨w.heap.size + 1, 0, none⟩ = some (.bool ys) ∧ w'.cell? ⟨w.heap.size + 1, 1, none⟩ = some (.slice ya yl yc) ∧ w'.cell? ⟨w.heap.size + 1, 2, none⟩ = some (.slice yb yk ye) ∧ w'.cell? ⟨w.heap.size + 1, 3, none⟩ = some (.bool vs) ∧ w'.cell? ⟨w.heap.size + 1, 4, none⟩ = some (.slice va vl vc) ∧ w'.cell? ⟨w.heap.size + 1, 5, none⟩ = some (.slice vb vk ve)) (first | with_reducible exact HK.out _ hg4 | with_reducible exact HK.out _ hga | with_reducible exact HK.out _ hgb | go_keep)
      (first
        | (go_at_call 19; (with_reducible refine HDA.out.mono ?_); rintro e wa ⟨ra, a1, a2, a3, a4, a5, a6, rfl, HTA, HGA⟩; have hga := HTA.out.grown; obtain ⟨e00, e01, e02, e03, e04, e05, e06, e07, e08, e09, e10, e11⟩ := HK.out _ hga; obtain ⟨u0, u1, u2, u3⟩ := farG HWL.out hga)
        | (go_at_call 19; (with_reducible refine HDB.out.mono ?_); rintro e wb ⟨rb, a1, a2, a3, a4, a5, a6, rfl, HTB, HGB⟩; have hgb := HTB.out.grown; obtain ⟨e00, e01, e02, e03, e04, e05, e06, e07, e08, e09, e10, e11⟩ := HK.out _ hgb; obtain ⟨u0, u1, u2, u3⟩ := farG HWL.out hgb; have HBB := Lib.hid (HZB.out.grown HGB.out HN.out.2))
        | (go_at_call 19; (with_reducible refine (HS.out _ _ _ _ HB0.out HTA.out (Below.refl _ _)).mono ?_); rintro e w4 ⟨r4, c1, c2, c3, c4, c5, c6, rfl, H2, HG4⟩; have hg4 := H2.out.grown; obtain ⟨c00, c01, c02, c03, c04, c05, c06, c07, c08, c09, c10, c11⟩ := HK.out _ hg4; obtain ⟨o0, o1, o2, o3⟩ := farG HWL.out hg4; have HF := Lib.hid H2.out.endA)
        | (go_at_call 19; (with_reducible refine (HS.out _ _ _ _ HB0.out HTA.out ((Below.refl wa.heap.size wa).alloc (Nat.le_refl _) (.cells #[.bool false, .slice none 0 0, .slice none 0 0, .bool false, .slice none 0 0, .slice none 0 0] 70))).mono ?_); rintro e w4 ⟨r4, c1, c2, c3, c4, c5, c6, rfl, H2, HG4⟩; have hg4 := H2.out.grown; obtain ⟨c00, c01, c02, c03, c04, c05, c06, c07, c08, c09, c10, c11⟩ := HK.out _ hg4; obtain ⟨o0, o1, o2, o3⟩ := farG HWL.out hg4; have HX1 := Lib.hid (Six.grown (show Six (wa.alloc (.cells #[.bool false, .slice none 0 0, .slice none 0 0, .bool false, .slice none 0 0, .slice none 0 0] 70)) wa.heap.size 70 from heap_alloc_new wa _) HG4.out (Ne.symm (Nat.ne_of_lt HTA.out.bench.lt))); have hf := H2.out.endB HX1.out HTA.out.grown.size (Nat.ne_of_lt HTA.out.bench.lt); dsimp only [Go.Proofs.YtomoemgoglghlaaGreatDoor.set6] at hf; have HF := Lib.hid hf; clear hf; obtain ⟨g0, g1, g2, g3, g4, g5, g6, g7, g8, g9, g10, g11⟩ := cells6 HX1.out)
        | (go_at_call 19; (with_reducible refine (HS.out _ _ _ _ HB0.out HTB.out (Below.refl _ _)).mono ?_); rintro e w4 ⟨r4, c1, c2, c3, c4, c5, c6, rfl, H2, HG4⟩; have hg4 := H2.out.grown; obtain ⟨c00, c01, c02, c03, c04, c05, c06, c07, c08, c09, c10, c11⟩ := HK.out _ hg4; obtain ⟨o0, o1, o2, o3⟩ := farG HWL.out hg4; have HX1 := Lib.hid (HBB.out.grown HG4.out HN.out.2); have hf := H2.out.endB HX1.out (Nat.le_refl _) HN.out.1; dsimp only [Go.Proofs.YtomoemgoglghlaaGreatDoor.set6] at hf; have HF := Lib.hid hf; clear hf; obtain ⟨g0, g1, g2, g3, g4, g5, g6, g7, g8, g9, g10, g11⟩ := cells6 HX1.out))
    all_goals
      refine OnlyEx.mk' ?_
      with_reducible refine ⟨_, ?_, HF.out⟩
      simp only [puts, Act.put, List.setIfInBounds_toArray, List.set_cons_zero, List.set_cons_succ]
      done
  case rest =>
    rintro ⟨g, ⟨s3, ⟨x1, n1, l1⟩, ⟨x2, n2, l2⟩⟩, ⟨t3, ⟨y1, m1, j1⟩, ⟨y2, m2, j2⟩⟩⟩ w5 hF
    obtain ⟨hl, hS⟩ := hF
    dsimp only at hl hS
    obtain ⟨i0, i1, i2, i3, i4, i5, _⟩ := cells6 hl
    obtain ⟨m00, m01, m02, m03, m04, m05, q00, q01, q02, q03, q04, q05⟩ := cells6 (HR.out _ hS.grown)
    have HOV := Lib.hid (over_any w5 b m o2 hS.bench)
    have HFIN : Hid (∀ s z1 m1 k1 z2 m2 k2 t y1 n1 j1 y2 n2 j2, VQ (if o2 = true then 0 else qa) (s, (z1, m1, k1), (z2, m2, k2)) w5 → VQ (if o2 = true then 0 else qb) (t, (y1, n1, j1), (y2, n2, j2)) w5 → _) := Lib.hid fun s z1 m1 k1 z2 m2 k2 t y1 n1 j1 y2 n2 j2 => fin_by HB0.out HBN.out.2 (HR.out _ hS.grown) HBN.out.1 hS.grown hS.bench
    have HVX := Lib.hid hS.vx
    have HVY := Lib.hid hS.vy
    clear hl hS HDA HDB HZB HK HR HF1 HS HB0 HW0 HWL HN HBN k0 k1 k2 k3 k4 k5 k6 k7 k8 k9 k10 k11 z0 z1 z2 z3
    simp only [puts, Act.put, List.setIfInBounds_toArray, List.set_cons_zero, List.set_cons_succ]
    cases o2
    · have HE := Lib.hid (HFIN.out _ _ _ _ _ _ _ _ _ _ _ _ _ _ HVX.out HVY.out)
      clear HFIN HVX HVY
      go_wp2_with fail
      refine HOV.out.mono ?_
      rintro e w6 ⟨rfl, rfl⟩
      go_wp2_with fail
      exact bodyPost_ret (v := .agg #[.bool s3, .slice x1 n1 l1, .slice x2 n2 l2, .bool t3, .slice y1 m1 j1, .slice y2 m2 j2]) (by simp [results, Tryz.results107, go_sem, m00, m01, m02, m03, m04, m05]) rfl HE.out
    · have HE := Lib.hid (HFIN.out _ _ _ _ _ _ _ _ _ _ _ _ _ _ (vq_z w5) (vq_z w5))
      clear HFIN HVX HVY
      go_wp2_with fail
      refine HOV.out.mono ?_
      rintro e w6 ⟨rfl, rfl⟩
      go_wp2_with fail
      exact bodyPost_ret (v := .agg #[.bool false, .slice none 0 0, .slice none 0 0, .bool false, .slice none 0 0, .slice none 0 0]) (by simp [results, Tryz.results107, go_sem, m00, m01, m02, m03, m04, m05]) rfl HE.out
end Go.Proofs.YtomoemgoglghlaaGreatDoor

/-
  delta.byParts with ratio's Mul.
-/
set_option linter.unusedVariables false
set_option linter.unusedSimpArgs false
namespace Go.Proofs.YtomoemgoglghlaaGreatDoor
open Go.RowKit Rep


set_option maxRecDepth 100000 in
set_option maxHeartbeats 8000000 in
theorem byMul {w : World} {b m : Nat} {xs : Bool} {xa xb : Option Addr} {xl xc xk xe : Nat} {us : Bool} {ua ub : Option Addr} {ul uc uk ue : Nat} {ys : Bool} {ya yb : Option Addr} {yl yc yk ye : Nat} {vs : Bool} {va vb : Option Addr} {vl vc vk ve : Nat} {qa qb : Rat} {o1 o2 : Bool} (hb : b < w.heap.size) (h1 : First 22 w b m qa o1 (.agg #[.bool xs, .slice xa xl xc, .slice xb xk xe]) (.agg #[.bool ys, .slice ya yl yc, .slice yb yk ye])) (h2 : Second 22 w b m qa qb o1 o2 (.agg #[.bool us, .slice ua ul uc, .slice ub uk ue]) (.agg #[.bool vs, .slice va vl vc, .slice vb vk ve])) :
    Calls Tryz.prog 107 #[.pointer (some ⟨b, 0, none⟩), .func (.func 22) #[] #[], .agg #[.bool xs, .slice xa xl xc, .slice xb xk xe, .bool us, .slice ua ul uc, .slice ub uk ue], .agg #[.bool ys, .slice ya yl yc, .slice yb yk ye, .bool vs, .slice va vl vc, .slice vb vk ve]] w (GivesQQ b m o2 qa qb w) := by
  obtain ⟨W0, hW0, hB0, b0, b1, b2, hs⟩ := boxes3 w #[.bool xs, .slice xa xl xc, .slice xb xk xe, .bool us, .slice ua ul uc, .slice ub uk ue] #[.bool ys, .slice ya yl yc, .slice yb yk ye, .bool vs, .slice va vl vc, .slice vb vk ve] #[.bool false, .slice none 0 0, .slice none 0 0, .bool false, .slice none 0 0, .slice none 0 0] 70 70 70
  have HK : Hid (∀ W, W0.grownBy W (some b) → (W.cell? ⟨w.heap.size, 0, none⟩ = some (.bool xs) ∧ W.cell? ⟨w.heap.size, 1, none⟩ = some (.slice xa xl xc) ∧ W.cell? ⟨w.heap.size, 2, none⟩ = some (.slice xb xk xe) ∧ W.cell? ⟨w.heap.size, 3, none⟩ = some (.bool us) ∧ W.cell? ⟨w.heap.size, 4, none⟩ = some (.slice ua ul uc) ∧ W.cell? ⟨w.heap.size, 5, none⟩ = some (.slice ub uk ue) ∧ W.cell? ⟨w.heap.size + 1, 0, none⟩ = some (.bool ys) ∧ W.cell? ⟨w.heap.size + 1, 1, none⟩ = some (.slice ya yl yc) ∧ W.cell? ⟨w.heap.size + 1, 2, none⟩ = some (.slice yb yk ye) ∧ W.cell? ⟨w.heap.size + 1, 3, none⟩ = some (.bool vs) ∧ W.cell? ⟨w.heap.size + 1, 4, none⟩ = some (.slice va vl vc) ∧ W.cell? ⟨w.heap.size + 1, 5, none⟩ = some (.slice vb vk ve))) := Lib.hid fun W h => by
    obtain ⟨k0, k1, k2, k3, k4, k5, _⟩ := cells6 ((h.block _ (Array.getElem?_eq_some_iff.1 b0).1 (by simp; omega)).trans b0)
    obtain ⟨k6, k7, k8, k9, k10, k11, _⟩ := cells6 ((h.block _ (Array.getElem?_eq_some_iff.1 b1).1 (by simp; omega)).trans b1)
    exact ⟨k0, k1, k2, k3, k4, k5, k6, k7, k8, k9, k10, k11⟩
  have HR : Hid (∀ W, W0.grownBy W (some b) → Six W (w.heap.size + 1 + 1) 70) := Lib.hid fun W h => (h.block _ (Array.getElem?_eq_some_iff.1 b2).1 (by simp; omega)).trans b2
  have HWL : Hid (w.heap.size + 1 + 1 < W0.heap.size) := Lib.hid (by omega)
  have HN : Hid (b ≠ W0.heap.size ∧ W0.heap.size ≠ b) := Lib.hid (by omega)
  have HBN : Hid (b ≠ w.heap.size + 1 + 1 ∧ w.heap.size ≤ w.heap.size + 1 + 1) := Lib.hid (by omega)
  have HB0 := Lib.hid hB0
  have HW0 := Lib.hid hW0
  unfold First at h1
  unfold Second at h2
  have HF1 := Lib.hid h1
  have HS := Lib.hid h2
  have HDA := Lib.hid (h1 W0 W0.drew hB0 (below_drew W0))
  have HDB := Lib.hid (h1 W0 (W0.alloc (.cells #[.bool false, .slice none 0 0, .slice none 0 0, .bool false, .slice none 0 0, .slice none 0 0] 70)).drew hB0 (show Below W0.heap.size W0 (W0.alloc (.cells #[.bool false, .slice none 0 0, .slice none 0 0, .bool false, .slice none 0 0, .slice none 0 0] 70)).drew from Below.drewN' ((Below.refl W0.heap.size W0).alloc (Nat.le_refl _) (.cells #[.bool false, .slice none 0 0, .slice none 0 0, .bool false, .slice none 0 0, .slice none 0 0] 70)) 1))
  have HZB : Hid (Six (W0.alloc (.cells #[.bool false, .slice none 0 0, .slice none 0 0, .bool false, .slice none 0 0, .slice none 0 0] 70)).drew W0.heap.size 70) := Lib.hid (heap_alloc_new W0 _)
  obtain ⟨k0, k1, k2, k3, k4, k5, k6, k7, k8, k9, k10, k11⟩ := HK.out W0 (grown_refl _ _)
  obtain ⟨z0, z1, z2, z3⟩ := farG (W := W0) (b := b) HWL.out (grown_refl _ _)
  clear hW0 hB0 b0 b1 b2 hs h1 h2 hb
  go_enter Tryz.func107, Tryz.ntmps107
  go_wp2_with fail
  rw [← HW0.out]
  refine wp_region_ex (ι := Nat × RawR × RawR) (fun i => [(10, .func (.func 22) #[] #[]), (11, .pointer (some ⟨b, 0, none⟩)), (12, .pointer (some ⟨w.heap.size, 0, none⟩)), (13, .agg #[.bool xs, .slice xa xl xc, .slice xb xk xe]), (14, .pointer (some ⟨w.heap.size + 1, 0, none⟩)), (15, .agg #[.bool ys, .slice ya yl yc, .slice yb yk ye]),
    (16, .agg #[.bool i.2.1.1, .slice i.2.1.2.1.1 i.2.1.2.1.2.1 i.2.1.2.1.2.2, .slice i.2.1.2.2.1 i.2.1.2.2.2.1 i.2.1.2.2.2.2]), (17, .func (.func 22) #[] #[]), (18, .pointer (some ⟨b, 0, none⟩)), (19, .pointer (some ⟨w.heap.size, 3, none⟩)), (20, .agg #[.bool us, .slice ua ul uc, .slice ub uk ue]), (21, .pointer (some ⟨w.heap.size + 1, 3, none⟩)), (22, .agg #[.bool vs, .slice va vl vc, .slice vb vk ve]),
    (23, .agg #[.bool i.2.2.1, .slice i.2.2.2.1.1 i.2.2.2.1.2.1 i.2.2.2.1.2.2, .slice i.2.2.2.2.1 i.2.2.2.2.2.1 i.2.2.2.2.2.2]), (24, .agg #[.bool i.2.1.1, .slice i.2.1.2.1.1 i.2.1.2.1.2.1 i.2.1.2.1.2.2, .slice i.2.1.2.2.1 i.2.1.2.2.2.1 i.2.1.2.2.2.2, .bool i.2.2.1, .slice i.2.2.2.1.1 i.2.2.2.1.2.1 i.2.2.2.1.2.2, .slice i.2.2.2.2.1 i.2.2.2.2.2.1 i.2.2.2.2.2.2]), (9, .pointer (some ⟨i.1, 0, none⟩))]) (ByAt W0 b m qa qb o2) ?region ?rest
  case region =>
    go_region_held3 (fun w' => w'.cell? ⟨w.heap.size, 0, none⟩ = some (.bool xs) ∧ w'.cell? ⟨w.heap.size, 1, none⟩ = some (.slice xa xl xc) ∧ w'.cell? ⟨w.heap.size, 2, none⟩ = some (.slice xb xk xe) ∧ w'.cell? ⟨w.heap.size, 3, none⟩ = some (.bool us) ∧ w'.cell? ⟨w.heap.size, 4, none⟩ = some (.slice ua ul uc) ∧ w'.cell? ⟨w.heap.size, 5, none⟩ = some (.slice ub uk ue) ∧ w'.cell? ⟨w.heap.size + 1, 0, none⟩ = some (.bool ys) ∧ w'.cell? ⟨w.heap.size + 1, 1, none⟩ = some (.slice ya yl yc) ∧ w'.cell? ⟨w.heap.size + 1, 2, none⟩ = some (.slice yb yk ye) ∧ w'.cell? ⟨w.heap.size + 1, 3, none⟩ = some (.bool vs) ∧ w'.cell? ⟨w.heap.size + 1, 4, none⟩ = some (.slice va vl vc) ∧ w'.cell? ⟨w.heap.size + 1, 5, none⟩ = some (.slice vb vk ve)) (first | with_reducible exact HK.out _ hg4 | with_reducible exact HK.out _ hga | with_reducible exact HK.out _ hgb | go_keep)
      (first
        | (go_at_call 22; (with_reducible refine HDA.out.mono ?_); rintro e wa ⟨ra, a1, a2, a3, a4, a5, a6, rfl, HTA, HGA⟩; have hga := HTA.out.grown; obtain ⟨e00, e01, e02, e03, e04, e05, e06, e07, e08, e09, e10, e11⟩ := HK.out _ hga; obtain ⟨u0, u1, u2, u3⟩ := farG HWL.out hga)
        | (go_at_call 22; (with_reducible refine HDB.out.mono ?_); rintro e wb ⟨rb, a1, a2, a3, a4, a5, a6, rfl, HTB, HGB⟩; have hgb := HTB.out.grown; obtain ⟨e00, e01, e02, e03, e04, e05, e06, e07, e08, e09, e10, e11⟩ := HK.out _ hgb; obtain ⟨u0, u1, u2, u3⟩ := farG HWL.out hgb; have HBB := Lib.hid (HZB.out.grown HGB.out HN.out.2))
        | (go_at_call 22; (with_reducible refine (HS.out _ _ _ _ HB0.out HTA.out (Below.refl _ _)).mono ?_); rintro e w4 ⟨r4, c1, c2, c3, c4, c5, c6, rfl, H2, HG4⟩; have hg4 := H2.out.grown; obtain ⟨c00, c01, c02, c03, c04, c05, c06, c07, c08, c09, c10, c11⟩ := HK.out _ hg4; obtain ⟨o0, o1, o2, o3⟩ := farG HWL.out hg4; have HF := Lib.hid H2.out.endA)
        | (go_at_call 22; (with_reducible refine (HS.out _ _ _ _ HB0.out HTA.out ((Below.refl wa.heap.size wa).alloc (Nat.le_refl _) (.cells #[.bool false, .slice none 0 0, .slice none 0 0, .bool false, .slice none 0 0, .slice none 0 0] 70))).mono ?_); rintro e w4 ⟨r4, c1, c2, c3, c4, c5, c6, rfl, H2, HG4⟩; have hg4 := H2.out.grown; obtain ⟨c00, c01, c02, c03, c04, c05, c06, c07, c08, c09, c10, c11⟩ := HK.out _ hg4; obtain ⟨o0, o1, o2, o3⟩ := farG HWL.out hg4; have HX1 := Lib.hid (Six.grown (show Six (wa.alloc (.cells #[.bool false, .slice none 0 0, .slice none 0 0, .bool false, .slice none 0 0, .slice none 0 0] 70)) wa.heap.size 70 from heap_alloc_new wa _) HG4.out (Ne.symm (Nat.ne_of_lt HTA.out.bench.lt))); have hf := H2.out.endB HX1.out HTA.out.grown.size (Nat.ne_of_lt HTA.out.bench.lt); dsimp only [Go.Proofs.YtomoemgoglghlaaGreatDoor.set6] at hf; have HF := Lib.hid hf; clear hf; obtain ⟨g0, g1, g2, g3, g4, g5, g6, g7, g8, g9, g10, g11⟩ := cells6 HX1.out)
        | (go_at_call 22; (with_reducible refine (HS.out _ _ _ _ HB0.out HTB.out (Below.refl _ _)).mono ?_); rintro e w4 ⟨r4, c1, c2, c3, c4, c5, c6, rfl, H2, HG4⟩; have hg4 := H2.out.grown; obtain ⟨c00, c01, c02, c03, c04, c05, c06, c07, c08, c09, c10, c11⟩ := HK.out _ hg4; obtain ⟨o0, o1, o2, o3⟩ := farG HWL.out hg4; have HX1 := Lib.hid (HBB.out.grown HG4.out HN.out.2); have hf := H2.out.endB HX1.out (Nat.le_refl _) HN.out.1; dsimp only [Go.Proofs.YtomoemgoglghlaaGreatDoor.set6] at hf; have HF := Lib.hid hf; clear hf; obtain ⟨g0, g1, g2, g3, g4, g5, g6, g7, g8, g9, g10, g11⟩ := cells6 HX1.out))
    all_goals
      refine OnlyEx.mk' ?_
      with_reducible refine ⟨_, ?_, HF.out⟩
      simp only [puts, Act.put, List.setIfInBounds_toArray, List.set_cons_zero, List.set_cons_succ]
      done
  case rest =>
    rintro ⟨g, ⟨s3, ⟨x1, n1, l1⟩, ⟨x2, n2, l2⟩⟩, ⟨t3, ⟨y1, m1, j1⟩, ⟨y2, m2, j2⟩⟩⟩ w5 hF
    obtain ⟨hl, hS⟩ := hF
    dsimp only at hl hS
    obtain ⟨i0, i1, i2, i3, i4, i5, _⟩ := cells6 hl
    obtain ⟨m00, m01, m02, m03, m04, m05, q00, q01, q02, q03, q04, q05⟩ := cells6 (HR.out _ hS.grown)
    have HOV := Lib.hid (over_any w5 b m o2 hS.bench)
    have HFIN : Hid (∀ s z1 m1 k1 z2 m2 k2 t y1 n1 j1 y2 n2 j2, VQ (if o2 = true then 0 else qa) (s, (z1, m1, k1), (z2, m2, k2)) w5 → VQ (if o2 = true then 0 else qb) (t, (y1, n1, j1), (y2, n2, j2)) w5 → _) := Lib.hid fun s z1 m1 k1 z2 m2 k2 t y1 n1 j1 y2 n2 j2 => fin_by HB0.out HBN.out.2 (HR.out _ hS.grown) HBN.out.1 hS.grown hS.bench
    have HVX := Lib.hid hS.vx
    have HVY := Lib.hid hS.vy
    clear hl hS HDA HDB HZB HK HR HF1 HS HB0 HW0 HWL HN HBN k0 k1 k2 k3 k4 k5 k6 k7 k8 k9 k10 k11 z0 z1 z2 z3
    simp only [puts, Act.put, List.setIfInBounds_toArray, List.set_cons_zero, List.set_cons_succ]
    cases o2
    · have HE := Lib.hid (HFIN.out _ _ _ _ _ _ _ _ _ _ _ _ _ _ HVX.out HVY.out)
      clear HFIN HVX HVY
      go_wp2_with fail
      refine HOV.out.mono ?_
      rintro e w6 ⟨rfl, rfl⟩
      go_wp2_with fail
      exact bodyPost_ret (v := .agg #[.bool s3, .slice x1 n1 l1, .slice x2 n2 l2, .bool t3, .slice y1 m1 j1, .slice y2 m2 j2]) (by simp [results, Tryz.results107, go_sem, m00, m01, m02, m03, m04, m05]) rfl HE.out
    · have HE := Lib.hid (HFIN.out _ _ _ _ _ _ _ _ _ _ _ _ _ _ (vq_z w5) (vq_z w5))
      clear HFIN HVX HVY
      go_wp2_with fail
      refine HOV.out.mono ?_
      rintro e w6 ⟨rfl, rfl⟩
      go_wp2_with fail
      exact bodyPost_ret (v := .agg #[.bool false, .slice none 0 0, .slice none 0 0, .bool false, .slice none 0 0, .slice none 0 0]) (by simp [results, Tryz.results107, go_sem, m00, m01, m02, m03, m04, m05]) rfl HE.out
end Go.Proofs.YtomoemgoglghlaaGreatDoor

/-
  delta.Add, Sub and Scale.
-/
set_option linter.unusedVariables false
set_option linter.unusedSimpArgs false
namespace Go.Proofs.YtomoemgoglghlaaGreatDoor
open Go.RowKit Rep


theorem out_if {m : Nat} {q : Rat} {o : Bool} (h : o = false → ovQ m q = false) : (if o = true then (0 : Rat) else outQ m q) = if o = true then 0 else q := by
  cases o
  · have := h rfl
    unfold outQ
    simp [this]
  · rfl
theorem GivesQQ.through {b m r : Nat} {o : Bool} {q p : Rat} {w W W' : World} {e : Ending} (h : GivesQQ b m o q p W e W') (hB0 : Below w.heap.size w W) (hr : w.heap.size ≤ r) (hb : Six W r 70) (hne : b ≠ r) :
    ∃ s z1 m1 k1 z2 m2 k2 t y1 n1 j1 y2 n2 j2, e = .returned (.agg #[.bool s, .slice z1 m1 k1, .slice z2 m2 k2, .bool t, .slice y1 n1 j1, .slice y2 n2 j2]) ∧ Hid (Six W' r 70) ∧
      Hid (GivesQQ b m o q p w (.returned (.agg #[.bool s, .slice z1 m1 k1, .slice z2 m2 k2, .bool t, .slice y1 n1 j1, .slice y2 n2 j2])) (set6 W' r s (.slice z1 m1 k1) (.slice z2 m2 k2) t (.slice y1 n1 j1) (.slice y2 n2 j2))) := by
  obtain ⟨s, z1, m1, k1, z2, m2, k2, t, y1, n1, j1, y2, n2, j2, rfl, h1, h2, h3, h4⟩ := h
  have hs := hb.grown h4.out (Ne.symm hne)
  exact ⟨s, z1, m1, k1, z2, m2, k2, t, y1, n1, j1, y2, n2, j2, rfl, Lib.hid hs, Lib.hid (fin_by hB0 hr hs hne h4.out h3.out h1.out h2.out)⟩

theorem firstAdd {w : World} {b m : Nat} {xs : Bool} {xa xb : Option Addr} {xl xc xk xe : Nat} {ys : Bool} {ya yb : Option Addr} {yl yc yk ye : Nat} {q q' : Rat} (hb : Bench w b m false) (hT : Tab w) (hx : VQ q (xs, (xa, xl, xc), (xb, xk, xe)) w) (hy : VQ q' (ys, (ya, yl, yc), (yb, yk, ye)) w) (zq : szQ q ≤ 100) (zq' : szQ q' ≤ 100) :
    First 16 w b m (outQ m (q + q')) (ovQ m (q + q')) (.agg #[.bool xs, .slice xa xl xc, .slice xb xk xe]) (.agg #[.bool ys, .slice ya yl yc, .slice yb yk ye]) := by
  intro V W hV hW
  have hb2 := hV.trans (hW.mono hV.size)
  refine (Add_q (hb.kept hb2) (hT.kept hb2) ((hx.kept hb2).ratx zq) ((hy.kept hb2).ratx zq')).mono ?_
  rintro e W' ⟨a1, c1, a2, c2, rfl, hat, hbe, hg⟩
  exact ⟨_, a1, _, c1, a2, _, c2, rfl, Lib.hid ⟨⟨rfl, rfl, rfl, hat⟩, hbe, grownBy_trans' (grown_of_below hW _) hg⟩, Lib.hid hg⟩
theorem secondAdd {w : World} {b m : Nat} {xs : Bool} {xa xb : Option Addr} {xl xc xk xe : Nat} {ys : Bool} {ya yb : Option Addr} {yl yc yk ye : Nat} {p q q' : Rat} {o : Bool} (hb : Bench w b m false) (hT : Tab w) (hx : VQ q (xs, (xa, xl, xc), (xb, xk, xe)) w) (hy : VQ q' (ys, (ya, yl, yc), (yb, yk, ye)) w) (zq : szQ q ≤ 100) (zq' : szQ q' ≤ 100) :
    Second 16 w b m p (if o = true then 0 else outQ m (q + q')) o (o || ovQ m (q + q')) (.agg #[.bool xs, .slice xa xl xc, .slice xb xk xe]) (.agg #[.bool ys, .slice ya yl yc, .slice yb yk ye]) := by
  intro V W3 W x hV hS hW
  have hS2 := hS.kept hW
  cases o
  · have hbV := hb.kept hV
    have hT2 := ((hT.kept hV).bench hbV hS.grown).kept hW
    have hx2 := ((hx.kept hV).bench hbV hS.grown).kept hW
    have hy2 := ((hy.kept hV).bench hbV hS.grown).kept hW
    refine (Add_q hS2.bench hT2 (hx2.ratx zq) (hy2.ratx zq')).mono ?_
    rintro e W' ⟨a1, c1, a2, c2, rfl, hat, hbe, hg⟩
    exact ⟨_, a1, _, c1, a2, _, c2, rfl, Lib.hid ⟨hS2.vx.bench hS2.bench hg, ⟨rfl, rfl, rfl, hat⟩, by simpa using hbe, grownBy_trans' hS2.grown hg⟩, Lib.hid hg⟩
  · refine (AddQ_over hS2.bench _ _ _ _ _ _ _ _ _ _ _ _ _ _).mono ?_
    rintro e W' ⟨rfl, hg⟩
    exact ⟨_, _, _, _, _, _, _, rfl, Lib.hid ⟨hS2.vx.kept hg, vq_z W', by simpa using hS2.bench.kept hg, grownBy_trans' hS2.grown (grown_of_below hg _)⟩, Lib.hid (grown_of_below hg _)⟩

theorem firstSub {w : World} {b m : Nat} {xs : Bool} {xa xb : Option Addr} {xl xc xk xe : Nat} {ys : Bool} {ya yb : Option Addr} {yl yc yk ye : Nat} {q q' : Rat} (hb : Bench w b m false) (hT : Tab w) (hx : VQ q (xs, (xa, xl, xc), (xb, xk, xe)) w) (hy : VQ q' (ys, (ya, yl, yc), (yb, yk, ye)) w) (zq : szQ q ≤ 100) (zq' : szQ q' ≤ 100) :
    First 19 w b m (outQ m (q - q')) (ovQ m (q - q')) (.agg #[.bool xs, .slice xa xl xc, .slice xb xk xe]) (.agg #[.bool ys, .slice ya yl yc, .slice yb yk ye]) := by
  intro V W hV hW
  have hb2 := hV.trans (hW.mono hV.size)
  refine (Sub_q (hb.kept hb2) (hT.kept hb2) ((hx.kept hb2).ratx zq) ((hy.kept hb2).ratx zq')).mono ?_
  rintro e W' ⟨a1, c1, a2, c2, rfl, hat, hbe, hg⟩
  exact ⟨_, a1, _, c1, a2, _, c2, rfl, Lib.hid ⟨⟨rfl, rfl, rfl, hat⟩, hbe, grownBy_trans' (grown_of_below hW _) hg⟩, Lib.hid hg⟩
theorem secondSub {w : World} {b m : Nat} {xs : Bool} {xa xb : Option Addr} {xl xc xk xe : Nat} {ys : Bool} {ya yb : Option Addr} {yl yc yk ye : Nat} {p q q' : Rat} {o : Bool} (hb : Bench w b m false) (hT : Tab w) (hx : VQ q (xs, (xa, xl, xc), (xb, xk, xe)) w) (hy : VQ q' (ys, (ya, yl, yc), (yb, yk, ye)) w) (zq : szQ q ≤ 100) (zq' : szQ q' ≤ 100) :
    Second 19 w b m p (if o = true then 0 else outQ m (q - q')) o (o || ovQ m (q - q')) (.agg #[.bool xs, .slice xa xl xc, .slice xb xk xe]) (.agg #[.bool ys, .slice ya yl yc, .slice yb yk ye]) := by
  intro V W3 W x hV hS hW
  have hS2 := hS.kept hW
  cases o
  · have hbV := hb.kept hV
    have hT2 := ((hT.kept hV).bench hbV hS.grown).kept hW
    have hx2 := ((hx.kept hV).bench hbV hS.grown).kept hW
    have hy2 := ((hy.kept hV).bench hbV hS.grown).kept hW
    refine (Sub_q hS2.bench hT2 (hx2.ratx zq) (hy2.ratx zq')).mono ?_
    rintro e W' ⟨a1, c1, a2, c2, rfl, hat, hbe, hg⟩
    exact ⟨_, a1, _, c1, a2, _, c2, rfl, Lib.hid ⟨hS2.vx.bench hS2.bench hg, ⟨rfl, rfl, rfl, hat⟩, by simpa using hbe, grownBy_trans' hS2.grown hg⟩, Lib.hid hg⟩
  · refine (SubQ_over hS2.bench _ _ _ _ _ _ _ _ _ _ _ _ _ _).mono ?_
    rintro e W' ⟨rfl, hg⟩
    exact ⟨_, _, _, _, _, _, _, rfl, Lib.hid ⟨hS2.vx.kept hg, vq_z W', by simpa using hS2.bench.kept hg, grownBy_trans' hS2.grown (grown_of_below hg _)⟩, Lib.hid (grown_of_below hg _)⟩

theorem firstMul {w : World} {b m : Nat} {xs : Bool} {xa xb : Option Addr} {xl xc xk xe : Nat} {ys : Bool} {ya yb : Option Addr} {yl yc yk ye : Nat} {q q' : Rat} (hb : Bench w b m false) (hT : Tab w) (hx : VQ q (xs, (xa, xl, xc), (xb, xk, xe)) w) (hy : VQ q' (ys, (ya, yl, yc), (yb, yk, ye)) w) (zq : szQ q ≤ 100) (zq' : szQ q' ≤ 100) :
    First 22 w b m (outQ m (q * q')) (ovQ m (q * q')) (.agg #[.bool xs, .slice xa xl xc, .slice xb xk xe]) (.agg #[.bool ys, .slice ya yl yc, .slice yb yk ye]) := by
  intro V W hV hW
  have hb2 := hV.trans (hW.mono hV.size)
  refine (Mul_q (hb.kept hb2) (hT.kept hb2) ((hx.kept hb2).ratx zq) ((hy.kept hb2).ratx zq')).mono ?_
  rintro e W' ⟨a1, c1, a2, c2, rfl, hat, hbe, hg⟩
  exact ⟨_, a1, _, c1, a2, _, c2, rfl, Lib.hid ⟨⟨rfl, rfl, rfl, hat⟩, hbe, grownBy_trans' (grown_of_below hW _) hg⟩, Lib.hid hg⟩
theorem secondMul {w : World} {b m : Nat} {xs : Bool} {xa xb : Option Addr} {xl xc xk xe : Nat} {ys : Bool} {ya yb : Option Addr} {yl yc yk ye : Nat} {p q q' : Rat} {o : Bool} (hb : Bench w b m false) (hT : Tab w) (hx : VQ q (xs, (xa, xl, xc), (xb, xk, xe)) w) (hy : VQ q' (ys, (ya, yl, yc), (yb, yk, ye)) w) (zq : szQ q ≤ 100) (zq' : szQ q' ≤ 100) :
    Second 22 w b m p (if o = true then 0 else outQ m (q * q')) o (o || ovQ m (q * q')) (.agg #[.bool xs, .slice xa xl xc, .slice xb xk xe]) (.agg #[.bool ys, .slice ya yl yc, .slice yb yk ye]) := by
  intro V W3 W x hV hS hW
  have hS2 := hS.kept hW
  cases o
  · have hbV := hb.kept hV
    have hT2 := ((hT.kept hV).bench hbV hS.grown).kept hW
    have hx2 := ((hx.kept hV).bench hbV hS.grown).kept hW
    have hy2 := ((hy.kept hV).bench hbV hS.grown).kept hW
    refine (Mul_q hS2.bench hT2 (hx2.ratx zq) (hy2.ratx zq')).mono ?_
    rintro e W' ⟨a1, c1, a2, c2, rfl, hat, hbe, hg⟩
    exact ⟨_, a1, _, c1, a2, _, c2, rfl, Lib.hid ⟨hS2.vx.bench hS2.bench hg, ⟨rfl, rfl, rfl, hat⟩, by simpa using hbe, grownBy_trans' hS2.grown hg⟩, Lib.hid hg⟩
  · refine (MulQ_over hS2.bench _ _ _ _ _ _ _ _ _ _ _ _ _ _).mono ?_
    rintro e W' ⟨rfl, hg⟩
    exact ⟨_, _, _, _, _, _, _, rfl, Lib.hid ⟨hS2.vx.kept hg, vq_z W', by simpa using hS2.bench.kept hg, grownBy_trans' hS2.grown (grown_of_below hg _)⟩, Lib.hid (grown_of_below hg _)⟩

set_option maxRecDepth 100000 in
set_option maxHeartbeats 4000000 in
theorem DelAdd {w : World} {b m : Nat} {xs : Bool} {xa xb : Option Addr} {xl xc xk xe : Nat} {us : Bool} {ua ub : Option Addr} {ul uc uk ue : Nat} {ys : Bool} {ya yb : Option Addr} {yl yc yk ye : Nat} {vs : Bool} {va vb : Option Addr} {vl vc vk ve : Nat} {q r q' r' : Rat} (hb : Bench w b m false) (hT : Tab w) (hx : VQ q (xs, (xa, xl, xc), (xb, xk, xe)) w) (hu : VQ r (us, (ua, ul, uc), (ub, uk, ue)) w) (hy : VQ q' (ys, (ya, yl, yc), (yb, yk, ye)) w) (hv : VQ r' (vs, (va, vl, vc), (vb, vk, ve)) w) (zq : szQ q ≤ 100) (zr : szQ r ≤ 100) (zq' : szQ q' ≤ 100) (zr' : szQ r' ≤ 100) :
    Calls Tryz.prog 57 #[.pointer (some ⟨b, 0, none⟩), .agg #[.bool xs, .slice xa xl xc, .slice xb xk xe, .bool us, .slice ua ul uc, .slice ub uk ue], .agg #[.bool ys, .slice ya yl yc, .slice yb yk ye, .bool vs, .slice va vl vc, .slice vb vk ve]] w (GivesQQ b m (ovQ m (q + q') || ovQ m (r + r')) (q + q') (r + r') w) := by
  obtain ⟨W0, hW0, hB0, b0, b1, b2, hs⟩ := boxes3 w #[.bool xs, .slice xa xl xc, .slice xb xk xe, .bool us, .slice ua ul uc, .slice ub uk ue] #[.bool ys, .slice ya yl yc, .slice yb yk ye, .bool vs, .slice va vl vc, .slice vb vk ve] #[.bool false, .slice none 0 0, .slice none 0 0, .bool false, .slice none 0 0, .slice none 0 0] 70 70 70
  have hbl := hb.lt
  have HC := Lib.hid (byAdd (hb.kept hB0).lt (firstAdd (hb.kept hB0) (hT.kept hB0) (hx.kept hB0) (hy.kept hB0) zq zq') (secondAdd (hb.kept hB0) (hT.kept hB0) (hu.kept hB0) (hv.kept hB0) zr zr'))
  have HTH : Hid (∀ e W', GivesQQ b m (ovQ m (q + q') || ovQ m (r + r')) (q + q') (r + r') W0 e W' → _) := Lib.hid fun e W' hg => hg.through hB0 (by omega : w.heap.size ≤ w.heap.size + 1 + 1) b2 (by omega)
  have HEQ : Hid (∀ e W', GivesQQ b m (ovQ m (q + q') || ovQ m (r + r')) (outQ m (q + q')) (if ovQ m (q + q') = true then 0 else outQ m (r + r')) W0 e W' → GivesQQ b m (ovQ m (q + q') || ovQ m (r + r')) (q + q') (r + r') W0 e W') := Lib.hid fun e W' hg => by
    have e1 : (if (ovQ m (q + q') || ovQ m (r + r')) = true then (0 : Rat) else outQ m (q + q')) = if (ovQ m (q + q') || ovQ m (r + r')) = true then 0 else (q + q') := out_if fun h => (Bool.or_eq_false_iff.1 h).1
    have e2 : (if (ovQ m (q + q') || ovQ m (r + r')) = true then (0 : Rat) else (if ovQ m (q + q') = true then 0 else outQ m (r + r'))) = if (ovQ m (q + q') || ovQ m (r + r')) = true then 0 else (r + r') := by
      cases h1 : ovQ m (q + q')
      · rw [Bool.false_or, if_neg (by decide : ¬ (false = true))]
        exact out_if fun h => h
      · rfl
    unfold GivesQQ at hg ⊢
    rw [e1, e2] at hg
    exact hg
  have HW0 := Lib.hid hW0
  obtain ⟨k0, k1, k2, k3, k4, k5, _⟩ := cells6 b0
  obtain ⟨k6, k7, k8, k9, k10, k11, _⟩ := cells6 b1
  obtain ⟨m0, m1, m2, m3, m4, m5, n0, n1, n2, n3, n4, n5⟩ := cells6 b2
  clear hW0 hB0 b0 b1 b2 hs hx hu hy hv zq zr zq' zr' hb hT hbl
  go_enter Tryz.func57, Tryz.ntmps57
  go_wp2_with fail
  rw [← HW0.out]
  refine HC.out.mono ?_
  intro e w1 hg
  obtain ⟨s, z1, l1, e1, z2, l2, e2, t, y1, j1, g1, y2, j2, g2, rfl, HS, HG⟩ := HTH.out e w1 (HEQ.out e w1 hg)
  obtain ⟨m0, m1, m2, m3, m4, m5, n0, n1, n2, n3, n4, n5⟩ := cells6 HS.out
  clear hg HTH HEQ HC HW0 HS k0 k1 k2 k3 k4 k5 k6 k7 k8 k9 k10 k11
  go_wp2_with fail
  exact bodyPost_ret (v := .agg #[.bool s, .slice z1 l1 e1, .slice z2 l2 e2, .bool t, .slice y1 j1 g1, .slice y2 j2 g2]) (by simp [results, Tryz.results57, go_sem, m0, m1, m2, m3, m4, m5]) rfl HG.out

set_option maxRecDepth 100000 in
set_option maxHeartbeats 4000000 in
theorem DelSub {w : World} {b m : Nat} {xs : Bool} {xa xb : Option Addr} {xl xc xk xe : Nat} {us : Bool} {ua ub : Option Addr} {ul uc uk ue : Nat} {ys : Bool} {ya yb : Option Addr} {yl yc yk ye : Nat} {vs : Bool} {va vb : Option Addr} {vl vc vk ve : Nat} {q r q' r' : Rat} (hb : Bench w b m false) (hT : Tab w) (hx : VQ q (xs, (xa, xl, xc), (xb, xk, xe)) w) (hu : VQ r (us, (ua, ul, uc), (ub, uk, ue)) w) (hy : VQ q' (ys, (ya, yl, yc), (yb, yk, ye)) w) (hv : VQ r' (vs, (va, vl, vc), (vb, vk, ve)) w) (zq : szQ q ≤ 100) (zr : szQ r ≤ 100) (zq' : szQ q' ≤ 100) (zr' : szQ r' ≤ 100) :
    Calls Tryz.prog 60 #[.pointer (some ⟨b, 0, none⟩), .agg #[.bool xs, .slice xa xl xc, .slice xb xk xe, .bool us, .slice ua ul uc, .slice ub uk ue], .agg #[.bool ys, .slice ya yl yc, .slice yb yk ye, .bool vs, .slice va vl vc, .slice vb vk ve]] w (GivesQQ b m (ovQ m (q - q') || ovQ m (r - r')) (q - q') (r - r') w) := by
  obtain ⟨W0, hW0, hB0, b0, b1, b2, hs⟩ := boxes3 w #[.bool xs, .slice xa xl xc, .slice xb xk xe, .bool us, .slice ua ul uc, .slice ub uk ue] #[.bool ys, .slice ya yl yc, .slice yb yk ye, .bool vs, .slice va vl vc, .slice vb vk ve] #[.bool false, .slice none 0 0, .slice none 0 0, .bool false, .slice none 0 0, .slice none 0 0] 70 70 70
  have hbl := hb.lt
  have HC := Lib.hid (bySub (hb.kept hB0).lt (firstSub (hb.kept hB0) (hT.kept hB0) (hx.kept hB0) (hy.kept hB0) zq zq') (secondSub (hb.kept hB0) (hT.kept hB0) (hu.kept hB0) (hv.kept hB0) zr zr'))
  have HTH : Hid (∀ e W', GivesQQ b m (ovQ m (q - q') || ovQ m (r - r')) (q - q') (r - r') W0 e W' → _) := Lib.hid fun e W' hg => hg.through hB0 (by omega : w.heap.size ≤ w.heap.size + 1 + 1) b2 (by omega)
  have HEQ : Hid (∀ e W', GivesQQ b m (ovQ m (q - q') || ovQ m (r - r')) (outQ m (q - q')) (if ovQ m (q - q') = true then 0 else outQ m (r - r')) W0 e W' → GivesQQ b m (ovQ m (q - q') || ovQ m (r - r')) (q - q') (r - r') W0 e W') := Lib.hid fun e W' hg => by
    have e1 : (if (ovQ m (q - q') || ovQ m (r - r')) = true then (0 : Rat) else outQ m (q - q')) = if (ovQ m (q - q') || ovQ m (r - r')) = true then 0 else (q - q') := out_if fun h => (Bool.or_eq_false_iff.1 h).1
    have e2 : (if (ovQ m (q - q') || ovQ m (r - r')) = true then (0 : Rat) else (if ovQ m (q - q') = true then 0 else outQ m (r - r'))) = if (ovQ m (q - q') || ovQ m (r - r')) = true then 0 else (r - r') := by
      cases h1 : ovQ m (q - q')
      · rw [Bool.false_or, if_neg (by decide : ¬ (false = true))]
        exact out_if fun h => h
      · rfl
    unfold GivesQQ at hg ⊢
    rw [e1, e2] at hg
    exact hg
  have HW0 := Lib.hid hW0
  obtain ⟨k0, k1, k2, k3, k4, k5, _⟩ := cells6 b0
  obtain ⟨k6, k7, k8, k9, k10, k11, _⟩ := cells6 b1
  obtain ⟨m0, m1, m2, m3, m4, m5, n0, n1, n2, n3, n4, n5⟩ := cells6 b2
  clear hW0 hB0 b0 b1 b2 hs hx hu hy hv zq zr zq' zr' hb hT hbl
  go_enter Tryz.func60, Tryz.ntmps60
  go_wp2_with fail
  rw [← HW0.out]
  refine HC.out.mono ?_
  intro e w1 hg
  obtain ⟨s, z1, l1, e1, z2, l2, e2, t, y1, j1, g1, y2, j2, g2, rfl, HS, HG⟩ := HTH.out e w1 (HEQ.out e w1 hg)
  obtain ⟨m0, m1, m2, m3, m4, m5, n0, n1, n2, n3, n4, n5⟩ := cells6 HS.out
  clear hg HTH HEQ HC HW0 HS k0 k1 k2 k3 k4 k5 k6 k7 k8 k9 k10 k11
  go_wp2_with fail
  exact bodyPost_ret (v := .agg #[.bool s, .slice z1 l1 e1, .slice z2 l2 e2, .bool t, .slice y1 j1 g1, .slice y2 j2 g2]) (by simp [results, Tryz.results60, go_sem, m0, m1, m2, m3, m4, m5]) rfl HG.out

set_option maxRecDepth 100000 in
set_option maxHeartbeats 4000000 in
theorem DelScale {w : World} {b m : Nat} {ys : Bool} {ya yb : Option Addr} {yl yc yk ye : Nat} {xs : Bool} {xa xb : Option Addr} {xl xc xk xe : Nat} {us : Bool} {ua ub : Option Addr} {ul uc uk ue : Nat} {k q r : Rat} (hb : Bench w b m false) (hT : Tab w) (hy : VQ k (ys, (ya, yl, yc), (yb, yk, ye)) w) (hx : VQ q (xs, (xa, xl, xc), (xb, xk, xe)) w) (hu : VQ r (us, (ua, ul, uc), (ub, uk, ue)) w) (zk : szQ k ≤ 100) (zq : szQ q ≤ 100) (zr : szQ r ≤ 100) :
    Calls Tryz.prog 63 #[.pointer (some ⟨b, 0, none⟩), .agg #[.bool ys, .slice ya yl yc, .slice yb yk ye], .agg #[.bool xs, .slice xa xl xc, .slice xb xk xe, .bool us, .slice ua ul uc, .slice ub uk ue]] w (GivesQQ b m (ovQ m (k * q) || ovQ m (k * r)) (k * q) (k * r) w) := by
  obtain ⟨W0, hW0, hB0, b0, b1, b2, hs⟩ := boxes3 w #[.bool ys, .slice ya yl yc, .slice yb yk ye] #[.bool xs, .slice xa xl xc, .slice xb xk xe, .bool us, .slice ua ul uc, .slice ub uk ue] #[.bool false, .slice none 0 0, .slice none 0 0, .bool false, .slice none 0 0, .slice none 0 0] 27 70 70
  have hbl := hb.lt
  have HC := Lib.hid (byMul (hb.kept hB0).lt (firstMul (hb.kept hB0) (hT.kept hB0) (hy.kept hB0) (hx.kept hB0) zk zq) (secondMul (hb.kept hB0) (hT.kept hB0) (hy.kept hB0) (hu.kept hB0) zk zr))
  have HTH : Hid (∀ e W', GivesQQ b m (ovQ m (k * q) || ovQ m (k * r)) (k * q) (k * r) W0 e W' → _) := Lib.hid fun e W' hg => hg.through hB0 (by omega : w.heap.size ≤ w.heap.size + 1 + 1) b2 (by omega)
  have HEQ : Hid (∀ e W', GivesQQ b m (ovQ m (k * q) || ovQ m (k * r)) (outQ m (k * q)) (if ovQ m (k * q) = true then 0 else outQ m (k * r)) W0 e W' → GivesQQ b m (ovQ m (k * q) || ovQ m (k * r)) (k * q) (k * r) W0 e W') := Lib.hid fun e W' hg => by
    have e1 : (if (ovQ m (k * q) || ovQ m (k * r)) = true then (0 : Rat) else outQ m (k * q)) = if (ovQ m (k * q) || ovQ m (k * r)) = true then 0 else (k * q) := out_if fun h => (Bool.or_eq_false_iff.1 h).1
    have e2 : (if (ovQ m (k * q) || ovQ m (k * r)) = true then (0 : Rat) else (if ovQ m (k * q) = true then 0 else outQ m (k * r))) = if (ovQ m (k * q) || ovQ m (k * r)) = true then 0 else (k * r) := by
      cases h1 : ovQ m (k * q)
      · rw [Bool.false_or, if_neg (by decide : ¬ (false = true))]
        exact out_if fun h => h
      · rfl
    unfold GivesQQ at hg ⊢
    rw [e1, e2] at hg
    exact hg
  have HW0 := Lib.hid hW0
  obtain ⟨k0, k1, k2, _⟩ := cells3 b0
  obtain ⟨k6, k7, k8, k9, k10, k11, _⟩ := cells6 b1
  obtain ⟨m0, m1, m2, m3, m4, m5, n0, n1, n2, n3, n4, n5⟩ := cells6 b2
  clear hW0 hB0 b0 b1 b2 hs hy hx hu zk zq zr hb hT hbl
  go_enter Tryz.func63, Tryz.ntmps63
  go_wp2_with fail
  rw [← HW0.out]
  refine HC.out.mono ?_
  intro e w1 hg
  obtain ⟨s, z1, l1, e1, z2, l2, e2, t, y1, j1, g1, y2, j2, g2, rfl, HS, HG⟩ := HTH.out e w1 (HEQ.out e w1 hg)
  obtain ⟨m0, m1, m2, m3, m4, m5, n0, n1, n2, n3, n4, n5⟩ := cells6 HS.out
  clear hg HTH HEQ HC HW0 HS k0 k1 k2 k6 k7 k8 k9 k10 k11
  go_wp2_with fail
  exact bodyPost_ret (v := .agg #[.bool s, .slice z1 l1 e1, .slice z2 l2 e2, .bool t, .slice y1 j1 g1, .slice y2 j2 g2]) (by simp [results, Tryz.results63, go_sem, m0, m1, m2, m3, m4, m5]) rfl HG.out
end Go.Proofs.YtomoemgoglghlaaGreatDoor
