/- By program out of: RatTolds3, RatTolds4, RatToldWalk. -/
import Derived.Test.YtomoemgoglghlaaGreatDoorMccgjlc
/-
  The ratio laws' helper told, with a further closure.
-/
set_option linter.unusedVariables false
set_option linter.unusedSimpArgs false
namespace Go.Proofs.YtomoemgoglghlaaGreatDoor
open Go.RowKit Rep

set_option maxRecDepth 100000 in
set_option maxHeartbeats 16000000 in
theorem told02_3 {w : World} {n : Int} {q : Rat} {cv cu : Value} {a1 a2 : Option Addr} {c1 c2 : Nat} (hn : n ≤ 9223372036854775807) (hq : DgQ w a1 c1 a2 c2 q) (hl1 : (D (mgQ q)).length ≤ 1000000) (hl2 : (D q.den).length ≤ 1000000) (hs : szQ q ≤ 10000)
    (hdo : ∀ (m : Nat) (W : World) (b : Nat), max n 1 = (m : Int) → m ≤ maxLen → Below w.heap.size w W → Bench W b m false → w.heap.size ≤ b → Calls Tryz.prog 21 #[.pointer (some ⟨b, 0, none⟩), cv, cu] W (GivesQ b m q W)) :
    Calls Tryz.prog 14 #[.int .i64 n, .func (.func 21) #[] #[cv, cu], dV q a1 c1 a2 c2] w (Holds w) := by
  obtain ⟨m, hm1, hm2, hmx, hnew⟩ := new_for n hn
  have hdo2 := fun W b => hdo m W b hmx hm2
  obtain ⟨W0, hW0⟩ : ∃ W0, W0 = w.alloc (.cells #[.bool (ngQ q), .slice a1 (D (mgQ q)).length c1, .slice a2 (D q.den).length c2] 34) := ⟨_, rfl⟩
  have hB0 : Below w.heap.size w W0 := by rw [hW0]; exact (Below.refl _ _).alloc (Nat.le_refl _) _
  have hk0 : W0.heap[w.heap.size]? = some (.cells #[.bool (ngQ q), .slice a1 (D (mgQ q)).length c1, .slice a2 (D q.den).length c2] 34 (0, 0)) := by rw [hW0]; exact heap_alloc_new w _
  have HNEW : Hid (Calls Tryz.prog 41 #[.int .i64 n] W0 (fun e w1 => e = .returned (.pointer (some ⟨W0.heap.size, 0, none⟩)) ∧ Bench w1 W0.heap.size m false ∧ Below W0.heap.size W0 w1)) := Lib.hid ((hnew W0).mono (by
    rintro e w1 ⟨rfl, rfl⟩
    exact ⟨rfl, GivesBench.bench, (Below.refl _ _).alloc (Nat.le_refl _) _⟩))
  have HK : Hid (∀ W, Below W0.heap.size W0 W → W.cell? ⟨w.heap.size, 0, none⟩ = some (.bool (ngQ q)) ∧ W.cell? ⟨w.heap.size, 1, none⟩ = some (.slice a1 (D (mgQ q)).length c1) ∧ W.cell? ⟨w.heap.size, 2, none⟩ = some (.slice a2 (D q.den).length c2)) := Lib.hid fun W h => by
    obtain ⟨f0, f1, f2, _⟩ := keep3 hk0 W h
    exact ⟨f0, f1, f2⟩
  obtain ⟨p0, p1, p2⟩ := HK.out W0 (Below.refl _ _)
  have HWL : Hid (w.heap.size < W0.heap.size) := Lib.hid (Array.getElem?_eq_some_iff.1 hk0).1
  have HW0 := Lib.hid hW0
  have HQ := Lib.hid (hq.kept hB0)
  have HDO := Lib.hid hdo2
  have HB := Lib.hid hB0
  have HM : Hid (m ≤ 9223372036854775807) := Lib.hid (by unfold maxLen at hm2; omega)
  have HL1 := Lib.hid hl1
  have HL2 := Lib.hid hl2
  have HS := Lib.hid hs
  clear hW0 hB0 hk0 hq hdo hdo2 hnew hm1 hm2 hl1 hl2 hs
  unfold dV ratV
  go_enter Tryz.func14, Tryz.ntmps14
  go_wp2_with fail
  rw [← HW0.out]
  refine HNEW.out.mono ?_
  rintro e w1 ⟨rfl, hbe, hb1⟩
  obtain ⟨p0, p1, p2⟩ := HK.out w1 hb1
  have hlt : W0.heap.size < w1.heap.size := hbe.lt
  obtain ⟨z0, z1, z2, z3⟩ := far HWL.out hb1
  have hne1 : w1.heap.size ≠ W0.heap.size := by omega
  have hne2 : w1.heap.size + 1 ≠ W0.heap.size := by omega
  have hgt2 : W0.heap.size < w1.heap.size + 1 := by omega
  have HDA := Lib.hid (told_do2 (w1 := w1) HB.out rfl hbe hb1 HDO.out (below_drew w1))
  have HDB := Lib.hid (told_do2 (w1 := w1) HB.out rfl hbe hb1 HDO.out (show Below w1.heap.size w1 (w1.alloc (.cells #[.bool false, .slice none 0 0, .slice none 0 0] 27)).drew from Below.drewN' ((Below.refl w1.heap.size w1).alloc (Nat.le_refl _) (.cells #[.bool false, .slice none 0 0, .slice none 0 0] 27)) 1))
  have HDC := Lib.hid (told_do2 (w1 := w1) HB.out rfl hbe hb1 HDO.out (show Below w1.heap.size w1 ((w1.alloc (.cells #[.bool false, .slice none 0 0, .slice none 0 0] 27)).alloc (.cells #[.bool false, .slice none 0 0, .slice none 0 0] 27)).drew from Below.drewN' (((Below.refl w1.heap.size w1).alloc (Nat.le_refl _) (.cells #[.bool false, .slice none 0 0, .slice none 0 0] 27)).alloc (by simp) (.cells #[.bool false, .slice none 0 0, .slice none 0 0] 27)) 1))
  have HZB : Hid (Blank (w1.alloc (.cells #[.bool false, .slice none 0 0, .slice none 0 0] 27)).drew w1.heap.size) := Lib.hid (heap_alloc_new w1 _)
  have HZC : Hid (Blank ((w1.alloc (.cells #[.bool false, .slice none 0 0, .slice none 0 0] 27)).alloc (.cells #[.bool false, .slice none 0 0, .slice none 0 0] 27)).drew w1.heap.size ∧ Blank ((w1.alloc (.cells #[.bool false, .slice none 0 0, .slice none 0 0] 27)).alloc (.cells #[.bool false, .slice none 0 0, .slice none 0 0] 27)).drew (w1.heap.size + 1)) := Lib.hid (by
    refine ⟨?_, ?_⟩
    · exact Blank.kept (heap_alloc_new w1 _) (Below.drewN' ((Below.refl _ _).alloc (Nat.le_refl _) (.cells #[.bool false, .slice none 0 0, .slice none 0 0] 27)) 1)
    · have := heap_alloc_new (w1.alloc (.cells #[.bool false, .slice none 0 0, .slice none 0 0] 27)) (.cells #[.bool false, .slice none 0 0, .slice none 0 0] 27)
      simpa [Blank, World.drew] using this)
  have HE1 : Hid (w1.heap.size ≠ w1.heap.size + 1) := Lib.hid (by omega)
  clear hbe hb1 HDO HNEW HW0
  go_wp2_with fail
  refine wp_region_ex (ι := Nat × Nat × RawR × RawR) (fun i => [(12, .func (.func 21) #[] #[cv, cu]), (13, .pointer (some ⟨W0.heap.size, 0, none⟩)), (14, .agg #[.bool i.2.2.1.1, .slice i.2.2.1.2.1.1 i.2.2.1.2.1.2.1 i.2.2.1.2.1.2.2, .slice i.2.2.1.2.2.1 i.2.2.1.2.2.2.1 i.2.2.1.2.2.2.2]),
    (15, .agg #[.bool (ngQ q), .slice a1 (D (mgQ q)).length c1, .slice a2 (D q.den).length c2]), (16, .agg #[.bool i.2.2.2.1, .slice i.2.2.2.2.1.1 i.2.2.2.2.1.2.1 i.2.2.2.2.1.2.2, .slice i.2.2.2.2.2.1 i.2.2.2.2.2.2.1 i.2.2.2.2.2.2.2]), (8, .pointer (some ⟨i.1, 0, none⟩)), (9, .pointer (some ⟨i.2.1, 0, none⟩))]) (ToldAt w W0 W0.heap.size m q) ?region ?rest
  case region =>
    go_region_held3 (fun w' => w'.cell? ⟨w.heap.size, 0, none⟩ = some (.bool (ngQ q)) ∧ w'.cell? ⟨w.heap.size, 1, none⟩ = some (.slice a1 (D (mgQ q)).length c1) ∧ w'.cell? ⟨w.heap.size, 2, none⟩ = some (.slice a2 (D q.den).length c2)) (first | with_reducible exact HK.out _ hp4 | with_reducible exact HK.out _ hpa | with_reducible exact HK.out _ hpb | with_reducible exact HK.out _ hpc | go_keep)
      (first
        | (go_at_call 21; (with_reducible refine HDA.out.mono ?_); rintro e wa ⟨s, x1, n1, k1, x2, n2, k2, rfl, HTA, HGA⟩; have hpa := HTA.out.below; obtain ⟨q0, q1, q2⟩ := HK.out _ hpa; obtain ⟨u0, u1, u2, u3⟩ := far HWL.out hpa)
        | (go_at_call 21; (with_reducible refine HDB.out.mono ?_); rintro e wb ⟨s, x1, n1, k1, x2, n2, k2, rfl, HTB, HGB⟩; have hpb := HTB.out.below; obtain ⟨q0, q1, q2⟩ := HK.out _ hpb; obtain ⟨u0, u1, u2, u3⟩ := far HWL.out hpb; have HBB := Lib.hid (HZB.out.grown HGB.out hne1))
        | (go_at_call 21; (with_reducible refine HDC.out.mono ?_); rintro e wc ⟨s, x1, n1, k1, x2, n2, k2, rfl, HTC, HGC⟩; have hpc := HTC.out.below; obtain ⟨q0, q1, q2⟩ := HK.out _ hpc; obtain ⟨u0, u1, u2, u3⟩ := far HWL.out hpc; have HC1 := Lib.hid (HZC.out.1.grown HGC.out hne1); have HC2 := Lib.hid (HZC.out.2.grown HGC.out hne2))
        | (go_at_call 33; (with_reducible refine (told_form HTA.out HQ.out HL1.out HL2.out (Below.refl _ _)).mono ?_); rintro e w4 ⟨t, y1, m1, j1, y2, m2, j2, rfl, H2, HG4⟩; have hp4 := H2.out.below; obtain ⟨r0, r1, r2⟩ := HK.out _ hp4; obtain ⟨o0, o1, o2, o3⟩ := far HWL.out hp4; have hf1 := H2.out.end0a; have hf2 := H2.out.end0b; dsimp only [Go.Proofs.YtomoemgoglghlaaGreatDoor.set3] at hf1 hf2; obtain ⟨WA, hWA, hf3⟩ := hf1.split; obtain ⟨WB, hWB, hf4⟩ := hf2.split; have HF1 := Lib.hid hf3; have HF2 := Lib.hid hf4; have HWA := Lib.hid hWA; have HWB := Lib.hid hWB; clear hf1 hf2 hf3 hf4 hWA hWB)
        | (go_at_call 33; (with_reducible refine (told_form HTA.out HQ.out HL1.out HL2.out ((Below.refl wa.heap.size wa).alloc (Nat.le_refl _) (.cells #[.bool false, .slice none 0 0, .slice none 0 0] 27))).mono ?_); rintro e w4 ⟨t, y1, m1, j1, y2, m2, j2, rfl, H2, HG4⟩; have hp4 := H2.out.below; obtain ⟨r0, r1, r2⟩ := HK.out _ hp4; obtain ⟨o0, o1, o2, o3⟩ := far HWL.out hp4; have HX1 := Lib.hid (Blank.kept (heap_alloc_new wa _) HG4.out); have hf1 := (H2.out.end1a HX1.out HTA.out.lt); have hf2 := (H2.out.end1b HX1.out HTA.out.lt); dsimp only [Go.Proofs.YtomoemgoglghlaaGreatDoor.set3] at hf1 hf2; obtain ⟨WA, hWA, hf3⟩ := hf1.split; obtain ⟨WB, hWB, hf4⟩ := hf2.split; have HF1 := Lib.hid hf3; have HF2 := Lib.hid hf4; have HWA := Lib.hid hWA; have HWB := Lib.hid hWB; clear hf1 hf2 hf3 hf4 hWA hWB; obtain ⟨g0, g1, g2, g3, g4, g5⟩ := HX1.out.cells; obtain ⟨v0, v1, v2⟩ := HX1.out.ne)
        | (go_at_call 33; (with_reducible refine (told_form HTA.out HQ.out HL1.out HL2.out (((Below.refl wa.heap.size wa).alloc (Nat.le_refl _) (.cells #[.bool false, .slice none 0 0, .slice none 0 0] 27)).alloc (by simp) (.cells #[.bool false, .slice none 0 0, .slice none 0 0] 27))).mono ?_); rintro e w4 ⟨t, y1, m1, j1, y2, m2, j2, rfl, H2, HG4⟩; have hp4 := H2.out.below; obtain ⟨r0, r1, r2⟩ := HK.out _ hp4; obtain ⟨o0, o1, o2, o3⟩ := far HWL.out hp4; have HX1 := Lib.hid (Blank.kept (Blank.kept (heap_alloc_new wa _) ((Below.refl _ _).alloc (Nat.le_refl _) _)) HG4.out); have HX2 := Lib.hid (blank_second wa HG4.out); have hf1 := (H2.out.end2 HX1.out HX2.out (Nat.ne_of_lt (Nat.lt_succ_self _)) HTA.out.lt (Nat.lt_succ_of_lt HTA.out.lt)); have hf2 := (H2.out.end2 HX2.out HX1.out (Nat.ne_of_gt (Nat.lt_succ_self _)) (Nat.lt_succ_of_lt HTA.out.lt) HTA.out.lt); dsimp only [Go.Proofs.YtomoemgoglghlaaGreatDoor.set3] at hf1 hf2; obtain ⟨WA, hWA, hf3⟩ := hf1.split; obtain ⟨WB, hWB, hf4⟩ := hf2.split; have HF1 := Lib.hid hf3; have HF2 := Lib.hid hf4; have HWA := Lib.hid hWA; have HWB := Lib.hid hWB; clear hf1 hf2 hf3 hf4 hWA hWB; obtain ⟨g0, g1, g2, g3, g4, g5⟩ := HX1.out.cells; obtain ⟨i0, i1, i2, i3, i4, i5⟩ := HX2.out.cells)
        | (go_at_call 33; (with_reducible refine (told_form HTB.out HQ.out HL1.out HL2.out (Below.refl _ _)).mono ?_); rintro e w4 ⟨t, y1, m1, j1, y2, m2, j2, rfl, H2, HG4⟩; have hp4 := H2.out.below; obtain ⟨r0, r1, r2⟩ := HK.out _ hp4; obtain ⟨o0, o1, o2, o3⟩ := far HWL.out hp4; have HX1 := Lib.hid (HBB.out.kept HG4.out); have hf1 := (H2.out.end1a HX1.out hlt); have hf2 := (H2.out.end1b HX1.out hlt); dsimp only [Go.Proofs.YtomoemgoglghlaaGreatDoor.set3] at hf1 hf2; obtain ⟨WA, hWA, hf3⟩ := hf1.split; obtain ⟨WB, hWB, hf4⟩ := hf2.split; have HF1 := Lib.hid hf3; have HF2 := Lib.hid hf4; have HWA := Lib.hid hWA; have HWB := Lib.hid hWB; clear hf1 hf2 hf3 hf4 hWA hWB; obtain ⟨g0, g1, g2, g3, g4, g5⟩ := HX1.out.cells; obtain ⟨v0, v1, v2⟩ := HX1.out.ne)
        | (go_at_call 33; (with_reducible refine (told_form HTB.out HQ.out HL1.out HL2.out ((Below.refl wb.heap.size wb).alloc (Nat.le_refl _) (.cells #[.bool false, .slice none 0 0, .slice none 0 0] 27))).mono ?_); rintro e w4 ⟨t, y1, m1, j1, y2, m2, j2, rfl, H2, HG4⟩; have hp4 := H2.out.below; obtain ⟨r0, r1, r2⟩ := HK.out _ hp4; obtain ⟨o0, o1, o2, o3⟩ := far HWL.out hp4; have HX2 := Lib.hid (Blank.kept (heap_alloc_new wb _) HG4.out); have HX1 := Lib.hid ((HBB.out.kept ((Below.refl _ _).alloc (Nat.le_refl _) _)).kept HG4.out); have hgh : w1.heap.size ≠ wb.heap.size := Nat.ne_of_lt (Array.getElem?_eq_some_iff.1 HBB.out).1; have hhg := Ne.symm hgh; have hf1 := (H2.out.end2 HX1.out HX2.out hgh hlt HTB.out.lt); have hf2 := (H2.out.end2 HX2.out HX1.out hhg HTB.out.lt hlt); dsimp only [Go.Proofs.YtomoemgoglghlaaGreatDoor.set3] at hf1 hf2; obtain ⟨WA, hWA, hf3⟩ := hf1.split; obtain ⟨WB, hWB, hf4⟩ := hf2.split; have HF1 := Lib.hid hf3; have HF2 := Lib.hid hf4; have HWA := Lib.hid hWA; have HWB := Lib.hid hWB; clear hf1 hf2 hf3 hf4 hWA hWB; obtain ⟨g0, g1, g2, g3, g4, g5⟩ := HX1.out.cells; obtain ⟨i0, i1, i2, i3, i4, i5⟩ := HX2.out.cells)
        | (go_at_call 33; (with_reducible refine (told_form HTC.out HQ.out HL1.out HL2.out (Below.refl _ _)).mono ?_); rintro e w4 ⟨t, y1, m1, j1, y2, m2, j2, rfl, H2, HG4⟩; have hp4 := H2.out.below; obtain ⟨r0, r1, r2⟩ := HK.out _ hp4; obtain ⟨o0, o1, o2, o3⟩ := far HWL.out hp4; have HX1 := Lib.hid (HC1.out.kept HG4.out); have HX2 := Lib.hid (HC2.out.kept HG4.out); have hf1 := (H2.out.end2 HX1.out HX2.out HE1.out hlt hgt2); have hf2 := (H2.out.end2 HX2.out HX1.out (Ne.symm HE1.out) hgt2 hlt); dsimp only [Go.Proofs.YtomoemgoglghlaaGreatDoor.set3] at hf1 hf2; obtain ⟨WA, hWA, hf3⟩ := hf1.split; obtain ⟨WB, hWB, hf4⟩ := hf2.split; have HF1 := Lib.hid hf3; have HF2 := Lib.hid hf4; have HWA := Lib.hid hWA; have HWB := Lib.hid hWB; clear hf1 hf2 hf3 hf4 hWA hWB; obtain ⟨g0, g1, g2, g3, g4, g5⟩ := HX1.out.cells; obtain ⟨i0, i1, i2, i3, i4, i5⟩ := HX2.out.cells))
    all_goals
      refine OnlyEx.mk' ?_
      simp only [HWA.out, HWB.out]
      first
        | (with_reducible refine ⟨_, ?_, HF1.out⟩; simp only [puts, Act.put, List.setIfInBounds_toArray, List.set_cons_zero, List.set_cons_succ]; done)
        | (with_reducible refine ⟨_, ?_, HF2.out⟩; simp only [puts, Act.put, List.setIfInBounds_toArray, List.set_cons_zero, List.set_cons_succ]; done)
  case rest =>
    rintro ⟨g, k, ⟨s, ⟨x1, n1, k1⟩, ⟨x2, n2, k2⟩⟩, ⟨t, ⟨y1, m1, j1⟩, ⟨y2, m2, j2⟩⟩⟩ w5 hF
    obtain ⟨hx, hy, hT⟩ := hF
    unfold LiesR at hx hy
    dsimp only at hx hy hT
    have HFI := Lib.hid (told_fits hT HM.out HS.out)
    have HBL := Lib.hid (HB.out.trans (hT.below.mono HB.out.size))
    have HT := Lib.hid hT
    have HKX := Lib.hid (keep3 hx)
    have HKY := Lib.hid (keep3 hy)
    obtain ⟨g0, g1, g2, _⟩ := HKX.out w5 (Below.refl _ _)
    obtain ⟨i0, i1, i2, _⟩ := HKY.out w5 (Below.refl _ _)
    clear hx hy hT HDA HDB HDC HZB HZC HK HQ p0 p1 p2 hlt hne1 hne2 hgt2 HE1 HB HL1 HL2 HM
    simp only [puts, Act.put, List.setIfInBounds_toArray, List.set_cons_zero, List.set_cons_succ]
    obtain ⟨o, ho⟩ : ∃ o, ovQ m q = o := ⟨_, rfl⟩
    rw [ho] at HFI
    have HO := Lib.hid ho
    clear ho
    cases o
    case true =>
      have HOV := Lib.hid (fun W (h : Below w5.heap.size w5 W) => over_any W W0.heap.size m true (by have := HT.out.bench.kept h; rwa [HO.out] at this))
      have HSA := Lib.hid (told_zero HT.out HO.out)
      clear HO HT
      go_wp2_with fail
      refine (HFI.out _).mono ?_
      rintro e w6 ⟨rfl, hb6⟩
      obtain ⟨g0, g1, g2, _⟩ := HKX.out w6 hb6
      have HV6 := Lib.hid (HOV.out w6 hb6)
      have HB6 := Lib.hid (HBL.out.trans (hb6.mono HBL.out.size))
      clear hb6 HOV HKX HKY HFI HBL
      go_wp2_with fail
      refine HV6.out.mono ?_
      rintro e w7 ⟨rfl, rfl⟩
      go_wp2_with fail
      refine (HSA.out _).mono ?_
      rintro e w8 ⟨rfl, hb8⟩
      have HB8 := Lib.hid (HB6.out.trans (hb8.mono HB6.out.size))
      clear hb8 HSA
      go_wp2_with fail
      go_ret
      exact ⟨rfl, HB8.out⟩
    case false =>
      have HOV := Lib.hid (fun W (h : Below w5.heap.size w5 W) => over_any W W0.heap.size m false (by have := HT.out.bench.kept h; rwa [HO.out] at this))
      have HSA := Lib.hid (told_same HT.out HO.out HS.out)
      clear HO HT
      go_wp2_with fail
      refine (HFI.out _).mono ?_
      rintro e w6 ⟨rfl, hb6⟩
      obtain ⟨g0, g1, g2, _⟩ := HKX.out w6 hb6
      obtain ⟨i0, i1, i2, _⟩ := HKY.out w6 hb6
      have HV6 := Lib.hid (HOV.out w6 hb6)
      have HSB := Lib.hid (HSA.out w6 hb6)
      have HB6 := Lib.hid (HBL.out.trans (hb6.mono HBL.out.size))
      clear hb6 HOV HKX HKY HFI HBL HSA
      go_wp2_with fail
      refine HV6.out.mono ?_
      rintro e w7 ⟨rfl, rfl⟩
      go_wp2_with fail
      refine HSB.out.mono ?_
      rintro e w8 ⟨rfl, hb8⟩
      have HB8 := Lib.hid (HB6.out.trans (hb8.mono HB6.out.size))
      clear hb8 HSB
      go_wp2_with fail
      go_ret
      exact ⟨rfl, HB8.out⟩
end Go.Proofs.YtomoemgoglghlaaGreatDoor

/-
  The ratio laws' helper told, with a further closure.
-/
set_option linter.unusedVariables false
set_option linter.unusedSimpArgs false
namespace Go.Proofs.YtomoemgoglghlaaGreatDoor
open Go.RowKit Rep

set_option maxRecDepth 100000 in
set_option maxHeartbeats 16000000 in
theorem told02_4 {w : World} {n : Int} {q : Rat} {cv cu : Value} {a1 a2 : Option Addr} {c1 c2 : Nat} (hn : n ≤ 9223372036854775807) (hq : DgQ w a1 c1 a2 c2 q) (hl1 : (D (mgQ q)).length ≤ 1000000) (hl2 : (D q.den).length ≤ 1000000) (hs : szQ q ≤ 10000)
    (hdo : ∀ (m : Nat) (W : World) (b : Nat), max n 1 = (m : Int) → m ≤ maxLen → Below w.heap.size w W → Bench W b m false → w.heap.size ≤ b → Calls Tryz.prog 24 #[.pointer (some ⟨b, 0, none⟩), cv, cu] W (GivesQ b m q W)) :
    Calls Tryz.prog 14 #[.int .i64 n, .func (.func 24) #[] #[cv, cu], dV q a1 c1 a2 c2] w (Holds w) := by
  obtain ⟨m, hm1, hm2, hmx, hnew⟩ := new_for n hn
  have hdo2 := fun W b => hdo m W b hmx hm2
  obtain ⟨W0, hW0⟩ : ∃ W0, W0 = w.alloc (.cells #[.bool (ngQ q), .slice a1 (D (mgQ q)).length c1, .slice a2 (D q.den).length c2] 34) := ⟨_, rfl⟩
  have hB0 : Below w.heap.size w W0 := by rw [hW0]; exact (Below.refl _ _).alloc (Nat.le_refl _) _
  have hk0 : W0.heap[w.heap.size]? = some (.cells #[.bool (ngQ q), .slice a1 (D (mgQ q)).length c1, .slice a2 (D q.den).length c2] 34 (0, 0)) := by rw [hW0]; exact heap_alloc_new w _
  have HNEW : Hid (Calls Tryz.prog 41 #[.int .i64 n] W0 (fun e w1 => e = .returned (.pointer (some ⟨W0.heap.size, 0, none⟩)) ∧ Bench w1 W0.heap.size m false ∧ Below W0.heap.size W0 w1)) := Lib.hid ((hnew W0).mono (by
    rintro e w1 ⟨rfl, rfl⟩
    exact ⟨rfl, GivesBench.bench, (Below.refl _ _).alloc (Nat.le_refl _) _⟩))
  have HK : Hid (∀ W, Below W0.heap.size W0 W → W.cell? ⟨w.heap.size, 0, none⟩ = some (.bool (ngQ q)) ∧ W.cell? ⟨w.heap.size, 1, none⟩ = some (.slice a1 (D (mgQ q)).length c1) ∧ W.cell? ⟨w.heap.size, 2, none⟩ = some (.slice a2 (D q.den).length c2)) := Lib.hid fun W h => by
    obtain ⟨f0, f1, f2, _⟩ := keep3 hk0 W h
    exact ⟨f0, f1, f2⟩
  obtain ⟨p0, p1, p2⟩ := HK.out W0 (Below.refl _ _)
  have HWL : Hid (w.heap.size < W0.heap.size) := Lib.hid (Array.getElem?_eq_some_iff.1 hk0).1
  have HW0 := Lib.hid hW0
  have HQ := Lib.hid (hq.kept hB0)
  have HDO := Lib.hid hdo2
  have HB := Lib.hid hB0
  have HM : Hid (m ≤ 9223372036854775807) := Lib.hid (by unfold maxLen at hm2; omega)
  have HL1 := Lib.hid hl1
  have HL2 := Lib.hid hl2
  have HS := Lib.hid hs
  clear hW0 hB0 hk0 hq hdo hdo2 hnew hm1 hm2 hl1 hl2 hs
  unfold dV ratV
  go_enter Tryz.func14, Tryz.ntmps14
  go_wp2_with fail
  rw [← HW0.out]
  refine HNEW.out.mono ?_
  rintro e w1 ⟨rfl, hbe, hb1⟩
  obtain ⟨p0, p1, p2⟩ := HK.out w1 hb1
  have hlt : W0.heap.size < w1.heap.size := hbe.lt
  obtain ⟨z0, z1, z2, z3⟩ := far HWL.out hb1
  have hne1 : w1.heap.size ≠ W0.heap.size := by omega
  have hne2 : w1.heap.size + 1 ≠ W0.heap.size := by omega
  have hgt2 : W0.heap.size < w1.heap.size + 1 := by omega
  have HDA := Lib.hid (told_do2 (w1 := w1) HB.out rfl hbe hb1 HDO.out (below_drew w1))
  have HDB := Lib.hid (told_do2 (w1 := w1) HB.out rfl hbe hb1 HDO.out (show Below w1.heap.size w1 (w1.alloc (.cells #[.bool false, .slice none 0 0, .slice none 0 0] 27)).drew from Below.drewN' ((Below.refl w1.heap.size w1).alloc (Nat.le_refl _) (.cells #[.bool false, .slice none 0 0, .slice none 0 0] 27)) 1))
  have HDC := Lib.hid (told_do2 (w1 := w1) HB.out rfl hbe hb1 HDO.out (show Below w1.heap.size w1 ((w1.alloc (.cells #[.bool false, .slice none 0 0, .slice none 0 0] 27)).alloc (.cells #[.bool false, .slice none 0 0, .slice none 0 0] 27)).drew from Below.drewN' (((Below.refl w1.heap.size w1).alloc (Nat.le_refl _) (.cells #[.bool false, .slice none 0 0, .slice none 0 0] 27)).alloc (by simp) (.cells #[.bool false, .slice none 0 0, .slice none 0 0] 27)) 1))
  have HZB : Hid (Blank (w1.alloc (.cells #[.bool false, .slice none 0 0, .slice none 0 0] 27)).drew w1.heap.size) := Lib.hid (heap_alloc_new w1 _)
  have HZC : Hid (Blank ((w1.alloc (.cells #[.bool false, .slice none 0 0, .slice none 0 0] 27)).alloc (.cells #[.bool false, .slice none 0 0, .slice none 0 0] 27)).drew w1.heap.size ∧ Blank ((w1.alloc (.cells #[.bool false, .slice none 0 0, .slice none 0 0] 27)).alloc (.cells #[.bool false, .slice none 0 0, .slice none 0 0] 27)).drew (w1.heap.size + 1)) := Lib.hid (by
    refine ⟨?_, ?_⟩
    · exact Blank.kept (heap_alloc_new w1 _) (Below.drewN' ((Below.refl _ _).alloc (Nat.le_refl _) (.cells #[.bool false, .slice none 0 0, .slice none 0 0] 27)) 1)
    · have := heap_alloc_new (w1.alloc (.cells #[.bool false, .slice none 0 0, .slice none 0 0] 27)) (.cells #[.bool false, .slice none 0 0, .slice none 0 0] 27)
      simpa [Blank, World.drew] using this)
  have HE1 : Hid (w1.heap.size ≠ w1.heap.size + 1) := Lib.hid (by omega)
  clear hbe hb1 HDO HNEW HW0
  go_wp2_with fail
  refine wp_region_ex (ι := Nat × Nat × RawR × RawR) (fun i => [(12, .func (.func 24) #[] #[cv, cu]), (13, .pointer (some ⟨W0.heap.size, 0, none⟩)), (14, .agg #[.bool i.2.2.1.1, .slice i.2.2.1.2.1.1 i.2.2.1.2.1.2.1 i.2.2.1.2.1.2.2, .slice i.2.2.1.2.2.1 i.2.2.1.2.2.2.1 i.2.2.1.2.2.2.2]),
    (15, .agg #[.bool (ngQ q), .slice a1 (D (mgQ q)).length c1, .slice a2 (D q.den).length c2]), (16, .agg #[.bool i.2.2.2.1, .slice i.2.2.2.2.1.1 i.2.2.2.2.1.2.1 i.2.2.2.2.1.2.2, .slice i.2.2.2.2.2.1 i.2.2.2.2.2.2.1 i.2.2.2.2.2.2.2]), (8, .pointer (some ⟨i.1, 0, none⟩)), (9, .pointer (some ⟨i.2.1, 0, none⟩))]) (ToldAt w W0 W0.heap.size m q) ?region ?rest
  case region =>
    go_region_held3 (fun w' => w'.cell? ⟨w.heap.size, 0, none⟩ = some (.bool (ngQ q)) ∧ w'.cell? ⟨w.heap.size, 1, none⟩ = some (.slice a1 (D (mgQ q)).length c1) ∧ w'.cell? ⟨w.heap.size, 2, none⟩ = some (.slice a2 (D q.den).length c2)) (first | with_reducible exact HK.out _ hp4 | with_reducible exact HK.out _ hpa | with_reducible exact HK.out _ hpb | with_reducible exact HK.out _ hpc | go_keep)
      (first
        | (go_at_call 24; (with_reducible refine HDA.out.mono ?_); rintro e wa ⟨s, x1, n1, k1, x2, n2, k2, rfl, HTA, HGA⟩; have hpa := HTA.out.below; obtain ⟨q0, q1, q2⟩ := HK.out _ hpa; obtain ⟨u0, u1, u2, u3⟩ := far HWL.out hpa)
        | (go_at_call 24; (with_reducible refine HDB.out.mono ?_); rintro e wb ⟨s, x1, n1, k1, x2, n2, k2, rfl, HTB, HGB⟩; have hpb := HTB.out.below; obtain ⟨q0, q1, q2⟩ := HK.out _ hpb; obtain ⟨u0, u1, u2, u3⟩ := far HWL.out hpb; have HBB := Lib.hid (HZB.out.grown HGB.out hne1))
        | (go_at_call 24; (with_reducible refine HDC.out.mono ?_); rintro e wc ⟨s, x1, n1, k1, x2, n2, k2, rfl, HTC, HGC⟩; have hpc := HTC.out.below; obtain ⟨q0, q1, q2⟩ := HK.out _ hpc; obtain ⟨u0, u1, u2, u3⟩ := far HWL.out hpc; have HC1 := Lib.hid (HZC.out.1.grown HGC.out hne1); have HC2 := Lib.hid (HZC.out.2.grown HGC.out hne2))
        | (go_at_call 33; (with_reducible refine (told_form HTA.out HQ.out HL1.out HL2.out (Below.refl _ _)).mono ?_); rintro e w4 ⟨t, y1, m1, j1, y2, m2, j2, rfl, H2, HG4⟩; have hp4 := H2.out.below; obtain ⟨r0, r1, r2⟩ := HK.out _ hp4; obtain ⟨o0, o1, o2, o3⟩ := far HWL.out hp4; have hf1 := H2.out.end0a; have hf2 := H2.out.end0b; dsimp only [Go.Proofs.YtomoemgoglghlaaGreatDoor.set3] at hf1 hf2; obtain ⟨WA, hWA, hf3⟩ := hf1.split; obtain ⟨WB, hWB, hf4⟩ := hf2.split; have HF1 := Lib.hid hf3; have HF2 := Lib.hid hf4; have HWA := Lib.hid hWA; have HWB := Lib.hid hWB; clear hf1 hf2 hf3 hf4 hWA hWB)
        | (go_at_call 33; (with_reducible refine (told_form HTA.out HQ.out HL1.out HL2.out ((Below.refl wa.heap.size wa).alloc (Nat.le_refl _) (.cells #[.bool false, .slice none 0 0, .slice none 0 0] 27))).mono ?_); rintro e w4 ⟨t, y1, m1, j1, y2, m2, j2, rfl, H2, HG4⟩; have hp4 := H2.out.below; obtain ⟨r0, r1, r2⟩ := HK.out _ hp4; obtain ⟨o0, o1, o2, o3⟩ := far HWL.out hp4; have HX1 := Lib.hid (Blank.kept (heap_alloc_new wa _) HG4.out); have hf1 := (H2.out.end1a HX1.out HTA.out.lt); have hf2 := (H2.out.end1b HX1.out HTA.out.lt); dsimp only [Go.Proofs.YtomoemgoglghlaaGreatDoor.set3] at hf1 hf2; obtain ⟨WA, hWA, hf3⟩ := hf1.split; obtain ⟨WB, hWB, hf4⟩ := hf2.split; have HF1 := Lib.hid hf3; have HF2 := Lib.hid hf4; have HWA := Lib.hid hWA; have HWB := Lib.hid hWB; clear hf1 hf2 hf3 hf4 hWA hWB; obtain ⟨g0, g1, g2, g3, g4, g5⟩ := HX1.out.cells; obtain ⟨v0, v1, v2⟩ := HX1.out.ne)
        | (go_at_call 33; (with_reducible refine (told_form HTA.out HQ.out HL1.out HL2.out (((Below.refl wa.heap.size wa).alloc (Nat.le_refl _) (.cells #[.bool false, .slice none 0 0, .slice none 0 0] 27)).alloc (by simp) (.cells #[.bool false, .slice none 0 0, .slice none 0 0] 27))).mono ?_); rintro e w4 ⟨t, y1, m1, j1, y2, m2, j2, rfl, H2, HG4⟩; have hp4 := H2.out.below; obtain ⟨r0, r1, r2⟩ := HK.out _ hp4; obtain ⟨o0, o1, o2, o3⟩ := far HWL.out hp4; have HX1 := Lib.hid (Blank.kept (Blank.kept (heap_alloc_new wa _) ((Below.refl _ _).alloc (Nat.le_refl _) _)) HG4.out); have HX2 := Lib.hid (blank_second wa HG4.out); have hf1 := (H2.out.end2 HX1.out HX2.out (Nat.ne_of_lt (Nat.lt_succ_self _)) HTA.out.lt (Nat.lt_succ_of_lt HTA.out.lt)); have hf2 := (H2.out.end2 HX2.out HX1.out (Nat.ne_of_gt (Nat.lt_succ_self _)) (Nat.lt_succ_of_lt HTA.out.lt) HTA.out.lt); dsimp only [Go.Proofs.YtomoemgoglghlaaGreatDoor.set3] at hf1 hf2; obtain ⟨WA, hWA, hf3⟩ := hf1.split; obtain ⟨WB, hWB, hf4⟩ := hf2.split; have HF1 := Lib.hid hf3; have HF2 := Lib.hid hf4; have HWA := Lib.hid hWA; have HWB := Lib.hid hWB; clear hf1 hf2 hf3 hf4 hWA hWB; obtain ⟨g0, g1, g2, g3, g4, g5⟩ := HX1.out.cells; obtain ⟨i0, i1, i2, i3, i4, i5⟩ := HX2.out.cells)
        | (go_at_call 33; (with_reducible refine (told_form HTB.out HQ.out HL1.out HL2.out (Below.refl _ _)).mono ?_); rintro e w4 ⟨t, y1, m1, j1, y2, m2, j2, rfl, H2, HG4⟩; have hp4 := H2.out.below; obtain ⟨r0, r1, r2⟩ := HK.out _ hp4; obtain ⟨o0, o1, o2, o3⟩ := far HWL.out hp4; have HX1 := Lib.hid (HBB.out.kept HG4.out); have hf1 := (H2.out.end1a HX1.out hlt); have hf2 := (H2.out.end1b HX1.out hlt); dsimp only [Go.Proofs.YtomoemgoglghlaaGreatDoor.set3] at hf1 hf2; obtain ⟨WA, hWA, hf3⟩ := hf1.split; obtain ⟨WB, hWB, hf4⟩ := hf2.split; have HF1 := Lib.hid hf3; have HF2 := Lib.hid hf4; have HWA := Lib.hid hWA; have HWB := Lib.hid hWB; clear hf1 hf2 hf3 hf4 hWA hWB; obtain ⟨g0, g1, g2, g3, g4, g5⟩ := HX1.out.cells; obtain ⟨v0, v1, v2⟩ := HX1.out.ne)
        | (go_at_call 33; (with_reducible refine (told_form HTB.out HQ.out HL1.out HL2.out ((Below.refl wb.heap.size wb).alloc (Nat.le_refl _) (.cells #[.bool false, .slice none 0 0, .slice none 0 0] 27))).mono ?_); rintro e w4 ⟨t, y1, m1, j1, y2, m2, j2, rfl, H2, HG4⟩; have hp4 := H2.out.below; obtain ⟨r0, r1, r2⟩ := HK.out _ hp4; obtain ⟨o0, o1, o2, o3⟩ := far HWL.out hp4; have HX2 := Lib.hid (Blank.kept (heap_alloc_new wb _) HG4.out); have HX1 := Lib.hid ((HBB.out.kept ((Below.refl _ _).alloc (Nat.le_refl _) _)).kept HG4.out); have hgh : w1.heap.size ≠ wb.heap.size := Nat.ne_of_lt (Array.getElem?_eq_some_iff.1 HBB.out).1; have hhg := Ne.symm hgh; have hf1 := (H2.out.end2 HX1.out HX2.out hgh hlt HTB.out.lt); have hf2 := (H2.out.end2 HX2.out HX1.out hhg HTB.out.lt hlt); dsimp only [Go.Proofs.YtomoemgoglghlaaGreatDoor.set3] at hf1 hf2; obtain ⟨WA, hWA, hf3⟩ := hf1.split; obtain ⟨WB, hWB, hf4⟩ := hf2.split; have HF1 := Lib.hid hf3; have HF2 := Lib.hid hf4; have HWA := Lib.hid hWA; have HWB := Lib.hid hWB; clear hf1 hf2 hf3 hf4 hWA hWB; obtain ⟨g0, g1, g2, g3, g4, g5⟩ := HX1.out.cells; obtain ⟨i0, i1, i2, i3, i4, i5⟩ := HX2.out.cells)
        | (go_at_call 33; (with_reducible refine (told_form HTC.out HQ.out HL1.out HL2.out (Below.refl _ _)).mono ?_); rintro e w4 ⟨t, y1, m1, j1, y2, m2, j2, rfl, H2, HG4⟩; have hp4 := H2.out.below; obtain ⟨r0, r1, r2⟩ := HK.out _ hp4; obtain ⟨o0, o1, o2, o3⟩ := far HWL.out hp4; have HX1 := Lib.hid (HC1.out.kept HG4.out); have HX2 := Lib.hid (HC2.out.kept HG4.out); have hf1 := (H2.out.end2 HX1.out HX2.out HE1.out hlt hgt2); have hf2 := (H2.out.end2 HX2.out HX1.out (Ne.symm HE1.out) hgt2 hlt); dsimp only [Go.Proofs.YtomoemgoglghlaaGreatDoor.set3] at hf1 hf2; obtain ⟨WA, hWA, hf3⟩ := hf1.split; obtain ⟨WB, hWB, hf4⟩ := hf2.split; have HF1 := Lib.hid hf3; have HF2 := Lib.hid hf4; have HWA := Lib.hid hWA; have HWB := Lib.hid hWB; clear hf1 hf2 hf3 hf4 hWA hWB; obtain ⟨g0, g1, g2, g3, g4, g5⟩ := HX1.out.cells; obtain ⟨i0, i1, i2, i3, i4, i5⟩ := HX2.out.cells))
    all_goals
      refine OnlyEx.mk' ?_
      simp only [HWA.out, HWB.out]
      first
        | (with_reducible refine ⟨_, ?_, HF1.out⟩; simp only [puts, Act.put, List.setIfInBounds_toArray, List.set_cons_zero, List.set_cons_succ]; done)
        | (with_reducible refine ⟨_, ?_, HF2.out⟩; simp only [puts, Act.put, List.setIfInBounds_toArray, List.set_cons_zero, List.set_cons_succ]; done)
  case rest =>
    rintro ⟨g, k, ⟨s, ⟨x1, n1, k1⟩, ⟨x2, n2, k2⟩⟩, ⟨t, ⟨y1, m1, j1⟩, ⟨y2, m2, j2⟩⟩⟩ w5 hF
    obtain ⟨hx, hy, hT⟩ := hF
    unfold LiesR at hx hy
    dsimp only at hx hy hT
    have HFI := Lib.hid (told_fits hT HM.out HS.out)
    have HBL := Lib.hid (HB.out.trans (hT.below.mono HB.out.size))
    have HT := Lib.hid hT
    have HKX := Lib.hid (keep3 hx)
    have HKY := Lib.hid (keep3 hy)
    obtain ⟨g0, g1, g2, _⟩ := HKX.out w5 (Below.refl _ _)
    obtain ⟨i0, i1, i2, _⟩ := HKY.out w5 (Below.refl _ _)
    clear hx hy hT HDA HDB HDC HZB HZC HK HQ p0 p1 p2 hlt hne1 hne2 hgt2 HE1 HB HL1 HL2 HM
    simp only [puts, Act.put, List.setIfInBounds_toArray, List.set_cons_zero, List.set_cons_succ]
    obtain ⟨o, ho⟩ : ∃ o, ovQ m q = o := ⟨_, rfl⟩
    rw [ho] at HFI
    have HO := Lib.hid ho
    clear ho
    cases o
    case true =>
      have HOV := Lib.hid (fun W (h : Below w5.heap.size w5 W) => over_any W W0.heap.size m true (by have := HT.out.bench.kept h; rwa [HO.out] at this))
      have HSA := Lib.hid (told_zero HT.out HO.out)
      clear HO HT
      go_wp2_with fail
      refine (HFI.out _).mono ?_
      rintro e w6 ⟨rfl, hb6⟩
      obtain ⟨g0, g1, g2, _⟩ := HKX.out w6 hb6
      have HV6 := Lib.hid (HOV.out w6 hb6)
      have HB6 := Lib.hid (HBL.out.trans (hb6.mono HBL.out.size))
      clear hb6 HOV HKX HKY HFI HBL
      go_wp2_with fail
      refine HV6.out.mono ?_
      rintro e w7 ⟨rfl, rfl⟩
      go_wp2_with fail
      refine (HSA.out _).mono ?_
      rintro e w8 ⟨rfl, hb8⟩
      have HB8 := Lib.hid (HB6.out.trans (hb8.mono HB6.out.size))
      clear hb8 HSA
      go_wp2_with fail
      go_ret
      exact ⟨rfl, HB8.out⟩
    case false =>
      have HOV := Lib.hid (fun W (h : Below w5.heap.size w5 W) => over_any W W0.heap.size m false (by have := HT.out.bench.kept h; rwa [HO.out] at this))
      have HSA := Lib.hid (told_same HT.out HO.out HS.out)
      clear HO HT
      go_wp2_with fail
      refine (HFI.out _).mono ?_
      rintro e w6 ⟨rfl, hb6⟩
      obtain ⟨g0, g1, g2, _⟩ := HKX.out w6 hb6
      obtain ⟨i0, i1, i2, _⟩ := HKY.out w6 hb6
      have HV6 := Lib.hid (HOV.out w6 hb6)
      have HSB := Lib.hid (HSA.out w6 hb6)
      have HB6 := Lib.hid (HBL.out.trans (hb6.mono HBL.out.size))
      clear hb6 HOV HKX HKY HFI HBL HSA
      go_wp2_with fail
      refine HV6.out.mono ?_
      rintro e w7 ⟨rfl, rfl⟩
      go_wp2_with fail
      refine HSB.out.mono ?_
      rintro e w8 ⟨rfl, hb8⟩
      have HB8 := Lib.hid (HB6.out.trans (hb8.mono HB6.out.size))
      clear hb8 HSB
      go_wp2_with fail
      go_ret
      exact ⟨rfl, HB8.out⟩
end Go.Proofs.YtomoemgoglghlaaGreatDoor

/-
  RatioTold: the law's walk.
-/
set_option linter.unusedVariables false
set_option linter.unusedSimpArgs false
namespace Go.Proofs.YtomoemgoglghlaaGreatDoor
open Go.RowKit Rep


theorem OkQ.ratx {W : World} {s : Bool} {a1 a2 : Option Addr} {l1 c1 l2 c2 : Nat} {x : Rat} (h : OkQ W ((s, (a1, l1, c1), (a2, l2, c2)), x)) : RatX W s a1 l1 c1 a2 l2 c2 (mgQ x) x.den (denN x.den) x := by
  obtain ⟨h1, h2, h3, h4, h5⟩ := h
  dsimp only at h1 h2 h3 h4 h5
  subst h1 h2 h3
  exact h4.x (by omega)
theorem OkQ.vq {W : World} {s : Bool} {a1 a2 : Option Addr} {l1 c1 l2 c2 : Nat} {x : Rat} (h : OkQ W ((s, (a1, l1, c1), (a2, l2, c2)), x)) : VQ x (s, (a1, l1, c1), (a2, l2, c2)) W := ⟨h.sg, h.l1, h.l2, h.at'⟩

set_option maxRecDepth 100000 in
set_option maxHeartbeats 4000000 in
theorem toldClos1 {W : World} {b m p1 p2 : Nat} {s t : Bool} {a1 a2 b1 b2 : Option Addr} {l1 c1 l2 c2 k1 e1 k2 e2 : Nat} {x y : Rat} (hb : Bench W b m false) (hT : Tab W) (hx : OkQ W ((s, (a1, l1, c1), (a2, l2, c2)), x)) (hy : OkQ W ((t, (b1, k1, e1), (b2, k2, e2)), y))
    (f0 : W.cell? ⟨p1, 0, none⟩ = some (.bool s)) (f1 : W.cell? ⟨p1, 1, none⟩ = some (.slice a1 l1 c1)) (f2 : W.cell? ⟨p1, 2, none⟩ = some (.slice a2 l2 c2)) (f3 : W.cell? ⟨p2, 0, none⟩ = some (.bool t)) (f4 : W.cell? ⟨p2, 1, none⟩ = some (.slice b1 k1 e1)) (f5 : W.cell? ⟨p2, 2, none⟩ = some (.slice b2 k2 e2)) :
    Calls Tryz.prog 15 #[.pointer (some ⟨b, 0, none⟩), .pointer (some ⟨p1, 0, none⟩), .pointer (some ⟨p2, 0, none⟩)] W (GivesQ b m (x + y) W) := by
  obtain ⟨W0, hW0⟩ : ∃ W0, W0 = W.alloc (.cells #[.bool false, .slice none 0 0, .slice none 0 0] 27) := ⟨_, rfl⟩
  have hB0 : Below W.heap.size W W0 := by rw [hW0]; exact (Below.refl _ _).alloc (Nat.le_refl _) _
  have hbl : Blank W0 W.heap.size := by rw [hW0]; exact heap_alloc_new W _
  have hbb := hb.lt
  have HA := Lib.hid (Add_q (hb.kept hB0) (hT.kept hB0) (hx.kept hB0).ratx (hy.kept hB0).ratx)
  have HTH : Hid (∀ e W', GivesQ b m (x + y) W0 e W' → _) := Lib.hid fun e W' hg => hg.through (grown_of_below hB0 (some b)) (Nat.le_refl _) (by omega) hbl
  have hp1 := World.block_lt_of_cell? _ _ f0
  have hp2 := World.block_lt_of_cell? _ _ f3
  dsimp only at hp1 hp2
  have hn1 : p1 ≠ W.heap.size := by omega
  have hn2 : p2 ≠ W.heap.size := by omega
  have HW0 := Lib.hid hW0
  clear hW0 hB0 hbl hx hy hb hT
  unfold ratV at HA
  go_enter Tryz.func15, Tryz.ntmps15
  go_wp2_with fail
  rw [← HW0.out]
  refine HA.out.mono ?_
  intro e w1 hg
  obtain ⟨tt, x1, x2, x3, y1, y2, y3, rfl, hbl1, _, hx1⟩ := HTH.out e w1 hg
  obtain ⟨m0, m1, m2, n0, n1, n2⟩ := hbl1.cells
  have HE := Lib.hid hx1
  clear hg hbl1 hx1 HTH HA HW0
  go_wp2_with fail
  exact bodyPost_ret (v := ratV tt (.slice x1 x2 x3) (.slice y1 y2 y3)) (by simp [results, Tryz.results15, go_sem, ratV, m0, m1, m2]) rfl HE.out

set_option maxRecDepth 100000 in
set_option maxHeartbeats 4000000 in
theorem toldClos2 {W : World} {b m p1 p2 : Nat} {s t : Bool} {a1 a2 b1 b2 : Option Addr} {l1 c1 l2 c2 k1 e1 k2 e2 : Nat} {x y : Rat} (hb : Bench W b m false) (hT : Tab W) (hx : OkQ W ((s, (a1, l1, c1), (a2, l2, c2)), x)) (hy : OkQ W ((t, (b1, k1, e1), (b2, k2, e2)), y))
    (f0 : W.cell? ⟨p1, 0, none⟩ = some (.bool s)) (f1 : W.cell? ⟨p1, 1, none⟩ = some (.slice a1 l1 c1)) (f2 : W.cell? ⟨p1, 2, none⟩ = some (.slice a2 l2 c2)) (f3 : W.cell? ⟨p2, 0, none⟩ = some (.bool t)) (f4 : W.cell? ⟨p2, 1, none⟩ = some (.slice b1 k1 e1)) (f5 : W.cell? ⟨p2, 2, none⟩ = some (.slice b2 k2 e2)) :
    Calls Tryz.prog 18 #[.pointer (some ⟨b, 0, none⟩), .pointer (some ⟨p1, 0, none⟩), .pointer (some ⟨p2, 0, none⟩)] W (GivesQ b m (x - y) W) := by
  obtain ⟨W0, hW0⟩ : ∃ W0, W0 = W.alloc (.cells #[.bool false, .slice none 0 0, .slice none 0 0] 27) := ⟨_, rfl⟩
  have hB0 : Below W.heap.size W W0 := by rw [hW0]; exact (Below.refl _ _).alloc (Nat.le_refl _) _
  have hbl : Blank W0 W.heap.size := by rw [hW0]; exact heap_alloc_new W _
  have hbb := hb.lt
  have HA := Lib.hid (Sub_q (hb.kept hB0) (hT.kept hB0) (hx.kept hB0).ratx (hy.kept hB0).ratx)
  have HTH : Hid (∀ e W', GivesQ b m (x - y) W0 e W' → _) := Lib.hid fun e W' hg => hg.through (grown_of_below hB0 (some b)) (Nat.le_refl _) (by omega) hbl
  have hp1 := World.block_lt_of_cell? _ _ f0
  have hp2 := World.block_lt_of_cell? _ _ f3
  dsimp only at hp1 hp2
  have hn1 : p1 ≠ W.heap.size := by omega
  have hn2 : p2 ≠ W.heap.size := by omega
  have HW0 := Lib.hid hW0
  clear hW0 hB0 hbl hx hy hb hT
  unfold ratV at HA
  go_enter Tryz.func18, Tryz.ntmps18
  go_wp2_with fail
  rw [← HW0.out]
  refine HA.out.mono ?_
  intro e w1 hg
  obtain ⟨tt, x1, x2, x3, y1, y2, y3, rfl, hbl1, _, hx1⟩ := HTH.out e w1 hg
  obtain ⟨m0, m1, m2, n0, n1, n2⟩ := hbl1.cells
  have HE := Lib.hid hx1
  clear hg hbl1 hx1 HTH HA HW0
  go_wp2_with fail
  exact bodyPost_ret (v := ratV tt (.slice x1 x2 x3) (.slice y1 y2 y3)) (by simp [results, Tryz.results18, go_sem, ratV, m0, m1, m2]) rfl HE.out

set_option maxRecDepth 100000 in
set_option maxHeartbeats 4000000 in
theorem toldClos3 {W : World} {b m p1 p2 : Nat} {s t : Bool} {a1 a2 b1 b2 : Option Addr} {l1 c1 l2 c2 k1 e1 k2 e2 : Nat} {x y : Rat} (hb : Bench W b m false) (hT : Tab W) (hx : OkQ W ((s, (a1, l1, c1), (a2, l2, c2)), x)) (hy : OkQ W ((t, (b1, k1, e1), (b2, k2, e2)), y))
    (f0 : W.cell? ⟨p1, 0, none⟩ = some (.bool s)) (f1 : W.cell? ⟨p1, 1, none⟩ = some (.slice a1 l1 c1)) (f2 : W.cell? ⟨p1, 2, none⟩ = some (.slice a2 l2 c2)) (f3 : W.cell? ⟨p2, 0, none⟩ = some (.bool t)) (f4 : W.cell? ⟨p2, 1, none⟩ = some (.slice b1 k1 e1)) (f5 : W.cell? ⟨p2, 2, none⟩ = some (.slice b2 k2 e2)) :
    Calls Tryz.prog 21 #[.pointer (some ⟨b, 0, none⟩), .pointer (some ⟨p1, 0, none⟩), .pointer (some ⟨p2, 0, none⟩)] W (GivesQ b m (x * y) W) := by
  obtain ⟨W0, hW0⟩ : ∃ W0, W0 = W.alloc (.cells #[.bool false, .slice none 0 0, .slice none 0 0] 27) := ⟨_, rfl⟩
  have hB0 : Below W.heap.size W W0 := by rw [hW0]; exact (Below.refl _ _).alloc (Nat.le_refl _) _
  have hbl : Blank W0 W.heap.size := by rw [hW0]; exact heap_alloc_new W _
  have hbb := hb.lt
  have HA := Lib.hid (Mul_q (hb.kept hB0) (hT.kept hB0) (hx.kept hB0).ratx (hy.kept hB0).ratx)
  have HTH : Hid (∀ e W', GivesQ b m (x * y) W0 e W' → _) := Lib.hid fun e W' hg => hg.through (grown_of_below hB0 (some b)) (Nat.le_refl _) (by omega) hbl
  have hp1 := World.block_lt_of_cell? _ _ f0
  have hp2 := World.block_lt_of_cell? _ _ f3
  dsimp only at hp1 hp2
  have hn1 : p1 ≠ W.heap.size := by omega
  have hn2 : p2 ≠ W.heap.size := by omega
  have HW0 := Lib.hid hW0
  clear hW0 hB0 hbl hx hy hb hT
  unfold ratV at HA
  go_enter Tryz.func21, Tryz.ntmps21
  go_wp2_with fail
  rw [← HW0.out]
  refine HA.out.mono ?_
  intro e w1 hg
  obtain ⟨tt, x1, x2, x3, y1, y2, y3, rfl, hbl1, _, hx1⟩ := HTH.out e w1 hg
  obtain ⟨m0, m1, m2, n0, n1, n2⟩ := hbl1.cells
  have HE := Lib.hid hx1
  clear hg hbl1 hx1 HTH HA HW0
  go_wp2_with fail
  exact bodyPost_ret (v := ratV tt (.slice x1 x2 x3) (.slice y1 y2 y3)) (by simp [results, Tryz.results21, go_sem, ratV, m0, m1, m2]) rfl HE.out

set_option maxRecDepth 100000 in
set_option maxHeartbeats 4000000 in
theorem toldClos4 {W : World} {b m p1 p2 : Nat} {s t : Bool} {a1 a2 b1 b2 : Option Addr} {l1 c1 l2 c2 k1 e1 k2 e2 : Nat} {x y : Rat} (hb : Bench W b m false) (hT : Tab W) (hx : OkQ W ((s, (a1, l1, c1), (a2, l2, c2)), x)) (hy : OkQ W ((t, (b1, k1, e1), (b2, k2, e2)), y))
    (f0 : W.cell? ⟨p1, 0, none⟩ = some (.bool s)) (f1 : W.cell? ⟨p1, 1, none⟩ = some (.slice a1 l1 c1)) (f2 : W.cell? ⟨p1, 2, none⟩ = some (.slice a2 l2 c2)) (f3 : W.cell? ⟨p2, 0, none⟩ = some (.bool t)) (f4 : W.cell? ⟨p2, 1, none⟩ = some (.slice b1 k1 e1)) (f5 : W.cell? ⟨p2, 2, none⟩ = some (.slice b2 k2 e2)) :
    Calls Tryz.prog 24 #[.pointer (some ⟨b, 0, none⟩), .pointer (some ⟨p1, 0, none⟩), .pointer (some ⟨p2, 0, none⟩)] W (GivesQ b m (x / y) W) := by
  obtain ⟨W0, hW0⟩ : ∃ W0, W0 = W.alloc (.cells #[.bool false, .slice none 0 0, .slice none 0 0] 27) := ⟨_, rfl⟩
  have hB0 : Below W.heap.size W W0 := by rw [hW0]; exact (Below.refl _ _).alloc (Nat.le_refl _) _
  have hbl : Blank W0 W.heap.size := by rw [hW0]; exact heap_alloc_new W _
  have hbb := hb.lt
  have HA := Lib.hid (Div_q (hb.kept hB0) (hT.kept hB0) (hx.kept hB0).ratx (hy.kept hB0).ratx)
  have HTH : Hid (∀ e W', GivesQ b m (x / y) W0 e W' → _) := Lib.hid fun e W' hg => hg.through (grown_of_below hB0 (some b)) (Nat.le_refl _) (by omega) hbl
  have hp1 := World.block_lt_of_cell? _ _ f0
  have hp2 := World.block_lt_of_cell? _ _ f3
  dsimp only at hp1 hp2
  have hn1 : p1 ≠ W.heap.size := by omega
  have hn2 : p2 ≠ W.heap.size := by omega
  have HW0 := Lib.hid hW0
  clear hW0 hB0 hbl hx hy hb hT
  unfold ratV at HA
  go_enter Tryz.func24, Tryz.ntmps24
  go_wp2_with fail
  rw [← HW0.out]
  refine HA.out.mono ?_
  intro e w1 hg
  obtain ⟨tt, x1, x2, x3, y1, y2, y3, rfl, hbl1, _, hx1⟩ := HTH.out e w1 hg
  obtain ⟨m0, m1, m2, n0, n1, n2⟩ := hbl1.cells
  have HE := Lib.hid hx1
  clear hg hbl1 hx1 HTH HA HW0
  go_wp2_with fail
  exact bodyPost_ret (v := ratV tt (.slice x1 x2 x3) (.slice y1 y2 y3)) (by simp [results, Tryz.results24, go_sem, ratV, m0, m1, m2]) rfl HE.out

theorem PairAt.split {W0 W : World} {q r : Rat} {i : Nat × Nat × RawR × RawR} (h : PairAt W0 q r i W) : ∃ W', W = W' ∧ PairAt W0 q r i W' := ⟨W, rfl, h⟩
theorem ofR_first {W0 W : World} {s : Bool} {a1 a2 : Option Addr} {l1 c1 l2 c2 : Nat} {x : Rat} (ho : VQ x (s, (a1, l1, c1), (a2, l2, c2)) W0) (hs : szQ x ≤ 100) (hb : Below W0.heap.size W0 W) :
    Calls Tryz.prog 13 #[.agg #[.bool s, .slice a1 l1 c1, .slice a2 l2 c2]] W fun e W' => ∃ s3 x1 n1 k1 x2 n2 k2, e = .returned (.agg #[.bool s3, .slice x1 n1 k1, .slice x2 n2 k2]) ∧ Hid (D1 W0 x (s3, (x1, n1, k1), (x2, n2, k2)) W') ∧ Hid (Below W.heap.size W W') := by
  refine (got_of (ho.kept hb) hs (Below.refl W.heap.size W)).mono ?_
  rintro e W' ⟨s3, x1, n1, k1, x2, n2, k2, rfl, h1, h2⟩
  exact ⟨s3, x1, n1, k1, x2, n2, k2, rfl, Lib.hid ⟨h2.out, hb.trans (h1.out.mono hb.size)⟩, h1⟩
theorem ofR_second {W0 W3 W : World} {s : Bool} {a1 a2 : Option Addr} {l1 c1 l2 c2 : Nat} {x y : Rat} {a : RawR} (hd : D1 W0 x a W3) (ho : VQ y (s, (a1, l1, c1), (a2, l2, c2)) W0) (hs : szQ y ≤ 100) (hW : Below W3.heap.size W3 W) :
    Calls Tryz.prog 13 #[.agg #[.bool s, .slice a1 l1 c1, .slice a2 l2 c2]] W fun e W' => ∃ s3 x1 n1 k1 x2 n2 k2, e = .returned (.agg #[.bool s3, .slice x1 n1 k1, .slice x2 n2 k2]) ∧ Hid (D2 W0 x y a (s3, (x1, n1, k1), (x2, n2, k2)) W') ∧ Hid (Below W.heap.size W W') := by
  have hd' := hd.kept hW
  refine (got_of (ho.kept hd'.below) hs (Below.refl W.heap.size W)).mono ?_
  rintro e W' ⟨s3, x1, n1, k1, x2, n2, k2, rfl, h1, h2⟩
  exact ⟨s3, x1, n1, k1, x2, n2, k2, rfl, Lib.hid ⟨hd'.vx.kept h1.out, h2.out, hd'.below.trans (h1.out.mono hd'.below.size)⟩, h1⟩

set_option maxRecDepth 100000 in
set_option maxHeartbeats 16000000 in
theorem toldR_walk {n : Int} {s t : Bool} {a1 a2 b1 b2 : Option Addr} {c1 c2 e1 e2 : Nat} {xs ds ys es : List Nat} {w : World} (hn : n ≤ 9223372036854775807) (hx : HandR w a1 c1 xs a2 c2 ds) (hy : HandR w b1 e1 ys b2 e2 es) (hT : Tab w) :
    Calls Tryz.prog 3 #[.int .i64 n, ratV s (.slice a1 xs.length c1) (.slice a2 ds.length c2), ratV t (.slice b1 ys.length e1) (.slice b2 es.length e2)] w (Holds w) := by
  obtain ⟨W0, hW0, hB0, k1, k2, hsz⟩ := boxes2 w #[.bool s, .slice a1 xs.length c1, .slice a2 ds.length c2] #[.bool t, .slice b1 ys.length e1, .slice b2 es.length e2] 27 27
  have HSP := Lib.hid (speaks02 (hT.kept hB0))
  have HK := Lib.hid (keep6 k1 k2)
  have HW0 := Lib.hid hW0
  have HB := Lib.hid hB0
  have HX := Lib.hid (hx.kept hB0)
  have HY := Lib.hid (hy.kept hB0)
  have HT := Lib.hid (hT.kept hB0)
  have HN := Lib.hid hn
  have HWL : Hid (w.heap.size + 1 < W0.heap.size) := Lib.hid (by omega)
  obtain ⟨p0, p1, p2, _⟩ := cells3 k1
  obtain ⟨p3, p4, p5, _⟩ := cells3 k2
  clear hW0 hB0 k1 k2 hx hy hT hsz hn
  unfold ratV
  go_enter Tryz.func3, Tryz.ntmps3
  go_wp2_with fail
  rw [← HW0.out]
  refine HSP.out.mono ?_
  rintro e w1 ⟨rfl, hb1⟩
  obtain ⟨p0, p1, p2, p3, p4, p5⟩ := HK.out _ hb1
  have HB1 := Lib.hid hb1
  clear hb1 HSP
  go_wp2_with fail
  have HBL1 := Lib.hid (HB.out.trans (HB1.out.mono HB.out.size))
  have hal := (Below.refl w1.heap.size w1).alloc (Nat.le_refl _) (.cells #[.bool s, .slice a1 xs.length c1, .slice a2 ds.length c2, .bool t, .slice b1 ys.length e1, .slice b2 es.length e2] 27)
  have HAL := Lib.hid hal
  have HG : Hid (Calls Tryz.prog 11 #[.slice (some ⟨w1.heap.size, 0, none⟩) 2 2] (w1.alloc (.cells #[.bool s, .slice a1 xs.length c1, .slice a2 ds.length c2, .bool t, .slice b1 ys.length e1, .slice b2 es.length e2] 27)) (GivesB (greatB [(s, (a1, xs.length, c1), (a2, ds.length, c2)), (t, (b1, ys.length, e1), (b2, es.length, e2))]) (w1.alloc (.cells #[.bool s, .slice a1 xs.length c1, .slice a2 ds.length c2, .bool t, .slice b1 ys.length e1, .slice b2 es.length e2] 27)))) :=
    Lib.hid (Great_any w1.heap.size 2 [(s, (a1, xs.length, c1), (a2, ds.length, c2)), (t, (b1, ys.length, e1), (b2, es.length, e2))] _ (Rats.two (heap_alloc_new w1 _)) (by simp) (by simp))
  clear hal
  cases hgr : greatB [(s, (a1, xs.length, c1), (a2, ds.length, c2)), (t, (b1, ys.length, e1), (b2, es.length, e2))]
  case true =>
    rw [hgr] at HG
    clear hgr
    refine HG.out.mono ?_
    rintro e w2 ⟨rfl, hb2⟩
    have HE := Lib.hid (HBL1.out.trans ((HAL.out.trans (hb2.mono HAL.out.size)).mono HBL1.out.size))
    clear hb2 HG HAL
    go_wp2_with fail
    go_ret
    exact ⟨rfl, HE.out⟩
  case false =>
  rw [hgr] at HG
  obtain ⟨l1, l2, l3, l4⟩ := great_two hgr
  clear hgr
  refine HG.out.mono ?_
  rintro e w2 ⟨rfl, hb2⟩
  have hb02 := HB1.out.trans ((HAL.out.trans (hb2.mono HAL.out.size)).mono HB1.out.size)
  have HRX := Lib.hid (RightR_any' (s := s) (HX.out.kept hb02) l1 l2)
  have HRY : Hid (∀ W, Below W0.heap.size W0 W → Calls Tryz.prog 12 #[.agg #[.bool t, .slice b1 ys.length e1, .slice b2 es.length e2]] W (GivesB (rightB t ys es) W)) := Lib.hid fun W h => RightR_any' (HY.out.kept h) l3 l4
  obtain ⟨p0, p1, p2, p3, p4, p5⟩ := HK.out _ hb02
  have HB2 := Lib.hid hb02
  clear hb2 hb02 HG HAL HB1 HBL1
  go_wp2_with fail
  cases hrx : rightB s xs ds
  case false =>
    rw [hrx] at HRX
    clear hrx
    refine HRX.out.mono ?_
    rintro e w3 ⟨rfl, hb3⟩
    have hb03 := HB2.out.trans (hb3.mono HB2.out.size)
    have HE := Lib.hid (HB.out.trans (hb03.mono HB.out.size))
    clear hb3 hb03 HRX HRY
    go_wp2_with fail
    go_ret
    exact ⟨rfl, HE.out⟩
  case true =>
  rw [hrx] at HRX
  have HRTX := Lib.hid hrx
  clear hrx
  refine HRX.out.mono ?_
  rintro e w3 ⟨rfl, hb3⟩
  have hb03 := HB2.out.trans (hb3.mono HB2.out.size)
  have HRY2 := Lib.hid (HRY.out _ hb03)
  obtain ⟨p0, p1, p2, p3, p4, p5⟩ := HK.out _ hb03
  have HB3 := Lib.hid hb03
  clear hb3 hb03 HRX HRY HB2
  go_wp2_with fail
  cases hry : rightB t ys es
  case false =>
    rw [hry] at HRY2
    clear hry
    refine HRY2.out.mono ?_
    rintro e w4 ⟨rfl, hb4⟩
    have hb04 := HB3.out.trans (hb4.mono HB3.out.size)
    have HE := Lib.hid (HB.out.trans (hb04.mono HB.out.size))
    clear hb4 hb04 HRY2
    go_wp2_with fail
    go_ret
    exact ⟨rfl, HE.out⟩
  case true =>
  rw [hry] at HRY2
  have HRTY := Lib.hid hry
  clear hry
  refine HRY2.out.mono ?_
  rintro e w4 ⟨rfl, hb4⟩
  have hb04 := HB3.out.trans (hb4.mono HB3.out.size)
  obtain ⟨p0, p1, p2, p3, p4, p5⟩ := HK.out _ hb04
  have HB4 := Lib.hid hb04
  clear hb4 HRY2 HB3
  obtain ⟨x, ox, zx⟩ := okq_of_right HX.out HRTX.out l1 l2
  obtain ⟨y, oy, zy⟩ := okq_of_right HY.out HRTY.out l3 l4
  have HZX : Hid (szQ x ≤ 6) := Lib.hid zx
  have HZY : Hid (szQ y ≤ 6) := Lib.hid zy
  have HOX := Lib.hid ox
  have HOY := Lib.hid oy
  obtain ⟨z0, z1, z2, z3, z4, z5, z6, z7⟩ := far2 HWL.out hb04
  have hle := hb04.size
  have hle2 : W0.heap.size ≤ w4.heap.size + 1 := Nat.le_succ_of_le hle
  have HLE := Lib.hid (And.intro hle hle2)
  have HDA := Lib.hid (ofR_first ox.vq (by omega) (show Below W0.heap.size W0 w4.drew from hb04.trans ((below_drew w4).mono hb04.size)))
  have HDB := Lib.hid (ofR_first ox.vq (by omega) (show Below W0.heap.size W0 (w4.alloc (.cells #[.bool false, .slice none 0 0, .slice none 0 0] 34)).drew from hb04.trans ((show Below w4.heap.size w4 (w4.alloc (.cells #[.bool false, .slice none 0 0, .slice none 0 0] 34)).drew from Below.drewN' ((Below.refl w4.heap.size w4).alloc (Nat.le_refl _) (.cells #[.bool false, .slice none 0 0, .slice none 0 0] 34)) 1).mono hb04.size)))
  have HDC := Lib.hid (ofR_first ox.vq (by omega) (show Below W0.heap.size W0 ((w4.alloc (.cells #[.bool false, .slice none 0 0, .slice none 0 0] 34)).alloc (.cells #[.bool false, .slice none 0 0, .slice none 0 0] 34)).drew from hb04.trans ((show Below w4.heap.size w4 ((w4.alloc (.cells #[.bool false, .slice none 0 0, .slice none 0 0] 34)).alloc (.cells #[.bool false, .slice none 0 0, .slice none 0 0] 34)).drew from Below.drewN' (((Below.refl w4.heap.size w4).alloc (Nat.le_refl _) (.cells #[.bool false, .slice none 0 0, .slice none 0 0] 34)).alloc (by simp) (.cells #[.bool false, .slice none 0 0, .slice none 0 0] 34)) 1).mono hb04.size)))
  have HZB : Hid (BlankD (w4.alloc (.cells #[.bool false, .slice none 0 0, .slice none 0 0] 34)).drew w4.heap.size) := Lib.hid (heap_alloc_new w4 _)
  have HZC : Hid (BlankD ((w4.alloc (.cells #[.bool false, .slice none 0 0, .slice none 0 0] 34)).alloc (.cells #[.bool false, .slice none 0 0, .slice none 0 0] 34)).drew w4.heap.size ∧ BlankD ((w4.alloc (.cells #[.bool false, .slice none 0 0, .slice none 0 0] 34)).alloc (.cells #[.bool false, .slice none 0 0, .slice none 0 0] 34)).drew (w4.heap.size + 1)) := Lib.hid (by
    refine ⟨?_, ?_⟩
    · exact BlankD.kept (heap_alloc_new w4 _) (Below.drewN' ((Below.refl _ _).alloc (Nat.le_refl _) (.cells #[.bool false, .slice none 0 0, .slice none 0 0] 34)) 1)
    · have := heap_alloc_new (w4.alloc (.cells #[.bool false, .slice none 0 0, .slice none 0 0] 34)) (.cells #[.bool false, .slice none 0 0, .slice none 0 0] 34)
      simpa [BlankD, World.drew] using this)
  have HE1 : Hid (w4.heap.size ≠ w4.heap.size + 1) := Lib.hid (by omega)
  have HYS : Hid (VQ y (t, (b1, ys.length, e1), (b2, es.length, e2)) W0 ∧ szQ y ≤ 100) := Lib.hid ⟨oy.vq, by omega⟩
  clear hb04 ox oy zx zy hle hle2 HX HY HRTX HRTY l1 l2 l3 l4 HW0
  go_wp2_with fail
  refine wp_region_ex (ι := Nat × Nat × RawR × RawR) (fun i => [(26, .agg #[.bool s, .slice a1 xs.length c1, .slice a2 ds.length c2]), (27, .agg #[.bool i.2.2.1.1, .slice i.2.2.1.2.1.1 i.2.2.1.2.1.2.1 i.2.2.1.2.1.2.2, .slice i.2.2.1.2.2.1 i.2.2.1.2.2.2.1 i.2.2.1.2.2.2.2]),
    (28, .agg #[.bool t, .slice b1 ys.length e1, .slice b2 es.length e2]), (29, .agg #[.bool i.2.2.2.1, .slice i.2.2.2.2.1.1 i.2.2.2.2.1.2.1 i.2.2.2.2.1.2.2, .slice i.2.2.2.2.2.1 i.2.2.2.2.2.2.1 i.2.2.2.2.2.2.2]), (7, .pointer (some ⟨i.1, 0, none⟩)), (8, .pointer (some ⟨i.2.1, 0, none⟩))]) (PairAt W0 x y) ?region ?rest
  case region =>
    go_region_held3 (fun w' => w'.cell? ⟨w.heap.size, 0, none⟩ = some (.bool (s)) ∧ w'.cell? ⟨w.heap.size, 1, none⟩ = some (.slice a1 xs.length c1) ∧ w'.cell? ⟨w.heap.size, 2, none⟩ = some (.slice a2 ds.length c2) ∧ w'.cell? ⟨w.heap.size + 1, 0, none⟩ = some (.bool (t)) ∧ w'.cell? ⟨w.heap.size + 1, 1, none⟩ = some (.slice b1 ys.length e1) ∧ w'.cell? ⟨w.heap.size + 1, 2, none⟩ = some (.slice b2 es.length e2)) (first | with_reducible exact HK.out _ hp4 | with_reducible exact HK.out _ hpa | with_reducible exact HK.out _ hpb | with_reducible exact HK.out _ hpc | go_keep)
      (first
        | (go_at_call 13; (with_reducible refine HDA.out.mono ?_); rintro e wa ⟨r3, x1, n1, k1, x2, n2, k2, rfl, HTA, HGA⟩; have hpa := HTA.out.below; obtain ⟨q0, q1, q2, q3, q4, q5⟩ := HK.out _ hpa; obtain ⟨u0, u1, u2, u3, u4, u5, u6, u7⟩ := far2 HWL.out hpa)
        | (go_at_call 13; (with_reducible refine HDB.out.mono ?_); rintro e wb ⟨r3, x1, n1, k1, x2, n2, k2, rfl, HTB, HGB⟩; have hpb := HTB.out.below; obtain ⟨q0, q1, q2, q3, q4, q5⟩ := HK.out _ hpb; obtain ⟨u0, u1, u2, u3, u4, u5, u6, u7⟩ := far2 HWL.out hpb; have HBB := Lib.hid (HZB.out.kept HGB.out))
        | (go_at_call 13; (with_reducible refine HDC.out.mono ?_); rintro e wc ⟨r3, x1, n1, k1, x2, n2, k2, rfl, HTC, HGC⟩; have hpc := HTC.out.below; obtain ⟨q0, q1, q2, q3, q4, q5⟩ := HK.out _ hpc; obtain ⟨u0, u1, u2, u3, u4, u5, u6, u7⟩ := far2 HWL.out hpc; have HC1 := Lib.hid (HZC.out.1.kept HGC.out); have HC2 := Lib.hid (HZC.out.2.kept HGC.out))
        | (go_at_call 13; (with_reducible refine (ofR_second HTA.out HYS.out.1 HYS.out.2 (Below.refl _ _)).mono ?_); rintro e w4' ⟨r4, y1, m1, j1, y2, m2, j2, rfl, H2, HG4⟩; have hp4 := H2.out.below; obtain ⟨r0, r1, r2, r5, r6, r7⟩ := HK.out _ hp4; obtain ⟨o0, o1, o2, o3, o4, o5, o6, o7⟩ := far2 HWL.out hp4; have hf1 := H2.out.end0a; have hf2 := H2.out.end0b; dsimp only [Go.Proofs.YtomoemgoglghlaaGreatDoor.set3] at hf1 hf2; obtain ⟨WA, hWA, hf3⟩ := hf1.split; obtain ⟨WB, hWB, hf4⟩ := hf2.split; have HF1 := Lib.hid hf3; have HF2 := Lib.hid hf4; have HWA := Lib.hid hWA; have HWB := Lib.hid hWB; clear hf1 hf2 hf3 hf4 hWA hWB)
        | (go_at_call 13; (with_reducible refine (ofR_second HTA.out HYS.out.1 HYS.out.2 ((Below.refl wa.heap.size wa).alloc (Nat.le_refl _) (.cells #[.bool false, .slice none 0 0, .slice none 0 0] 34))).mono ?_); rintro e w4' ⟨r4, y1, m1, j1, y2, m2, j2, rfl, H2, HG4⟩; have hp4 := H2.out.below; obtain ⟨r0, r1, r2, r5, r6, r7⟩ := HK.out _ hp4; obtain ⟨o0, o1, o2, o3, o4, o5, o6, o7⟩ := far2 HWL.out hp4; have HX1 := Lib.hid (BlankD.kept (heap_alloc_new wa _) HG4.out); have hf1 := (H2.out.end1a HX1.out HTA.out.below.size); have hf2 := (H2.out.end1b HX1.out HTA.out.below.size); dsimp only [Go.Proofs.YtomoemgoglghlaaGreatDoor.set3] at hf1 hf2; obtain ⟨WA, hWA, hf3⟩ := hf1.split; obtain ⟨WB, hWB, hf4⟩ := hf2.split; have HF1 := Lib.hid hf3; have HF2 := Lib.hid hf4; have HWA := Lib.hid hWA; have HWB := Lib.hid hWB; clear hf1 hf2 hf3 hf4 hWA hWB; obtain ⟨g0, g1, g2, g3, g4, g5⟩ := HX1.out.cells; obtain ⟨v0, v1, v2⟩ := HX1.out.ne)
        | (go_at_call 13; (with_reducible refine (ofR_second HTA.out HYS.out.1 HYS.out.2 (((Below.refl wa.heap.size wa).alloc (Nat.le_refl _) (.cells #[.bool false, .slice none 0 0, .slice none 0 0] 34)).alloc (by simp) (.cells #[.bool false, .slice none 0 0, .slice none 0 0] 34))).mono ?_); rintro e w4' ⟨r4, y1, m1, j1, y2, m2, j2, rfl, H2, HG4⟩; have hp4 := H2.out.below; obtain ⟨r0, r1, r2, r5, r6, r7⟩ := HK.out _ hp4; obtain ⟨o0, o1, o2, o3, o4, o5, o6, o7⟩ := far2 HWL.out hp4; have HX1 := Lib.hid (BlankD.kept (BlankD.kept (heap_alloc_new wa _) ((Below.refl _ _).alloc (Nat.le_refl _) _)) HG4.out); have HX2 := Lib.hid (blankD_second wa HG4.out); have hf1 := (H2.out.end2 HX1.out HX2.out (Nat.ne_of_lt (Nat.lt_succ_self _)) HTA.out.below.size (Nat.le_succ_of_le HTA.out.below.size)); have hf2 := (H2.out.end2 HX2.out HX1.out (Nat.ne_of_gt (Nat.lt_succ_self _)) (Nat.le_succ_of_le HTA.out.below.size) HTA.out.below.size); dsimp only [Go.Proofs.YtomoemgoglghlaaGreatDoor.set3] at hf1 hf2; obtain ⟨WA, hWA, hf3⟩ := hf1.split; obtain ⟨WB, hWB, hf4⟩ := hf2.split; have HF1 := Lib.hid hf3; have HF2 := Lib.hid hf4; have HWA := Lib.hid hWA; have HWB := Lib.hid hWB; clear hf1 hf2 hf3 hf4 hWA hWB; obtain ⟨g0, g1, g2, g3, g4, g5⟩ := HX1.out.cells; obtain ⟨i0, i1, i2, i3, i4, i5⟩ := HX2.out.cells)
        | (go_at_call 13; (with_reducible refine (ofR_second HTB.out HYS.out.1 HYS.out.2 (Below.refl _ _)).mono ?_); rintro e w4' ⟨r4, y1, m1, j1, y2, m2, j2, rfl, H2, HG4⟩; have hp4 := H2.out.below; obtain ⟨r0, r1, r2, r5, r6, r7⟩ := HK.out _ hp4; obtain ⟨o0, o1, o2, o3, o4, o5, o6, o7⟩ := far2 HWL.out hp4; have HX1 := Lib.hid (HBB.out.kept HG4.out); have hf1 := (H2.out.end1a HX1.out HLE.out.1); have hf2 := (H2.out.end1b HX1.out HLE.out.1); dsimp only [Go.Proofs.YtomoemgoglghlaaGreatDoor.set3] at hf1 hf2; obtain ⟨WA, hWA, hf3⟩ := hf1.split; obtain ⟨WB, hWB, hf4⟩ := hf2.split; have HF1 := Lib.hid hf3; have HF2 := Lib.hid hf4; have HWA := Lib.hid hWA; have HWB := Lib.hid hWB; clear hf1 hf2 hf3 hf4 hWA hWB; obtain ⟨g0, g1, g2, g3, g4, g5⟩ := HX1.out.cells; obtain ⟨v0, v1, v2⟩ := HX1.out.ne)
        | (go_at_call 13; (with_reducible refine (ofR_second HTB.out HYS.out.1 HYS.out.2 ((Below.refl wb.heap.size wb).alloc (Nat.le_refl _) (.cells #[.bool false, .slice none 0 0, .slice none 0 0] 34))).mono ?_); rintro e w4' ⟨r4, y1, m1, j1, y2, m2, j2, rfl, H2, HG4⟩; have hp4 := H2.out.below; obtain ⟨r0, r1, r2, r5, r6, r7⟩ := HK.out _ hp4; obtain ⟨o0, o1, o2, o3, o4, o5, o6, o7⟩ := far2 HWL.out hp4; have HX2 := Lib.hid (BlankD.kept (heap_alloc_new wb _) HG4.out); have HX1 := Lib.hid ((HBB.out.kept ((Below.refl _ _).alloc (Nat.le_refl _) _)).kept HG4.out); have hgh : w4.heap.size ≠ wb.heap.size := Nat.ne_of_lt (Array.getElem?_eq_some_iff.1 HBB.out).1; have hhg := Ne.symm hgh; have hf1 := (H2.out.end2 HX1.out HX2.out hgh HLE.out.1 HTB.out.below.size); have hf2 := (H2.out.end2 HX2.out HX1.out hhg HTB.out.below.size HLE.out.1); dsimp only [Go.Proofs.YtomoemgoglghlaaGreatDoor.set3] at hf1 hf2; obtain ⟨WA, hWA, hf3⟩ := hf1.split; obtain ⟨WB, hWB, hf4⟩ := hf2.split; have HF1 := Lib.hid hf3; have HF2 := Lib.hid hf4; have HWA := Lib.hid hWA; have HWB := Lib.hid hWB; clear hf1 hf2 hf3 hf4 hWA hWB; obtain ⟨g0, g1, g2, g3, g4, g5⟩ := HX1.out.cells; obtain ⟨i0, i1, i2, i3, i4, i5⟩ := HX2.out.cells)
        | (go_at_call 13; (with_reducible refine (ofR_second HTC.out HYS.out.1 HYS.out.2 (Below.refl _ _)).mono ?_); rintro e w4' ⟨r4, y1, m1, j1, y2, m2, j2, rfl, H2, HG4⟩; have hp4 := H2.out.below; obtain ⟨r0, r1, r2, r5, r6, r7⟩ := HK.out _ hp4; obtain ⟨o0, o1, o2, o3, o4, o5, o6, o7⟩ := far2 HWL.out hp4; have HX1 := Lib.hid (HC1.out.kept HG4.out); have HX2 := Lib.hid (HC2.out.kept HG4.out); have hf1 := (H2.out.end2 HX1.out HX2.out HE1.out HLE.out.1 HLE.out.2); have hf2 := (H2.out.end2 HX2.out HX1.out (Ne.symm HE1.out) HLE.out.2 HLE.out.1); dsimp only [Go.Proofs.YtomoemgoglghlaaGreatDoor.set3] at hf1 hf2; obtain ⟨WA, hWA, hf3⟩ := hf1.split; obtain ⟨WB, hWB, hf4⟩ := hf2.split; have HF1 := Lib.hid hf3; have HF2 := Lib.hid hf4; have HWA := Lib.hid hWA; have HWB := Lib.hid hWB; clear hf1 hf2 hf3 hf4 hWA hWB; obtain ⟨g0, g1, g2, g3, g4, g5⟩ := HX1.out.cells; obtain ⟨i0, i1, i2, i3, i4, i5⟩ := HX2.out.cells))
    all_goals
      refine OnlyEx.mk' ?_
      simp only [HWA.out, HWB.out]
      first
        | (with_reducible refine ⟨_, ?_, HF1.out⟩; simp only [puts, Act.put, List.setIfInBounds_toArray, List.set_cons_zero, List.set_cons_succ]; done)
        | (with_reducible refine ⟨_, ?_, HF2.out⟩; simp only [puts, Act.put, List.setIfInBounds_toArray, List.set_cons_zero, List.set_cons_succ]; done)
  case rest =>
    rintro ⟨g, k, ⟨s3, ⟨x1, n1, k1⟩, ⟨x2, n2, k2⟩⟩, ⟨t3, ⟨y1, m1, j1⟩, ⟨y2, m2, j2⟩⟩⟩ w5 hF
    obtain ⟨hx, hy, hT5⟩ := hF
    unfold LiesD at hx hy
    dsimp only at hx hy hT5
    have HVX := Lib.hid hT5.vx
    have HVY := Lib.hid hT5.vy
    have HB5 := Lib.hid hT5.below
    have HKX := Lib.hid (keep3 hx)
    have HKY := Lib.hid (keep3 hy)
    have HKK : Hid (∀ W, Below w5.heap.size w5 W → (W.cell? ⟨w.heap.size, 0, none⟩ = some (.bool s) ∧ W.cell? ⟨w.heap.size, 1, none⟩ = some (.slice a1 xs.length c1) ∧ W.cell? ⟨w.heap.size, 2, none⟩ = some (.slice a2 ds.length c2) ∧ W.cell? ⟨w.heap.size + 1, 0, none⟩ = some (.bool t) ∧ W.cell? ⟨w.heap.size + 1, 1, none⟩ = some (.slice b1 ys.length e1) ∧ W.cell? ⟨w.heap.size + 1, 2, none⟩ = some (.slice b2 es.length e2) ∧ W.cell? ⟨g, 0, none⟩ = some (.bool s3) ∧ W.cell? ⟨g, 1, none⟩ = some (.slice x1 n1 k1) ∧ W.cell? ⟨g, 2, none⟩ = some (.slice x2 n2 k2) ∧ W.cell? ⟨k, 0, none⟩ = some (.bool t3) ∧ W.cell? ⟨k, 1, none⟩ = some (.slice y1 m1 j1) ∧ W.cell? ⟨k, 2, none⟩ = some (.slice y2 m2 j2))) := Lib.hid fun W h => by
      obtain ⟨f0, f1, f2, f3, f4, f5⟩ := HK.out _ (HB5.out.trans (h.mono HB5.out.size))
      obtain ⟨g0, g1, g2, _⟩ := HKX.out W h
      obtain ⟨i0, i1, i2, _⟩ := HKY.out W h
      exact ⟨f0, f1, f2, f3, f4, f5, g0, g1, g2, i0, i1, i2⟩
    have HBL := Lib.hid (HB.out.trans (HB5.out.mono HB.out.size))
    have zx := HZX.out
    have zy := HZY.out
    have q1 := szQ_add x y
    have q2 := szQ_sub x y
    have q3 := szQ_mul x y
    have q4 := szQ_div x y
    have q5 := szQ_neg x
    have q6 := szQ_neg y
    have HOP : Hid (∀ W, Below w5.heap.size w5 W → VD x (s3, (x1, n1, k1), (x2, n2, k2)) W ∧ VD y (t3, (y1, m1, j1), (y2, m2, j2)) W ∧ OkQ W ((s, (a1, xs.length, c1), (a2, ds.length, c2)), x) ∧ OkQ W ((t, (b1, ys.length, e1), (b2, es.length, e2)), y) ∧ Tab W) := Lib.hid fun W h => by
      have hb := HB5.out.trans (h.mono HB5.out.size)
      exact ⟨HVX.out.kept h, HVY.out.kept h, HOX.out.kept hb, HOY.out.kept hb, HT.out.kept hb⟩
    have HAD := Lib.hid (fun W (h : Below w5.heap.size w5 W) => got_add (HOP.out W h).1 (HOP.out W h).2.1 (by omega) (by omega) h)
    have HNE := Lib.hid (fun W (h : Below w5.heap.size w5 W) => got_neg (HOP.out W h).2.1 h)
    have HSB : Hid (∀ W z0 z1 z2 z3 z4 z5 z6, Below w5.heap.size w5 W → VD (-y) (z0, (z1, z2, z3), (z4, z5, z6)) W → Calls Tryz.prog 17 #[.agg #[.bool s3, .slice x1 n1 k1, .slice x2 n2 k2], .agg #[.bool z0, .slice z1 z2 z3, .slice z4 z5 z6]] W (GotD w5 (x - y))) := Lib.hid fun W z0 z1 z2 z3 z4 z5 z6 h hv => by
      rw [Rat.sub_eq_add_neg]
      exact got_add ((HOP.out W h).1) hv (by omega) (by omega) h
    have HMU := Lib.hid (fun W (h : Below w5.heap.size w5 W) => got_mul (HOP.out W h).1 (HOP.out W h).2.1 (by omega) (by omega) h)
    have HDI := Lib.hid (fun W (h : Below w5.heap.size w5 W) => got_div (HOP.out W h).1 (HOP.out W h).2.1 (by omega) (by omega) h)
    have HT1 : Hid (∀ W z0 z1 z2 z3 z4 z5 z6, Below w5.heap.size w5 W → VD (x + y) (z0, (z1, z2, z3), (z4, z5, z6)) W → Calls Tryz.prog 14 #[.int .i64 n, .func (.func 15) #[] #[.pointer (some ⟨w.heap.size, 0, none⟩), .pointer (some ⟨w.heap.size + 1, 0, none⟩)], .agg #[.bool z0, .slice z1 z2 z3, .slice z4 z5 z6]] W (GotV w5 (.bool true))) := Lib.hid fun W z0 z1 z2 z3 z4 z5 z6 h hv => by
      obtain ⟨v1, v2⟩ := hv.eq
      obtain ⟨l1, l2⟩ := dl_q (q := x + y) (k := 50) (by omega)
      rw [v1]
      refine (told02_1 HN.out v2 (by omega) (by omega) (by omega) fun m W' b _ _ hB hbe _ => ?_).mono fun e W' hg => ⟨hg.1, Lib.hid (h.trans (hg.2.mono h.size))⟩
      have hb := h.trans (hB.mono h.size)
      obtain ⟨_, _, o1, o2, o3⟩ := HOP.out W' hb
      obtain ⟨f0, f1, f2, f3, f4, f5, _⟩ := HKK.out W' hb
      exact toldClos1 hbe o3 o1 o2 f0 f1 f2 f3 f4 f5
    have HT2 : Hid (∀ W z0 z1 z2 z3 z4 z5 z6, Below w5.heap.size w5 W → VD (x - y) (z0, (z1, z2, z3), (z4, z5, z6)) W → Calls Tryz.prog 14 #[.int .i64 n, .func (.func 18) #[] #[.pointer (some ⟨w.heap.size, 0, none⟩), .pointer (some ⟨w.heap.size + 1, 0, none⟩)], .agg #[.bool z0, .slice z1 z2 z3, .slice z4 z5 z6]] W (GotV w5 (.bool true))) := Lib.hid fun W z0 z1 z2 z3 z4 z5 z6 h hv => by
      obtain ⟨v1, v2⟩ := hv.eq
      obtain ⟨l1, l2⟩ := dl_q (q := x - y) (k := 50) (by omega)
      rw [v1]
      refine (told02_2 HN.out v2 (by omega) (by omega) (by omega) fun m W' b _ _ hB hbe _ => ?_).mono fun e W' hg => ⟨hg.1, Lib.hid (h.trans (hg.2.mono h.size))⟩
      have hb := h.trans (hB.mono h.size)
      obtain ⟨_, _, o1, o2, o3⟩ := HOP.out W' hb
      obtain ⟨f0, f1, f2, f3, f4, f5, _⟩ := HKK.out W' hb
      exact toldClos2 hbe o3 o1 o2 f0 f1 f2 f3 f4 f5
    have HT3 : Hid (∀ W z0 z1 z2 z3 z4 z5 z6, Below w5.heap.size w5 W → VD (x * y) (z0, (z1, z2, z3), (z4, z5, z6)) W → Calls Tryz.prog 14 #[.int .i64 n, .func (.func 21) #[] #[.pointer (some ⟨w.heap.size, 0, none⟩), .pointer (some ⟨w.heap.size + 1, 0, none⟩)], .agg #[.bool z0, .slice z1 z2 z3, .slice z4 z5 z6]] W (GotV w5 (.bool true))) := Lib.hid fun W z0 z1 z2 z3 z4 z5 z6 h hv => by
      obtain ⟨v1, v2⟩ := hv.eq
      obtain ⟨l1, l2⟩ := dl_q (q := x * y) (k := 50) (by omega)
      rw [v1]
      refine (told02_3 HN.out v2 (by omega) (by omega) (by omega) fun m W' b _ _ hB hbe _ => ?_).mono fun e W' hg => ⟨hg.1, Lib.hid (h.trans (hg.2.mono h.size))⟩
      have hb := h.trans (hB.mono h.size)
      obtain ⟨_, _, o1, o2, o3⟩ := HOP.out W' hb
      obtain ⟨f0, f1, f2, f3, f4, f5, _⟩ := HKK.out W' hb
      exact toldClos3 hbe o3 o1 o2 f0 f1 f2 f3 f4 f5
    have HT4 : Hid (∀ W z0 z1 z2 z3 z4 z5 z6, Below w5.heap.size w5 W → VD (x / y) (z0, (z1, z2, z3), (z4, z5, z6)) W → Calls Tryz.prog 14 #[.int .i64 n, .func (.func 24) #[] #[.pointer (some ⟨w.heap.size, 0, none⟩), .pointer (some ⟨w.heap.size + 1, 0, none⟩)], .agg #[.bool z0, .slice z1 z2 z3, .slice z4 z5 z6]] W (GotV w5 (.bool true))) := Lib.hid fun W z0 z1 z2 z3 z4 z5 z6 h hv => by
      obtain ⟨v1, v2⟩ := hv.eq
      obtain ⟨l1, l2⟩ := dl_q (q := x / y) (k := 50) (by omega)
      rw [v1]
      refine (told02_4 HN.out v2 (by omega) (by omega) (by omega) fun m W' b _ _ hB hbe _ => ?_).mono fun e W' hg => ⟨hg.1, Lib.hid (h.trans (hg.2.mono h.size))⟩
      have hb := h.trans (hB.mono h.size)
      obtain ⟨_, _, o1, o2, o3⟩ := HOP.out W' hb
      obtain ⟨f0, f1, f2, f3, f4, f5, _⟩ := HKK.out W' hb
      exact toldClos4 hbe o3 o1 o2 f0 f1 f2 f3 f4 f5
    obtain ⟨c, hc⟩ : ∃ c, cmpQ x y = c := ⟨_, rfl⟩
    obtain ⟨d, hd⟩ : ∃ d, cmpQ x 0 = d := ⟨_, rfl⟩
    obtain ⟨tx, htx⟩ : ∃ v, textQ x = v := ⟨_, rfl⟩
    obtain ⟨tm, htm⟩ : ∃ v, termQ x = v := ⟨_, rfl⟩
    have HCP : Hid (∀ W, Below w5.heap.size w5 W → Calls Tryz.prog 27 #[.agg #[.bool s, .slice a1 xs.length c1, .slice a2 ds.length c2], .agg #[.bool t, .slice b1 ys.length e1, .slice b2 es.length e2]] W (GotV w5 (.int .i64 c))) := Lib.hid fun W h => by
      subst hc
      exact (CmpP_q (HOP.out W h).2.2.1.ratx (HOP.out W h).2.2.2.1.ratx).mono fun e W' hg => ⟨hg.1, Lib.hid (h.trans (hg.2.mono h.size))⟩
    have HCR := Lib.hid (fun W (h : Below w5.heap.size w5 W) => got_cmp (HOP.out W h).1 (HOP.out W h).2.1 (by omega) (by omega) h hc)
    have HSG : Hid (∀ W, Below w5.heap.size w5 W → Calls Tryz.prog 29 #[.agg #[.bool s, .slice a1 xs.length c1, .slice a2 ds.length c2]] W (GotV w5 (.int .i64 d))) := Lib.hid fun W h => by
      subst hd
      exact (Sign_q (HOP.out W h).2.2.1.ratx).mono fun e W' hg => ⟨hg.1, Lib.hid (h.trans (hg.2.mono h.size))⟩
    have HIN : Hid (∀ W, Below w5.heap.size w5 W → Calls Tryz.prog 30 #[.int .i64 0] W (GotD w5 0)) := Lib.hid fun W h => (Int0_q W).mono fun e W' hg => hg.got h
    have HCZ : Hid (∀ W z0 z1 z2 z3 z4 z5 z6, Below w5.heap.size w5 W → VD 0 (z0, (z1, z2, z3), (z4, z5, z6)) W → Calls Tryz.prog 28 #[.agg #[.bool s3, .slice x1 n1 k1, .slice x2 n2 k2], .agg #[.bool z0, .slice z1 z2 z3, .slice z4 z5 z6]] W (GotV w5 (.int .i64 d))) := Lib.hid fun W z0 z1 z2 z3 z4 z5 z6 h hv =>
      got_cmp (HOP.out W h).1 hv (by omega) (by rw [szQ_zero]; omega) h hd
    have HNP : Hid (∀ W, Below w5.heap.size w5 W → Calls Tryz.prog 32 #[.agg #[.bool s, .slice a1 xs.length c1, .slice a2 ds.length c2]] W (GotQ w5 (-x))) := Lib.hid fun W h => by
      obtain ⟨hv, ha⟩ := (HOP.out W h).2.2.1.vq.eq
      rw [hv]
      exact (NegP_q ha (by omega)).mono fun e W' hg => hg.got h
    have HND := Lib.hid (fun W (h : Below w5.heap.size w5 W) => got_neg (HOP.out W h).1 (Below.refl W.heap.size W))
    have HFM : Hid (∀ Wb W z0 z1 z2 z3 z4 z5 z6, Below Wb.heap.size Wb W → VD (-x) (z0, (z1, z2, z3), (z4, z5, z6)) W → Calls Tryz.prog 33 #[.agg #[.bool z0, .slice z1 z2 z3, .slice z4 z5 z6]] W (GotQ Wb (-x))) := Lib.hid fun Wb W z0 z1 z2 z3 z4 z5 z6 h hv =>
      got_form hv (by omega) h
    have HSM : Hid (∀ Wb W z0 z1 z2 z3 z4 z5 z6 u0 u1 u2 u3 u4 u5 u6, Below w5.heap.size w5 Wb → Below Wb.heap.size Wb W → VQ (-x) (z0, (z1, z2, z3), (z4, z5, z6)) Wb → VQ (-x) (u0, (u1, u2, u3), (u4, u5, u6)) W → Calls Tryz.prog 31 #[.agg #[.bool z0, .slice z1 z2 z3, .slice z4 z5 z6], .agg #[.bool u0, .slice u1 u2 u3, .slice u4 u5 u6]] W (GotV w5 (.bool true))) := Lib.hid fun Wb W z0 z1 z2 z3 z4 z5 z6 u0 u1 u2 u3 u4 u5 u6 h h2 hz hu =>
      got_same (hz.kept h2) hu (by omega) (h.trans (h2.mono h.size))
    have HTX : Hid (∀ W, Below w5.heap.size w5 W → Calls Tryz.prog 34 #[.agg #[.bool s, .slice a1 xs.length c1, .slice a2 ds.length c2]] W (GotV w5 (.string tx))) := Lib.hid fun W h => by
      obtain ⟨hv, ha⟩ := (HOP.out W h).2.2.1.vq.eq
      subst htx
      rw [hv]
      exact (Text_q ha (by omega)).mono fun e W' hg => ⟨hg.1, Lib.hid (h.trans (hg.2.mono h.size))⟩
    have HTR := Lib.hid (fun W (h : Below w5.heap.size w5 W) => got_text (HOP.out W h).1 (by omega) h htx)
    have HTM : Hid (∀ W, Below w5.heap.size w5 W → Calls Tryz.prog 36 #[.agg #[.bool s, .slice a1 xs.length c1, .slice a2 ds.length c2]] W (GotV w5 (.string tm))) := Lib.hid fun W h => by
      obtain ⟨hv, ha⟩ := (HOP.out W h).2.2.1.vq.eq
      subst htm
      rw [hv]
      exact (Term_q ha (by omega)).mono fun e W' hg => ⟨hg.1, Lib.hid (h.trans (hg.2.mono h.size))⟩
    have HTN := Lib.hid (fun W (h : Below w5.heap.size w5 W) => got_term (HOP.out W h).1 (by omega) h htm)
    obtain ⟨g0, g1, g2, g3, g4, g5, g6, g7, g8, g9, g10, g11⟩ := HKK.out w5 (Below.refl _ _)
    clear hx hy hT5 hc hd htx htm q1 q2 q3 q4 q5 q6 zx zy HDA HDB HDC HZB HZC HK HKX HKY p0 p1 p2 p3 p4 p5 z0 z1 z2 z3 z4 z5 z6 z7 HE1 HB HB4 HB5 HLE HOX HOY HYS HZX HZY HVX HVY HOP HWL HT HN
    simp only [puts, Act.put, List.setIfInBounds_toArray, List.set_cons_zero, List.set_cons_succ]
    go_wp2_with fail
    refine wp_region_held_drew (S := (fun w' => w'.cell? ⟨w.heap.size, 0, none⟩ = some (.bool s) ∧ w'.cell? ⟨w.heap.size, 1, none⟩ = some (.slice a1 xs.length c1) ∧ w'.cell? ⟨w.heap.size, 2, none⟩ = some (.slice a2 ds.length c2) ∧ w'.cell? ⟨w.heap.size + 1, 0, none⟩ = some (.bool t) ∧ w'.cell? ⟨w.heap.size + 1, 1, none⟩ = some (.slice b1 ys.length e1) ∧ w'.cell? ⟨w.heap.size + 1, 2, none⟩ = some (.slice b2 es.length e2) ∧ w'.cell? ⟨g, 0, none⟩ = some (.bool s3) ∧ w'.cell? ⟨g, 1, none⟩ = some (.slice x1 n1 k1) ∧ w'.cell? ⟨g, 2, none⟩ = some (.slice x2 n2 k2) ∧ w'.cell? ⟨k, 0, none⟩ = some (.bool t3) ∧ w'.cell? ⟨k, 1, none⟩ = some (.slice y1 m1 j1) ∧ w'.cell? ⟨k, 2, none⟩ = some (.slice y2 m2 j2))) (by kernel_rfl) ?_ (fun hHeld => ?_)
    · exact HKK.out _ (below_drew _)
    refine wpAnyH_take (i := 0) (v := ?_) (by rfl) (by kernel_rfl) (by kernel_rfl) (by kernel_rfl) (by exact fun _ _ _ h => h) (Or.inl ⟨by rfl, ?_⟩) hHeld ?_
    rotate_left 1
    · intro w' hSw
      go_simp
      try with_reducible rfl
    try simp only [Act.put, List.setIfInBounds_toArray, List.set_cons_zero, List.set_cons_succ, List.getElem_toArray, List.getElem_cons_zero, List.getElem_cons_succ]
    refine wpAnyH_take (i := 1) (v := ?_) (by rfl) (by kernel_rfl) (by kernel_rfl) (by kernel_rfl) (by exact fun _ _ _ h => h) (Or.inl ⟨by rfl, ?_⟩) hHeld ?_
    rotate_left 1
    · intro w' hSw
      go_simp
      try with_reducible rfl
    try simp only [Act.put, List.setIfInBounds_toArray, List.set_cons_zero, List.set_cons_succ, List.getElem_toArray, List.getElem_cons_zero, List.getElem_cons_succ]
    refine wpAnyH_take (i := 2) (v := ?_) (by rfl) (by kernel_rfl) (by kernel_rfl) (by kernel_rfl) (by exact fun _ _ _ h => h) (Or.inl ⟨by rfl, ?_⟩) hHeld ?_
    rotate_left 1
    · intro w' hSw
      go_simp
      try with_reducible rfl
    try simp only [Act.put, List.setIfInBounds_toArray, List.set_cons_zero, List.set_cons_succ, List.getElem_toArray, List.getElem_cons_zero, List.getElem_cons_succ]
    refine wpAnyH_take (i := 3) (v := ?_) (by rfl) (by kernel_rfl) (by kernel_rfl) (by kernel_rfl) (by exact fun _ _ _ h => h) (Or.inl ⟨by rfl, ?_⟩) hHeld ?_
    rotate_left 1
    · intro w' hSw
      go_simp
      try with_reducible rfl
    try simp only [Act.put, List.setIfInBounds_toArray, List.set_cons_zero, List.set_cons_succ, List.getElem_toArray, List.getElem_cons_zero, List.getElem_cons_succ]
    refine wpAnyH_ready (rs := [4]) (by kernel_rfl) (by simp) ?_
    refine AllReadyH.cons (by rfl) (fun K hK => ?_) AllReadyH.nil
    go_simp
    with_reducible refine (HAD.out _ (below_drew _)).mono ?_
    rintro e v1 ⟨h1s, h1a, h1l, h1c, h1b, h1k, h1e, rfl, HC1, HV1⟩
    clear hHeld
    refine hK.out _ _ ?_ (fun hHeld => ?_)
    · exact HKK.out _ HC1.out
    clear hK K
    try simp only [Act.put, List.setIfInBounds_toArray, List.set_cons_zero, List.set_cons_succ, List.getElem_toArray, List.getElem_cons_zero, List.getElem_cons_succ]
    refine wpAnyH_ready (rs := [5]) (by kernel_rfl) (by simp) ?_
    refine AllReadyH.cons (by rfl) (fun K hK => ?_) AllReadyH.nil
    go_simp
    with_reducible refine (HT1.out _ _ _ _ _ _ _ _ HC1.out HV1.out).mono ?_
    rintro e v2 ⟨rfl, HC2⟩
    clear hHeld
    refine hK.out _ _ ?_ (fun hHeld => ?_)
    · exact HKK.out _ HC2.out
    clear hK K
    try simp only [Act.put, List.setIfInBounds_toArray, List.set_cons_zero, List.set_cons_succ, List.getElem_toArray, List.getElem_cons_zero, List.getElem_cons_succ]
    refine wpAnyH_take (i := 6) (v := ?_) (by rfl) (by kernel_rfl) (by kernel_rfl) (by kernel_rfl) (by exact fun _ _ _ h => h) (Or.inl ⟨by rfl, ?_⟩) hHeld ?_
    rotate_left 1
    · intro w' hSw
      go_simp
      try with_reducible rfl
    try simp only [Act.put, List.setIfInBounds_toArray, List.set_cons_zero, List.set_cons_succ, List.getElem_toArray, List.getElem_cons_zero, List.getElem_cons_succ]
    refine wpAnyH_take (i := 7) (v := ?_) (by rfl) (by kernel_rfl) (by kernel_rfl) (by kernel_rfl) (by exact fun _ _ _ h => h) (Or.inl ⟨by rfl, ?_⟩) hHeld ?_
    rotate_left 1
    · intro w' hSw
      go_simp
      try with_reducible rfl
    try simp only [Act.put, List.setIfInBounds_toArray, List.set_cons_zero, List.set_cons_succ, List.getElem_toArray, List.getElem_cons_zero, List.getElem_cons_succ]
    refine wpAnyH_take (i := 8) (v := ?_) (by rfl) (by kernel_rfl) (by kernel_rfl) (by kernel_rfl) (by exact fun _ _ _ h => h) (Or.inl ⟨by rfl, ?_⟩) hHeld ?_
    rotate_left 1
    · intro w' hSw
      go_simp
      try with_reducible rfl
    try simp only [Act.put, List.setIfInBounds_toArray, List.set_cons_zero, List.set_cons_succ, List.getElem_toArray, List.getElem_cons_zero, List.getElem_cons_succ]
    refine wpAnyH_take (i := 9) (v := ?_) (by rfl) (by kernel_rfl) (by kernel_rfl) (by kernel_rfl) (by exact fun _ _ _ h => h) (Or.inl ⟨by rfl, ?_⟩) hHeld ?_
    rotate_left 1
    · intro w' hSw
      go_simp
      try with_reducible rfl
    try simp only [Act.put, List.setIfInBounds_toArray, List.set_cons_zero, List.set_cons_succ, List.getElem_toArray, List.getElem_cons_zero, List.getElem_cons_succ]
    refine wpAnyH_take (i := 10) (v := ?_) (by rfl) (by kernel_rfl) (by kernel_rfl) (by kernel_rfl) (by exact fun _ _ _ h => h) (Or.inl ⟨by rfl, ?_⟩) hHeld ?_
    rotate_left 1
    · intro w' hSw
      go_simp
      try with_reducible rfl
    try simp only [Act.put, List.setIfInBounds_toArray, List.set_cons_zero, List.set_cons_succ, List.getElem_toArray, List.getElem_cons_zero, List.getElem_cons_succ]
    refine wpAnyH_ready (rs := [11]) (by kernel_rfl) (by simp) ?_
    refine AllReadyH.cons (by rfl) (fun K hK => ?_) AllReadyH.nil
    go_simp
    with_reducible refine (HNE.out _ HC2.out).mono ?_
    rintro e v3 ⟨h3s, h3a, h3l, h3c, h3b, h3k, h3e, rfl, HC3, HV3⟩
    clear hHeld
    refine hK.out _ _ ?_ (fun hHeld => ?_)
    · exact HKK.out _ HC3.out
    clear hK K
    try simp only [Act.put, List.setIfInBounds_toArray, List.set_cons_zero, List.set_cons_succ, List.getElem_toArray, List.getElem_cons_zero, List.getElem_cons_succ]
    refine wpAnyH_ready (rs := [12]) (by kernel_rfl) (by simp) ?_
    refine AllReadyH.cons (by rfl) (fun K hK => ?_) AllReadyH.nil
    go_simp
    with_reducible refine (HSB.out _ _ _ _ _ _ _ _ HC3.out HV3.out).mono ?_
    rintro e v4 ⟨h4s, h4a, h4l, h4c, h4b, h4k, h4e, rfl, HC4, HV4⟩
    clear hHeld
    refine hK.out _ _ ?_ (fun hHeld => ?_)
    · exact HKK.out _ HC4.out
    clear hK K
    try simp only [Act.put, List.setIfInBounds_toArray, List.set_cons_zero, List.set_cons_succ, List.getElem_toArray, List.getElem_cons_zero, List.getElem_cons_succ]
    refine wpAnyH_ready (rs := [13]) (by kernel_rfl) (by simp) ?_
    refine AllReadyH.cons (by rfl) (fun K hK => ?_) AllReadyH.nil
    go_simp
    with_reducible refine (HT2.out _ _ _ _ _ _ _ _ HC4.out HV4.out).mono ?_
    rintro e v5 ⟨rfl, HC5⟩
    clear hHeld
    refine hK.out _ _ ?_ (fun hHeld => ?_)
    · exact HKK.out _ HC5.out
    clear hK K
    try simp only [Act.put, List.setIfInBounds_toArray, List.set_cons_zero, List.set_cons_succ, List.getElem_toArray, List.getElem_cons_zero, List.getElem_cons_succ]
    refine wpAnyH_take (i := 14) (v := ?_) (by rfl) (by kernel_rfl) (by kernel_rfl) (by kernel_rfl) (by exact fun _ _ _ h => h) (Or.inl ⟨by rfl, ?_⟩) hHeld ?_
    rotate_left 1
    · intro w' hSw
      go_simp
      try with_reducible rfl
    try simp only [Act.put, List.setIfInBounds_toArray, List.set_cons_zero, List.set_cons_succ, List.getElem_toArray, List.getElem_cons_zero, List.getElem_cons_succ]
    refine wpAnyH_take (i := 15) (v := ?_) (by rfl) (by kernel_rfl) (by kernel_rfl) (by kernel_rfl) (by exact fun _ _ _ h => h) (Or.inl ⟨by rfl, ?_⟩) hHeld ?_
    rotate_left 1
    · intro w' hSw
      go_simp
      try with_reducible rfl
    try simp only [Act.put, List.setIfInBounds_toArray, List.set_cons_zero, List.set_cons_succ, List.getElem_toArray, List.getElem_cons_zero, List.getElem_cons_succ]
    refine wpAnyH_take (i := 16) (v := ?_) (by rfl) (by kernel_rfl) (by kernel_rfl) (by kernel_rfl) (by exact fun _ _ _ h => h) (Or.inl ⟨by rfl, ?_⟩) hHeld ?_
    rotate_left 1
    · intro w' hSw
      go_simp
      try with_reducible rfl
    try simp only [Act.put, List.setIfInBounds_toArray, List.set_cons_zero, List.set_cons_succ, List.getElem_toArray, List.getElem_cons_zero, List.getElem_cons_succ]
    refine wpAnyH_take (i := 17) (v := ?_) (by rfl) (by kernel_rfl) (by kernel_rfl) (by kernel_rfl) (by exact fun _ _ _ h => h) (Or.inl ⟨by rfl, ?_⟩) hHeld ?_
    rotate_left 1
    · intro w' hSw
      go_simp
      try with_reducible rfl
    try simp only [Act.put, List.setIfInBounds_toArray, List.set_cons_zero, List.set_cons_succ, List.getElem_toArray, List.getElem_cons_zero, List.getElem_cons_succ]
    refine wpAnyH_take (i := 18) (v := ?_) (by rfl) (by kernel_rfl) (by kernel_rfl) (by kernel_rfl) (by exact fun _ _ _ h => h) (Or.inl ⟨by rfl, ?_⟩) hHeld ?_
    rotate_left 1
    · intro w' hSw
      go_simp
      try with_reducible rfl
    try simp only [Act.put, List.setIfInBounds_toArray, List.set_cons_zero, List.set_cons_succ, List.getElem_toArray, List.getElem_cons_zero, List.getElem_cons_succ]
    refine wpAnyH_take (i := 19) (v := ?_) (by rfl) (by kernel_rfl) (by kernel_rfl) (by kernel_rfl) (by exact fun _ _ _ h => h) (Or.inl ⟨by rfl, ?_⟩) hHeld ?_
    rotate_left 1
    · intro w' hSw
      go_simp
      try with_reducible rfl
    try simp only [Act.put, List.setIfInBounds_toArray, List.set_cons_zero, List.set_cons_succ, List.getElem_toArray, List.getElem_cons_zero, List.getElem_cons_succ]
    refine wpAnyH_ready (rs := [20]) (by kernel_rfl) (by simp) ?_
    refine AllReadyH.cons (by rfl) (fun K hK => ?_) AllReadyH.nil
    go_simp
    with_reducible refine (HMU.out _ HC5.out).mono ?_
    rintro e v6 ⟨h6s, h6a, h6l, h6c, h6b, h6k, h6e, rfl, HC6, HV6⟩
    clear hHeld
    refine hK.out _ _ ?_ (fun hHeld => ?_)
    · exact HKK.out _ HC6.out
    clear hK K
    try simp only [Act.put, List.setIfInBounds_toArray, List.set_cons_zero, List.set_cons_succ, List.getElem_toArray, List.getElem_cons_zero, List.getElem_cons_succ]
    refine wpAnyH_ready (rs := [21]) (by kernel_rfl) (by simp) ?_
    refine AllReadyH.cons (by rfl) (fun K hK => ?_) AllReadyH.nil
    go_simp
    with_reducible refine (HT3.out _ _ _ _ _ _ _ _ HC6.out HV6.out).mono ?_
    rintro e v7 ⟨rfl, HC7⟩
    clear hHeld
    refine hK.out _ _ ?_ (fun hHeld => ?_)
    · exact HKK.out _ HC7.out
    clear hK K
    try simp only [Act.put, List.setIfInBounds_toArray, List.set_cons_zero, List.set_cons_succ, List.getElem_toArray, List.getElem_cons_zero, List.getElem_cons_succ]
    refine wpAnyH_take (i := 22) (v := ?_) (by rfl) (by kernel_rfl) (by kernel_rfl) (by kernel_rfl) (by exact fun _ _ _ h => h) (Or.inl ⟨by rfl, ?_⟩) hHeld ?_
    rotate_left 1
    · intro w' hSw
      go_simp
      try with_reducible rfl
    try simp only [Act.put, List.setIfInBounds_toArray, List.set_cons_zero, List.set_cons_succ, List.getElem_toArray, List.getElem_cons_zero, List.getElem_cons_succ]
    refine wpAnyH_take (i := 23) (v := ?_) (by rfl) (by kernel_rfl) (by kernel_rfl) (by kernel_rfl) (by exact fun _ _ _ h => h) (Or.inl ⟨by rfl, ?_⟩) hHeld ?_
    rotate_left 1
    · intro w' hSw
      go_simp
      try with_reducible rfl
    try simp only [Act.put, List.setIfInBounds_toArray, List.set_cons_zero, List.set_cons_succ, List.getElem_toArray, List.getElem_cons_zero, List.getElem_cons_succ]
    refine wpAnyH_take (i := 24) (v := ?_) (by rfl) (by kernel_rfl) (by kernel_rfl) (by kernel_rfl) (by exact fun _ _ _ h => h) (Or.inl ⟨by rfl, ?_⟩) hHeld ?_
    rotate_left 1
    · intro w' hSw
      go_simp
      try with_reducible rfl
    try simp only [Act.put, List.setIfInBounds_toArray, List.set_cons_zero, List.set_cons_succ, List.getElem_toArray, List.getElem_cons_zero, List.getElem_cons_succ]
    refine wpAnyH_take (i := 25) (v := ?_) (by rfl) (by kernel_rfl) (by kernel_rfl) (by kernel_rfl) (by exact fun _ _ _ h => h) (Or.inl ⟨by rfl, ?_⟩) hHeld ?_
    rotate_left 1
    · intro w' hSw
      go_simp
      try with_reducible rfl
    try simp only [Act.put, List.setIfInBounds_toArray, List.set_cons_zero, List.set_cons_succ, List.getElem_toArray, List.getElem_cons_zero, List.getElem_cons_succ]
    refine wpAnyH_take (i := 26) (v := ?_) (by rfl) (by kernel_rfl) (by kernel_rfl) (by kernel_rfl) (by exact fun _ _ _ h => h) (Or.inl ⟨by rfl, ?_⟩) hHeld ?_
    rotate_left 1
    · intro w' hSw
      go_simp
      try with_reducible rfl
    try simp only [Act.put, List.setIfInBounds_toArray, List.set_cons_zero, List.set_cons_succ, List.getElem_toArray, List.getElem_cons_zero, List.getElem_cons_succ]
    refine wpAnyH_take (i := 27) (v := ?_) (by rfl) (by kernel_rfl) (by kernel_rfl) (by kernel_rfl) (by exact fun _ _ _ h => h) (Or.inl ⟨by rfl, ?_⟩) hHeld ?_
    rotate_left 1
    · intro w' hSw
      go_simp
      try with_reducible rfl
    try simp only [Act.put, List.setIfInBounds_toArray, List.set_cons_zero, List.set_cons_succ, List.getElem_toArray, List.getElem_cons_zero, List.getElem_cons_succ]
    refine wpAnyH_ready (rs := [28]) (by kernel_rfl) (by simp) ?_
    refine AllReadyH.cons (by rfl) (fun K hK => ?_) AllReadyH.nil
    go_simp
    with_reducible refine (HDI.out _ HC7.out).mono ?_
    rintro e v8 ⟨h8s, h8a, h8l, h8c, h8b, h8k, h8e, rfl, HC8, HV8⟩
    clear hHeld
    refine hK.out _ _ ?_ (fun hHeld => ?_)
    · exact HKK.out _ HC8.out
    clear hK K
    try simp only [Act.put, List.setIfInBounds_toArray, List.set_cons_zero, List.set_cons_succ, List.getElem_toArray, List.getElem_cons_zero, List.getElem_cons_succ]
    refine wpAnyH_ready (rs := [29]) (by kernel_rfl) (by simp) ?_
    refine AllReadyH.cons (by rfl) (fun K hK => ?_) AllReadyH.nil
    go_simp
    with_reducible refine (HT4.out _ _ _ _ _ _ _ _ HC8.out HV8.out).mono ?_
    rintro e v9 ⟨rfl, HC9⟩
    clear hHeld
    refine hK.out _ _ ?_ (fun hHeld => ?_)
    · exact HKK.out _ HC9.out
    clear hK K
    try simp only [Act.put, List.setIfInBounds_toArray, List.set_cons_zero, List.set_cons_succ, List.getElem_toArray, List.getElem_cons_zero, List.getElem_cons_succ]
    refine wpAnyH_take (i := 30) (v := ?_) (by rfl) (by kernel_rfl) (by kernel_rfl) (by kernel_rfl) (by exact fun _ _ _ h => h) (Or.inl ⟨by rfl, ?_⟩) hHeld ?_
    rotate_left 1
    · intro w' hSw
      go_simp
      try with_reducible rfl
    try simp only [Act.put, List.setIfInBounds_toArray, List.set_cons_zero, List.set_cons_succ, List.getElem_toArray, List.getElem_cons_zero, List.getElem_cons_succ]
    refine wpAnyH_take (i := 31) (v := ?_) (by rfl) (by kernel_rfl) (by kernel_rfl) (by kernel_rfl) (by exact fun _ _ _ h => h) (Or.inl ⟨by rfl, ?_⟩) hHeld ?_
    rotate_left 1
    · intro w' hSw
      go_simp
      try with_reducible rfl
    try simp only [Act.put, List.setIfInBounds_toArray, List.set_cons_zero, List.set_cons_succ, List.getElem_toArray, List.getElem_cons_zero, List.getElem_cons_succ]
    refine wpAnyH_done (by kernel_rfl) ?_ _
    clear hHeld
    obtain ⟨g0, g1, g2, g3, g4, g5, g6, g7, g8, g9, g10, g11⟩ := HKK.out _ HC9.out
    have G0 := Lib.hid (Below.drew1 HC9.out)
    clear HC1 HC2 HC3 HC4 HC5 HC6 HC7 HC8 HC9 HV1 HV3 HV4 HV6 HV8 HAD HNE HSB HMU HDI HT1 HT2 HT3 HT4
    go_wp2_with fail
    refine wp_region_held_drew (S := (fun w' => w'.cell? ⟨w.heap.size, 0, none⟩ = some (.bool s) ∧ w'.cell? ⟨w.heap.size, 1, none⟩ = some (.slice a1 xs.length c1) ∧ w'.cell? ⟨w.heap.size, 2, none⟩ = some (.slice a2 ds.length c2) ∧ w'.cell? ⟨w.heap.size + 1, 0, none⟩ = some (.bool t) ∧ w'.cell? ⟨w.heap.size + 1, 1, none⟩ = some (.slice b1 ys.length e1) ∧ w'.cell? ⟨w.heap.size + 1, 2, none⟩ = some (.slice b2 es.length e2) ∧ w'.cell? ⟨g, 0, none⟩ = some (.bool s3) ∧ w'.cell? ⟨g, 1, none⟩ = some (.slice x1 n1 k1) ∧ w'.cell? ⟨g, 2, none⟩ = some (.slice x2 n2 k2) ∧ w'.cell? ⟨k, 0, none⟩ = some (.bool t3) ∧ w'.cell? ⟨k, 1, none⟩ = some (.slice y1 m1 j1) ∧ w'.cell? ⟨k, 2, none⟩ = some (.slice y2 m2 j2))) (by kernel_rfl) ?_ (fun hHeld => ?_)
    · exact HKK.out _ G0.out
    refine wpAnyH_take (i := 0) (v := ?_) (by rfl) (by kernel_rfl) (by kernel_rfl) (by kernel_rfl) (by exact fun _ _ _ h => h) (Or.inl ⟨by rfl, ?_⟩) hHeld ?_
    rotate_left 1
    · intro w' hSw
      go_simp
      try with_reducible rfl
    try simp only [Act.put, List.setIfInBounds_toArray, List.set_cons_zero, List.set_cons_succ, List.getElem_toArray, List.getElem_cons_zero, List.getElem_cons_succ]
    refine wpAnyH_take (i := 1) (v := ?_) (by rfl) (by kernel_rfl) (by kernel_rfl) (by kernel_rfl) (by exact fun _ _ _ h => h) (Or.inl ⟨by rfl, ?_⟩) hHeld ?_
    rotate_left 1
    · intro w' hSw
      go_simp
      try with_reducible rfl
    try simp only [Act.put, List.setIfInBounds_toArray, List.set_cons_zero, List.set_cons_succ, List.getElem_toArray, List.getElem_cons_zero, List.getElem_cons_succ]
    refine wpAnyH_take (i := 2) (v := ?_) (by rfl) (by kernel_rfl) (by kernel_rfl) (by kernel_rfl) (by exact fun _ _ _ h => h) (Or.inl ⟨by rfl, ?_⟩) hHeld ?_
    rotate_left 1
    · intro w' hSw
      go_simp
      try with_reducible rfl
    try simp only [Act.put, List.setIfInBounds_toArray, List.set_cons_zero, List.set_cons_succ, List.getElem_toArray, List.getElem_cons_zero, List.getElem_cons_succ]
    refine wpAnyH_take (i := 3) (v := ?_) (by rfl) (by kernel_rfl) (by kernel_rfl) (by kernel_rfl) (by exact fun _ _ _ h => h) (Or.inl ⟨by rfl, ?_⟩) hHeld ?_
    rotate_left 1
    · intro w' hSw
      go_simp
      try with_reducible rfl
    try simp only [Act.put, List.setIfInBounds_toArray, List.set_cons_zero, List.set_cons_succ, List.getElem_toArray, List.getElem_cons_zero, List.getElem_cons_succ]
    refine wpAnyH_take (i := 5) (v := ?_) (by rfl) (by kernel_rfl) (by kernel_rfl) (by kernel_rfl) (by exact fun _ _ _ h => h) (Or.inl ⟨by rfl, ?_⟩) hHeld ?_
    rotate_left 1
    · intro w' hSw
      go_simp
      try with_reducible rfl
    try simp only [Act.put, List.setIfInBounds_toArray, List.set_cons_zero, List.set_cons_succ, List.getElem_toArray, List.getElem_cons_zero, List.getElem_cons_succ]
    refine wpAnyH_take (i := 6) (v := ?_) (by rfl) (by kernel_rfl) (by kernel_rfl) (by kernel_rfl) (by exact fun _ _ _ h => h) (Or.inl ⟨by rfl, ?_⟩) hHeld ?_
    rotate_left 1
    · intro w' hSw
      go_simp
      try with_reducible rfl
    try simp only [Act.put, List.setIfInBounds_toArray, List.set_cons_zero, List.set_cons_succ, List.getElem_toArray, List.getElem_cons_zero, List.getElem_cons_succ]
    refine wpAnyH_ready (rs := [4]) (by kernel_rfl) (by simp) ?_
    refine AllReadyH.cons (by rfl) (fun K hK => ?_) AllReadyH.nil
    go_simp
    with_reducible refine (HCP.out _ G0.out).mono ?_
    rintro e u1 ⟨rfl, G1⟩
    clear hHeld
    refine hK.out _ _ ?_ (fun hHeld => ?_)
    · exact HKK.out _ G1.out
    clear hK K
    try simp only [Act.put, List.setIfInBounds_toArray, List.set_cons_zero, List.set_cons_succ, List.getElem_toArray, List.getElem_cons_zero, List.getElem_cons_succ]
    refine wpAnyH_ready (rs := [7]) (by kernel_rfl) (by simp) ?_
    refine AllReadyH.cons (by rfl) (fun K hK => ?_) AllReadyH.nil
    go_simp
    with_reducible refine (HCR.out _ G1.out).mono ?_
    rintro e u2 ⟨rfl, G2⟩
    clear hHeld
    refine hK.out _ _ ?_ (fun hHeld => ?_)
    · exact HKK.out _ G2.out
    clear hK K
    try simp only [Act.put, List.setIfInBounds_toArray, List.set_cons_zero, List.set_cons_succ, List.getElem_toArray, List.getElem_cons_zero, List.getElem_cons_succ]
    refine wpAnyH_take (i := 8) (v := ?_) (by rfl) (by kernel_rfl) (by kernel_rfl) (by kernel_rfl) (by exact fun _ _ _ h => h) (Or.inl ⟨by rfl, ?_⟩) hHeld ?_
    rotate_left 1
    · intro w' hSw
      go_simp
      try with_reducible rfl
    try simp only [Act.put, List.setIfInBounds_toArray, List.set_cons_zero, List.set_cons_succ, List.getElem_toArray, List.getElem_cons_zero, List.getElem_cons_succ]
    refine wpAnyH_take (i := 9) (v := ?_) (by rfl) (by kernel_rfl) (by kernel_rfl) (by kernel_rfl) (by exact fun _ _ _ h => h) (Or.inl ⟨by rfl, ?_⟩) hHeld ?_
    rotate_left 1
    · intro w' hSw
      go_simp
      try with_reducible rfl
    try simp only [Act.put, List.setIfInBounds_toArray, List.set_cons_zero, List.set_cons_succ, List.getElem_toArray, List.getElem_cons_zero, List.getElem_cons_succ]
    refine wpAnyH_take (i := 10) (v := ?_) (by rfl) (by kernel_rfl) (by kernel_rfl) (by kernel_rfl) (by exact fun _ _ _ h => h) (Or.inl ⟨by rfl, ?_⟩) hHeld ?_
    rotate_left 1
    · intro w' hSw
      go_simp
      try with_reducible rfl
    try simp only [Act.put, List.setIfInBounds_toArray, List.set_cons_zero, List.set_cons_succ, List.getElem_toArray, List.getElem_cons_zero, List.getElem_cons_succ]
    refine wpAnyH_take (i := 11) (v := ?_) (by rfl) (by kernel_rfl) (by kernel_rfl) (by kernel_rfl) (by exact fun _ _ _ h => h) (Or.inl ⟨by rfl, ?_⟩) hHeld ?_
    rotate_left 1
    · intro w' hSw
      go_simp
      try with_reducible rfl
    try simp only [Act.put, List.setIfInBounds_toArray, List.set_cons_zero, List.set_cons_succ, List.getElem_toArray, List.getElem_cons_zero, List.getElem_cons_succ]
    refine wpAnyH_take (i := 13) (v := ?_) (by rfl) (by kernel_rfl) (by kernel_rfl) (by kernel_rfl) (by exact fun _ _ _ h => h) (Or.inl ⟨by rfl, ?_⟩) hHeld ?_
    rotate_left 1
    · intro w' hSw
      go_simp
      try with_reducible rfl
    try simp only [Act.put, List.setIfInBounds_toArray, List.set_cons_zero, List.set_cons_succ, List.getElem_toArray, List.getElem_cons_zero, List.getElem_cons_succ]
    refine wpAnyH_ready (rs := [12]) (by kernel_rfl) (by simp) ?_
    refine AllReadyH.cons (by rfl) (fun K hK => ?_) AllReadyH.nil
    go_simp
    with_reducible refine (HSG.out _ G2.out).mono ?_
    rintro e u3 ⟨rfl, G3⟩
    clear hHeld
    refine hK.out _ _ ?_ (fun hHeld => ?_)
    · exact HKK.out _ G3.out
    clear hK K
    try simp only [Act.put, List.setIfInBounds_toArray, List.set_cons_zero, List.set_cons_succ, List.getElem_toArray, List.getElem_cons_zero, List.getElem_cons_succ]
    refine wpAnyH_ready (rs := [14]) (by kernel_rfl) (by simp) ?_
    refine AllReadyH.cons (by rfl) (fun K hK => ?_) AllReadyH.nil
    go_simp
    with_reducible refine (HIN.out _ G3.out).mono ?_
    rintro e u4 ⟨i4s, i4a, i4l, i4c, i4b, i4k, i4e, rfl, G4, V4⟩
    clear hHeld
    refine hK.out _ _ ?_ (fun hHeld => ?_)
    · exact HKK.out _ G4.out
    clear hK K
    try simp only [Act.put, List.setIfInBounds_toArray, List.set_cons_zero, List.set_cons_succ, List.getElem_toArray, List.getElem_cons_zero, List.getElem_cons_succ]
    refine wpAnyH_ready (rs := [15]) (by kernel_rfl) (by simp) ?_
    refine AllReadyH.cons (by rfl) (fun K hK => ?_) AllReadyH.nil
    go_simp
    with_reducible refine (HCZ.out _ _ _ _ _ _ _ _ G4.out V4.out).mono ?_
    rintro e u5 ⟨rfl, G5⟩
    clear hHeld
    refine hK.out _ _ ?_ (fun hHeld => ?_)
    · exact HKK.out _ G5.out
    clear hK K
    try simp only [Act.put, List.setIfInBounds_toArray, List.set_cons_zero, List.set_cons_succ, List.getElem_toArray, List.getElem_cons_zero, List.getElem_cons_succ]
    refine wpAnyH_take (i := 16) (v := ?_) (by rfl) (by kernel_rfl) (by kernel_rfl) (by kernel_rfl) (by exact fun _ _ _ h => h) (Or.inl ⟨by rfl, ?_⟩) hHeld ?_
    rotate_left 1
    · intro w' hSw
      go_simp
      try with_reducible rfl
    try simp only [Act.put, List.setIfInBounds_toArray, List.set_cons_zero, List.set_cons_succ, List.getElem_toArray, List.getElem_cons_zero, List.getElem_cons_succ]
    refine wpAnyH_take (i := 17) (v := ?_) (by rfl) (by kernel_rfl) (by kernel_rfl) (by kernel_rfl) (by exact fun _ _ _ h => h) (Or.inl ⟨by rfl, ?_⟩) hHeld ?_
    rotate_left 1
    · intro w' hSw
      go_simp
      try with_reducible rfl
    try simp only [Act.put, List.setIfInBounds_toArray, List.set_cons_zero, List.set_cons_succ, List.getElem_toArray, List.getElem_cons_zero, List.getElem_cons_succ]
    refine wpAnyH_take (i := 18) (v := ?_) (by rfl) (by kernel_rfl) (by kernel_rfl) (by kernel_rfl) (by exact fun _ _ _ h => h) (Or.inl ⟨by rfl, ?_⟩) hHeld ?_
    rotate_left 1
    · intro w' hSw
      go_simp
      try with_reducible rfl
    try simp only [Act.put, List.setIfInBounds_toArray, List.set_cons_zero, List.set_cons_succ, List.getElem_toArray, List.getElem_cons_zero, List.getElem_cons_succ]
    refine wpAnyH_take (i := 19) (v := ?_) (by rfl) (by kernel_rfl) (by kernel_rfl) (by kernel_rfl) (by exact fun _ _ _ h => h) (Or.inl ⟨by rfl, ?_⟩) hHeld ?_
    rotate_left 1
    · intro w' hSw
      go_simp
      try with_reducible rfl
    try simp only [Act.put, List.setIfInBounds_toArray, List.set_cons_zero, List.set_cons_succ, List.getElem_toArray, List.getElem_cons_zero, List.getElem_cons_succ]
    refine wpAnyH_take (i := 21) (v := ?_) (by rfl) (by kernel_rfl) (by kernel_rfl) (by kernel_rfl) (by exact fun _ _ _ h => h) (Or.inl ⟨by rfl, ?_⟩) hHeld ?_
    rotate_left 1
    · intro w' hSw
      go_simp
      try with_reducible rfl
    try simp only [Act.put, List.setIfInBounds_toArray, List.set_cons_zero, List.set_cons_succ, List.getElem_toArray, List.getElem_cons_zero, List.getElem_cons_succ]
    refine wpAnyH_ready (rs := [20]) (by kernel_rfl) (by simp) ?_
    refine AllReadyH.cons (by rfl) (fun K hK => ?_) AllReadyH.nil
    go_simp
    with_reducible refine (HNP.out _ G5.out).mono ?_
    rintro e u6 ⟨i6s, i6a, i6l, i6c, i6b, i6k, i6e, rfl, G6, V6⟩
    clear hHeld
    refine hK.out _ _ ?_ (fun hHeld => ?_)
    · exact HKK.out _ G6.out
    clear hK K
    try simp only [Act.put, List.setIfInBounds_toArray, List.set_cons_zero, List.set_cons_succ, List.getElem_toArray, List.getElem_cons_zero, List.getElem_cons_succ]
    refine wpAnyH_ready (rs := [22]) (by kernel_rfl) (by simp) ?_
    refine AllReadyH.cons (by rfl) (fun K hK => ?_) AllReadyH.nil
    go_simp
    with_reducible refine (HND.out _ G6.out).mono ?_
    rintro e u7 ⟨i7s, i7a, i7l, i7c, i7b, i7k, i7e, rfl, J7, V7⟩
    have G7 := Lib.hid (G6.out.trans (J7.out.mono G6.out.size))
    clear hHeld
    refine hK.out _ _ ?_ (fun hHeld => ?_)
    · exact HKK.out _ G7.out
    clear hK K
    try simp only [Act.put, List.setIfInBounds_toArray, List.set_cons_zero, List.set_cons_succ, List.getElem_toArray, List.getElem_cons_zero, List.getElem_cons_succ]
    refine wpAnyH_ready (rs := [23]) (by kernel_rfl) (by simp) ?_
    refine AllReadyH.cons (by rfl) (fun K hK => ?_) AllReadyH.nil
    go_simp
    with_reducible refine (HFM.out _ _ _ _ _ _ _ _ _ J7.out V7.out).mono ?_
    rintro e u8 ⟨i8s, i8a, i8l, i8c, i8b, i8k, i8e, rfl, J8, V8⟩
    have G8 := Lib.hid (G6.out.trans (J8.out.mono G6.out.size))
    clear hHeld
    refine hK.out _ _ ?_ (fun hHeld => ?_)
    · exact HKK.out _ G8.out
    clear hK K
    try simp only [Act.put, List.setIfInBounds_toArray, List.set_cons_zero, List.set_cons_succ, List.getElem_toArray, List.getElem_cons_zero, List.getElem_cons_succ]
    refine wpAnyH_ready (rs := [24]) (by kernel_rfl) (by simp) ?_
    refine AllReadyH.cons (by rfl) (fun K hK => ?_) AllReadyH.nil
    go_simp
    with_reducible refine (HSM.out _ _ _ _ _ _ _ _ _ _ _ _ _ _ _ _ G6.out J8.out V6.out V8.out).mono ?_
    rintro e u9 ⟨rfl, G9⟩
    clear hHeld
    refine hK.out _ _ ?_ (fun hHeld => ?_)
    · exact HKK.out _ G9.out
    clear hK K
    try simp only [Act.put, List.setIfInBounds_toArray, List.set_cons_zero, List.set_cons_succ, List.getElem_toArray, List.getElem_cons_zero, List.getElem_cons_succ]
    refine wpAnyH_take (i := 25) (v := ?_) (by rfl) (by kernel_rfl) (by kernel_rfl) (by kernel_rfl) (by exact fun _ _ _ h => h) (Or.inl ⟨by rfl, ?_⟩) hHeld ?_
    rotate_left 1
    · intro w' hSw
      go_simp
      try with_reducible rfl
    try simp only [Act.put, List.setIfInBounds_toArray, List.set_cons_zero, List.set_cons_succ, List.getElem_toArray, List.getElem_cons_zero, List.getElem_cons_succ]
    refine wpAnyH_take (i := 26) (v := ?_) (by rfl) (by kernel_rfl) (by kernel_rfl) (by kernel_rfl) (by exact fun _ _ _ h => h) (Or.inl ⟨by rfl, ?_⟩) hHeld ?_
    rotate_left 1
    · intro w' hSw
      go_simp
      try with_reducible rfl
    try simp only [Act.put, List.setIfInBounds_toArray, List.set_cons_zero, List.set_cons_succ, List.getElem_toArray, List.getElem_cons_zero, List.getElem_cons_succ]
    refine wpAnyH_take (i := 27) (v := ?_) (by rfl) (by kernel_rfl) (by kernel_rfl) (by kernel_rfl) (by exact fun _ _ _ h => h) (Or.inl ⟨by rfl, ?_⟩) hHeld ?_
    rotate_left 1
    · intro w' hSw
      go_simp
      try with_reducible rfl
    try simp only [Act.put, List.setIfInBounds_toArray, List.set_cons_zero, List.set_cons_succ, List.getElem_toArray, List.getElem_cons_zero, List.getElem_cons_succ]
    refine wpAnyH_take (i := 29) (v := ?_) (by rfl) (by kernel_rfl) (by kernel_rfl) (by kernel_rfl) (by exact fun _ _ _ h => h) (Or.inl ⟨by rfl, ?_⟩) hHeld ?_
    rotate_left 1
    · intro w' hSw
      go_simp
      try with_reducible rfl
    try simp only [Act.put, List.setIfInBounds_toArray, List.set_cons_zero, List.set_cons_succ, List.getElem_toArray, List.getElem_cons_zero, List.getElem_cons_succ]
    refine wpAnyH_ready (rs := [28]) (by kernel_rfl) (by simp) ?_
    refine AllReadyH.cons (by rfl) (fun K hK => ?_) AllReadyH.nil
    go_simp
    with_reducible refine (HTX.out _ G9.out).mono ?_
    rintro e u10 ⟨rfl, G10⟩
    clear hHeld
    refine hK.out _ _ ?_ (fun hHeld => ?_)
    · exact HKK.out _ G10.out
    clear hK K
    try simp only [Act.put, List.setIfInBounds_toArray, List.set_cons_zero, List.set_cons_succ, List.getElem_toArray, List.getElem_cons_zero, List.getElem_cons_succ]
    refine wpAnyH_ready (rs := [30]) (by kernel_rfl) (by simp) ?_
    refine AllReadyH.cons (by rfl) (fun K hK => ?_) AllReadyH.nil
    go_simp
    with_reducible refine (HTR.out _ G10.out).mono ?_
    rintro e u11 ⟨rfl, G11⟩
    clear hHeld
    refine hK.out _ _ ?_ (fun hHeld => ?_)
    · exact HKK.out _ G11.out
    clear hK K
    try simp only [Act.put, List.setIfInBounds_toArray, List.set_cons_zero, List.set_cons_succ, List.getElem_toArray, List.getElem_cons_zero, List.getElem_cons_succ]
    refine wpAnyH_take (i := 31) (v := ?_) (by rfl) (by kernel_rfl) (by kernel_rfl) (by kernel_rfl) (by exact fun _ _ _ h => h) (Or.inl ⟨by rfl, ?_⟩) hHeld ?_
    rotate_left 1
    · intro w' hSw
      go_simp
      try with_reducible rfl
    try simp only [Act.put, List.setIfInBounds_toArray, List.set_cons_zero, List.set_cons_succ, List.getElem_toArray, List.getElem_cons_zero, List.getElem_cons_succ]
    refine wpAnyH_take (i := 32) (v := ?_) (by rfl) (by kernel_rfl) (by kernel_rfl) (by kernel_rfl) (by exact fun _ _ _ h => h) (Or.inl ⟨by rfl, ?_⟩) hHeld ?_
    rotate_left 1
    · intro w' hSw
      go_simp
      try with_reducible rfl
    try simp only [Act.put, List.setIfInBounds_toArray, List.set_cons_zero, List.set_cons_succ, List.getElem_toArray, List.getElem_cons_zero, List.getElem_cons_succ]
    refine wpAnyH_take (i := 33) (v := ?_) (by rfl) (by kernel_rfl) (by kernel_rfl) (by kernel_rfl) (by exact fun _ _ _ h => h) (Or.inl ⟨by rfl, ?_⟩) hHeld ?_
    rotate_left 1
    · intro w' hSw
      go_simp
      try with_reducible rfl
    try simp only [Act.put, List.setIfInBounds_toArray, List.set_cons_zero, List.set_cons_succ, List.getElem_toArray, List.getElem_cons_zero, List.getElem_cons_succ]
    refine wpAnyH_take (i := 34) (v := ?_) (by rfl) (by kernel_rfl) (by kernel_rfl) (by kernel_rfl) (by exact fun _ _ _ h => h) (Or.inl ⟨by rfl, ?_⟩) hHeld ?_
    rotate_left 1
    · intro w' hSw
      go_simp
      try with_reducible rfl
    try simp only [Act.put, List.setIfInBounds_toArray, List.set_cons_zero, List.set_cons_succ, List.getElem_toArray, List.getElem_cons_zero, List.getElem_cons_succ]
    refine wpAnyH_take (i := 36) (v := ?_) (by rfl) (by kernel_rfl) (by kernel_rfl) (by kernel_rfl) (by exact fun _ _ _ h => h) (Or.inl ⟨by rfl, ?_⟩) hHeld ?_
    rotate_left 1
    · intro w' hSw
      go_simp
      try with_reducible rfl
    try simp only [Act.put, List.setIfInBounds_toArray, List.set_cons_zero, List.set_cons_succ, List.getElem_toArray, List.getElem_cons_zero, List.getElem_cons_succ]
    refine wpAnyH_ready (rs := [35]) (by kernel_rfl) (by simp) ?_
    refine AllReadyH.cons (by rfl) (fun K hK => ?_) AllReadyH.nil
    go_simp
    with_reducible refine (HTM.out _ G11.out).mono ?_
    rintro e u12 ⟨rfl, G12⟩
    clear hHeld
    refine hK.out _ _ ?_ (fun hHeld => ?_)
    · exact HKK.out _ G12.out
    clear hK K
    try simp only [Act.put, List.setIfInBounds_toArray, List.set_cons_zero, List.set_cons_succ, List.getElem_toArray, List.getElem_cons_zero, List.getElem_cons_succ]
    refine wpAnyH_ready (rs := [37]) (by kernel_rfl) (by simp) ?_
    refine AllReadyH.cons (by rfl) (fun K hK => ?_) AllReadyH.nil
    go_simp
    with_reducible refine (HTN.out _ G12.out).mono ?_
    rintro e u13 ⟨rfl, G13⟩
    clear hHeld
    refine hK.out _ _ ?_ (fun hHeld => ?_)
    · exact HKK.out _ G13.out
    clear hK K
    try simp only [Act.put, List.setIfInBounds_toArray, List.set_cons_zero, List.set_cons_succ, List.getElem_toArray, List.getElem_cons_zero, List.getElem_cons_succ]
    refine wpAnyH_take (i := 38) (v := ?_) (by rfl) (by kernel_rfl) (by kernel_rfl) (by kernel_rfl) (by exact fun _ _ _ h => h) (Or.inl ⟨by rfl, ?_⟩) hHeld ?_
    rotate_left 1
    · intro w' hSw
      go_simp
      try with_reducible rfl
    try simp only [Act.put, List.setIfInBounds_toArray, List.set_cons_zero, List.set_cons_succ, List.getElem_toArray, List.getElem_cons_zero, List.getElem_cons_succ]
    refine wpAnyH_take (i := 39) (v := ?_) (by rfl) (by kernel_rfl) (by kernel_rfl) (by kernel_rfl) (by exact fun _ _ _ h => h) (Or.inl ⟨by rfl, ?_⟩) hHeld ?_
    rotate_left 1
    · intro w' hSw
      go_simp
      try with_reducible rfl
    try simp only [Act.put, List.setIfInBounds_toArray, List.set_cons_zero, List.set_cons_succ, List.getElem_toArray, List.getElem_cons_zero, List.getElem_cons_succ]
    refine wpAnyH_take (i := 40) (v := ?_) (by rfl) (by kernel_rfl) (by kernel_rfl) (by kernel_rfl) (by exact fun _ _ _ h => h) (Or.inl ⟨by rfl, ?_⟩) hHeld ?_
    rotate_left 1
    · intro w' hSw
      go_simp
      try with_reducible rfl
    try simp only [Act.put, List.setIfInBounds_toArray, List.set_cons_zero, List.set_cons_succ, List.getElem_toArray, List.getElem_cons_zero, List.getElem_cons_succ]
    refine wpAnyH_done (by kernel_rfl) ?_ _
    clear hHeld
    have HE := Lib.hid (HBL.out.trans (G13.out.mono HBL.out.size))
    clear G0 G1 G2 G3 G4 G5 G6 G7 G8 G9 G10 G11 G12 G13 V4 V6 V7 V8 J7 J8
    go_wp2_with fail
    go_ret
    exact ⟨rfl, HE.out⟩
end Go.Proofs.YtomoemgoglghlaaGreatDoor
