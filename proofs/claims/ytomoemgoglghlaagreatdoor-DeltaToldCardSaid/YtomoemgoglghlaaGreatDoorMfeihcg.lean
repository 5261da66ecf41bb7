/- By program out of: DelTolds2. -/
import Derived.Test.YtomoemgoglghlaaGreatDoorMlpbpbm
/-
  law03's told, with closure 2.
-/
set_option linter.unusedVariables false
set_option linter.unusedSimpArgs false
namespace Go.Proofs.YtomoemgoglghlaaGreatDoor
open Go.RowKit Rep


set_option maxRecDepth 100000 in
set_option maxHeartbeats 16000000 in
theorem told03_2 {w : World} {n : Int} {q r : Rat} {cv cu : Value} {xs us : Bool} {xa xb ua ub : Option Addr} {xl xc xk xe ul uc uk ue : Nat} (hn : n ≤ 9223372036854775807) (hx : VD q (xs, (xa, xl, xc), (xb, xk, xe)) w) (hu : VD r (us, (ua, ul, uc), (ub, uk, ue)) w) (zq : szQ q ≤ 100) (zr : szQ r ≤ 100)
    (hdo : ∀ (m : Nat) (W : World) (b : Nat), m ≤ maxLen → Below w.heap.size w W → Bench W b m false → w.heap.size ≤ b → Calls Tryz.prog 59 #[.pointer (some ⟨b, 0, none⟩), cv, cu] W (GivesQQ b m (ovQ m q || ovQ m r) q r W)) :
    Calls Tryz.prog 55 #[.int .i64 n, .func (.func 59) #[] #[cv, cu], .agg #[.bool xs, .slice xa xl xc, .slice xb xk xe, .bool us, .slice ua ul uc, .slice ub uk ue]] w (Holds w) := by
  obtain ⟨m, hm1, hm2, hmx, hnew⟩ := new_for n hn
  have hdo2 := fun W b => hdo m W b hm2
  obtain ⟨W0, hW0⟩ : ∃ W0, W0 = w.alloc (.cells #[.bool xs, .slice xa xl xc, .slice xb xk xe, .bool us, .slice ua ul uc, .slice ub uk ue] 73) := ⟨_, rfl⟩
  have hB0 : Below w.heap.size w W0 := by rw [hW0]; exact (Below.refl _ _).alloc (Nat.le_refl _) _
  have hk0 : W0.heap[w.heap.size]? = some (.cells #[.bool xs, .slice xa xl xc, .slice xb xk xe, .bool us, .slice ua ul uc, .slice ub uk ue] 73 (0, 0)) := by rw [hW0]; exact heap_alloc_new w _
  have HNEW : Hid (Calls Tryz.prog 41 #[.int .i64 n] W0 (fun e w1 => e = .returned (.pointer (some ⟨W0.heap.size, 0, none⟩)) ∧ Bench w1 W0.heap.size m false ∧ Below W0.heap.size W0 w1)) := Lib.hid ((hnew W0).mono (by
    rintro e w1 ⟨rfl, rfl⟩
    exact ⟨rfl, GivesBench.bench, (Below.refl _ _).alloc (Nat.le_refl _) _⟩))
  have HK : Hid (∀ W, Below W0.heap.size W0 W → (W.cell? ⟨w.heap.size, 0, none⟩ = some (.bool xs) ∧ W.cell? ⟨w.heap.size, 1, none⟩ = some (.slice xa xl xc) ∧ W.cell? ⟨w.heap.size, 2, none⟩ = some (.slice xb xk xe) ∧ W.cell? ⟨w.heap.size, 3, none⟩ = some (.bool us) ∧ W.cell? ⟨w.heap.size, 4, none⟩ = some (.slice ua ul uc) ∧ W.cell? ⟨w.heap.size, 5, none⟩ = some (.slice ub uk ue))) := Lib.hid fun W h => by
    obtain ⟨f0, f1, f2, f3, f4, f5, _⟩ := cells6 (stay hk0 h)
    exact ⟨f0, f1, f2, f3, f4, f5⟩
  have HWL : Hid (w.heap.size < W0.heap.size) := Lib.hid (Array.getElem?_eq_some_iff.1 hk0).1
  obtain ⟨oA, hoA⟩ : ∃ o, ovQ m q = o := ⟨_, rfl⟩
  obtain ⟨oB, hoB⟩ : ∃ o, ovQ m r = o := ⟨_, rfl⟩
  rw [hoA, hoB] at hdo2
  have HW0 := Lib.hid hW0
  have HX := Lib.hid (hx.kept hB0)
  have HU := Lib.hid (hu.kept hB0)
  have HZ := Lib.hid (And.intro zq zr)
  have HDO := Lib.hid hdo2
  have HB := Lib.hid hB0
  have HM := Lib.hid hm2
  have HOA := Lib.hid hoA
  have HOB := Lib.hid hoB
  obtain ⟨p0, p1, p2, p3, p4, p5⟩ := HK.out W0 (Below.refl _ _)
  clear hW0 hB0 hk0 hx hu hdo hdo2 hnew hm1 hm2 zq zr hoA hoB
  go_enter Tryz.func55, Tryz.ntmps55
  go_wp2_with fail
  rw [← HW0.out]
  refine HNEW.out.mono ?_
  rintro e w1 ⟨rfl, hbe, hb1⟩
  obtain ⟨p0, p1, p2, p3, p4, p5⟩ := HK.out w1 hb1
  have hlt : W0.heap.size < w1.heap.size := hbe.lt
  obtain ⟨z0, z1, z2, z3⟩ := far1 HWL.out hb1
  have hne1 : w1.heap.size ≠ W0.heap.size := by omega
  have hne2 : w1.heap.size + 1 ≠ W0.heap.size := by omega
  have hgt2 : W0.heap.size < w1.heap.size + 1 := by omega
  have HDA := Lib.hid (dtold_do (w1 := w1) HB.out rfl hbe hb1 HDO.out (below_drew w1))
  have HDB := Lib.hid (dtold_do (w1 := w1) HB.out rfl hbe hb1 HDO.out (show Below w1.heap.size w1 (w1.alloc (.cells #[.bool false, .slice none 0 0, .slice none 0 0, .bool false, .slice none 0 0, .slice none 0 0] 70)).drew from Below.drewN' ((Below.refl w1.heap.size w1).alloc (Nat.le_refl _) (.cells #[.bool false, .slice none 0 0, .slice none 0 0, .bool false, .slice none 0 0, .slice none 0 0] 70)) 1))
  have HDC := Lib.hid (dtold_do (w1 := w1) HB.out rfl hbe hb1 HDO.out (show Below w1.heap.size w1 ((w1.alloc (.cells #[.bool false, .slice none 0 0, .slice none 0 0, .bool false, .slice none 0 0, .slice none 0 0] 70)).alloc (.cells #[.bool false, .slice none 0 0, .slice none 0 0, .bool false, .slice none 0 0, .slice none 0 0] 70)).drew from Below.drewN' (((Below.refl w1.heap.size w1).alloc (Nat.le_refl _) (.cells #[.bool false, .slice none 0 0, .slice none 0 0, .bool false, .slice none 0 0, .slice none 0 0] 70)).alloc (by simp) (.cells #[.bool false, .slice none 0 0, .slice none 0 0, .bool false, .slice none 0 0, .slice none 0 0] 70)) 1))
  have HZB : Hid (Six (w1.alloc (.cells #[.bool false, .slice none 0 0, .slice none 0 0, .bool false, .slice none 0 0, .slice none 0 0] 70)).drew w1.heap.size 70) := Lib.hid (heap_alloc_new w1 _)
  have HZC : Hid (Six ((w1.alloc (.cells #[.bool false, .slice none 0 0, .slice none 0 0, .bool false, .slice none 0 0, .slice none 0 0] 70)).alloc (.cells #[.bool false, .slice none 0 0, .slice none 0 0, .bool false, .slice none 0 0, .slice none 0 0] 70)).drew w1.heap.size 70 ∧ Six ((w1.alloc (.cells #[.bool false, .slice none 0 0, .slice none 0 0, .bool false, .slice none 0 0, .slice none 0 0] 70)).alloc (.cells #[.bool false, .slice none 0 0, .slice none 0 0, .bool false, .slice none 0 0, .slice none 0 0] 70)).drew (w1.heap.size + 1) 70) := Lib.hid (by
    refine ⟨?_, ?_⟩
    · exact Six.kept (heap_alloc_new w1 _) (Below.drewN' ((Below.refl _ _).alloc (Nat.le_refl _) (.cells #[.bool false, .slice none 0 0, .slice none 0 0, .bool false, .slice none 0 0, .slice none 0 0] 70)) 1)
    · have := heap_alloc_new (w1.alloc (.cells #[.bool false, .slice none 0 0, .slice none 0 0, .bool false, .slice none 0 0, .slice none 0 0] 70)) (.cells #[.bool false, .slice none 0 0, .slice none 0 0, .bool false, .slice none 0 0, .slice none 0 0] 70)
      simpa [Six, World.drew] using this)
  have HE1 : Hid (w1.heap.size ≠ w1.heap.size + 1) := Lib.hid (by omega)
  clear hbe hb1 HDO HNEW HW0
  go_wp2_with fail
  refine wp_region_ex (ι := Nat × Nat × RawD × RawD) (fun i => [(13, .func (.func 59) #[] #[cv, cu]), (14, .pointer (some ⟨W0.heap.size, 0, none⟩)), (15, .agg #[.bool i.2.2.1.1.1, .slice i.2.2.1.1.2.1.1 i.2.2.1.1.2.1.2.1 i.2.2.1.1.2.1.2.2, .slice i.2.2.1.1.2.2.1 i.2.2.1.1.2.2.2.1 i.2.2.1.1.2.2.2.2, .bool i.2.2.1.2.1, .slice i.2.2.1.2.2.1.1 i.2.2.1.2.2.1.2.1 i.2.2.1.2.2.1.2.2, .slice i.2.2.1.2.2.2.1 i.2.2.1.2.2.2.2.1 i.2.2.1.2.2.2.2.2]), (16, .agg #[.bool xs, .slice xa xl xc, .slice xb xk xe, .bool us, .slice ua ul uc, .slice ub uk ue]), (17, .agg #[.bool i.2.2.2.1.1, .slice i.2.2.2.1.2.1.1 i.2.2.2.1.2.1.2.1 i.2.2.2.1.2.1.2.2, .slice i.2.2.2.1.2.2.1 i.2.2.2.1.2.2.2.1 i.2.2.2.1.2.2.2.2, .bool i.2.2.2.2.1, .slice i.2.2.2.2.2.1.1 i.2.2.2.2.2.1.2.1 i.2.2.2.2.2.1.2.2, .slice i.2.2.2.2.2.2.1 i.2.2.2.2.2.2.2.1 i.2.2.2.2.2.2.2.2]), (18, .int .i64 n), (19, .int .i64 (m : Int)), (8, .pointer (some ⟨i.1, 0, none⟩)), (9, .pointer (some ⟨i.2.1, 0, none⟩)), (10, .int .i64 (m : Int))]) (DAt2 W0 W0.heap.size m (if (oA || oB) = true then 0 else q) (if (oA || oB) = true then 0 else r) (oA || oB) q r) ?region ?rest
  case region =>
    refine wp_region_held_drew (S := (fun w' => w'.cell? ⟨w.heap.size, 0, none⟩ = some (.bool xs) ∧ w'.cell? ⟨w.heap.size, 1, none⟩ = some (.slice xa xl xc) ∧ w'.cell? ⟨w.heap.size, 2, none⟩ = some (.slice xb xk xe) ∧ w'.cell? ⟨w.heap.size, 3, none⟩ = some (.bool us) ∧ w'.cell? ⟨w.heap.size, 4, none⟩ = some (.slice ua ul uc) ∧ w'.cell? ⟨w.heap.size, 5, none⟩ = some (.slice ub uk ue))) (by kernel_rfl) ?_ (fun hHeld => ?_)
    · exact ⟨p0, p1, p2, p3, p4, p5⟩
    refine wpAnyH_take (i := 0) (v := ?_) (by rfl) (by kernel_rfl) (by kernel_rfl) (by kernel_rfl) (by exact fun _ _ _ h => h) (Or.inl ⟨by rfl, ?_⟩) hHeld ?_
    rotate_left 1
    · intro w' hSw
      go_simp
      try with_reducible rfl
    try simp only [Act.put, List.setIfInBounds_toArray, List.set_cons_zero, List.set_cons_succ, List.getElem_toArray, List.getElem_cons_zero, List.getElem_cons_succ]
    refine wpAnyH_take (i := 1) (v := ?_) (by rfl) (by kernel_rfl) (by kernel_rfl) (by kernel_rfl) (by exact fun _ _ _ h => h) (Or.inl ⟨by rfl, ?_⟩) hHeld ?_
    rotate_left 1
    · intro w' hSw
      go_simp
      try with_reducible rfl
    try simp only [Act.put, List.setIfInBounds_toArray, List.set_cons_zero, List.set_cons_succ, List.getElem_toArray, List.getElem_cons_zero, List.getElem_cons_succ]
    refine wpAnyH_take (i := 3) (v := ?_) (by rfl) (by kernel_rfl) (by kernel_rfl) (by kernel_rfl) (by exact fun _ _ _ h => h) (Or.inl ⟨by rfl, ?_⟩) hHeld ?_
    rotate_left 1
    · intro w' hSw
      go_simp
      try with_reducible rfl
    try simp only [Act.put, List.setIfInBounds_toArray, List.set_cons_zero, List.set_cons_succ, List.getElem_toArray, List.getElem_cons_zero, List.getElem_cons_succ]
    refine wpAnyH_take (i := 5) (v := ?_) (by rfl) (by kernel_rfl) (by kernel_rfl) (by kernel_rfl) (by exact fun _ _ _ h => h) (Or.inl ⟨by rfl, ?_⟩) hHeld ?_
    rotate_left 1
    · intro w' hSw
      go_simp
      try with_reducible rfl
    try simp only [Act.put, List.setIfInBounds_toArray, List.set_cons_zero, List.set_cons_succ, List.getElem_toArray, List.getElem_cons_zero, List.getElem_cons_succ]
    refine wpAnyH_take (i := 6) (v := ?_) (by rfl) (by kernel_rfl) (by kernel_rfl) (by kernel_rfl) (by exact fun _ _ _ h => h) (Or.inl ⟨by rfl, ?_⟩) hHeld ?_
    rotate_left 1
    · intro w' hSw
      go_simp
      try with_reducible rfl
    try simp only [Act.put, List.setIfInBounds_toArray, List.set_cons_zero, List.set_cons_succ, List.getElem_toArray, List.getElem_cons_zero, List.getElem_cons_succ]
    refine wpAnyH_ready (rs := [2, 7, 8]) (by kernel_rfl) (by simp) ?_
    refine AllReadyH.cons (by rfl) (fun K hK => ?_) ?_
    · go_simp
      (with_reducible refine HDA.out.mono ?_); rintro e wa ⟨s, z1, m1, k1, z2, m2, k2, t, y1, n1, j1, y2, n2, j2, rfl, HTA, HGA⟩; have hpa := HTA.out.below; obtain ⟨q0, q1, q2, q3, q4, q5⟩ := HK.out _ hpa; obtain ⟨u0, u1, u2, u3⟩ := far1 HWL.out hpa
      refine hK.out _ _ ?_ (fun hHeld => ?_)
      · (try dsimp only); first | with_reducible exact HK.out _ hp4 | with_reducible exact HK.out _ hpc | with_reducible exact HK.out _ hpb | with_reducible exact HK.out _ hpa | go_keep
      clear hK K
      try simp only [Act.put, List.setIfInBounds_toArray, List.set_cons_zero, List.set_cons_succ, List.getElem_toArray, List.getElem_cons_zero, List.getElem_cons_succ]
      refine wpAnyH_ready (rs := [4, 7, 8]) (by kernel_rfl) (by simp) ?_
      refine AllReadyH.cons (by rfl) (fun K hK => ?_) ?_
      · go_simp
        (with_reducible refine (dtold_form HTA.out HX.out HU.out HZ.out.1 HZ.out.2 (Below.refl _ _)).mono ?_); rintro e w4 ⟨s', f1, f2, f3, f4, f5, f6, t', d1, d2, d3, d4, d5, d6, rfl, H2, HG4⟩; have hp4 := H2.out.one.below; obtain ⟨r0, r1, r2, r3, r4, r5⟩ := HK.out _ hp4; obtain ⟨o0, o1, o2, o3⟩ := far1 HWL.out hp4; have hf1 := H2.out.end0a; have hf2 := H2.out.end0b; dsimp only [Go.Proofs.YtomoemgoglghlaaGreatDoor.put6, Go.Proofs.YtomoemgoglghlaaGreatDoor.set6, c6] at hf1 hf2; obtain ⟨WA, hWA, hf3⟩ := hf1.split; obtain ⟨WB, hWB, hf4⟩ := hf2.split; have HF1 := Lib.hid hf3; have HF2 := Lib.hid hf4; have HWA := Lib.hid hWA; have HWB := Lib.hid hWB; clear hf1 hf2 hf3 hf4 hWA hWB
        refine hK.out _ _ ?_ (fun hHeld => ?_)
        · (try dsimp only); first | with_reducible exact HK.out _ hp4 | with_reducible exact HK.out _ hpc | with_reducible exact HK.out _ hpb | with_reducible exact HK.out _ hpa | go_keep
        clear hK K
        try simp only [Act.put, List.setIfInBounds_toArray, List.set_cons_zero, List.set_cons_succ, List.getElem_toArray, List.getElem_cons_zero, List.getElem_cons_succ]
        refine wpAnyH_ready (rs := [7, 8]) (by kernel_rfl) (by simp) ?_
        refine AllReadyH.cons (by rfl) (fun K hK => ?_) ?_
        · go_simp
          refine hK.out _ _ ?_ (fun hHeld => ?_)
          · (try dsimp only); first | with_reducible exact HK.out _ hp4 | with_reducible exact HK.out _ hpc | with_reducible exact HK.out _ hpb | with_reducible exact HK.out _ hpa | go_keep
          clear hK K
          try simp only [Act.put, List.setIfInBounds_toArray, List.set_cons_zero, List.set_cons_succ, List.getElem_toArray, List.getElem_cons_zero, List.getElem_cons_succ]
          refine wpAnyH_ready (rs := [8]) (by kernel_rfl) (by simp) ?_
          refine AllReadyH.cons (by rfl) (fun K hK => ?_) ?_
          · go_simp
            refine hK.out _ _ ?_ (fun hHeld => ?_)
            · (try dsimp only); first | with_reducible exact HK.out _ hp4 | with_reducible exact HK.out _ hpc | with_reducible exact HK.out _ hpb | with_reducible exact HK.out _ hpa | go_keep
            clear hK K
            try simp only [Act.put, List.setIfInBounds_toArray, List.set_cons_zero, List.set_cons_succ, List.getElem_toArray, List.getElem_cons_zero, List.getElem_cons_succ]
            refine wpAnyH_ready (rs := [9]) (by kernel_rfl) (by simp) ?_
            refine AllReadyH.cons (by rfl) (fun K hK => ?_) ?_
            · go_simp
              refine hK.out _ _ ?_ (fun hHeld => ?_)
              · (try dsimp only); first | with_reducible exact HK.out _ hp4 | with_reducible exact HK.out _ hpc | with_reducible exact HK.out _ hpb | with_reducible exact HK.out _ hpa | go_keep
              clear hK K
              try simp only [Act.put, List.setIfInBounds_toArray, List.set_cons_zero, List.set_cons_succ, List.getElem_toArray, List.getElem_cons_zero, List.getElem_cons_succ]
              refine wpAnyH_ready (rs := [10]) (by kernel_rfl) (by simp) ?_
              refine AllReadyH.cons (by rfl) (fun K hK => ?_) ?_
              · go_simp
                refine hK.out _ _ ?_ (fun hHeld => ?_)
                · (try dsimp only); first | with_reducible exact HK.out _ hp4 | with_reducible exact HK.out _ hpc | with_reducible exact HK.out _ hpb | with_reducible exact HK.out _ hpa | go_keep
                clear hK K
                try simp only [Act.put, List.setIfInBounds_toArray, List.set_cons_zero, List.set_cons_succ, List.getElem_toArray, List.getElem_cons_zero, List.getElem_cons_succ]
                refine wpAnyH_take (i := 11) (v := ?_) (by rfl) (by kernel_rfl) (by kernel_rfl) (by kernel_rfl) (by exact fun _ _ _ h => h) (Or.inl ⟨by rfl, ?_⟩) hHeld ?_
                rotate_left 1
                · intro w' hSw
                  go_simp
                  try with_reducible rfl
                try simp only [Act.put, List.setIfInBounds_toArray, List.set_cons_zero, List.set_cons_succ, List.getElem_toArray, List.getElem_cons_zero, List.getElem_cons_succ]
                refine wpAnyH_done (by kernel_rfl) ?_ _
                refine OnlyEx.mk' ?_
                simp only [HWA.out, HWB.out]
                first
                  | (with_reducible refine ⟨_, ?_, HF1.out⟩; simp only [puts, Act.put, List.setIfInBounds_toArray, List.set_cons_zero, List.set_cons_succ]; done)
                  | (with_reducible refine ⟨_, ?_, HF2.out⟩; simp only [puts, Act.put, List.setIfInBounds_toArray, List.set_cons_zero, List.set_cons_succ]; done)
              exact AllReadyH.nil
            exact AllReadyH.nil
          exact AllReadyH.nil
        refine AllReadyH.cons (by rfl) (fun K hK => ?_) ?_
        · go_simp
          refine hK.out _ _ ?_ (fun hHeld => ?_)
          · (try dsimp only); first | with_reducible exact HK.out _ hp4 | with_reducible exact HK.out _ hpc | with_reducible exact HK.out _ hpb | with_reducible exact HK.out _ hpa | go_keep
          clear hK K
          try simp only [Act.put, List.setIfInBounds_toArray, List.set_cons_zero, List.set_cons_succ, List.getElem_toArray, List.getElem_cons_zero, List.getElem_cons_succ]
          refine wpAnyH_ready (rs := [7]) (by kernel_rfl) (by simp) ?_
          refine AllReadyH.cons (by rfl) (fun K hK => ?_) ?_
          · go_simp
            refine hK.out _ _ ?_ (fun hHeld => ?_)
            · (try dsimp only); first | with_reducible exact HK.out _ hp4 | with_reducible exact HK.out _ hpc | with_reducible exact HK.out _ hpb | with_reducible exact HK.out _ hpa | go_keep
            clear hK K
            try simp only [Act.put, List.setIfInBounds_toArray, List.set_cons_zero, List.set_cons_succ, List.getElem_toArray, List.getElem_cons_zero, List.getElem_cons_succ]
            refine wpAnyH_ready (rs := [9]) (by kernel_rfl) (by simp) ?_
            refine AllReadyH.cons (by rfl) (fun K hK => ?_) ?_
            · go_simp
              refine hK.out _ _ ?_ (fun hHeld => ?_)
              · (try dsimp only); first | with_reducible exact HK.out _ hp4 | with_reducible exact HK.out _ hpc | with_reducible exact HK.out _ hpb | with_reducible exact HK.out _ hpa | go_keep
              clear hK K
              try simp only [Act.put, List.setIfInBounds_toArray, List.set_cons_zero, List.set_cons_succ, List.getElem_toArray, List.getElem_cons_zero, List.getElem_cons_succ]
              refine wpAnyH_ready (rs := [10]) (by kernel_rfl) (by simp) ?_
              refine AllReadyH.cons (by rfl) (fun K hK => ?_) ?_
              · go_simp
                refine hK.out _ _ ?_ (fun hHeld => ?_)
                · (try dsimp only); first | with_reducible exact HK.out _ hp4 | with_reducible exact HK.out _ hpc | with_reducible exact HK.out _ hpb | with_reducible exact HK.out _ hpa | go_keep
                clear hK K
                try simp only [Act.put, List.setIfInBounds_toArray, List.set_cons_zero, List.set_cons_succ, List.getElem_toArray, List.getElem_cons_zero, List.getElem_cons_succ]
                refine wpAnyH_take (i := 11) (v := ?_) (by rfl) (by kernel_rfl) (by kernel_rfl) (by kernel_rfl) (by exact fun _ _ _ h => h) (Or.inl ⟨by rfl, ?_⟩) hHeld ?_
                rotate_left 1
                · intro w' hSw
                  go_simp
                  try with_reducible rfl
                try simp only [Act.put, List.setIfInBounds_toArray, List.set_cons_zero, List.set_cons_succ, List.getElem_toArray, List.getElem_cons_zero, List.getElem_cons_succ]
                refine wpAnyH_done (by kernel_rfl) ?_ _
                refine OnlyEx.mk' ?_
                simp only [HWA.out, HWB.out]
                first
                  | (with_reducible refine ⟨_, ?_, HF1.out⟩; simp only [puts, Act.put, List.setIfInBounds_toArray, List.set_cons_zero, List.set_cons_succ]; done)
                  | (with_reducible refine ⟨_, ?_, HF2.out⟩; simp only [puts, Act.put, List.setIfInBounds_toArray, List.set_cons_zero, List.set_cons_succ]; done)
              exact AllReadyH.nil
            exact AllReadyH.nil
          exact AllReadyH.nil
        exact AllReadyH.nil
      refine AllReadyH.cons (by rfl) (fun K hK => ?_) ?_
      · go_simp
        refine hK.out _ _ ?_ (fun hHeld => ?_)
        · (try dsimp only); first | with_reducible exact HK.out _ hp4 | with_reducible exact HK.out _ hpc | with_reducible exact HK.out _ hpb | with_reducible exact HK.out _ hpa | go_keep
        clear hK K
        try simp only [Act.put, List.setIfInBounds_toArray, List.set_cons_zero, List.set_cons_succ, List.getElem_toArray, List.getElem_cons_zero, List.getElem_cons_succ]
        refine wpAnyH_ready (rs := [4, 8]) (by kernel_rfl) (by simp) ?_
        refine AllReadyH.cons (by rfl) (fun K hK => ?_) ?_
        · go_simp
          (with_reducible refine (dtold_form HTA.out HX.out HU.out HZ.out.1 HZ.out.2 ((Below.refl wa.heap.size wa).alloc (Nat.le_refl _) (.cells #[.bool false, .slice none 0 0, .slice none 0 0, .bool false, .slice none 0 0, .slice none 0 0] 70))).mono ?_); rintro e w4 ⟨s', f1, f2, f3, f4, f5, f6, t', d1, d2, d3, d4, d5, d6, rfl, H2, HG4⟩; have hp4 := H2.out.one.below; obtain ⟨r0, r1, r2, r3, r4, r5⟩ := HK.out _ hp4; obtain ⟨o0, o1, o2, o3⟩ := far1 HWL.out hp4; have HX1 := Lib.hid (Six.kept (ty := 70) (heap_alloc_new wa _) HG4.out); have hf1 := (H2.out.end1a HX1.out HTA.out.lt); have hf2 := (H2.out.end1b HX1.out HTA.out.lt); dsimp only [Go.Proofs.YtomoemgoglghlaaGreatDoor.put6, Go.Proofs.YtomoemgoglghlaaGreatDoor.set6, c6] at hf1 hf2; obtain ⟨WA, hWA, hf3⟩ := hf1.split; obtain ⟨WB, hWB, hf4⟩ := hf2.split; have HF1 := Lib.hid hf3; have HF2 := Lib.hid hf4; have HWA := Lib.hid hWA; have HWB := Lib.hid hWB; clear hf1 hf2 hf3 hf4 hWA hWB; obtain ⟨g0, g1, g2, g3, g4, g5, g6, g7, g8, g9, g10, g11⟩ := cells6 HX1.out; obtain ⟨v0, v1, v2⟩ := six_ne HX1.out
          refine hK.out _ _ ?_ (fun hHeld => ?_)
          · (try dsimp only); first | with_reducible exact HK.out _ hp4 | with_reducible exact HK.out _ hpc | with_reducible exact HK.out _ hpb | with_reducible exact HK.out _ hpa | go_keep
          clear hK K
          try simp only [Act.put, List.setIfInBounds_toArray, List.set_cons_zero, List.set_cons_succ, List.getElem_toArray, List.getElem_cons_zero, List.getElem_cons_succ]
          refine wpAnyH_ready (rs := [8]) (by kernel_rfl) (by simp) ?_
          refine AllReadyH.cons (by rfl) (fun K hK => ?_) ?_
          · go_simp
            refine hK.out _ _ ?_ (fun hHeld => ?_)
            · (try dsimp only); first | with_reducible exact HK.out _ hp4 | with_reducible exact HK.out _ hpc | with_reducible exact HK.out _ hpb | with_reducible exact HK.out _ hpa | go_keep
            clear hK K
            try simp only [Act.put, List.setIfInBounds_toArray, List.set_cons_zero, List.set_cons_succ, List.getElem_toArray, List.getElem_cons_zero, List.getElem_cons_succ]
            refine wpAnyH_ready (rs := [9]) (by kernel_rfl) (by simp) ?_
            refine AllReadyH.cons (by rfl) (fun K hK => ?_) ?_
            · go_simp
              refine hK.out _ _ ?_ (fun hHeld => ?_)
              · (try dsimp only); first | with_reducible exact HK.out _ hp4 | with_reducible exact HK.out _ hpc | with_reducible exact HK.out _ hpb | with_reducible exact HK.out _ hpa | go_keep
              clear hK K
              try simp only [Act.put, List.setIfInBounds_toArray, List.set_cons_zero, List.set_cons_succ, List.getElem_toArray, List.getElem_cons_zero, List.getElem_cons_succ]
              refine wpAnyH_ready (rs := [10]) (by kernel_rfl) (by simp) ?_
              refine AllReadyH.cons (by rfl) (fun K hK => ?_) ?_
              · go_simp
                refine hK.out _ _ ?_ (fun hHeld => ?_)
                · (try dsimp only); first | with_reducible exact HK.out _ hp4 | with_reducible exact HK.out _ hpc | with_reducible exact HK.out _ hpb | with_reducible exact HK.out _ hpa | go_keep
                clear hK K
                try simp only [Act.put, List.setIfInBounds_toArray, List.set_cons_zero, List.set_cons_succ, List.getElem_toArray, List.getElem_cons_zero, List.getElem_cons_succ]
                refine wpAnyH_take (i := 11) (v := ?_) (by rfl) (by kernel_rfl) (by kernel_rfl) (by kernel_rfl) (by exact fun _ _ _ h => h) (Or.inl ⟨by rfl, ?_⟩) hHeld ?_
                rotate_left 1
                · intro w' hSw
                  go_simp
                  try with_reducible rfl
                try simp only [Act.put, List.setIfInBounds_toArray, List.set_cons_zero, List.set_cons_succ, List.getElem_toArray, List.getElem_cons_zero, List.getElem_cons_succ]
                refine wpAnyH_done (by kernel_rfl) ?_ _
                refine OnlyEx.mk' ?_
                simp only [HWA.out, HWB.out]
                first
                  | (with_reducible refine ⟨_, ?_, HF1.out⟩; simp only [puts, Act.put, List.setIfInBounds_toArray, List.set_cons_zero, List.set_cons_succ]; done)
                  | (with_reducible refine ⟨_, ?_, HF2.out⟩; simp only [puts, Act.put, List.setIfInBounds_toArray, List.set_cons_zero, List.set_cons_succ]; done)
              exact AllReadyH.nil
            exact AllReadyH.nil
          exact AllReadyH.nil
        refine AllReadyH.cons (by rfl) (fun K hK => ?_) ?_
        · go_simp
          refine hK.out _ _ ?_ (fun hHeld => ?_)
          · (try dsimp only); first | with_reducible exact HK.out _ hp4 | with_reducible exact HK.out _ hpc | with_reducible exact HK.out _ hpb | with_reducible exact HK.out _ hpa | go_keep
          clear hK K
          try simp only [Act.put, List.setIfInBounds_toArray, List.set_cons_zero, List.set_cons_succ, List.getElem_toArray, List.getElem_cons_zero, List.getElem_cons_succ]
          refine wpAnyH_ready (rs := [4]) (by kernel_rfl) (by simp) ?_
          refine AllReadyH.cons (by rfl) (fun K hK => ?_) ?_
          · go_simp
            (with_reducible refine (dtold_form HTA.out HX.out HU.out HZ.out.1 HZ.out.2 (((Below.refl wa.heap.size wa).alloc (Nat.le_refl _) (.cells #[.bool false, .slice none 0 0, .slice none 0 0, .bool false, .slice none 0 0, .slice none 0 0] 70)).alloc (by simp) (.cells #[.bool false, .slice none 0 0, .slice none 0 0, .bool false, .slice none 0 0, .slice none 0 0] 70))).mono ?_); rintro e w4 ⟨s', f1, f2, f3, f4, f5, f6, t', d1, d2, d3, d4, d5, d6, rfl, H2, HG4⟩; have hp4 := H2.out.one.below; obtain ⟨r0, r1, r2, r3, r4, r5⟩ := HK.out _ hp4; obtain ⟨o0, o1, o2, o3⟩ := far1 HWL.out hp4; have HX1 := Lib.hid (Six.kept (Six.kept (ty := 70) (heap_alloc_new wa _) ((Below.refl _ _).alloc (Nat.le_refl _) _)) HG4.out); have HX2 := Lib.hid (six_second wa HG4.out); have hf1 := (H2.out.end2 HX1.out HX2.out (Nat.ne_of_lt (Nat.lt_succ_self _)) HTA.out.lt (Nat.lt_succ_of_lt HTA.out.lt)); have hf2 := (H2.out.end2 HX2.out HX1.out (Nat.ne_of_gt (Nat.lt_succ_self _)) (Nat.lt_succ_of_lt HTA.out.lt) HTA.out.lt); dsimp only [Go.Proofs.YtomoemgoglghlaaGreatDoor.put6, Go.Proofs.YtomoemgoglghlaaGreatDoor.set6, c6] at hf1 hf2; obtain ⟨WA, hWA, hf3⟩ := hf1.split; obtain ⟨WB, hWB, hf4⟩ := hf2.split; have HF1 := Lib.hid hf3; have HF2 := Lib.hid hf4; have HWA := Lib.hid hWA; have HWB := Lib.hid hWB; clear hf1 hf2 hf3 hf4 hWA hWB; obtain ⟨g0, g1, g2, g3, g4, g5, g6, g7, g8, g9, g10, g11⟩ := cells6 HX1.out; obtain ⟨i0, i1, i2, i3, i4, i5, i6, i7, i8, i9, i10, i11⟩ := cells6 HX2.out
            refine hK.out _ _ ?_ (fun hHeld => ?_)
            · (try dsimp only); first | with_reducible exact HK.out _ hp4 | with_reducible exact HK.out _ hpc | with_reducible exact HK.out _ hpb | with_reducible exact HK.out _ hpa | go_keep
            clear hK K
            try simp only [Act.put, List.setIfInBounds_toArray, List.set_cons_zero, List.set_cons_succ, List.getElem_toArray, List.getElem_cons_zero, List.getElem_cons_succ]
            refine wpAnyH_ready (rs := [9]) (by kernel_rfl) (by simp) ?_
            refine AllReadyH.cons (by rfl) (fun K hK => ?_) ?_
            · go_simp
              refine hK.out _ _ ?_ (fun hHeld => ?_)
              · (try dsimp only); first | with_reducible exact HK.out _ hp4 | with_reducible exact HK.out _ hpc | with_reducible exact HK.out _ hpb | with_reducible exact HK.out _ hpa | go_keep
              clear hK K
              try simp only [Act.put, List.setIfInBounds_toArray, List.set_cons_zero, List.set_cons_succ, List.getElem_toArray, List.getElem_cons_zero, List.getElem_cons_succ]
              refine wpAnyH_ready (rs := [10]) (by kernel_rfl) (by simp) ?_
              refine AllReadyH.cons (by rfl) (fun K hK => ?_) ?_
              · go_simp
                refine hK.out _ _ ?_ (fun hHeld => ?_)
                · (try dsimp only); first | with_reducible exact HK.out _ hp4 | with_reducible exact HK.out _ hpc | with_reducible exact HK.out _ hpb | with_reducible exact HK.out _ hpa | go_keep
                clear hK K
                try simp only [Act.put, List.setIfInBounds_toArray, List.set_cons_zero, List.set_cons_succ, List.getElem_toArray, List.getElem_cons_zero, List.getElem_cons_succ]
                refine wpAnyH_take (i := 11) (v := ?_) (by rfl) (by kernel_rfl) (by kernel_rfl) (by kernel_rfl) (by exact fun _ _ _ h => h) (Or.inl ⟨by rfl, ?_⟩) hHeld ?_
                rotate_left 1
                · intro w' hSw
                  go_simp
                  try with_reducible rfl
                try simp only [Act.put, List.setIfInBounds_toArray, List.set_cons_zero, List.set_cons_succ, List.getElem_toArray, List.getElem_cons_zero, List.getElem_cons_succ]
                refine wpAnyH_done (by kernel_rfl) ?_ _
                refine OnlyEx.mk' ?_
                simp only [HWA.out, HWB.out]
                first
                  | (with_reducible refine ⟨_, ?_, HF1.out⟩; simp only [puts, Act.put, List.setIfInBounds_toArray, List.set_cons_zero, List.set_cons_succ]; done)
                  | (with_reducible refine ⟨_, ?_, HF2.out⟩; simp only [puts, Act.put, List.setIfInBounds_toArray, List.set_cons_zero, List.set_cons_succ]; done)
              exact AllReadyH.nil
            exact AllReadyH.nil
          exact AllReadyH.nil
        exact AllReadyH.nil
      refine AllReadyH.cons (by rfl) (fun K hK => ?_) ?_
      · go_simp
        refine hK.out _ _ ?_ (fun hHeld => ?_)
        · (try dsimp only); first | with_reducible exact HK.out _ hp4 | with_reducible exact HK.out _ hpc | with_reducible exact HK.out _ hpb | with_reducible exact HK.out _ hpa | go_keep
        clear hK K
        try simp only [Act.put, List.setIfInBounds_toArray, List.set_cons_zero, List.set_cons_succ, List.getElem_toArray, List.getElem_cons_zero, List.getElem_cons_succ]
        refine wpAnyH_ready (rs := [4, 7]) (by kernel_rfl) (by simp) ?_
        refine AllReadyH.cons (by rfl) (fun K hK => ?_) ?_
        · go_simp
          (with_reducible refine (dtold_form HTA.out HX.out HU.out HZ.out.1 HZ.out.2 ((Below.refl wa.heap.size wa).alloc (Nat.le_refl _) (.cells #[.bool false, .slice none 0 0, .slice none 0 0, .bool false, .slice none 0 0, .slice none 0 0] 70))).mono ?_); rintro e w4 ⟨s', f1, f2, f3, f4, f5, f6, t', d1, d2, d3, d4, d5, d6, rfl, H2, HG4⟩; have hp4 := H2.out.one.below; obtain ⟨r0, r1, r2, r3, r4, r5⟩ := HK.out _ hp4; obtain ⟨o0, o1, o2, o3⟩ := far1 HWL.out hp4; have HX1 := Lib.hid (Six.kept (ty := 70) (heap_alloc_new wa _) HG4.out); have hf1 := (H2.out.end1a HX1.out HTA.out.lt); have hf2 := (H2.out.end1b HX1.out HTA.out.lt); dsimp only [Go.Proofs.YtomoemgoglghlaaGreatDoor.put6, Go.Proofs.YtomoemgoglghlaaGreatDoor.set6, c6] at hf1 hf2; obtain ⟨WA, hWA, hf3⟩ := hf1.split; obtain ⟨WB, hWB, hf4⟩ := hf2.split; have HF1 := Lib.hid hf3; have HF2 := Lib.hid hf4; have HWA := Lib.hid hWA; have HWB := Lib.hid hWB; clear hf1 hf2 hf3 hf4 hWA hWB; obtain ⟨g0, g1, g2, g3, g4, g5, g6, g7, g8, g9, g10, g11⟩ := cells6 HX1.out; obtain ⟨v0, v1, v2⟩ := six_ne HX1.out
          refine hK.out _ _ ?_ (fun hHeld => ?_)
          · (try dsimp only); first | with_reducible exact HK.out _ hp4 | with_reducible exact HK.out _ hpc | with_reducible exact HK.out _ hpb | with_reducible exact HK.out _ hpa | go_keep
          clear hK K
          try simp only [Act.put, List.setIfInBounds_toArray, List.set_cons_zero, List.set_cons_succ, List.getElem_toArray, List.getElem_cons_zero, List.getElem_cons_succ]
          refine wpAnyH_ready (rs := [7]) (by kernel_rfl) (by simp) ?_
          refine AllReadyH.cons (by rfl) (fun K hK => ?_) ?_
          · go_simp
            refine hK.out _ _ ?_ (fun hHeld => ?_)
            · (try dsimp only); first | with_reducible exact HK.out _ hp4 | with_reducible exact HK.out _ hpc | with_reducible exact HK.out _ hpb | with_reducible exact HK.out _ hpa | go_keep
            clear hK K
            try simp only [Act.put, List.setIfInBounds_toArray, List.set_cons_zero, List.set_cons_succ, List.getElem_toArray, List.getElem_cons_zero, List.getElem_cons_succ]
            refine wpAnyH_ready (rs := [9]) (by kernel_rfl) (by simp) ?_
            refine AllReadyH.cons (by rfl) (fun K hK => ?_) ?_
            · go_simp
              refine hK.out _ _ ?_ (fun hHeld => ?_)
              · (try dsimp only); first | with_reducible exact HK.out _ hp4 | with_reducible exact HK.out _ hpc | with_reducible exact HK.out _ hpb | with_reducible exact HK.out _ hpa | go_keep
              clear hK K
              try simp only [Act.put, List.setIfInBounds_toArray, List.set_cons_zero, List.set_cons_succ, List.getElem_toArray, List.getElem_cons_zero, List.getElem_cons_succ]
              refine wpAnyH_ready (rs := [10]) (by kernel_rfl) (by simp) ?_
              refine AllReadyH.cons (by rfl) (fun K hK => ?_) ?_
              · go_simp
                refine hK.out _ _ ?_ (fun hHeld => ?_)
                · (try dsimp only); first | with_reducible exact HK.out _ hp4 | with_reducible exact HK.out _ hpc | with_reducible exact HK.out _ hpb | with_reducible exact HK.out _ hpa | go_keep
                clear hK K
                try simp only [Act.put, List.setIfInBounds_toArray, List.set_cons_zero, List.set_cons_succ, List.getElem_toArray, List.getElem_cons_zero, List.getElem_cons_succ]
                refine wpAnyH_take (i := 11) (v := ?_) (by rfl) (by kernel_rfl) (by kernel_rfl) (by kernel_rfl) (by exact fun _ _ _ h => h) (Or.inl ⟨by rfl, ?_⟩) hHeld ?_
                rotate_left 1
                · intro w' hSw
                  go_simp
                  try with_reducible rfl
                try simp only [Act.put, List.setIfInBounds_toArray, List.set_cons_zero, List.set_cons_succ, List.getElem_toArray, List.getElem_cons_zero, List.getElem_cons_succ]
                refine wpAnyH_done (by kernel_rfl) ?_ _
                refine OnlyEx.mk' ?_
                simp only [HWA.out, HWB.out]
                first
                  | (with_reducible refine ⟨_, ?_, HF1.out⟩; simp only [puts, Act.put, List.setIfInBounds_toArray, List.set_cons_zero, List.set_cons_succ]; done)
                  | (with_reducible refine ⟨_, ?_, HF2.out⟩; simp only [puts, Act.put, List.setIfInBounds_toArray, List.set_cons_zero, List.set_cons_succ]; done)
              exact AllReadyH.nil
            exact AllReadyH.nil
          exact AllReadyH.nil
        refine AllReadyH.cons (by rfl) (fun K hK => ?_) ?_
        · go_simp
          refine hK.out _ _ ?_ (fun hHeld => ?_)
          · (try dsimp only); first | with_reducible exact HK.out _ hp4 | with_reducible exact HK.out _ hpc | with_reducible exact HK.out _ hpb | with_reducible exact HK.out _ hpa | go_keep
          clear hK K
          try simp only [Act.put, List.setIfInBounds_toArray, List.set_cons_zero, List.set_cons_succ, List.getElem_toArray, List.getElem_cons_zero, List.getElem_cons_succ]
          refine wpAnyH_ready (rs := [4]) (by kernel_rfl) (by simp) ?_
          refine AllReadyH.cons (by rfl) (fun K hK => ?_) ?_
          · go_simp
            (with_reducible refine (dtold_form HTA.out HX.out HU.out HZ.out.1 HZ.out.2 (((Below.refl wa.heap.size wa).alloc (Nat.le_refl _) (.cells #[.bool false, .slice none 0 0, .slice none 0 0, .bool false, .slice none 0 0, .slice none 0 0] 70)).alloc (by simp) (.cells #[.bool false, .slice none 0 0, .slice none 0 0, .bool false, .slice none 0 0, .slice none 0 0] 70))).mono ?_); rintro e w4 ⟨s', f1, f2, f3, f4, f5, f6, t', d1, d2, d3, d4, d5, d6, rfl, H2, HG4⟩; have hp4 := H2.out.one.below; obtain ⟨r0, r1, r2, r3, r4, r5⟩ := HK.out _ hp4; obtain ⟨o0, o1, o2, o3⟩ := far1 HWL.out hp4; have HX1 := Lib.hid (Six.kept (Six.kept (ty := 70) (heap_alloc_new wa _) ((Below.refl _ _).alloc (Nat.le_refl _) _)) HG4.out); have HX2 := Lib.hid (six_second wa HG4.out); have hf1 := (H2.out.end2 HX1.out HX2.out (Nat.ne_of_lt (Nat.lt_succ_self _)) HTA.out.lt (Nat.lt_succ_of_lt HTA.out.lt)); have hf2 := (H2.out.end2 HX2.out HX1.out (Nat.ne_of_gt (Nat.lt_succ_self _)) (Nat.lt_succ_of_lt HTA.out.lt) HTA.out.lt); dsimp only [Go.Proofs.YtomoemgoglghlaaGreatDoor.put6, Go.Proofs.YtomoemgoglghlaaGreatDoor.set6, c6] at hf1 hf2; obtain ⟨WA, hWA, hf3⟩ := hf1.split; obtain ⟨WB, hWB, hf4⟩ := hf2.split; have HF1 := Lib.hid hf3; have HF2 := Lib.hid hf4; have HWA := Lib.hid hWA; have HWB := Lib.hid hWB; clear hf1 hf2 hf3 hf4 hWA hWB; obtain ⟨g0, g1, g2, g3, g4, g5, g6, g7, g8, g9, g10, g11⟩ := cells6 HX1.out; obtain ⟨i0, i1, i2, i3, i4, i5, i6, i7, i8, i9, i10, i11⟩ := cells6 HX2.out
            refine hK.out _ _ ?_ (fun hHeld => ?_)
            · (try dsimp only); first | with_reducible exact HK.out _ hp4 | with_reducible exact HK.out _ hpc | with_reducible exact HK.out _ hpb | with_reducible exact HK.out _ hpa | go_keep
            clear hK K
            try simp only [Act.put, List.setIfInBounds_toArray, List.set_cons_zero, List.set_cons_succ, List.getElem_toArray, List.getElem_cons_zero, List.getElem_cons_succ]
            refine wpAnyH_ready (rs := [9]) (by kernel_rfl) (by simp) ?_
            refine AllReadyH.cons (by rfl) (fun K hK => ?_) ?_
            · go_simp
              refine hK.out _ _ ?_ (fun hHeld => ?_)
              · (try dsimp only); first | with_reducible exact HK.out _ hp4 | with_reducible exact HK.out _ hpc | with_reducible exact HK.out _ hpb | with_reducible exact HK.out _ hpa | go_keep
              clear hK K
              try simp only [Act.put, List.setIfInBounds_toArray, List.set_cons_zero, List.set_cons_succ, List.getElem_toArray, List.getElem_cons_zero, List.getElem_cons_succ]
              refine wpAnyH_ready (rs := [10]) (by kernel_rfl) (by simp) ?_
              refine AllReadyH.cons (by rfl) (fun K hK => ?_) ?_
              · go_simp
                refine hK.out _ _ ?_ (fun hHeld => ?_)
                · (try dsimp only); first | with_reducible exact HK.out _ hp4 | with_reducible exact HK.out _ hpc | with_reducible exact HK.out _ hpb | with_reducible exact HK.out _ hpa | go_keep
                clear hK K
                try simp only [Act.put, List.setIfInBounds_toArray, List.set_cons_zero, List.set_cons_succ, List.getElem_toArray, List.getElem_cons_zero, List.getElem_cons_succ]
                refine wpAnyH_take (i := 11) (v := ?_) (by rfl) (by kernel_rfl) (by kernel_rfl) (by kernel_rfl) (by exact fun _ _ _ h => h) (Or.inl ⟨by rfl, ?_⟩) hHeld ?_
                rotate_left 1
                · intro w' hSw
                  go_simp
                  try with_reducible rfl
                try simp only [Act.put, List.setIfInBounds_toArray, List.set_cons_zero, List.set_cons_succ, List.getElem_toArray, List.getElem_cons_zero, List.getElem_cons_succ]
                refine wpAnyH_done (by kernel_rfl) ?_ _
                refine OnlyEx.mk' ?_
                simp only [HWA.out, HWB.out]
                first
                  | (with_reducible refine ⟨_, ?_, HF1.out⟩; simp only [puts, Act.put, List.setIfInBounds_toArray, List.set_cons_zero, List.set_cons_succ]; done)
                  | (with_reducible refine ⟨_, ?_, HF2.out⟩; simp only [puts, Act.put, List.setIfInBounds_toArray, List.set_cons_zero, List.set_cons_succ]; done)
              exact AllReadyH.nil
            exact AllReadyH.nil
          exact AllReadyH.nil
        exact AllReadyH.nil
      exact AllReadyH.nil
    refine AllReadyH.cons (by rfl) (fun K hK => ?_) ?_
    · go_simp
      refine hK.out _ _ ?_ (fun hHeld => ?_)
      · (try dsimp only); first | with_reducible exact HK.out _ hp4 | with_reducible exact HK.out _ hpc | with_reducible exact HK.out _ hpb | with_reducible exact HK.out _ hpa | go_keep
      clear hK K
      try simp only [Act.put, List.setIfInBounds_toArray, List.set_cons_zero, List.set_cons_succ, List.getElem_toArray, List.getElem_cons_zero, List.getElem_cons_succ]
      refine wpAnyH_ready (rs := [2, 8]) (by kernel_rfl) (by simp) ?_
      refine AllReadyH.cons (by rfl) (fun K hK => ?_) ?_
      · go_simp
        (with_reducible refine HDB.out.mono ?_); rintro e wb ⟨s, z1, m1, k1, z2, m2, k2, t, y1, n1, j1, y2, n2, j2, rfl, HTB, HGB⟩; have hpb := HTB.out.below; obtain ⟨q0, q1, q2, q3, q4, q5⟩ := HK.out _ hpb; obtain ⟨u0, u1, u2, u3⟩ := far1 HWL.out hpb; have HBB := Lib.hid (HZB.out.grown HGB.out hne1)
        refine hK.out _ _ ?_ (fun hHeld => ?_)
        · (try dsimp only); first | with_reducible exact HK.out _ hp4 | with_reducible exact HK.out _ hpc | with_reducible exact HK.out _ hpb | with_reducible exact HK.out _ hpa | go_keep
        clear hK K
        try simp only [Act.put, List.setIfInBounds_toArray, List.set_cons_zero, List.set_cons_succ, List.getElem_toArray, List.getElem_cons_zero, List.getElem_cons_succ]
        refine wpAnyH_ready (rs := [4, 8]) (by kernel_rfl) (by simp) ?_
        refine AllReadyH.cons (by rfl) (fun K hK => ?_) ?_
        · go_simp
          (with_reducible refine (dtold_form HTB.out HX.out HU.out HZ.out.1 HZ.out.2 (Below.refl _ _)).mono ?_); rintro e w4 ⟨s', f1, f2, f3, f4, f5, f6, t', d1, d2, d3, d4, d5, d6, rfl, H2, HG4⟩; have hp4 := H2.out.one.below; obtain ⟨r0, r1, r2, r3, r4, r5⟩ := HK.out _ hp4; obtain ⟨o0, o1, o2, o3⟩ := far1 HWL.out hp4; have HX1 := Lib.hid (HBB.out.kept HG4.out); have hf1 := (H2.out.end1a HX1.out hlt); have hf2 := (H2.out.end1b HX1.out hlt); dsimp only [Go.Proofs.YtomoemgoglghlaaGreatDoor.put6, Go.Proofs.YtomoemgoglghlaaGreatDoor.set6, c6] at hf1 hf2; obtain ⟨WA, hWA, hf3⟩ := hf1.split; obtain ⟨WB, hWB, hf4⟩ := hf2.split; have HF1 := Lib.hid hf3; have HF2 := Lib.hid hf4; have HWA := Lib.hid hWA; have HWB := Lib.hid hWB; clear hf1 hf2 hf3 hf4 hWA hWB; obtain ⟨g0, g1, g2, g3, g4, g5, g6, g7, g8, g9, g10, g11⟩ := cells6 HX1.out; obtain ⟨v0, v1, v2⟩ := six_ne HX1.out
          refine hK.out _ _ ?_ (fun hHeld => ?_)
          · (try dsimp only); first | with_reducible exact HK.out _ hp4 | with_reducible exact HK.out _ hpc | with_reducible exact HK.out _ hpb | with_reducible exact HK.out _ hpa | go_keep
          clear hK K
          try simp only [Act.put, List.setIfInBounds_toArray, List.set_cons_zero, List.set_cons_succ, List.getElem_toArray, List.getElem_cons_zero, List.getElem_cons_succ]
          refine wpAnyH_ready (rs := [8]) (by kernel_rfl) (by simp) ?_
          refine AllReadyH.cons (by rfl) (fun K hK => ?_) ?_
          · go_simp
            refine hK.out _ _ ?_ (fun hHeld => ?_)
            · (try dsimp only); first | with_reducible exact HK.out _ hp4 | with_reducible exact HK.out _ hpc | with_reducible exact HK.out _ hpb | with_reducible exact HK.out _ hpa | go_keep
            clear hK K
            try simp only [Act.put, List.setIfInBounds_toArray, List.set_cons_zero, List.set_cons_succ, List.getElem_toArray, List.getElem_cons_zero, List.getElem_cons_succ]
            refine wpAnyH_ready (rs := [9]) (by kernel_rfl) (by simp) ?_
            refine AllReadyH.cons (by rfl) (fun K hK => ?_) ?_
            · go_simp
              refine hK.out _ _ ?_ (fun hHeld => ?_)
              · (try dsimp only); first | with_reducible exact HK.out _ hp4 | with_reducible exact HK.out _ hpc | with_reducible exact HK.out _ hpb | with_reducible exact HK.out _ hpa | go_keep
              clear hK K
              try simp only [Act.put, List.setIfInBounds_toArray, List.set_cons_zero, List.set_cons_succ, List.getElem_toArray, List.getElem_cons_zero, List.getElem_cons_succ]
              refine wpAnyH_ready (rs := [10]) (by kernel_rfl) (by simp) ?_
              refine AllReadyH.cons (by rfl) (fun K hK => ?_) ?_
              · go_simp
                refine hK.out _ _ ?_ (fun hHeld => ?_)
                · (try dsimp only); first | with_reducible exact HK.out _ hp4 | with_reducible exact HK.out _ hpc | with_reducible exact HK.out _ hpb | with_reducible exact HK.out _ hpa | go_keep
                clear hK K
                try simp only [Act.put, List.setIfInBounds_toArray, List.set_cons_zero, List.set_cons_succ, List.getElem_toArray, List.getElem_cons_zero, List.getElem_cons_succ]
                refine wpAnyH_take (i := 11) (v := ?_) (by rfl) (by kernel_rfl) (by kernel_rfl) (by kernel_rfl) (by exact fun _ _ _ h => h) (Or.inl ⟨by rfl, ?_⟩) hHeld ?_
                rotate_left 1
                · intro w' hSw
                  go_simp
                  try with_reducible rfl
                try simp only [Act.put, List.setIfInBounds_toArray, List.set_cons_zero, List.set_cons_succ, List.getElem_toArray, List.getElem_cons_zero, List.getElem_cons_succ]
                refine wpAnyH_done (by kernel_rfl) ?_ _
                refine OnlyEx.mk' ?_
                simp only [HWA.out, HWB.out]
                first
                  | (with_reducible refine ⟨_, ?_, HF1.out⟩; simp only [puts, Act.put, List.setIfInBounds_toArray, List.set_cons_zero, List.set_cons_succ]; done)
                  | (with_reducible refine ⟨_, ?_, HF2.out⟩; simp only [puts, Act.put, List.setIfInBounds_toArray, List.set_cons_zero, List.set_cons_succ]; done)
              exact AllReadyH.nil
            exact AllReadyH.nil
          exact AllReadyH.nil
        refine AllReadyH.cons (by rfl) (fun K hK => ?_) ?_
        · go_simp
          refine hK.out _ _ ?_ (fun hHeld => ?_)
          · (try dsimp only); first | with_reducible exact HK.out _ hp4 | with_reducible exact HK.out _ hpc | with_reducible exact HK.out _ hpb | with_reducible exact HK.out _ hpa | go_keep
          clear hK K
          try simp only [Act.put, List.setIfInBounds_toArray, List.set_cons_zero, List.set_cons_succ, List.getElem_toArray, List.getElem_cons_zero, List.getElem_cons_succ]
          refine wpAnyH_ready (rs := [4]) (by kernel_rfl) (by simp) ?_
          refine AllReadyH.cons (by rfl) (fun K hK => ?_) ?_
          · go_simp
            (with_reducible refine (dtold_form HTB.out HX.out HU.out HZ.out.1 HZ.out.2 ((Below.refl wb.heap.size wb).alloc (Nat.le_refl _) (.cells #[.bool false, .slice none 0 0, .slice none 0 0, .bool false, .slice none 0 0, .slice none 0 0] 70))).mono ?_); rintro e w4 ⟨s', f1, f2, f3, f4, f5, f6, t', d1, d2, d3, d4, d5, d6, rfl, H2, HG4⟩; have hp4 := H2.out.one.below; obtain ⟨r0, r1, r2, r3, r4, r5⟩ := HK.out _ hp4; obtain ⟨o0, o1, o2, o3⟩ := far1 HWL.out hp4; have HX2 := Lib.hid (Six.kept (ty := 70) (heap_alloc_new wb _) HG4.out); have HX1 := Lib.hid ((HBB.out.kept ((Below.refl _ _).alloc (Nat.le_refl _) _)).kept HG4.out); have hgh : w1.heap.size ≠ wb.heap.size := Nat.ne_of_lt (Array.getElem?_eq_some_iff.1 HBB.out).1; have hhg := Ne.symm hgh; have hf1 := (H2.out.end2 HX1.out HX2.out hgh hlt HTB.out.lt); have hf2 := (H2.out.end2 HX2.out HX1.out hhg HTB.out.lt hlt); dsimp only [Go.Proofs.YtomoemgoglghlaaGreatDoor.put6, Go.Proofs.YtomoemgoglghlaaGreatDoor.set6, c6] at hf1 hf2; obtain ⟨WA, hWA, hf3⟩ := hf1.split; obtain ⟨WB, hWB, hf4⟩ := hf2.split; have HF1 := Lib.hid hf3; have HF2 := Lib.hid hf4; have HWA := Lib.hid hWA; have HWB := Lib.hid hWB; clear hf1 hf2 hf3 hf4 hWA hWB; obtain ⟨g0, g1, g2, g3, g4, g5, g6, g7, g8, g9, g10, g11⟩ := cells6 HX1.out; obtain ⟨i0, i1, i2, i3, i4, i5, i6, i7, i8, i9, i10, i11⟩ := cells6 HX2.out
            refine hK.out _ _ ?_ (fun hHeld => ?_)
            · (try dsimp only); first | with_reducible exact HK.out _ hp4 | with_reducible exact HK.out _ hpc | with_reducible exact HK.out _ hpb | with_reducible exact HK.out _ hpa | go_keep
            clear hK K
            try simp only [Act.put, List.setIfInBounds_toArray, List.set_cons_zero, List.set_cons_succ, List.getElem_toArray, List.getElem_cons_zero, List.getElem_cons_succ]
            refine wpAnyH_ready (rs := [9]) (by kernel_rfl) (by simp) ?_
            refine AllReadyH.cons (by rfl) (fun K hK => ?_) ?_
            · go_simp
              refine hK.out _ _ ?_ (fun hHeld => ?_)
              · (try dsimp only); first | with_reducible exact HK.out _ hp4 | with_reducible exact HK.out _ hpc | with_reducible exact HK.out _ hpb | with_reducible exact HK.out _ hpa | go_keep
              clear hK K
              try simp only [Act.put, List.setIfInBounds_toArray, List.set_cons_zero, List.set_cons_succ, List.getElem_toArray, List.getElem_cons_zero, List.getElem_cons_succ]
              refine wpAnyH_ready (rs := [10]) (by kernel_rfl) (by simp) ?_
              refine AllReadyH.cons (by rfl) (fun K hK => ?_) ?_
              · go_simp
                refine hK.out _ _ ?_ (fun hHeld => ?_)
                · (try dsimp only); first | with_reducible exact HK.out _ hp4 | with_reducible exact HK.out _ hpc | with_reducible exact HK.out _ hpb | with_reducible exact HK.out _ hpa | go_keep
                clear hK K
                try simp only [Act.put, List.setIfInBounds_toArray, List.set_cons_zero, List.set_cons_succ, List.getElem_toArray, List.getElem_cons_zero, List.getElem_cons_succ]
                refine wpAnyH_take (i := 11) (v := ?_) (by rfl) (by kernel_rfl) (by kernel_rfl) (by kernel_rfl) (by exact fun _ _ _ h => h) (Or.inl ⟨by rfl, ?_⟩) hHeld ?_
                rotate_left 1
                · intro w' hSw
                  go_simp
                  try with_reducible rfl
                try simp only [Act.put, List.setIfInBounds_toArray, List.set_cons_zero, List.set_cons_succ, List.getElem_toArray, List.getElem_cons_zero, List.getElem_cons_succ]
                refine wpAnyH_done (by kernel_rfl) ?_ _
                refine OnlyEx.mk' ?_
                simp only [HWA.out, HWB.out]
                first
                  | (with_reducible refine ⟨_, ?_, HF1.out⟩; simp only [puts, Act.put, List.setIfInBounds_toArray, List.set_cons_zero, List.set_cons_succ]; done)
                  | (with_reducible refine ⟨_, ?_, HF2.out⟩; simp only [puts, Act.put, List.setIfInBounds_toArray, List.set_cons_zero, List.set_cons_succ]; done)
              exact AllReadyH.nil
            exact AllReadyH.nil
          exact AllReadyH.nil
        exact AllReadyH.nil
      refine AllReadyH.cons (by rfl) (fun K hK => ?_) ?_
      · go_simp
        refine hK.out _ _ ?_ (fun hHeld => ?_)
        · (try dsimp only); first | with_reducible exact HK.out _ hp4 | with_reducible exact HK.out _ hpc | with_reducible exact HK.out _ hpb | with_reducible exact HK.out _ hpa | go_keep
        clear hK K
        try simp only [Act.put, List.setIfInBounds_toArray, List.set_cons_zero, List.set_cons_succ, List.getElem_toArray, List.getElem_cons_zero, List.getElem_cons_succ]
        refine wpAnyH_ready (rs := [2]) (by kernel_rfl) (by simp) ?_
        refine AllReadyH.cons (by rfl) (fun K hK => ?_) ?_
        · go_simp
          (with_reducible refine HDC.out.mono ?_); rintro e wc ⟨s, z1, m1, k1, z2, m2, k2, t, y1, n1, j1, y2, n2, j2, rfl, HTC, HGC⟩; have hpc := HTC.out.below; obtain ⟨q0, q1, q2, q3, q4, q5⟩ := HK.out _ hpc; obtain ⟨u0, u1, u2, u3⟩ := far1 HWL.out hpc; have HC1 := Lib.hid (HZC.out.1.grown HGC.out hne1); have HC2 := Lib.hid (HZC.out.2.grown HGC.out hne2)
          refine hK.out _ _ ?_ (fun hHeld => ?_)
          · (try dsimp only); first | with_reducible exact HK.out _ hp4 | with_reducible exact HK.out _ hpc | with_reducible exact HK.out _ hpb | with_reducible exact HK.out _ hpa | go_keep
          clear hK K
          try simp only [Act.put, List.setIfInBounds_toArray, List.set_cons_zero, List.set_cons_succ, List.getElem_toArray, List.getElem_cons_zero, List.getElem_cons_succ]
          refine wpAnyH_ready (rs := [4]) (by kernel_rfl) (by simp) ?_
          refine AllReadyH.cons (by rfl) (fun K hK => ?_) ?_
          · go_simp
            (with_reducible refine (dtold_form HTC.out HX.out HU.out HZ.out.1 HZ.out.2 (Below.refl _ _)).mono ?_); rintro e w4 ⟨s', f1, f2, f3, f4, f5, f6, t', d1, d2, d3, d4, d5, d6, rfl, H2, HG4⟩; have hp4 := H2.out.one.below; obtain ⟨r0, r1, r2, r3, r4, r5⟩ := HK.out _ hp4; obtain ⟨o0, o1, o2, o3⟩ := far1 HWL.out hp4; have HX1 := Lib.hid (HC1.out.kept HG4.out); have HX2 := Lib.hid (HC2.out.kept HG4.out); have hf1 := (H2.out.end2 HX1.out HX2.out HE1.out hlt hgt2); have hf2 := (H2.out.end2 HX2.out HX1.out (Ne.symm HE1.out) hgt2 hlt); dsimp only [Go.Proofs.YtomoemgoglghlaaGreatDoor.put6, Go.Proofs.YtomoemgoglghlaaGreatDoor.set6, c6] at hf1 hf2; obtain ⟨WA, hWA, hf3⟩ := hf1.split; obtain ⟨WB, hWB, hf4⟩ := hf2.split; have HF1 := Lib.hid hf3; have HF2 := Lib.hid hf4; have HWA := Lib.hid hWA; have HWB := Lib.hid hWB; clear hf1 hf2 hf3 hf4 hWA hWB; obtain ⟨g0, g1, g2, g3, g4, g5, g6, g7, g8, g9, g10, g11⟩ := cells6 HX1.out; obtain ⟨i0, i1, i2, i3, i4, i5, i6, i7, i8, i9, i10, i11⟩ := cells6 HX2.out
            refine hK.out _ _ ?_ (fun hHeld => ?_)
            · (try dsimp only); first | with_reducible exact HK.out _ hp4 | with_reducible exact HK.out _ hpc | with_reducible exact HK.out _ hpb | with_reducible exact HK.out _ hpa | go_keep
            clear hK K
            try simp only [Act.put, List.setIfInBounds_toArray, List.set_cons_zero, List.set_cons_succ, List.getElem_toArray, List.getElem_cons_zero, List.getElem_cons_succ]
            refine wpAnyH_ready (rs := [9]) (by kernel_rfl) (by simp) ?_
            refine AllReadyH.cons (by rfl) (fun K hK => ?_) ?_
            · go_simp
              refine hK.out _ _ ?_ (fun hHeld => ?_)
              · (try dsimp only); first | with_reducible exact HK.out _ hp4 | with_reducible exact HK.out _ hpc | with_reducible exact HK.out _ hpb | with_reducible exact HK.out _ hpa | go_keep
              clear hK K
              try simp only [Act.put, List.setIfInBounds_toArray, List.set_cons_zero, List.set_cons_succ, List.getElem_toArray, List.getElem_cons_zero, List.getElem_cons_succ]
              refine wpAnyH_ready (rs := [10]) (by kernel_rfl) (by simp) ?_
              refine AllReadyH.cons (by rfl) (fun K hK => ?_) ?_
              · go_simp
                refine hK.out _ _ ?_ (fun hHeld => ?_)
                · (try dsimp only); first | with_reducible exact HK.out _ hp4 | with_reducible exact HK.out _ hpc | with_reducible exact HK.out _ hpb | with_reducible exact HK.out _ hpa | go_keep
                clear hK K
                try simp only [Act.put, List.setIfInBounds_toArray, List.set_cons_zero, List.set_cons_succ, List.getElem_toArray, List.getElem_cons_zero, List.getElem_cons_succ]
                refine wpAnyH_take (i := 11) (v := ?_) (by rfl) (by kernel_rfl) (by kernel_rfl) (by kernel_rfl) (by exact fun _ _ _ h => h) (Or.inl ⟨by rfl, ?_⟩) hHeld ?_
                rotate_left 1
                · intro w' hSw
                  go_simp
                  try with_reducible rfl
                try simp only [Act.put, List.setIfInBounds_toArray, List.set_cons_zero, List.set_cons_succ, List.getElem_toArray, List.getElem_cons_zero, List.getElem_cons_succ]
                refine wpAnyH_done (by kernel_rfl) ?_ _
                refine OnlyEx.mk' ?_
                simp only [HWA.out, HWB.out]
                first
                  | (with_reducible refine ⟨_, ?_, HF1.out⟩; simp only [puts, Act.put, List.setIfInBounds_toArray, List.set_cons_zero, List.set_cons_succ]; done)
                  | (with_reducible refine ⟨_, ?_, HF2.out⟩; simp only [puts, Act.put, List.setIfInBounds_toArray, List.set_cons_zero, List.set_cons_succ]; done)
              exact AllReadyH.nil
            exact AllReadyH.nil
          exact AllReadyH.nil
        exact AllReadyH.nil
      exact AllReadyH.nil
    refine AllReadyH.cons (by rfl) (fun K hK => ?_) ?_
    · go_simp
      refine hK.out _ _ ?_ (fun hHeld => ?_)
      · (try dsimp only); first | with_reducible exact HK.out _ hp4 | with_reducible exact HK.out _ hpc | with_reducible exact HK.out _ hpb | with_reducible exact HK.out _ hpa | go_keep
      clear hK K
      try simp only [Act.put, List.setIfInBounds_toArray, List.set_cons_zero, List.set_cons_succ, List.getElem_toArray, List.getElem_cons_zero, List.getElem_cons_succ]
      refine wpAnyH_ready (rs := [2, 7]) (by kernel_rfl) (by simp) ?_
      refine AllReadyH.cons (by rfl) (fun K hK => ?_) ?_
      · go_simp
        (with_reducible refine HDB.out.mono ?_); rintro e wb ⟨s, z1, m1, k1, z2, m2, k2, t, y1, n1, j1, y2, n2, j2, rfl, HTB, HGB⟩; have hpb := HTB.out.below; obtain ⟨q0, q1, q2, q3, q4, q5⟩ := HK.out _ hpb; obtain ⟨u0, u1, u2, u3⟩ := far1 HWL.out hpb; have HBB := Lib.hid (HZB.out.grown HGB.out hne1)
        refine hK.out _ _ ?_ (fun hHeld => ?_)
        · (try dsimp only); first | with_reducible exact HK.out _ hp4 | with_reducible exact HK.out _ hpc | with_reducible exact HK.out _ hpb | with_reducible exact HK.out _ hpa | go_keep
        clear hK K
        try simp only [Act.put, List.setIfInBounds_toArray, List.set_cons_zero, List.set_cons_succ, List.getElem_toArray, List.getElem_cons_zero, List.getElem_cons_succ]
        refine wpAnyH_ready (rs := [4, 7]) (by kernel_rfl) (by simp) ?_
        refine AllReadyH.cons (by rfl) (fun K hK => ?_) ?_
        · go_simp
          (with_reducible refine (dtold_form HTB.out HX.out HU.out HZ.out.1 HZ.out.2 (Below.refl _ _)).mono ?_); rintro e w4 ⟨s', f1, f2, f3, f4, f5, f6, t', d1, d2, d3, d4, d5, d6, rfl, H2, HG4⟩; have hp4 := H2.out.one.below; obtain ⟨r0, r1, r2, r3, r4, r5⟩ := HK.out _ hp4; obtain ⟨o0, o1, o2, o3⟩ := far1 HWL.out hp4; have HX1 := Lib.hid (HBB.out.kept HG4.out); have hf1 := (H2.out.end1a HX1.out hlt); have hf2 := (H2.out.end1b HX1.out hlt); dsimp only [Go.Proofs.YtomoemgoglghlaaGreatDoor.put6, Go.Proofs.YtomoemgoglghlaaGreatDoor.set6, c6] at hf1 hf2; obtain ⟨WA, hWA, hf3⟩ := hf1.split; obtain ⟨WB, hWB, hf4⟩ := hf2.split; have HF1 := Lib.hid hf3; have HF2 := Lib.hid hf4; have HWA := Lib.hid hWA; have HWB := Lib.hid hWB; clear hf1 hf2 hf3 hf4 hWA hWB; obtain ⟨g0, g1, g2, g3, g4, g5, g6, g7, g8, g9, g10, g11⟩ := cells6 HX1.out; obtain ⟨v0, v1, v2⟩ := six_ne HX1.out
          refine hK.out _ _ ?_ (fun hHeld => ?_)
          · (try dsimp only); first | with_reducible exact HK.out _ hp4 | with_reducible exact HK.out _ hpc | with_reducible exact HK.out _ hpb | with_reducible exact HK.out _ hpa | go_keep
          clear hK K
          try simp only [Act.put, List.setIfInBounds_toArray, List.set_cons_zero, List.set_cons_succ, List.getElem_toArray, List.getElem_cons_zero, List.getElem_cons_succ]
          refine wpAnyH_ready (rs := [7]) (by kernel_rfl) (by simp) ?_
          refine AllReadyH.cons (by rfl) (fun K hK => ?_) ?_
          · go_simp
            refine hK.out _ _ ?_ (fun hHeld => ?_)
            · (try dsimp only); first | with_reducible exact HK.out _ hp4 | with_reducible exact HK.out _ hpc | with_reducible exact HK.out _ hpb | with_reducible exact HK.out _ hpa | go_keep
            clear hK K
            try simp only [Act.put, List.setIfInBounds_toArray, List.set_cons_zero, List.set_cons_succ, List.getElem_toArray, List.getElem_cons_zero, List.getElem_cons_succ]
            refine wpAnyH_ready (rs := [9]) (by kernel_rfl) (by simp) ?_
            refine AllReadyH.cons (by rfl) (fun K hK => ?_) ?_
            · go_simp
              refine hK.out _ _ ?_ (fun hHeld => ?_)
              · (try dsimp only); first | with_reducible exact HK.out _ hp4 | with_reducible exact HK.out _ hpc | with_reducible exact HK.out _ hpb | with_reducible exact HK.out _ hpa | go_keep
              clear hK K
              try simp only [Act.put, List.setIfInBounds_toArray, List.set_cons_zero, List.set_cons_succ, List.getElem_toArray, List.getElem_cons_zero, List.getElem_cons_succ]
              refine wpAnyH_ready (rs := [10]) (by kernel_rfl) (by simp) ?_
              refine AllReadyH.cons (by rfl) (fun K hK => ?_) ?_
              · go_simp
                refine hK.out _ _ ?_ (fun hHeld => ?_)
                · (try dsimp only); first | with_reducible exact HK.out _ hp4 | with_reducible exact HK.out _ hpc | with_reducible exact HK.out _ hpb | with_reducible exact HK.out _ hpa | go_keep
                clear hK K
                try simp only [Act.put, List.setIfInBounds_toArray, List.set_cons_zero, List.set_cons_succ, List.getElem_toArray, List.getElem_cons_zero, List.getElem_cons_succ]
                refine wpAnyH_take (i := 11) (v := ?_) (by rfl) (by kernel_rfl) (by kernel_rfl) (by kernel_rfl) (by exact fun _ _ _ h => h) (Or.inl ⟨by rfl, ?_⟩) hHeld ?_
                rotate_left 1
                · intro w' hSw
                  go_simp
                  try with_reducible rfl
                try simp only [Act.put, List.setIfInBounds_toArray, List.set_cons_zero, List.set_cons_succ, List.getElem_toArray, List.getElem_cons_zero, List.getElem_cons_succ]
                refine wpAnyH_done (by kernel_rfl) ?_ _
                refine OnlyEx.mk' ?_
                simp only [HWA.out, HWB.out]
                first
                  | (with_reducible refine ⟨_, ?_, HF1.out⟩; simp only [puts, Act.put, List.setIfInBounds_toArray, List.set_cons_zero, List.set_cons_succ]; done)
                  | (with_reducible refine ⟨_, ?_, HF2.out⟩; simp only [puts, Act.put, List.setIfInBounds_toArray, List.set_cons_zero, List.set_cons_succ]; done)
              exact AllReadyH.nil
            exact AllReadyH.nil
          exact AllReadyH.nil
        refine AllReadyH.cons (by rfl) (fun K hK => ?_) ?_
        · go_simp
          refine hK.out _ _ ?_ (fun hHeld => ?_)
          · (try dsimp only); first | with_reducible exact HK.out _ hp4 | with_reducible exact HK.out _ hpc | with_reducible exact HK.out _ hpb | with_reducible exact HK.out _ hpa | go_keep
          clear hK K
          try simp only [Act.put, List.setIfInBounds_toArray, List.set_cons_zero, List.set_cons_succ, List.getElem_toArray, List.getElem_cons_zero, List.getElem_cons_succ]
          refine wpAnyH_ready (rs := [4]) (by kernel_rfl) (by simp) ?_
          refine AllReadyH.cons (by rfl) (fun K hK => ?_) ?_
          · go_simp
            (with_reducible refine (dtold_form HTB.out HX.out HU.out HZ.out.1 HZ.out.2 ((Below.refl wb.heap.size wb).alloc (Nat.le_refl _) (.cells #[.bool false, .slice none 0 0, .slice none 0 0, .bool false, .slice none 0 0, .slice none 0 0] 70))).mono ?_); rintro e w4 ⟨s', f1, f2, f3, f4, f5, f6, t', d1, d2, d3, d4, d5, d6, rfl, H2, HG4⟩; have hp4 := H2.out.one.below; obtain ⟨r0, r1, r2, r3, r4, r5⟩ := HK.out _ hp4; obtain ⟨o0, o1, o2, o3⟩ := far1 HWL.out hp4; have HX2 := Lib.hid (Six.kept (ty := 70) (heap_alloc_new wb _) HG4.out); have HX1 := Lib.hid ((HBB.out.kept ((Below.refl _ _).alloc (Nat.le_refl _) _)).kept HG4.out); have hgh : w1.heap.size ≠ wb.heap.size := Nat.ne_of_lt (Array.getElem?_eq_some_iff.1 HBB.out).1; have hhg := Ne.symm hgh; have hf1 := (H2.out.end2 HX1.out HX2.out hgh hlt HTB.out.lt); have hf2 := (H2.out.end2 HX2.out HX1.out hhg HTB.out.lt hlt); dsimp only [Go.Proofs.YtomoemgoglghlaaGreatDoor.put6, Go.Proofs.YtomoemgoglghlaaGreatDoor.set6, c6] at hf1 hf2; obtain ⟨WA, hWA, hf3⟩ := hf1.split; obtain ⟨WB, hWB, hf4⟩ := hf2.split; have HF1 := Lib.hid hf3; have HF2 := Lib.hid hf4; have HWA := Lib.hid hWA; have HWB := Lib.hid hWB; clear hf1 hf2 hf3 hf4 hWA hWB; obtain ⟨g0, g1, g2, g3, g4, g5, g6, g7, g8, g9, g10, g11⟩ := cells6 HX1.out; obtain ⟨i0, i1, i2, i3, i4, i5, i6, i7, i8, i9, i10, i11⟩ := cells6 HX2.out
            refine hK.out _ _ ?_ (fun hHeld => ?_)
            · (try dsimp only); first | with_reducible exact HK.out _ hp4 | with_reducible exact HK.out _ hpc | with_reducible exact HK.out _ hpb | with_reducible exact HK.out _ hpa | go_keep
            clear hK K
            try simp only [Act.put, List.setIfInBounds_toArray, List.set_cons_zero, List.set_cons_succ, List.getElem_toArray, List.getElem_cons_zero, List.getElem_cons_succ]
            refine wpAnyH_ready (rs := [9]) (by kernel_rfl) (by simp) ?_
            refine AllReadyH.cons (by rfl) (fun K hK => ?_) ?_
            · go_simp
              refine hK.out _ _ ?_ (fun hHeld => ?_)
              · (try dsimp only); first | with_reducible exact HK.out _ hp4 | with_reducible exact HK.out _ hpc | with_reducible exact HK.out _ hpb | with_reducible exact HK.out _ hpa | go_keep
              clear hK K
              try simp only [Act.put, List.setIfInBounds_toArray, List.set_cons_zero, List.set_cons_succ, List.getElem_toArray, List.getElem_cons_zero, List.getElem_cons_succ]
              refine wpAnyH_ready (rs := [10]) (by kernel_rfl) (by simp) ?_
              refine AllReadyH.cons (by rfl) (fun K hK => ?_) ?_
              · go_simp
                refine hK.out _ _ ?_ (fun hHeld => ?_)
                · (try dsimp only); first | with_reducible exact HK.out _ hp4 | with_reducible exact HK.out _ hpc | with_reducible exact HK.out _ hpb | with_reducible exact HK.out _ hpa | go_keep
                clear hK K
                try simp only [Act.put, List.setIfInBounds_toArray, List.set_cons_zero, List.set_cons_succ, List.getElem_toArray, List.getElem_cons_zero, List.getElem_cons_succ]
                refine wpAnyH_take (i := 11) (v := ?_) (by rfl) (by kernel_rfl) (by kernel_rfl) (by kernel_rfl) (by exact fun _ _ _ h => h) (Or.inl ⟨by rfl, ?_⟩) hHeld ?_
                rotate_left 1
                · intro w' hSw
                  go_simp
                  try with_reducible rfl
                try simp only [Act.put, List.setIfInBounds_toArray, List.set_cons_zero, List.set_cons_succ, List.getElem_toArray, List.getElem_cons_zero, List.getElem_cons_succ]
                refine wpAnyH_done (by kernel_rfl) ?_ _
                refine OnlyEx.mk' ?_
                simp only [HWA.out, HWB.out]
                first
                  | (with_reducible refine ⟨_, ?_, HF1.out⟩; simp only [puts, Act.put, List.setIfInBounds_toArray, List.set_cons_zero, List.set_cons_succ]; done)
                  | (with_reducible refine ⟨_, ?_, HF2.out⟩; simp only [puts, Act.put, List.setIfInBounds_toArray, List.set_cons_zero, List.set_cons_succ]; done)
              exact AllReadyH.nil
            exact AllReadyH.nil
          exact AllReadyH.nil
        exact AllReadyH.nil
      refine AllReadyH.cons (by rfl) (fun K hK => ?_) ?_
      · go_simp
        refine hK.out _ _ ?_ (fun hHeld => ?_)
        · (try dsimp only); first | with_reducible exact HK.out _ hp4 | with_reducible exact HK.out _ hpc | with_reducible exact HK.out _ hpb | with_reducible exact HK.out _ hpa | go_keep
        clear hK K
        try simp only [Act.put, List.setIfInBounds_toArray, List.set_cons_zero, List.set_cons_succ, List.getElem_toArray, List.getElem_cons_zero, List.getElem_cons_succ]
        refine wpAnyH_ready (rs := [2]) (by kernel_rfl) (by simp) ?_
        refine AllReadyH.cons (by rfl) (fun K hK => ?_) ?_
        · go_simp
          (with_reducible refine HDC.out.mono ?_); rintro e wc ⟨s, z1, m1, k1, z2, m2, k2, t, y1, n1, j1, y2, n2, j2, rfl, HTC, HGC⟩; have hpc := HTC.out.below; obtain ⟨q0, q1, q2, q3, q4, q5⟩ := HK.out _ hpc; obtain ⟨u0, u1, u2, u3⟩ := far1 HWL.out hpc; have HC1 := Lib.hid (HZC.out.1.grown HGC.out hne1); have HC2 := Lib.hid (HZC.out.2.grown HGC.out hne2)
          refine hK.out _ _ ?_ (fun hHeld => ?_)
          · (try dsimp only); first | with_reducible exact HK.out _ hp4 | with_reducible exact HK.out _ hpc | with_reducible exact HK.out _ hpb | with_reducible exact HK.out _ hpa | go_keep
          clear hK K
          try simp only [Act.put, List.setIfInBounds_toArray, List.set_cons_zero, List.set_cons_succ, List.getElem_toArray, List.getElem_cons_zero, List.getElem_cons_succ]
          refine wpAnyH_ready (rs := [4]) (by kernel_rfl) (by simp) ?_
          refine AllReadyH.cons (by rfl) (fun K hK => ?_) ?_
          · go_simp
            (with_reducible refine (dtold_form HTC.out HX.out HU.out HZ.out.1 HZ.out.2 (Below.refl _ _)).mono ?_); rintro e w4 ⟨s', f1, f2, f3, f4, f5, f6, t', d1, d2, d3, d4, d5, d6, rfl, H2, HG4⟩; have hp4 := H2.out.one.below; obtain ⟨r0, r1, r2, r3, r4, r5⟩ := HK.out _ hp4; obtain ⟨o0, o1, o2, o3⟩ := far1 HWL.out hp4; have HX1 := Lib.hid (HC1.out.kept HG4.out); have HX2 := Lib.hid (HC2.out.kept HG4.out); have hf1 := (H2.out.end2 HX1.out HX2.out HE1.out hlt hgt2); have hf2 := (H2.out.end2 HX2.out HX1.out (Ne.symm HE1.out) hgt2 hlt); dsimp only [Go.Proofs.YtomoemgoglghlaaGreatDoor.put6, Go.Proofs.YtomoemgoglghlaaGreatDoor.set6, c6] at hf1 hf2; obtain ⟨WA, hWA, hf3⟩ := hf1.split; obtain ⟨WB, hWB, hf4⟩ := hf2.split; have HF1 := Lib.hid hf3; have HF2 := Lib.hid hf4; have HWA := Lib.hid hWA; have HWB := Lib.hid hWB; clear hf1 hf2 hf3 hf4 hWA hWB; obtain ⟨g0, g1, g2, g3, g4, g5, g6, g7, g8, g9, g10, g11⟩ := cells6 HX1.out; obtain ⟨i0, i1, i2, i3, i4, i5, i6, i7, i8, i9, i10, i11⟩ := cells6 HX2.out
            refine hK.out _ _ ?_ (fun hHeld => ?_)
            · (try dsimp only); first | with_reducible exact HK.out _ hp4 | with_reducible exact HK.out _ hpc | with_reducible exact HK.out _ hpb | with_reducible exact HK.out _ hpa | go_keep
            clear hK K
            try simp only [Act.put, List.setIfInBounds_toArray, List.set_cons_zero, List.set_cons_succ, List.getElem_toArray, List.getElem_cons_zero, List.getElem_cons_succ]
            refine wpAnyH_ready (rs := [9]) (by kernel_rfl) (by simp) ?_
            refine AllReadyH.cons (by rfl) (fun K hK => ?_) ?_
            · go_simp
              refine hK.out _ _ ?_ (fun hHeld => ?_)
              · (try dsimp only); first | with_reducible exact HK.out _ hp4 | with_reducible exact HK.out _ hpc | with_reducible exact HK.out _ hpb | with_reducible exact HK.out _ hpa | go_keep
              clear hK K
              try simp only [Act.put, List.setIfInBounds_toArray, List.set_cons_zero, List.set_cons_succ, List.getElem_toArray, List.getElem_cons_zero, List.getElem_cons_succ]
              refine wpAnyH_ready (rs := [10]) (by kernel_rfl) (by simp) ?_
              refine AllReadyH.cons (by rfl) (fun K hK => ?_) ?_
              · go_simp
                refine hK.out _ _ ?_ (fun hHeld => ?_)
                · (try dsimp only); first | with_reducible exact HK.out _ hp4 | with_reducible exact HK.out _ hpc | with_reducible exact HK.out _ hpb | with_reducible exact HK.out _ hpa | go_keep
                clear hK K
                try simp only [Act.put, List.setIfInBounds_toArray, List.set_cons_zero, List.set_cons_succ, List.getElem_toArray, List.getElem_cons_zero, List.getElem_cons_succ]
                refine wpAnyH_take (i := 11) (v := ?_) (by rfl) (by kernel_rfl) (by kernel_rfl) (by kernel_rfl) (by exact fun _ _ _ h => h) (Or.inl ⟨by rfl, ?_⟩) hHeld ?_
                rotate_left 1
                · intro w' hSw
                  go_simp
                  try with_reducible rfl
                try simp only [Act.put, List.setIfInBounds_toArray, List.set_cons_zero, List.set_cons_succ, List.getElem_toArray, List.getElem_cons_zero, List.getElem_cons_succ]
                refine wpAnyH_done (by kernel_rfl) ?_ _
                refine OnlyEx.mk' ?_
                simp only [HWA.out, HWB.out]
                first
                  | (with_reducible refine ⟨_, ?_, HF1.out⟩; simp only [puts, Act.put, List.setIfInBounds_toArray, List.set_cons_zero, List.set_cons_succ]; done)
                  | (with_reducible refine ⟨_, ?_, HF2.out⟩; simp only [puts, Act.put, List.setIfInBounds_toArray, List.set_cons_zero, List.set_cons_succ]; done)
              exact AllReadyH.nil
            exact AllReadyH.nil
          exact AllReadyH.nil
        exact AllReadyH.nil
      exact AllReadyH.nil
    exact AllReadyH.nil
  case rest =>
    rintro ⟨g, k, ⟨⟨s, ⟨x1, n1, k1⟩, ⟨x2, n2, k2⟩⟩, ⟨s', ⟨x3, n3, k3⟩, ⟨x4, n4, k4⟩⟩⟩, ⟨⟨t, ⟨y1, m1, j1⟩, ⟨y2, m2, j2⟩⟩, ⟨t', ⟨y3, m3, j3⟩, ⟨y4, m4, j4⟩⟩⟩⟩ w5 hF
    obtain ⟨hx, hy, hT⟩ := hF
    unfold Lies6 c6 at hx hy
    dsimp only at hx hy hT
    have HBL := Lib.hid (HB.out.trans (hT.one.below.mono HB.out.size))
    have HKX : Hid (∀ W, Below w5.heap.size w5 W → _) := Lib.hid fun W h => cells6 (stay hx h)
    have HKY : Hid (∀ W, Below w5.heap.size w5 W → _) := Lib.hid fun W h => cells6 (stay hy h)
    obtain ⟨g0, g1, g2, g3, g4, g5, _⟩ := HKX.out w5 (Below.refl _ _)
    obtain ⟨i0, i1, i2, i3, i4, i5, _⟩ := HKY.out w5 (Below.refl _ _)
    have HFA : Hid (∀ W, Below w5.heap.size w5 W → _) := Lib.hid fun W h => fitsQ hT.vy HZ.out.1 HM.out W h HOA.out
    have HFB : Hid (∀ W, Below w5.heap.size w5 W → _) := Lib.hid fun W h => fitsQ hT.uy HZ.out.2 HM.out W h HOB.out
    have HT := Lib.hid hT
    have HOV := Lib.hid (fun W (h : Below w5.heap.size w5 W) => over_any W W0.heap.size m (oA || oB) (hT.one.bench.kept h))
    clear hx hy hT HDA HDB HDC HZB HZC HK HX HU p0 p1 p2 p3 p4 p5 hlt hne1 hne2 hgt2 HE1 HB HM HOA HOB
    simp only [puts, Act.put, List.setIfInBounds_toArray, List.set_cons_zero, List.set_cons_succ]
    have HSZ : Hid (∀ W, Below w5.heap.size w5 W → (oA || oB) = true → Calls Tryz.prog 69 #[.agg #[.bool s, .slice x1 n1 k1, .slice x2 n2 k2, .bool s', .slice x3 n3 k3, .slice x4 n4 k4], .agg #[.bool false, .slice none 0 0, .slice none 0 0, .bool false, .slice none 0 0, .slice none 0 0]] W (GotV w5 (.bool true))) := Lib.hid fun W h ho => by
      have h1 := HT.out.one.vx
      have h2 := HT.out.one.ux
      rw [if_pos ho] at h1 h2
      exact SameDD (h1.kept h) (h2.kept h) (vq_z W) (vq_z W) (by rw [szQ_zero]; omega) (by rw [szQ_zero]; omega) (by rw [szQ_zero]; omega) (by rw [szQ_zero]; omega) h rfl rfl
    have HSY : Hid (∀ W, Below w5.heap.size w5 W → (oA || oB) = false → Calls Tryz.prog 69 #[.agg #[.bool s, .slice x1 n1 k1, .slice x2 n2 k2, .bool s', .slice x3 n3 k3, .slice x4 n4 k4], .agg #[.bool t, .slice y1 m1 j1, .slice y2 m2 j2, .bool t', .slice y3 m3 j3, .slice y4 m4 j4]] W (GotV w5 (.bool true))) := Lib.hid fun W h ho => by
      have h1 := HT.out.one.vx
      have h2 := HT.out.one.ux
      rw [if_neg (by rw [ho]; decide)] at h1 h2
      exact SameDD (h1.kept h) (h2.kept h) (HT.out.vy.kept h) (HT.out.uy.kept h) HZ.out.1 HZ.out.2 HZ.out.1 HZ.out.2 h rfl rfl
    clear HT HZ
    cases oA
    case true =>
      go_wp2_with fail
      refine (HFA.out _ (Below.refl _ _)).mono ?_
      rintro e w6 ⟨rfl, G6⟩
      obtain ⟨g0, g1, g2, g3, g4, g5, _⟩ := HKX.out w6 G6.out
      have HV6 := Lib.hid (HOV.out w6 G6.out)
      have HS6 := Lib.hid (HSZ.out w6 G6.out (by simp))
      clear HFA HFB HKX HKY HOV HSZ HSY
      go_wp2_with fail
      refine HV6.out.mono ?_
      rintro e w7 ⟨rfl, rfl⟩
      go_wp2_with fail
      refine HS6.out.mono ?_
      rintro e w8 ⟨rfl, G8⟩
      have HE := Lib.hid (HBL.out.trans (G8.out.mono HBL.out.size))
      clear HS6 G8 G6
      go_wp2_with fail
      go_ret
      exact ⟨rfl, HE.out⟩
    case false =>
    cases oB
    case true =>
      go_wp2_with fail
      refine (HFA.out _ (Below.refl _ _)).mono ?_
      rintro e w6 ⟨rfl, G6⟩
      obtain ⟨i0, i1, i2, i3, i4, i5, _⟩ := HKY.out w6 G6.out
      have HFB6 := Lib.hid (HFB.out w6 G6.out)
      clear HFA HFB
      go_wp2_with fail
      refine HFB6.out.mono ?_
      rintro e w7 ⟨rfl, G7⟩
      obtain ⟨g0, g1, g2, g3, g4, g5, _⟩ := HKX.out w7 G7.out
      have HV6 := Lib.hid (HOV.out w7 G7.out)
      have HS6 := Lib.hid (HSZ.out w7 G7.out (by simp))
      clear HFB6 HKX HKY HOV HSZ HSY G6
      go_wp2_with fail
      refine HV6.out.mono ?_
      rintro e w8 ⟨rfl, rfl⟩
      go_wp2_with fail
      refine HS6.out.mono ?_
      rintro e w9 ⟨rfl, G8⟩
      have HE := Lib.hid (HBL.out.trans (G8.out.mono HBL.out.size))
      clear HS6 G8 G7
      go_wp2_with fail
      go_ret
      exact ⟨rfl, HE.out⟩
    case false =>
      go_wp2_with fail
      refine (HFA.out _ (Below.refl _ _)).mono ?_
      rintro e w6 ⟨rfl, G6⟩
      obtain ⟨i0, i1, i2, i3, i4, i5, _⟩ := HKY.out w6 G6.out
      have HFB6 := Lib.hid (HFB.out w6 G6.out)
      clear HFA HFB
      go_wp2_with fail
      refine HFB6.out.mono ?_
      rintro e w7 ⟨rfl, G7⟩
      obtain ⟨g0, g1, g2, g3, g4, g5, _⟩ := HKX.out w7 G7.out
      obtain ⟨i0, i1, i2, i3, i4, i5, _⟩ := HKY.out w7 G7.out
      have HV6 := Lib.hid (HOV.out w7 G7.out)
      have HS6 := Lib.hid (HSY.out w7 G7.out rfl)
      clear HFB6 HKX HKY HOV HSZ HSY G6
      go_wp2_with fail
      refine HV6.out.mono ?_
      rintro e w8 ⟨rfl, rfl⟩
      go_wp2_with fail
      refine HS6.out.mono ?_
      rintro e w9 ⟨rfl, G8⟩
      have HE := Lib.hid (HBL.out.trans (G8.out.mono HBL.out.size))
      clear HS6 G8 G7
      go_wp2_with fail
      go_ret
      exact ⟨rfl, HE.out⟩
end Go.Proofs.YtomoemgoglghlaaGreatDoor
