/- By program out of: SmSmallD, SmHands, DelOf, SmWalkB. -/
import Derived.Test.YtknackfmepkiaaaGreatDoorMpepgbn
import Derived.Test.YtknackfmepkiaaaGreatDoorMknfkeh
/-
  The document's Small.
-/
set_option linter.unusedVariables false
set_option linter.unusedSimpArgs false
namespace Go.Proofs.YtknackfmepkiaaaGreatDoor
open Go.RowKit Rep


theorem meet_cmp {p : PQ} {cu cd : Int} (h1 : cmpQ (p.e - p.a) 0 = cu) (h2 : cmpQ (p.b - p.f) 0 = cd) : meetQ p = (decide (cu = 1) && decide (cd = 1)) := by
  subst h1 h2
  unfold meetQ
  have e1 : (p.a < p.e) = (cmpQ (p.e - p.a) 0 = 1) := propext (Iff.trans (by constructor <;> intro h <;> grind) cmp_gt.symm)
  have e2 : (p.f < p.b) = (cmpQ (p.b - p.f) 0 = 1) := propext (Iff.trans (by constructor <;> intro h <;> grind) cmp_gt.symm)
  simp only [e1, e2]

set_option maxRecDepth 100000 in
set_option maxHeartbeats 16000000 in
theorem SmallDD {W5 w : World} {g c : Nat} {vs0 : List R4} {ps : List PQ} (hl : DL w g vs0 ps) (hok : ∀ p ∈ ps, OkP p) (hb5 : Below W5.heap.size W5 w) (hn : ps.length ≤ 1000) (hg : g < w.heap.size) :
    Calls Tryz.prog 13 #[.slice (some ⟨g, 0, none⟩) ps.length c] w (GotD W5 (smallQ ps)) := by
  obtain ⟨W0, hW0⟩ : ∃ W0, W0 = w.alloc (.cells #[.bool false, .slice none 0 0, .slice none 0 0] 38) := ⟨_, rfl⟩
  have hB0 : Below w.heap.size w W0 := by rw [hW0]; exact (Below.refl _ _).alloc (Nat.le_refl _) _
  have hbk : BlankD W0 w.heap.size := by rw [hW0]; exact heap_alloc_new w _
  have HLT := Lib.hid (list_letters (hl.kept hB0))
  have HZ : Hid (∀ k, szQ (smallQ (ps.take k)) ≤ 34) := Lib.hid fun k => smallQ_take_sz k hok
  have HNX : Hid (∀ k (hk : k < ps.length), smallQ (ps.take (k + 1)) = stepQ (smallQ (ps.take k)) ps[k] ∧ OkP ps[k]) := Lib.hid fun k hk => ⟨smallQ_next hk, hok _ (List.getElem_mem hk)⟩
  have HFIN := Lib.hid (fun W (h : Below W0.heap.size W0 W) s z1 m1 k1 z2 m2 k2 => @finD _ W5 w W0 W (smallQ ps) s z1 z2 m1 k1 m2 k2 hb5 hB0 (Nat.le_refl _) hbk h)
  have HBK := Lib.hid (fun W (h : Below W0.heap.size W0 W) => (hbk.kept h).cells)
  have HGL0 : Hid (g < W0.heap.size) := Lib.hid (by have := hB0.size; omega)
  have HW0 := Lib.hid hW0
  clear hW0 hB0 hbk hl hok hb5 hg
  go_enter Tryz.func13, Tryz.ntmps13
  go_wp2_with fail
  rw [← HW0.out]
  refine (int_one W0).mono ?_
  rintro e w1 ⟨s1, a1, l1, c1, b1, k1, e1, rfl, G1, V1⟩
  have hst : DstAt W0 w1.heap.size (smallQ (ps.take 0)) (s1, (a1, l1, c1), (b1, k1, e1)) (w1.alloc (.cells #[.bool s1, .slice a1 l1 c1, .slice b1 k1 e1] 38)) := ⟨G1.out.alloc G1.out.size _, LiesD.new (s1, (a1, l1, c1), (b1, k1, e1)) w1, V1.out.alloc _⟩
  have HG0 : Hid (W0.heap.size ≤ w1.heap.size) := Lib.hid G1.out.size
  have HST0 := Lib.hid hst
  clear hst G1 V1
  go_wp2_with fail
  generalize w1.heap.size = r0 at *
  go_loopw [4] (fun i wr => ∃ k : Nat, k ≤ ps.length ∧ i = .int .i64 k ∧ ∃ v : RawR, Hid (DstAt W0 r0 (smallQ (ps.take k)) v wr)) (fun i _ => ps.length - (intOf i).toNat)
  case atStart => exact ⟨0, Nat.zero_le _, rfl, _, HST0⟩
  case round =>
    obtain ⟨k, hk, rfl, ⟨ls, ⟨la, ll, lc⟩, ⟨lb, lk, le⟩⟩, HST⟩ := hrel
    by_cases hlt : k < ps.length
    · obtain ⟨xs, xa, xl, xc, xb, xk, xe, us, ua, ul, uc, ub, uk, ue, ys, ya, yl, yc, yb, yk, ye, vs, va, vl, vc, vb, vk, ve, hcl, hvq⟩ := HLT.out k hlt
      obtain ⟨hnk, hok⟩ := HNX.out k hlt
      have HNK := Lib.hid hnk
      have HZK := Lib.hid (HZ.out k)
      generalize ps[k] = p at hvq hok HNK hnk
      clear hnk
      generalize smallQ (ps.take k) = q at HST HNK HZK
      generalize hqs : smallQ (ps.take (k + 1)) = q' at HNK
      have HQS := Lib.hid hqs
      have HOK := Lib.hid hok
      have HGLwr : Hid (g < wr.heap.size) := Lib.hid (by have := HGL0.out; have := HST.out.below.size; omega)
      have HKwr : Hid (∀ W, Below wr.heap.size wr W → (W.cell? ⟨g, k * 12, none⟩ = some (.bool xs) ∧ W.cell? ⟨g, k * 12 + 1, none⟩ = some (.slice xa xl xc) ∧ W.cell? ⟨g, k * 12 + 2, none⟩ = some (.slice xb xk xe) ∧ W.cell? ⟨g, k * 12 + 3, none⟩ = some (.bool us) ∧ W.cell? ⟨g, k * 12 + 4, none⟩ = some (.slice ua ul uc) ∧ W.cell? ⟨g, k * 12 + 5, none⟩ = some (.slice ub uk ue) ∧ W.cell? ⟨g, k * 12 + 6, none⟩ = some (.bool ys) ∧ W.cell? ⟨g, k * 12 + 7, none⟩ = some (.slice ya yl yc) ∧ W.cell? ⟨g, k * 12 + 8, none⟩ = some (.slice yb yk ye) ∧ W.cell? ⟨g, k * 12 + 9, none⟩ = some (.bool vs) ∧ W.cell? ⟨g, k * 12 + 10, none⟩ = some (.slice va vl vc) ∧ W.cell? ⟨g, k * 12 + 11, none⟩ = some (.slice vb vk ve))) := Lib.hid fun W h => hcl W (HST.out.below.trans (h.mono HST.out.below.size))
      have HV := Lib.hid (fun W (h : Below wr.heap.size wr W) => hvq W (HST.out.below.trans (h.mono HST.out.below.size)))
      have HRDwr := Lib.hid (below_drew wr)
      have HC1 : Hid (∀ W, Below wr.heap.size wr W → Calls Tryz.prog 44 #[.agg #[.bool xs, .slice xa xl xc, .slice xb xk xe]] W (GotD W (-p.a))) := Lib.hid fun W h => got_neg (HV.out W h).1 (Below.refl _ _)
      have HC2 : Hid (∀ W fs fa fl fc fb fk fe, Below wr.heap.size wr W → VD (-p.a) (fs, (fa, fl, fc), (fb, fk, fe)) W → Calls Tryz.prog 43 #[.agg #[.bool ys, .slice ya yl yc, .slice yb yk ye], .agg #[.bool fs, .slice fa fl fc, .slice fb fk fe]] W (GotD W (p.e + -p.a))) := Lib.hid fun W fs fa fl fc fb fk fe h hz => by
        obtain ⟨z1, z2, z3, z4⟩ := HOK.out
        exact got_add (HV.out W h).2.2.1 hz (by omega) (by rw [szQ_neg]; omega) (Below.refl _ _)
      have hki : (k : Int) < (ps.length : Int) := by omega
      have hk0 : (0 : Int) ≤ (k : Int) := by omega
      obtain ⟨d0, d1, d2, d3, d4, d5, d6, d7, d8, d9, d10, d11⟩ := HKwr.out wr (Below.refl _ _)
      clear hcl hvq hok hqs
      go_wp2_with fail
      refine wp_region_ex (ι := Nat × RawR × RawR) (fun i => [(16, .slice (some ⟨g, 0, none⟩) ps.length c), (17, .int .i64 (k : Int)), (18, .pointer (some ⟨g, k * 12, none⟩)), (19, .pointer (some ⟨g, k * 12 + 6, none⟩)), (20, .pointer (some ⟨g, k * 12 + 6, none⟩)), (21, .agg #[.bool ys, .slice ya yl yc, .slice yb yk ye]), (22, .slice (some ⟨g, 0, none⟩) ps.length c), (23, .int .i64 (k : Int)), (24, .pointer (some ⟨g, k * 12, none⟩)), (25, .pointer (some ⟨g, k * 12, none⟩)), (26, .pointer (some ⟨g, k * 12, none⟩)), (27, .agg #[.bool xs, .slice xa xl xc, .slice xb xk xe]), (28, .agg #[.bool i.2.1.1, .slice i.2.1.2.1.1 i.2.1.2.1.2.1 i.2.1.2.1.2.2, .slice i.2.1.2.2.1 i.2.1.2.2.2.1 i.2.1.2.2.2.2]), (29, .agg #[.bool i.2.2.1, .slice i.2.2.2.1.1 i.2.2.2.1.2.1 i.2.2.2.1.2.2, .slice i.2.2.2.2.1 i.2.2.2.2.2.1 i.2.2.2.2.2.2]), (5, .pointer (some ⟨i.1, 0, none⟩))]) (DtAt wr (p.e + -p.a)) ?region ?rest
      case region =>
        refine wp_region_held_drew (S := (fun w' => w'.cell? ⟨g, k * 12, none⟩ = some (.bool xs) ∧ w'.cell? ⟨g, k * 12 + 1, none⟩ = some (.slice xa xl xc) ∧ w'.cell? ⟨g, k * 12 + 2, none⟩ = some (.slice xb xk xe) ∧ w'.cell? ⟨g, k * 12 + 3, none⟩ = some (.bool us) ∧ w'.cell? ⟨g, k * 12 + 4, none⟩ = some (.slice ua ul uc) ∧ w'.cell? ⟨g, k * 12 + 5, none⟩ = some (.slice ub uk ue) ∧ w'.cell? ⟨g, k * 12 + 6, none⟩ = some (.bool ys) ∧ w'.cell? ⟨g, k * 12 + 7, none⟩ = some (.slice ya yl yc) ∧ w'.cell? ⟨g, k * 12 + 8, none⟩ = some (.slice yb yk ye) ∧ w'.cell? ⟨g, k * 12 + 9, none⟩ = some (.bool vs) ∧ w'.cell? ⟨g, k * 12 + 10, none⟩ = some (.slice va vl vc) ∧ w'.cell? ⟨g, k * 12 + 11, none⟩ = some (.slice vb vk ve))) (by kernel_rfl) ?_ (fun hHeld => ?_)
        · exact HKwr.out _ HRDwr.out
        refine wpAnyH_take (i := 0) (v := ?_) (by rfl) (by kernel_rfl) (by kernel_rfl) (by kernel_rfl) (by exact fun _ _ _ h => h) (Or.inl ⟨by rfl, ?_⟩) hHeld ?_
        rotate_left 1
        · intro w' hSw
          go_simp
          try with_reducible rfl
        try simp only [Act.put, List.setIfInBounds_toArray, List.set_cons_zero, List.set_cons_succ, List.getElem_toArray, List.getElem_cons_zero, List.getElem_cons_succ]
        refine wpAnyH_take (i := 1) (v := ?_) (by rfl) (by kernel_rfl) (by kernel_rfl) (by kernel_rfl) (by exact fun _ _ _ h => h) (Or.inl ⟨by rfl, ?_⟩) hHeld ?_
        rotate_left 1
        · intro w' hSw
          go_simp
          try with_reducible rfl
        try simp only [Act.put, List.setIfInBounds_toArray, List.set_cons_zero, List.set_cons_succ, List.getElem_toArray, List.getElem_cons_zero, List.getElem_cons_succ]
        refine wpAnyH_take (i := 2) (v := ?_) (by rfl) (by kernel_rfl) (by kernel_rfl) (by kernel_rfl) (by exact fun _ _ _ h => h) (Or.inl ⟨by rfl, ?_⟩) hHeld ?_
        rotate_left 1
        · intro w' hSw
          go_simp
          try with_reducible rfl
        try simp only [Act.put, List.setIfInBounds_toArray, List.set_cons_zero, List.set_cons_succ, List.getElem_toArray, List.getElem_cons_zero, List.getElem_cons_succ]
        refine wpAnyH_take (i := 3) (v := ?_) (by rfl) (by kernel_rfl) (by kernel_rfl) (by kernel_rfl) (by exact fun _ _ _ h => h) (Or.inl ⟨by rfl, ?_⟩) hHeld ?_
        rotate_left 1
        · intro w' hSw
          go_simp
          try with_reducible rfl
        try simp only [Act.put, List.setIfInBounds_toArray, List.set_cons_zero, List.set_cons_succ, List.getElem_toArray, List.getElem_cons_zero, List.getElem_cons_succ]
        refine wpAnyH_take (i := 4) (v := ?_) (by rfl) (by kernel_rfl) (by kernel_rfl) (by kernel_rfl) (by exact fun _ _ _ h => h) (Or.inl ⟨by rfl, ?_⟩) hHeld ?_
        rotate_left 1
        · intro w' hSw
          go_simp
          try with_reducible rfl
        try simp only [Act.put, List.setIfInBounds_toArray, List.set_cons_zero, List.set_cons_succ, List.getElem_toArray, List.getElem_cons_zero, List.getElem_cons_succ]
        refine wpAnyH_take (i := 5) (v := ?_) (by rfl) (by kernel_rfl) (by kernel_rfl) (by kernel_rfl) (by exact fun _ _ _ h => h) (Or.inl ⟨by rfl, ?_⟩) hHeld ?_
        rotate_left 1
        · intro w' hSw
          go_simp
          try with_reducible rfl
        try simp only [Act.put, List.setIfInBounds_toArray, List.set_cons_zero, List.set_cons_succ, List.getElem_toArray, List.getElem_cons_zero, List.getElem_cons_succ]
        refine wpAnyH_take (i := 6) (v := ?_) (by rfl) (by kernel_rfl) (by kernel_rfl) (by kernel_rfl) (by exact fun _ _ _ h => h) (Or.inl ⟨by rfl, ?_⟩) hHeld ?_
        rotate_left 1
        · intro w' hSw
          go_simp
          try with_reducible rfl
        try simp only [Act.put, List.setIfInBounds_toArray, List.set_cons_zero, List.set_cons_succ, List.getElem_toArray, List.getElem_cons_zero, List.getElem_cons_succ]
        refine wpAnyH_take (i := 7) (v := ?_) (by rfl) (by kernel_rfl) (by kernel_rfl) (by kernel_rfl) (by exact fun _ _ _ h => h) (Or.inl ⟨by rfl, ?_⟩) hHeld ?_
        rotate_left 1
        · intro w' hSw
          go_simp
          try with_reducible rfl
        try simp only [Act.put, List.setIfInBounds_toArray, List.set_cons_zero, List.set_cons_succ, List.getElem_toArray, List.getElem_cons_zero, List.getElem_cons_succ]
        refine wpAnyH_take (i := 8) (v := ?_) (by rfl) (by kernel_rfl) (by kernel_rfl) (by kernel_rfl) (by exact fun _ _ _ h => h) (Or.inl ⟨by rfl, ?_⟩) hHeld ?_
        rotate_left 1
        · intro w' hSw
          go_simp
          try with_reducible rfl
        try simp only [Act.put, List.setIfInBounds_toArray, List.set_cons_zero, List.set_cons_succ, List.getElem_toArray, List.getElem_cons_zero, List.getElem_cons_succ]
        refine wpAnyH_take (i := 9) (v := ?_) (by rfl) (by kernel_rfl) (by kernel_rfl) (by kernel_rfl) (by exact fun _ _ _ h => h) (Or.inl ⟨by rfl, ?_⟩) hHeld ?_
        rotate_left 1
        · intro w' hSw
          go_simp
          try with_reducible rfl
        try simp only [Act.put, List.setIfInBounds_toArray, List.set_cons_zero, List.set_cons_succ, List.getElem_toArray, List.getElem_cons_zero, List.getElem_cons_succ]
        refine wpAnyH_take (i := 10) (v := ?_) (by rfl) (by kernel_rfl) (by kernel_rfl) (by kernel_rfl) (by exact fun _ _ _ h => h) (Or.inl ⟨by rfl, ?_⟩) hHeld ?_
        rotate_left 1
        · intro w' hSw
          go_simp
          try with_reducible rfl
        try simp only [Act.put, List.setIfInBounds_toArray, List.set_cons_zero, List.set_cons_succ, List.getElem_toArray, List.getElem_cons_zero, List.getElem_cons_succ]
        refine wpAnyH_take (i := 11) (v := ?_) (by rfl) (by kernel_rfl) (by kernel_rfl) (by kernel_rfl) (by exact fun _ _ _ h => h) (Or.inl ⟨by rfl, ?_⟩) hHeld ?_
        rotate_left 1
        · intro w' hSw
          go_simp
          try with_reducible rfl
        try simp only [Act.put, List.setIfInBounds_toArray, List.set_cons_zero, List.set_cons_succ, List.getElem_toArray, List.getElem_cons_zero, List.getElem_cons_succ]
        refine wpAnyH_ready (rs := [12, 14]) (by kernel_rfl) (by simp) ?_
        refine AllReadyH.cons (by rfl) (fun K hK => ?_) ?_
        · go_simp
          with_reducible refine (HC1.out _ HRDwr.out).mono ?_
          rintro e w101 ⟨f1s, f1a, f1l, f1c, f1b, f1k, f1e, rfl, HS1, V1⟩
          have HR1 := Lib.hid (HRDwr.out.trans (HS1.out.mono HRDwr.out.size))
          clear hHeld
          refine hK.out _ _ ?_ (fun hHeld => ?_)
          · exact HKwr.out _ HR1.out
          clear hK K
          try simp only [Act.put, List.setIfInBounds_toArray, List.set_cons_zero, List.set_cons_succ, List.getElem_toArray, List.getElem_cons_zero, List.getElem_cons_succ]
          refine wpAnyH_ready (rs := [13, 14]) (by kernel_rfl) (by simp) ?_
          refine AllReadyH.cons (by rfl) (fun K hK => ?_) ?_
          · go_simp
            with_reducible refine (HC2.out _ _ _ _ _ _ _ _ HR1.out V1.out).mono ?_
            rintro e w102 ⟨h2s, h2a, h2l, h2c, h2b, h2k, h2e, rfl, HS2, V2⟩
            have HR2 := Lib.hid (HR1.out.trans (HS2.out.mono HR1.out.size))
            have V2_0 := Lib.hid (V1.out.kept HS2.out)
            clear hHeld
            refine hK.out _ _ ?_ (fun hHeld => ?_)
            · exact HKwr.out _ HR2.out
            clear hK K
            try simp only [Act.put, List.setIfInBounds_toArray, List.set_cons_zero, List.set_cons_succ, List.getElem_toArray, List.getElem_cons_zero, List.getElem_cons_succ]
            refine wpAnyH_ready (rs := [14]) (by kernel_rfl) (by simp) ?_
            refine AllReadyH.cons (by rfl) (fun K hK => ?_) ?_
            · go_simp
              refine hK.out _ _ ?_ (fun hHeld => ?_)
              · exact HKwr.out _ (HR2.out.alloc HR2.out.size _)
              clear hK K
              try simp only [Act.put, List.setIfInBounds_toArray, List.set_cons_zero, List.set_cons_succ, List.getElem_toArray, List.getElem_cons_zero, List.getElem_cons_succ]
              have hf := DtAt.endA (x := (f1s, (f1a, f1l, f1c), (f1b, f1k, f1e))) (z := (h2s, (h2a, h2l, h2c), (h2b, h2k, h2e))) HR2.out V2.out
              obtain ⟨d0, d1, d2, d3, d4, d5, d6, d7, d8, d9, d10, d11⟩ := HKwr.out _ HR2.out
              have hgm : g ≠ w102.heap.size := by have := HGLwr.out; have := HR2.out.size; omega
              try dsimp only [Go.Proofs.YtknackfmepkiaaaGreatDoor.set3] at hf
              have HF := Lib.hid hf
              clear hf
              refine wpAnyH_ready (rs := [15]) (by kernel_rfl) (by simp) ?_
              refine AllReadyH.cons (by rfl) (fun K hK => ?_) AllReadyH.nil
              go_simp
              refine hK.out _ _ ?_ (fun hHeld => ?_)
              · exact HKwr.out _ HF.out.below
              clear hK K
              try simp only [Act.put, List.setIfInBounds_toArray, List.set_cons_zero, List.set_cons_succ, List.getElem_toArray, List.getElem_cons_zero, List.getElem_cons_succ]
              refine wpAnyH_done (by kernel_rfl) ?_ _
              refine OnlyEx.mk' ?_
              with_reducible refine ⟨_, ?_, HF.out⟩
              simp only [puts, Act.put, List.setIfInBounds_toArray, List.set_cons_zero, List.set_cons_succ]
            exact AllReadyH.nil
          refine AllReadyH.cons (by rfl) (fun K hK => ?_) ?_
          · go_simp
            have HR4 := Lib.hid (HR1.out.alloc HR1.out.size (.cells #[.bool false, .slice none 0 0, .slice none 0 0] 38))
            have V4_0 := Lib.hid (V1.out.alloc (.cells #[.bool false, .slice none 0 0, .slice none 0 0] 38))
            have B4 : Hid (BlankD (w101.alloc (.cells #[.bool false, .slice none 0 0, .slice none 0 0] 38)) (w101.heap.size)) := Lib.hid (heap_alloc_new _ _)
            refine hK.out _ _ ?_ (fun hHeld => ?_)
            · exact HKwr.out _ HR4.out
            clear hK K
            try simp only [Act.put, List.setIfInBounds_toArray, List.set_cons_zero, List.set_cons_succ, List.getElem_toArray, List.getElem_cons_zero, List.getElem_cons_succ]
            refine wpAnyH_ready (rs := [13]) (by kernel_rfl) (by simp) ?_
            refine AllReadyH.cons (by rfl) (fun K hK => ?_) ?_
            · go_simp
              with_reducible refine (HC2.out _ _ _ _ _ _ _ _ HR4.out V4_0.out).mono ?_
              rintro e w105 ⟨h5s, h5a, h5l, h5c, h5b, h5k, h5e, rfl, HS5, V5⟩
              have HR5 := Lib.hid (HR4.out.trans (HS5.out.mono HR4.out.size))
              have V5_0 := Lib.hid (V4_0.out.kept HS5.out)
              have B5_0 := Lib.hid (B4.out.kept HS5.out)
              clear hHeld
              refine hK.out _ _ ?_ (fun hHeld => ?_)
              · exact HKwr.out _ HR5.out
              clear hK K
              try simp only [Act.put, List.setIfInBounds_toArray, List.set_cons_zero, List.set_cons_succ, List.getElem_toArray, List.getElem_cons_zero, List.getElem_cons_succ]
              have hf := DtAt.endB (x := (f1s, (f1a, f1l, f1c), (f1b, f1k, f1e))) (z := (h5s, (h5a, h5l, h5c), (h5b, h5k, h5e))) HR5.out V5.out B5_0.out (by have := HGLwr.out; have := HR1.out.size; omega)
              obtain ⟨m0, m1, m2, n0, n1, n2⟩ := B5_0.out.cells
              obtain ⟨d0, d1, d2, d3, d4, d5, d6, d7, d8, d9, d10, d11⟩ := HKwr.out _ HR5.out
              have hgm : g ≠ w101.heap.size := by have := HGLwr.out; have := HR1.out.size; omega
              try dsimp only [Go.Proofs.YtknackfmepkiaaaGreatDoor.set3] at hf
              have HF := Lib.hid hf
              clear hf
              refine wpAnyH_ready (rs := [15]) (by kernel_rfl) (by simp) ?_
              refine AllReadyH.cons (by rfl) (fun K hK => ?_) AllReadyH.nil
              go_simp
              refine hK.out _ _ ?_ (fun hHeld => ?_)
              · exact HKwr.out _ HF.out.below
              clear hK K
              try simp only [Act.put, List.setIfInBounds_toArray, List.set_cons_zero, List.set_cons_succ, List.getElem_toArray, List.getElem_cons_zero, List.getElem_cons_succ]
              refine wpAnyH_done (by kernel_rfl) ?_ _
              refine OnlyEx.mk' ?_
              with_reducible refine ⟨_, ?_, HF.out⟩
              simp only [puts, Act.put, List.setIfInBounds_toArray, List.set_cons_zero, List.set_cons_succ]
            exact AllReadyH.nil
          exact AllReadyH.nil
        refine AllReadyH.cons (by rfl) (fun K hK => ?_) ?_
        · go_simp
          have HR6 := Lib.hid ((show Below wr.heap.size wr (wr.alloc (.cells #[.bool false, .slice none 0 0, .slice none 0 0] 38)).drew from Below.drewN' ((Below.refl wr.heap.size wr).alloc (Nat.le_refl _) (.cells #[.bool false, .slice none 0 0, .slice none 0 0] 38)) 1))
          have B6 : Hid (BlankD (wr.alloc (.cells #[.bool false, .slice none 0 0, .slice none 0 0] 38)).drew (wr.heap.size)) := Lib.hid (heap_alloc_new _ _)
          refine hK.out _ _ ?_ (fun hHeld => ?_)
          · exact HKwr.out _ HR6.out
          clear hK K
          try simp only [Act.put, List.setIfInBounds_toArray, List.set_cons_zero, List.set_cons_succ, List.getElem_toArray, List.getElem_cons_zero, List.getElem_cons_succ]
          refine wpAnyH_ready (rs := [12]) (by kernel_rfl) (by simp) ?_
          refine AllReadyH.cons (by rfl) (fun K hK => ?_) ?_
          · go_simp
            with_reducible refine (HC1.out _ HR6.out).mono ?_
            rintro e w107 ⟨f7s, f7a, f7l, f7c, f7b, f7k, f7e, rfl, HS7, V7⟩
            have HR7 := Lib.hid (HR6.out.trans (HS7.out.mono HR6.out.size))
            have B7_0 := Lib.hid (B6.out.kept HS7.out)
            clear hHeld
            refine hK.out _ _ ?_ (fun hHeld => ?_)
            · exact HKwr.out _ HR7.out
            clear hK K
            try simp only [Act.put, List.setIfInBounds_toArray, List.set_cons_zero, List.set_cons_succ, List.getElem_toArray, List.getElem_cons_zero, List.getElem_cons_succ]
            refine wpAnyH_ready (rs := [13]) (by kernel_rfl) (by simp) ?_
            refine AllReadyH.cons (by rfl) (fun K hK => ?_) ?_
            · go_simp
              with_reducible refine (HC2.out _ _ _ _ _ _ _ _ HR7.out V7.out).mono ?_
              rintro e w108 ⟨h8s, h8a, h8l, h8c, h8b, h8k, h8e, rfl, HS8, V8⟩
              have HR8 := Lib.hid (HR7.out.trans (HS8.out.mono HR7.out.size))
              have V8_0 := Lib.hid (V7.out.kept HS8.out)
              have B8_0 := Lib.hid (B7_0.out.kept HS8.out)
              clear hHeld
              refine hK.out _ _ ?_ (fun hHeld => ?_)
              · exact HKwr.out _ HR8.out
              clear hK K
              try simp only [Act.put, List.setIfInBounds_toArray, List.set_cons_zero, List.set_cons_succ, List.getElem_toArray, List.getElem_cons_zero, List.getElem_cons_succ]
              have hf := DtAt.endB (x := (f7s, (f7a, f7l, f7c), (f7b, f7k, f7e))) (z := (h8s, (h8a, h8l, h8c), (h8b, h8k, h8e))) HR8.out V8.out B8_0.out (by have := HGLwr.out; have := HRDwr.out.size; omega)
              obtain ⟨m0, m1, m2, n0, n1, n2⟩ := B8_0.out.cells
              obtain ⟨d0, d1, d2, d3, d4, d5, d6, d7, d8, d9, d10, d11⟩ := HKwr.out _ HR8.out
              have hgm : g ≠ wr.heap.size := by have := HGLwr.out; have := HRDwr.out.size; omega
              try dsimp only [Go.Proofs.YtknackfmepkiaaaGreatDoor.set3] at hf
              have HF := Lib.hid hf
              clear hf
              refine wpAnyH_ready (rs := [15]) (by kernel_rfl) (by simp) ?_
              refine AllReadyH.cons (by rfl) (fun K hK => ?_) AllReadyH.nil
              go_simp
              refine hK.out _ _ ?_ (fun hHeld => ?_)
              · exact HKwr.out _ HF.out.below
              clear hK K
              try simp only [Act.put, List.setIfInBounds_toArray, List.set_cons_zero, List.set_cons_succ, List.getElem_toArray, List.getElem_cons_zero, List.getElem_cons_succ]
              refine wpAnyH_done (by kernel_rfl) ?_ _
              refine OnlyEx.mk' ?_
              with_reducible refine ⟨_, ?_, HF.out⟩
              simp only [puts, Act.put, List.setIfInBounds_toArray, List.set_cons_zero, List.set_cons_succ]
            exact AllReadyH.nil
          exact AllReadyH.nil
        exact AllReadyH.nil
      case rest =>
        rintro ⟨gu, x', ⟨as0, ⟨aa, al, ac⟩, ⟨ab, ak, ae⟩⟩⟩ w2 hF
        obtain ⟨hl, hr, hv, hge⟩ := hF
        dsimp only at hl hv hge
        have HGLw2 : Hid (g < w2.heap.size) := Lib.hid (by have := HGLwr.out; have := hr.size; omega)
        have HKw2 : Hid (∀ W, Below w2.heap.size w2 W → (W.cell? ⟨g, k * 12, none⟩ = some (.bool xs) ∧ W.cell? ⟨g, k * 12 + 1, none⟩ = some (.slice xa xl xc) ∧ W.cell? ⟨g, k * 12 + 2, none⟩ = some (.slice xb xk xe) ∧ W.cell? ⟨g, k * 12 + 3, none⟩ = some (.bool us) ∧ W.cell? ⟨g, k * 12 + 4, none⟩ = some (.slice ua ul uc) ∧ W.cell? ⟨g, k * 12 + 5, none⟩ = some (.slice ub uk ue) ∧ W.cell? ⟨g, k * 12 + 6, none⟩ = some (.bool ys) ∧ W.cell? ⟨g, k * 12 + 7, none⟩ = some (.slice ya yl yc) ∧ W.cell? ⟨g, k * 12 + 8, none⟩ = some (.slice yb yk ye) ∧ W.cell? ⟨g, k * 12 + 9, none⟩ = some (.bool vs) ∧ W.cell? ⟨g, k * 12 + 10, none⟩ = some (.slice va vl vc) ∧ W.cell? ⟨g, k * 12 + 11, none⟩ = some (.slice vb vk ve))) := Lib.hid fun W h => HKwr.out W (hr.trans (h.mono hr.size))
        have HV2 := Lib.hid (fun W (h : Below w2.heap.size w2 W) => HV.out W (hr.trans (h.mono hr.size)))
        have HRDw2 := Lib.hid (below_drew w2)
        have HST2 := Lib.hid (HST.out.kept hr)
        have HU := Lib.hid (fun W (h : Below w2.heap.size w2 W) => LiesD.cells (LiesD.kept hl h))
        have HVU := Lib.hid hv
        have HD1 : Hid (∀ W, Below w2.heap.size w2 W → Calls Tryz.prog 44 #[.agg #[.bool vs, .slice va vl vc, .slice vb vk ve]] W (GotD W (-p.f))) := Lib.hid fun W h => got_neg (HV2.out W h).2.2.2 (Below.refl _ _)
        have HD2 : Hid (∀ W fs fa fl fc fb fk fe, Below w2.heap.size w2 W → VD (-p.f) (fs, (fa, fl, fc), (fb, fk, fe)) W → Calls Tryz.prog 43 #[.agg #[.bool us, .slice ua ul uc, .slice ub uk ue], .agg #[.bool fs, .slice fa fl fc, .slice fb fk fe]] W (GotD W (p.b + -p.f))) := Lib.hid fun W fs fa fl fc fb fk fe h hz => by
          obtain ⟨z1, z2, z3, z4⟩ := HOK.out
          exact got_add (HV2.out W h).2.1 hz (by omega) (by rw [szQ_neg]; omega) (Below.refl _ _)
        obtain ⟨d0, d1, d2, d3, d4, d5, d6, d7, d8, d9, d10, d11⟩ := HKw2.out w2 (Below.refl _ _)
        clear hl hr hv hge HKwr HV HRDwr HC1 HC2 HST HGLwr
        simp only [puts, Act.put, List.setIfInBounds_toArray, List.set_cons_zero, List.set_cons_succ]
        go_wp2_with fail
        refine wp_region_ex (ι := Nat × RawR × RawR) (fun i => [(30, .slice (some ⟨g, 0, none⟩) ps.length c), (31, .int .i64 (k : Int)), (32, .pointer (some ⟨g, k * 12, none⟩)), (33, .pointer (some ⟨g, k * 12, none⟩)), (34, .pointer (some ⟨g, k * 12 + 3, none⟩)), (35, .agg #[.bool us, .slice ua ul uc, .slice ub uk ue]), (36, .slice (some ⟨g, 0, none⟩) ps.length c), (37, .int .i64 (k : Int)), (38, .pointer (some ⟨g, k * 12, none⟩)), (39, .pointer (some ⟨g, k * 12 + 6, none⟩)), (40, .pointer (some ⟨g, k * 12 + 9, none⟩)), (41, .agg #[.bool vs, .slice va vl vc, .slice vb vk ve]), (42, .agg #[.bool i.2.1.1, .slice i.2.1.2.1.1 i.2.1.2.1.2.1 i.2.1.2.1.2.2, .slice i.2.1.2.2.1 i.2.1.2.2.2.1 i.2.1.2.2.2.2]), (43, .agg #[.bool i.2.2.1, .slice i.2.2.2.1.1 i.2.2.2.1.2.1 i.2.2.2.1.2.2, .slice i.2.2.2.2.1 i.2.2.2.2.2.1 i.2.2.2.2.2.2]), (6, .pointer (some ⟨i.1, 0, none⟩))]) (DtAt w2 (p.b + -p.f)) ?region ?rest
        case region =>
          refine wp_region_held_drew (S := (fun w' => w'.cell? ⟨g, k * 12, none⟩ = some (.bool xs) ∧ w'.cell? ⟨g, k * 12 + 1, none⟩ = some (.slice xa xl xc) ∧ w'.cell? ⟨g, k * 12 + 2, none⟩ = some (.slice xb xk xe) ∧ w'.cell? ⟨g, k * 12 + 3, none⟩ = some (.bool us) ∧ w'.cell? ⟨g, k * 12 + 4, none⟩ = some (.slice ua ul uc) ∧ w'.cell? ⟨g, k * 12 + 5, none⟩ = some (.slice ub uk ue) ∧ w'.cell? ⟨g, k * 12 + 6, none⟩ = some (.bool ys) ∧ w'.cell? ⟨g, k * 12 + 7, none⟩ = some (.slice ya yl yc) ∧ w'.cell? ⟨g, k * 12 + 8, none⟩ = some (.slice yb yk ye) ∧ w'.cell? ⟨g, k * 12 + 9, none⟩ = some (.bool vs) ∧ w'.cell? ⟨g, k * 12 + 10, none⟩ = some (.slice va vl vc) ∧ w'.cell? ⟨g, k * 12 + 11, none⟩ = some (.slice vb vk ve))) (by kernel_rfl) ?_ (fun hHeld => ?_)
          · exact HKw2.out _ HRDw2.out
          refine wpAnyH_take (i := 0) (v := ?_) (by rfl) (by kernel_rfl) (by kernel_rfl) (by kernel_rfl) (by exact fun _ _ _ h => h) (Or.inl ⟨by rfl, ?_⟩) hHeld ?_
          rotate_left 1
          · intro w' hSw
            go_simp
            try with_reducible rfl
          try simp only [Act.put, List.setIfInBounds_toArray, List.set_cons_zero, List.set_cons_succ, List.getElem_toArray, List.getElem_cons_zero, List.getElem_cons_succ]
          refine wpAnyH_take (i := 1) (v := ?_) (by rfl) (by kernel_rfl) (by kernel_rfl) (by kernel_rfl) (by exact fun _ _ _ h => h) (Or.inl ⟨by rfl, ?_⟩) hHeld ?_
          rotate_left 1
          · intro w' hSw
            go_simp
            try with_reducible rfl
          try simp only [Act.put, List.setIfInBounds_toArray, List.set_cons_zero, List.set_cons_succ, List.getElem_toArray, List.getElem_cons_zero, List.getElem_cons_succ]
          refine wpAnyH_take (i := 2) (v := ?_) (by rfl) (by kernel_rfl) (by kernel_rfl) (by kernel_rfl) (by exact fun _ _ _ h => h) (Or.inl ⟨by rfl, ?_⟩) hHeld ?_
          rotate_left 1
          · intro w' hSw
            go_simp
            try with_reducible rfl
          try simp only [Act.put, List.setIfInBounds_toArray, List.set_cons_zero, List.set_cons_succ, List.getElem_toArray, List.getElem_cons_zero, List.getElem_cons_succ]
          refine wpAnyH_take (i := 3) (v := ?_) (by rfl) (by kernel_rfl) (by kernel_rfl) (by kernel_rfl) (by exact fun _ _ _ h => h) (Or.inl ⟨by rfl, ?_⟩) hHeld ?_
          rotate_left 1
          · intro w' hSw
            go_simp
            try with_reducible rfl
          try simp only [Act.put, List.setIfInBounds_toArray, List.set_cons_zero, List.set_cons_succ, List.getElem_toArray, List.getElem_cons_zero, List.getElem_cons_succ]
          refine wpAnyH_take (i := 4) (v := ?_) (by rfl) (by kernel_rfl) (by kernel_rfl) (by kernel_rfl) (by exact fun _ _ _ h => h) (Or.inl ⟨by rfl, ?_⟩) hHeld ?_
          rotate_left 1
          · intro w' hSw
            go_simp
            try with_reducible rfl
          try simp only [Act.put, List.setIfInBounds_toArray, List.set_cons_zero, List.set_cons_succ, List.getElem_toArray, List.getElem_cons_zero, List.getElem_cons_succ]
          refine wpAnyH_take (i := 5) (v := ?_) (by rfl) (by kernel_rfl) (by kernel_rfl) (by kernel_rfl) (by exact fun _ _ _ h => h) (Or.inl ⟨by rfl, ?_⟩) hHeld ?_
          rotate_left 1
          · intro w' hSw
            go_simp
            try with_reducible rfl
          try simp only [Act.put, List.setIfInBounds_toArray, List.set_cons_zero, List.set_cons_succ, List.getElem_toArray, List.getElem_cons_zero, List.getElem_cons_succ]
          refine wpAnyH_take (i := 6) (v := ?_) (by rfl) (by kernel_rfl) (by kernel_rfl) (by kernel_rfl) (by exact fun _ _ _ h => h) (Or.inl ⟨by rfl, ?_⟩) hHeld ?_
          rotate_left 1
          · intro w' hSw
            go_simp
            try with_reducible rfl
          try simp only [Act.put, List.setIfInBounds_toArray, List.set_cons_zero, List.set_cons_succ, List.getElem_toArray, List.getElem_cons_zero, List.getElem_cons_succ]
          refine wpAnyH_take (i := 7) (v := ?_) (by rfl) (by kernel_rfl) (by kernel_rfl) (by kernel_rfl) (by exact fun _ _ _ h => h) (Or.inl ⟨by rfl, ?_⟩) hHeld ?_
          rotate_left 1
          · intro w' hSw
            go_simp
            try with_reducible rfl
          try simp only [Act.put, List.setIfInBounds_toArray, List.set_cons_zero, List.set_cons_succ, List.getElem_toArray, List.getElem_cons_zero, List.getElem_cons_succ]
          refine wpAnyH_take (i := 8) (v := ?_) (by rfl) (by kernel_rfl) (by kernel_rfl) (by kernel_rfl) (by exact fun _ _ _ h => h) (Or.inl ⟨by rfl, ?_⟩) hHeld ?_
          rotate_left 1
          · intro w' hSw
            go_simp
            try with_reducible rfl
          try simp only [Act.put, List.setIfInBounds_toArray, List.set_cons_zero, List.set_cons_succ, List.getElem_toArray, List.getElem_cons_zero, List.getElem_cons_succ]
          refine wpAnyH_take (i := 9) (v := ?_) (by rfl) (by kernel_rfl) (by kernel_rfl) (by kernel_rfl) (by exact fun _ _ _ h => h) (Or.inl ⟨by rfl, ?_⟩) hHeld ?_
          rotate_left 1
          · intro w' hSw
            go_simp
            try with_reducible rfl
          try simp only [Act.put, List.setIfInBounds_toArray, List.set_cons_zero, List.set_cons_succ, List.getElem_toArray, List.getElem_cons_zero, List.getElem_cons_succ]
          refine wpAnyH_take (i := 10) (v := ?_) (by rfl) (by kernel_rfl) (by kernel_rfl) (by kernel_rfl) (by exact fun _ _ _ h => h) (Or.inl ⟨by rfl, ?_⟩) hHeld ?_
          rotate_left 1
          · intro w' hSw
            go_simp
            try with_reducible rfl
          try simp only [Act.put, List.setIfInBounds_toArray, List.set_cons_zero, List.set_cons_succ, List.getElem_toArray, List.getElem_cons_zero, List.getElem_cons_succ]
          refine wpAnyH_take (i := 11) (v := ?_) (by rfl) (by kernel_rfl) (by kernel_rfl) (by kernel_rfl) (by exact fun _ _ _ h => h) (Or.inl ⟨by rfl, ?_⟩) hHeld ?_
          rotate_left 1
          · intro w' hSw
            go_simp
            try with_reducible rfl
          try simp only [Act.put, List.setIfInBounds_toArray, List.set_cons_zero, List.set_cons_succ, List.getElem_toArray, List.getElem_cons_zero, List.getElem_cons_succ]
          refine wpAnyH_ready (rs := [12, 14]) (by kernel_rfl) (by simp) ?_
          refine AllReadyH.cons (by rfl) (fun K hK => ?_) ?_
          · go_simp
            with_reducible refine (HD1.out _ HRDw2.out).mono ?_
            rintro e w101 ⟨f1s, f1a, f1l, f1c, f1b, f1k, f1e, rfl, HS1, V1⟩
            have HR1 := Lib.hid (HRDw2.out.trans (HS1.out.mono HRDw2.out.size))
            clear hHeld
            refine hK.out _ _ ?_ (fun hHeld => ?_)
            · exact HKw2.out _ HR1.out
            clear hK K
            try simp only [Act.put, List.setIfInBounds_toArray, List.set_cons_zero, List.set_cons_succ, List.getElem_toArray, List.getElem_cons_zero, List.getElem_cons_succ]
            refine wpAnyH_ready (rs := [13, 14]) (by kernel_rfl) (by simp) ?_
            refine AllReadyH.cons (by rfl) (fun K hK => ?_) ?_
            · go_simp
              with_reducible refine (HD2.out _ _ _ _ _ _ _ _ HR1.out V1.out).mono ?_
              rintro e w102 ⟨h2s, h2a, h2l, h2c, h2b, h2k, h2e, rfl, HS2, V2⟩
              have HR2 := Lib.hid (HR1.out.trans (HS2.out.mono HR1.out.size))
              have V2_0 := Lib.hid (V1.out.kept HS2.out)
              clear hHeld
              refine hK.out _ _ ?_ (fun hHeld => ?_)
              · exact HKw2.out _ HR2.out
              clear hK K
              try simp only [Act.put, List.setIfInBounds_toArray, List.set_cons_zero, List.set_cons_succ, List.getElem_toArray, List.getElem_cons_zero, List.getElem_cons_succ]
              refine wpAnyH_ready (rs := [14]) (by kernel_rfl) (by simp) ?_
              refine AllReadyH.cons (by rfl) (fun K hK => ?_) ?_
              · go_simp
                refine hK.out _ _ ?_ (fun hHeld => ?_)
                · exact HKw2.out _ (HR2.out.alloc HR2.out.size _)
                clear hK K
                try simp only [Act.put, List.setIfInBounds_toArray, List.set_cons_zero, List.set_cons_succ, List.getElem_toArray, List.getElem_cons_zero, List.getElem_cons_succ]
                have hf := DtAt.endA (x := (f1s, (f1a, f1l, f1c), (f1b, f1k, f1e))) (z := (h2s, (h2a, h2l, h2c), (h2b, h2k, h2e))) HR2.out V2.out
                obtain ⟨d0, d1, d2, d3, d4, d5, d6, d7, d8, d9, d10, d11⟩ := HKw2.out _ HR2.out
                have hgm : g ≠ w102.heap.size := by have := HGLw2.out; have := HR2.out.size; omega
                try dsimp only [Go.Proofs.YtknackfmepkiaaaGreatDoor.set3] at hf
                have HF := Lib.hid hf
                clear hf
                refine wpAnyH_ready (rs := [15]) (by kernel_rfl) (by simp) ?_
                refine AllReadyH.cons (by rfl) (fun K hK => ?_) AllReadyH.nil
                go_simp
                refine hK.out _ _ ?_ (fun hHeld => ?_)
                · exact HKw2.out _ HF.out.below
                clear hK K
                try simp only [Act.put, List.setIfInBounds_toArray, List.set_cons_zero, List.set_cons_succ, List.getElem_toArray, List.getElem_cons_zero, List.getElem_cons_succ]
                refine wpAnyH_done (by kernel_rfl) ?_ _
                refine OnlyEx.mk' ?_
                with_reducible refine ⟨_, ?_, HF.out⟩
                simp only [puts, Act.put, List.setIfInBounds_toArray, List.set_cons_zero, List.set_cons_succ]
              exact AllReadyH.nil
            refine AllReadyH.cons (by rfl) (fun K hK => ?_) ?_
            · go_simp
              have HR4 := Lib.hid (HR1.out.alloc HR1.out.size (.cells #[.bool false, .slice none 0 0, .slice none 0 0] 38))
              have V4_0 := Lib.hid (V1.out.alloc (.cells #[.bool false, .slice none 0 0, .slice none 0 0] 38))
              have B4 : Hid (BlankD (w101.alloc (.cells #[.bool false, .slice none 0 0, .slice none 0 0] 38)) (w101.heap.size)) := Lib.hid (heap_alloc_new _ _)
              refine hK.out _ _ ?_ (fun hHeld => ?_)
              · exact HKw2.out _ HR4.out
              clear hK K
              try simp only [Act.put, List.setIfInBounds_toArray, List.set_cons_zero, List.set_cons_succ, List.getElem_toArray, List.getElem_cons_zero, List.getElem_cons_succ]
              refine wpAnyH_ready (rs := [13]) (by kernel_rfl) (by simp) ?_
              refine AllReadyH.cons (by rfl) (fun K hK => ?_) ?_
              · go_simp
                with_reducible refine (HD2.out _ _ _ _ _ _ _ _ HR4.out V4_0.out).mono ?_
                rintro e w105 ⟨h5s, h5a, h5l, h5c, h5b, h5k, h5e, rfl, HS5, V5⟩
                have HR5 := Lib.hid (HR4.out.trans (HS5.out.mono HR4.out.size))
                have V5_0 := Lib.hid (V4_0.out.kept HS5.out)
                have B5_0 := Lib.hid (B4.out.kept HS5.out)
                clear hHeld
                refine hK.out _ _ ?_ (fun hHeld => ?_)
                · exact HKw2.out _ HR5.out
                clear hK K
                try simp only [Act.put, List.setIfInBounds_toArray, List.set_cons_zero, List.set_cons_succ, List.getElem_toArray, List.getElem_cons_zero, List.getElem_cons_succ]
                have hf := DtAt.endB (x := (f1s, (f1a, f1l, f1c), (f1b, f1k, f1e))) (z := (h5s, (h5a, h5l, h5c), (h5b, h5k, h5e))) HR5.out V5.out B5_0.out (by have := HGLw2.out; have := HR1.out.size; omega)
                obtain ⟨m0, m1, m2, n0, n1, n2⟩ := B5_0.out.cells
                obtain ⟨d0, d1, d2, d3, d4, d5, d6, d7, d8, d9, d10, d11⟩ := HKw2.out _ HR5.out
                have hgm : g ≠ w101.heap.size := by have := HGLw2.out; have := HR1.out.size; omega
                try dsimp only [Go.Proofs.YtknackfmepkiaaaGreatDoor.set3] at hf
                have HF := Lib.hid hf
                clear hf
                refine wpAnyH_ready (rs := [15]) (by kernel_rfl) (by simp) ?_
                refine AllReadyH.cons (by rfl) (fun K hK => ?_) AllReadyH.nil
                go_simp
                refine hK.out _ _ ?_ (fun hHeld => ?_)
                · exact HKw2.out _ HF.out.below
                clear hK K
                try simp only [Act.put, List.setIfInBounds_toArray, List.set_cons_zero, List.set_cons_succ, List.getElem_toArray, List.getElem_cons_zero, List.getElem_cons_succ]
                refine wpAnyH_done (by kernel_rfl) ?_ _
                refine OnlyEx.mk' ?_
                with_reducible refine ⟨_, ?_, HF.out⟩
                simp only [puts, Act.put, List.setIfInBounds_toArray, List.set_cons_zero, List.set_cons_succ]
              exact AllReadyH.nil
            exact AllReadyH.nil
          refine AllReadyH.cons (by rfl) (fun K hK => ?_) ?_
          · go_simp
            have HR6 := Lib.hid ((show Below w2.heap.size w2 (w2.alloc (.cells #[.bool false, .slice none 0 0, .slice none 0 0] 38)).drew from Below.drewN' ((Below.refl w2.heap.size w2).alloc (Nat.le_refl _) (.cells #[.bool false, .slice none 0 0, .slice none 0 0] 38)) 1))
            have B6 : Hid (BlankD (w2.alloc (.cells #[.bool false, .slice none 0 0, .slice none 0 0] 38)).drew (w2.heap.size)) := Lib.hid (heap_alloc_new _ _)
            refine hK.out _ _ ?_ (fun hHeld => ?_)
            · exact HKw2.out _ HR6.out
            clear hK K
            try simp only [Act.put, List.setIfInBounds_toArray, List.set_cons_zero, List.set_cons_succ, List.getElem_toArray, List.getElem_cons_zero, List.getElem_cons_succ]
            refine wpAnyH_ready (rs := [12]) (by kernel_rfl) (by simp) ?_
            refine AllReadyH.cons (by rfl) (fun K hK => ?_) ?_
            · go_simp
              with_reducible refine (HD1.out _ HR6.out).mono ?_
              rintro e w107 ⟨f7s, f7a, f7l, f7c, f7b, f7k, f7e, rfl, HS7, V7⟩
              have HR7 := Lib.hid (HR6.out.trans (HS7.out.mono HR6.out.size))
              have B7_0 := Lib.hid (B6.out.kept HS7.out)
              clear hHeld
              refine hK.out _ _ ?_ (fun hHeld => ?_)
              · exact HKw2.out _ HR7.out
              clear hK K
              try simp only [Act.put, List.setIfInBounds_toArray, List.set_cons_zero, List.set_cons_succ, List.getElem_toArray, List.getElem_cons_zero, List.getElem_cons_succ]
              refine wpAnyH_ready (rs := [13]) (by kernel_rfl) (by simp) ?_
              refine AllReadyH.cons (by rfl) (fun K hK => ?_) ?_
              · go_simp
                with_reducible refine (HD2.out _ _ _ _ _ _ _ _ HR7.out V7.out).mono ?_
                rintro e w108 ⟨h8s, h8a, h8l, h8c, h8b, h8k, h8e, rfl, HS8, V8⟩
                have HR8 := Lib.hid (HR7.out.trans (HS8.out.mono HR7.out.size))
                have V8_0 := Lib.hid (V7.out.kept HS8.out)
                have B8_0 := Lib.hid (B7_0.out.kept HS8.out)
                clear hHeld
                refine hK.out _ _ ?_ (fun hHeld => ?_)
                · exact HKw2.out _ HR8.out
                clear hK K
                try simp only [Act.put, List.setIfInBounds_toArray, List.set_cons_zero, List.set_cons_succ, List.getElem_toArray, List.getElem_cons_zero, List.getElem_cons_succ]
                have hf := DtAt.endB (x := (f7s, (f7a, f7l, f7c), (f7b, f7k, f7e))) (z := (h8s, (h8a, h8l, h8c), (h8b, h8k, h8e))) HR8.out V8.out B8_0.out (by have := HGLw2.out; have := HRDw2.out.size; omega)
                obtain ⟨m0, m1, m2, n0, n1, n2⟩ := B8_0.out.cells
                obtain ⟨d0, d1, d2, d3, d4, d5, d6, d7, d8, d9, d10, d11⟩ := HKw2.out _ HR8.out
                have hgm : g ≠ w2.heap.size := by have := HGLw2.out; have := HRDw2.out.size; omega
                try dsimp only [Go.Proofs.YtknackfmepkiaaaGreatDoor.set3] at hf
                have HF := Lib.hid hf
                clear hf
                refine wpAnyH_ready (rs := [15]) (by kernel_rfl) (by simp) ?_
                refine AllReadyH.cons (by rfl) (fun K hK => ?_) AllReadyH.nil
                go_simp
                refine hK.out _ _ ?_ (fun hHeld => ?_)
                · exact HKw2.out _ HF.out.below
                clear hK K
                try simp only [Act.put, List.setIfInBounds_toArray, List.set_cons_zero, List.set_cons_succ, List.getElem_toArray, List.getElem_cons_zero, List.getElem_cons_succ]
                refine wpAnyH_done (by kernel_rfl) ?_ _
                refine OnlyEx.mk' ?_
                with_reducible refine ⟨_, ?_, HF.out⟩
                simp only [puts, Act.put, List.setIfInBounds_toArray, List.set_cons_zero, List.set_cons_succ]
              exact AllReadyH.nil
            exact AllReadyH.nil
          exact AllReadyH.nil
        case rest =>
          rintro ⟨gd, x'', ⟨bs0, ⟨ba, bl, bc⟩, ⟨bb, bk, be⟩⟩⟩ w3 hF
          obtain ⟨hl, hr, hv, hge⟩ := hF
          dsimp only at hl hv hge
          have HR3 := Lib.hid hr
          have HST3 := Lib.hid (HST2.out.kept hr)
          have HU3 := Lib.hid (fun W (h : Below w3.heap.size w3 W) => HU.out W (hr.trans (h.mono hr.size)))
          have HD3 := Lib.hid (fun W (h : Below w3.heap.size w3 W) => LiesD.cells (LiesD.kept hl h))
          have HVU3 := Lib.hid (HVU.out.kept hr)
          have HVD3 := Lib.hid hv
          clear hl hr hv hge HKw2 HV2 HRDw2 HD1 HD2 HST2 HGLw2 HU HVU HR3 d0 d1 d2 d3 d4 d5 d6 d7 d8 d9 d10 d11
          simp only [puts, Act.put, List.setIfInBounds_toArray, List.set_cons_zero, List.set_cons_succ]
          go_wp2_with fail
          refine (int_zero w3).mono ?_
          rintro e w4 ⟨zs, za, zl, zc, zb, zk, ze, rfl, G4, V4⟩
          obtain ⟨w5, hw5⟩ : ∃ w5, w5 = w4.alloc (.cells #[.bool zs, .slice za zl zc, .slice zb zk ze] 38) := ⟨_, rfl⟩
          have hb5 : Below w4.heap.size w4 w5 := by rw [hw5]; exact (Below.refl _ _).alloc (Nat.le_refl _) _
          have hb35 := G4.out.trans (hb5.mono G4.out.size)
          have hlz : LiesD (zs, (za, zl, zc), (zb, zk, ze)) w4.heap.size w5 := by rw [hw5]; exact LiesD.new (zs, (za, zl, zc), (zb, zk, ze)) w4
          have HST5 := Lib.hid (HST3.out.kept hb35)
          have HU5 := Lib.hid (fun W (h : Below w5.heap.size w5 W) => HU3.out W (hb35.trans (h.mono hb35.size)))
          have HD5 := Lib.hid (fun W (h : Below w5.heap.size w5 W) => HD3.out W (hb35.trans (h.mono hb35.size)))
          have HZ5 := Lib.hid (fun W (h : Below w5.heap.size w5 W) => LiesD.cells (LiesD.kept hlz h))
          have HVU5 := Lib.hid (HVU3.out.kept hb35)
          have HVD5 := Lib.hid (HVD3.out.kept hb35)
          have HVZ5 := Lib.hid (V4.out.kept hb5)
          have HSZ := Lib.hid (atQ_sz HOK.out)
          have HE5 : Hid (p.e + -p.a = p.e - p.a ∧ p.b + -p.f = p.b - p.f) := Lib.hid ⟨(Rat.sub_eq_add_neg _ _).symm, (Rat.sub_eq_add_neg _ _).symm⟩
          rw [HE5.out.1] at HVU5
          rw [HE5.out.2] at HVD5
          obtain ⟨cu, hcu⟩ : ∃ cu, cmpQ (p.e - p.a) 0 = cu := ⟨_, rfl⟩
          obtain ⟨cd, hcd⟩ : ∃ cd, cmpQ (p.b - p.f) 0 = cd := ⟨_, rfl⟩
          have hvu := cmpQ_vals (p.e - p.a) 0
          rw [hcu] at hvu
          have hvd := cmpQ_vals (p.b - p.f) 0
          rw [hcd] at hvd
          have HM : Hid (meetQ p = (decide (cu = 1) && decide (cd = 1))) := Lib.hid (meet_cmp hcu hcd)
          have HCU : Hid (∀ W, Below w5.heap.size w5 W → Calls Tryz.prog 21 #[.agg #[.bool as0, .slice aa al ac, .slice ab ak ae], .agg #[.bool zs, .slice za zl zc, .slice zb zk ze]] W (GotV w5 (.int .i64 cu))) := Lib.hid fun W h => got_cmp (HVU5.out.kept h) (HVZ5.out.kept h) (by have := HSZ.out; omega) (by rw [szQ_zero]; omega) h hcu
          have HCD : Hid (∀ W, Below w5.heap.size w5 W → Calls Tryz.prog 21 #[.agg #[.bool bs0, .slice ba bl bc, .slice bb bk be], .agg #[.bool zs, .slice za zl zc, .slice zb zk ze]] W (GotV w5 (.int .i64 cd))) := Lib.hid fun W h => got_cmp (HVD5.out.kept h) (HVZ5.out.kept h) (by have := HSZ.out; omega) (by rw [szQ_zero]; omega) h hcd
          have HW5 := Lib.hid hw5
          have hu5 := HU5.out w5 (Below.refl _ _)
          have hd5 := HD5.out w5 (Below.refl _ _)
          try dsimp only at hu5 hd5
          obtain ⟨u0, u1, u2, _⟩ := hu5
          obtain ⟨f0, f1, f2, _⟩ := hd5
          rw [hw5] at u0 u1 u2 f0 f1 f2
          clear hw5 hb5 hb35 hlz G4 V4 HST3 HU3 HD3 HVU3 HVD3 HE5 hcu hcd
          go_wp2_with fail
          rw [← HW5.out]
          have HNO : Hid (∀ W, Below w5.heap.size w5 W → meetQ p = false → DstAt W0 r0 (smallQ (ps.take (k + 1))) (ls, (la, ll, lc), (lb, lk, le)) W) := Lib.hid fun W h hm => by
            rw [HQS.out, HNK.out, stepQ_no hm]
            exact HST5.out.kept h
          rcases hvu with rfl | rfl | rfl
          · refine (HCU.out w5 (Below.refl _ _)).mono ?_
            rintro e w6 ⟨rfl, G6⟩
            have HE := Lib.hid (HNO.out w6 G6.out (by rw [HM.out]; rfl))
            clear HNO HCU HCD HST5 HU5 HD5 HZ5 HVU5 HVD5 HVZ5 HNK HQS HM G6 HW5
            go_wp2_with fail
            go_roundw
            case rel => exact ⟨k + 1, by omega, by go_num, _, HE⟩
            case measure => simp [intOf]; omega
          · refine (HCU.out w5 (Below.refl _ _)).mono ?_
            rintro e w6 ⟨rfl, G6⟩
            have HE := Lib.hid (HNO.out w6 G6.out (by rw [HM.out]; rfl))
            clear HNO HCU HCD HST5 HU5 HD5 HZ5 HVU5 HVD5 HVZ5 HNK HQS HM G6 HW5
            go_wp2_with fail
            go_roundw
            case rel => exact ⟨k + 1, by omega, by go_num, _, HE⟩
            case measure => simp [intOf]; omega
          · refine (HCU.out w5 (Below.refl _ _)).mono ?_
            rintro e w6 ⟨rfl, G6⟩
            have hd6 := HD5.out w6 G6.out
            have hz6 := HZ5.out w6 G6.out
            try dsimp only at hd6 hz6
            obtain ⟨f0, f1, f2, _⟩ := hd6
            obtain ⟨y0, y1, y2, _⟩ := hz6
            clear u0 u1 u2
            go_wp2_with fail
            rcases hvd with rfl | rfl | rfl
            · refine (HCD.out w6 G6.out).mono ?_
              rintro e w7 ⟨rfl, G7⟩
              have HE := Lib.hid (HNO.out w7 G7.out (by rw [HM.out]; rfl))
              clear HNO HCU HCD HST5 HU5 HD5 HZ5 HVU5 HVD5 HVZ5 HNK HQS HM G6 G7 HW5
              go_wp2_with fail
              go_roundw
              case rel => exact ⟨k + 1, by omega, by go_num, _, HE⟩
              case measure => simp [intOf]; omega
            · refine (HCD.out w6 G6.out).mono ?_
              rintro e w7 ⟨rfl, G7⟩
              have HE := Lib.hid (HNO.out w7 G7.out (by rw [HM.out]; rfl))
              clear HNO HCU HCD HST5 HU5 HD5 HZ5 HVU5 HVD5 HVZ5 HNK HQS HM G6 G7 HW5
              go_wp2_with fail
              go_roundw
              case rel => exact ⟨k + 1, by omega, by go_num, _, HE⟩
              case measure => simp [intOf]; omega
            · refine (HCD.out w6 G6.out).mono ?_
              rintro e w7 ⟨rfl, G7⟩
              have HMT : Hid (meetQ p = true) := Lib.hid (by rw [HM.out]; rfl)
              have hu7 := HU5.out w7 G7.out
              have hd7 := HD5.out w7 G7.out
              try dsimp only at hu7 hd7
              obtain ⟨u0, u1, u2, _⟩ := hu7
              obtain ⟨f0, f1, f2, _⟩ := hd7
              have HDV : Hid (Calls Tryz.prog 45 #[.agg #[.bool as0, .slice aa al ac, .slice ab ak ae], .agg #[.bool bs0, .slice ba bl bc, .slice bb bk be]] w7 (GotD w7 (atQ p))) := Lib.hid (got_div (HVU5.out.kept G7.out) (HVD5.out.kept G7.out) (by have := HSZ.out; omega) (by have := HSZ.out; omega) (Below.refl _ _))
              have HST7 := Lib.hid (HST5.out.kept G7.out)
              clear HNO HCU HCD HST5 HU5 HD5 HZ5 HVU5 HVD5 HVZ5 HM G6 G7 HW5 y0 y1 y2
              go_wp2_with fail
              refine HDV.out.mono ?_
              rintro e w8 ⟨ms, ma, ml, mc, mb, mk, me, rfl, G8, V8⟩
              obtain ⟨w9, hw9⟩ : ∃ w9, w9 = w8.alloc (.cells #[.bool ms, .slice ma ml mc, .slice mb mk me] 38) := ⟨_, rfl⟩
              have hb9 : Below w8.heap.size w8 w9 := by rw [hw9]; exact (Below.refl _ _).alloc (Nat.le_refl _) _
              have hb79 := G8.out.trans (hb9.mono G8.out.size)
              have hlm : LiesD (ms, (ma, ml, mc), (mb, mk, me)) w8.heap.size w9 := by rw [hw9]; exact LiesD.new (ms, (ma, ml, mc), (mb, mk, me)) w8
              have HST9 := Lib.hid (HST7.out.kept hb79)
              have HLM := Lib.hid (fun W (h : Below w9.heap.size w9 W) => LiesD.cells (LiesD.kept hlm h))
              have HV9 := Lib.hid (V8.out.kept hb9)
              have HW9 := Lib.hid hw9
              obtain ⟨cc, hcc⟩ : ∃ cc, cmpQ (atQ p) q = cc := ⟨_, rfl⟩
              have hvals := cmpQ_vals (atQ p) q
              rw [hcc] at hvals
              have HCQ := Lib.hid hcc
              have HCC : Hid (Calls Tryz.prog 21 #[.agg #[.bool ms, .slice ma ml mc, .slice mb mk me], .agg #[.bool ls, .slice la ll lc, .slice lb lk le]] w9 (GotV w9 (.int .i64 cc))) := Lib.hid (got_cmp HV9.out HST9.out.v (by have := HSZ.out; omega) (by have := HZK.out; omega) (Below.refl _ _) hcc)
              have h8 := HST9.out.lies.cells
              try dsimp only at h8
              obtain ⟨l0, l1, l2, n0, n1, n2⟩ := h8
              rw [hw9] at l0 l1 l2 n0 n1 n2
              clear hw9 hb9 hb79 hlm G8 V8 HST7 HDV hcc u0 u1 u2 f0 f1 f2
              go_wp2_with fail
              rw [← HW9.out]
              rcases hvals with rfl | rfl | rfl
              · refine HCC.out.mono ?_
                rintro e w10 ⟨rfl, G10⟩
                have HST10 := Lib.hid (HST9.out.kept G10.out)
                have h7 := HLM.out w10 G10.out
                have h8 := HST10.out.lies.cells
                try dsimp only at h7 h8
                obtain ⟨m0, m1, m2, _⟩ := h7
                obtain ⟨l0, l1, l2, n0, n1, n2⟩ := h8
                have HE : Hid (DstAt W0 r0 (smallQ (ps.take (k + 1))) (ms, (ma, ml, mc), (mb, mk, me)) (set3 w10 r0 ms (.slice ma ml mc) (.slice mb mk me))) := Lib.hid (by
                  rw [HQS.out, HNK.out, stepQ_yes HMT.out, if_pos (cmp_lt.1 HCQ.out)]
                  exact HST10.out.turn (HV9.out.kept G10.out) HG0.out)
                clear G10 HST10 HST9 HLM HV9 HCC HCQ HMT HNK HQS HZK HW9
                go_wp2_with fail
                go_roundw
                case rel => exact ⟨k + 1, by omega, by go_num, _, HE⟩
                case measure => simp [intOf]; omega
              · refine HCC.out.mono ?_
                rintro e w10 ⟨rfl, G10⟩
                have HE : Hid (DstAt W0 r0 (smallQ (ps.take (k + 1))) (ls, (la, ll, lc), (lb, lk, le)) w10) := Lib.hid (by
                  rw [HQS.out, HNK.out, stepQ_yes HMT.out, if_neg (fun h => by have := cmp_lt.2 h; rw [HCQ.out] at this; revert this; decide)]
                  exact HST9.out.kept G10.out)
                clear G10 HST9 HLM HV9 HCC HCQ HMT HNK HQS HZK HW9 l0 l1 l2 n0 n1 n2
                go_wp2_with fail
                go_roundw
                case rel => exact ⟨k + 1, by omega, by go_num, _, HE⟩
                case measure => simp [intOf]; omega
              · refine HCC.out.mono ?_
                rintro e w10 ⟨rfl, G10⟩
                have HE : Hid (DstAt W0 r0 (smallQ (ps.take (k + 1))) (ls, (la, ll, lc), (lb, lk, le)) w10) := Lib.hid (by
                  rw [HQS.out, HNK.out, stepQ_yes HMT.out, if_neg (fun h => by have := cmp_lt.2 h; rw [HCQ.out] at this; revert this; decide)]
                  exact HST9.out.kept G10.out)
                clear G10 HST9 HLM HV9 HCC HCQ HMT HNK HQS HZK HW9 l0 l1 l2 n0 n1 n2
                go_wp2_with fail
                go_roundw
                case rel => exact ⟨k + 1, by omega, by go_num, _, HE⟩
                case measure => simp [intOf]; omega
    · obtain rfl : k = ps.length := by omega
      rw [List.take_length] at HST
      have h8 := HST.out.lies.cells
      try dsimp only at h8
      obtain ⟨l0, l1, l2, _⟩ := h8
      obtain ⟨m0, m1, m2, n0, n1, n2⟩ := HBK.out wr HST.out.below
      have HE := Lib.hid (HFIN.out wr HST.out.below _ _ _ _ _ _ _ HST.out.v)
      clear HST HFIN HBK HZ HNX HLT HG0 HST0
      go_wp2_with fail
      exact bodyPost_ret (v := .agg #[.bool ls, .slice la ll lc, .slice lb lk le]) (by simp [results, Tryz.results13, go_sem, m0, m1, m2]) rfl HE.out
end Go.Proofs.YtknackfmepkiaaaGreatDoor


/-
  Pairs that a law is handed, letter by letter; append in a region; the first loop's state.
-/
set_option linter.unusedVariables false
set_option linter.unusedSimpArgs false
namespace Go.Proofs.YtknackfmepkiaaaGreatDoor
open Go.RowKit Rep


theorem vq_of_right {W : World} {s : Bool} {a1 a2 : Option Addr} {c1 c2 : Nat} {xs ds : List Nat} (h : HandR W a1 c1 xs a2 c2 ds) (hr : rightB s xs ds = true) (lx : xs.length ≤ 6) (ld : ds.length ≤ 6) :
    VQ (qOf s xs ds) (s, (a1, xs.length, c1), (a2, ds.length, c2)) W ∧ szQ (qOf s xs ds) ≤ 6 := by
  obtain ⟨h1, h2, h3⟩ := of_decide_eq_true hr
  generalize qOf s xs ds = q at *
  have e1 : xs.length = (L (mgQ q)).length := congrArg List.length h2
  have e2 : ds.length = (L (denN q.den)).length := congrArg List.length h3
  have hs : szQ q ≤ 6 := by unfold szQ; omega
  refine ⟨⟨h1, e1, e2, ⟨⟨?_, ?_, h.num.cap⟩, ⟨?_, ?_, h.den.cap⟩⟩⟩, hs⟩
  · show Reads W a1 ((L (mgQ q)).map u32v); rw [← h2]; exact h.num.reads
  · show (L (mgQ q)).length ≤ c1; rw [← h2]; exact h.num.le
  · show Reads W a2 ((L (denN q.den)).map u32v); rw [← h3]; exact h.den.reads
  · show (L (denN q.den)).length ≤ c2; rw [← h3]; exact h.den.le
def pqOf (p : HP) : PQ := ⟨qOf p.1.s p.1.xs p.1.ds, qOf p.1.t p.1.ys p.1.es, qOf p.2.s p.2.xs p.2.ds, qOf p.2.t p.2.ys p.2.es⟩
def odd2 (p : HP) : Bool := oddE p.1 || oddE p.2
theorem not_odd {W : World} {d : HD} (h : HandD W d) (ho : oddE d = false) : (VQ (qOf d.s d.xs d.ds) (d.s, (d.a1, d.xs.length, d.c1), (d.a2, d.ds.length, d.c2)) W ∧ szQ (qOf d.s d.xs d.ds) ≤ 6) ∧ (VQ (qOf d.t d.ys d.es) (d.t, (d.b1, d.ys.length, d.e1), (d.b2, d.es.length, d.e2)) W ∧ szQ (qOf d.t d.ys d.es) ≤ 6) := by
  unfold oddE at ho
  rw [Bool.or_eq_false_iff] at ho
  obtain ⟨h1, h2⟩ := ho
  simp only [Bool.not_eq_false', Bool.and_eq_true] at h2
  obtain ⟨l1, l2, l3, l4⟩ := great_two h1
  exact ⟨vq_of_right h.a h2.1 l1 l2, vq_of_right h.b h2.2 l3 l4⟩
theorem vp_of_hand {W : World} {p : HP} (h1 : HandD W p.1) (h2 : HandD W p.2) (ho : odd2 p = false) : VP W p (pqOf p) := by
  unfold odd2 at ho
  rw [Bool.or_eq_false_iff] at ho
  obtain ⟨⟨a, a'⟩, b, b'⟩ := not_odd h1 ho.1
  obtain ⟨⟨e, e'⟩, f, f'⟩ := not_odd h2 ho.2
  exact ⟨a, b, e, f, a', b', e', f'⟩
theorem dels_two {W : World} {gg : Nat} {p : HP} {ty : TypeId} (h : W.heap[gg]? = some (.cells (p.1.vals ++ p.2.vals).toArray ty (0, 0))) : Dels W gg [p.1, p.2] := by
  intro k d hk
  have hc : ∀ i v, (p.1.vals ++ p.2.vals)[i]? = some v → W.cell? ⟨gg, i, none⟩ = some v := fun i v hv => by simp only [World.cell?, h]; simpa using hv
  rcases k with _ | _ | k
  · simp only [List.getElem?_cons_zero, Option.some.injEq] at hk
    subst hk
    exact ⟨hc 0 _ rfl, hc 1 _ rfl, hc 2 _ rfl, hc 3 _ rfl, hc 4 _ rfl, hc 5 _ rfl⟩
  · simp only [List.getElem?_cons_succ, List.getElem?_cons_zero, Option.some.injEq] at hk
    subst hk
    exact ⟨hc 6 _ rfl, hc 7 _ rfl, hc 8 _ rfl, hc 9 _ rfl, hc 10 _ rfl, hc 11 _ rfl⟩
  · simp at hk
theorem PairsIn.at {W : World} {g off c : Nat} {ts : List HP} (h : PairsIn W (some ⟨g, off, none⟩) c ts) {k : Nat} {p : HP} (hk : ts[k]? = some p) :
    W.cell? ⟨g, off + k * 12, none⟩ = some (.bool p.1.s) ∧ W.cell? ⟨g, off + k * 12 + 1, none⟩ = some (.slice p.1.a1 p.1.xs.length p.1.c1) ∧ W.cell? ⟨g, off + k * 12 + 2, none⟩ = some (.slice p.1.a2 p.1.ds.length p.1.c2) ∧ W.cell? ⟨g, off + k * 12 + 3, none⟩ = some (.bool p.1.t) ∧ W.cell? ⟨g, off + k * 12 + 4, none⟩ = some (.slice p.1.b1 p.1.ys.length p.1.e1) ∧ W.cell? ⟨g, off + k * 12 + 5, none⟩ = some (.slice p.1.b2 p.1.es.length p.1.e2) ∧ W.cell? ⟨g, off + k * 12 + 6, none⟩ = some (.bool p.2.s) ∧ W.cell? ⟨g, off + k * 12 + 7, none⟩ = some (.slice p.2.a1 p.2.xs.length p.2.c1) ∧ W.cell? ⟨g, off + k * 12 + 8, none⟩ = some (.slice p.2.a2 p.2.ds.length p.2.c2) ∧ W.cell? ⟨g, off + k * 12 + 9, none⟩ = some (.bool p.2.t) ∧ W.cell? ⟨g, off + k * 12 + 10, none⟩ = some (.slice p.2.b1 p.2.ys.length p.2.e1) ∧ W.cell? ⟨g, off + k * 12 + 11, none⟩ = some (.slice p.2.b2 p.2.es.length p.2.e2) := by
  rcases h.cells with h0 | ⟨g', off', e, h1⟩
  · rw [h0] at hk; simp at hk
  · cases e
    exact h1 k p hk
theorem hand_letters {w : World} {a : Option Addr} {c : Nat} {ts : List HP} (hp : PairsIn w a c ts) (hh : ∀ p ∈ ts, HandD w p.1 ∧ HandD w p.2) (k : Nat) (hk : k < ts.length) :
    ∃ (g off : Nat) (xs : Bool) (xa : Option Addr) (xl xc : Nat) (xb : Option Addr) (xk xe : Nat) (us : Bool) (ua : Option Addr) (ul uc : Nat) (ub : Option Addr) (uk ue : Nat) (ys : Bool) (ya : Option Addr) (yl yc : Nat) (yb : Option Addr) (yk ye : Nat) (vs : Bool) (va : Option Addr) (vl vc : Nat) (vb : Option Addr) (vk ve : Nat), a = some ⟨g, off, none⟩ ∧ (∀ W, Below w.heap.size w W → (W.cell? ⟨g, off + k * 12, none⟩ = some (.bool xs) ∧ W.cell? ⟨g, off + k * 12 + 1, none⟩ = some (.slice xa xl xc) ∧ W.cell? ⟨g, off + k * 12 + 2, none⟩ = some (.slice xb xk xe) ∧ W.cell? ⟨g, off + k * 12 + 3, none⟩ = some (.bool us) ∧ W.cell? ⟨g, off + k * 12 + 4, none⟩ = some (.slice ua ul uc) ∧ W.cell? ⟨g, off + k * 12 + 5, none⟩ = some (.slice ub uk ue) ∧ W.cell? ⟨g, off + k * 12 + 6, none⟩ = some (.bool ys) ∧ W.cell? ⟨g, off + k * 12 + 7, none⟩ = some (.slice ya yl yc) ∧ W.cell? ⟨g, off + k * 12 + 8, none⟩ = some (.slice yb yk ye) ∧ W.cell? ⟨g, off + k * 12 + 9, none⟩ = some (.bool vs) ∧ W.cell? ⟨g, off + k * 12 + 10, none⟩ = some (.slice va vl vc) ∧ W.cell? ⟨g, off + k * 12 + 11, none⟩ = some (.slice vb vk ve))) ∧
      (∀ W gg, Below w.heap.size w W → W.heap[gg]? = some (.cells #[.bool xs, .slice xa xl xc, .slice xb xk xe, .bool us, .slice ua ul uc, .slice ub uk ue, .bool ys, .slice ya yl yc, .slice yb yk ye, .bool vs, .slice va vl vc, .slice vb vk ve] 32 (0, 0)) → Calls Tryz.prog 7 #[.slice (some ⟨gg, 0, none⟩) 2 2] W (GivesB (odd2 ts[k]) W)) ∧
      (odd2 ts[k] = false → (∀ W, Below w.heap.size w W → (VQ (pqOf ts[k]).a (xs, (xa, xl, xc), (xb, xk, xe)) W ∧ VQ (pqOf ts[k]).b (us, (ua, ul, uc), (ub, uk, ue)) W ∧ VQ (pqOf ts[k]).e (ys, (ya, yl, yc), (yb, yk, ye)) W ∧ VQ (pqOf ts[k]).f (vs, (va, vl, vc), (vb, vk, ve)) W)) ∧ OkP (pqOf ts[k])) := by
  have hm : ts[k] ∈ ts := List.getElem_mem hk
  obtain ⟨hh1, hh2⟩ := hh _ hm
  rcases hp.cells with h0 | ⟨g, off, rfl, h1⟩
  · rw [h0] at hk; simp at hk
  · have hge := List.getElem?_eq_getElem hk
    have h3 := fun W (hb : Below w.heap.size w W) => (hp.kept hb).at hge
    generalize ts[k] = p at *
    refine ⟨g, off, p.1.s, p.1.a1, p.1.xs.length, p.1.c1, p.1.a2, p.1.ds.length, p.1.c2, p.1.t, p.1.b1, p.1.ys.length, p.1.e1, p.1.b2, p.1.es.length, p.1.e2, p.2.s, p.2.a1, p.2.xs.length, p.2.c1, p.2.a2, p.2.ds.length, p.2.c2, p.2.t, p.2.b1, p.2.ys.length, p.2.e1, p.2.b2, p.2.es.length, p.2.e2, rfl, h3, fun W gg hb hc => ?_, fun ho => ⟨fun W hb => ?_, (vp_of_hand hh1 hh2 ho).ok⟩⟩
    · have := Odd_any gg 2 [p.1, p.2] W (dels_two hc) (fun d hd => by
        simp only [List.mem_cons, List.not_mem_nil, or_false] at hd
        rcases hd with rfl | rfl
        · exact hh1.kept hb
        · exact hh2.kept hb) (Array.getElem?_eq_some_iff.1 hc).1 (by simp)
      have e : odd2 p = ([p.1, p.2].any oddE) := by simp [odd2]
      rw [e]
      exact this
    · have h := (vp_of_hand hh1 hh2 ho).kept hb
      exact ⟨h.a, h.b, h.e, h.f⟩
/-- append of twelve cells, as a step of a region. -/
theorem step_append_twelve {P : Program} {ops : Array Oper} {o : Oper} {a : Act} {w : World} {K : Act → World → Prop} {Q : Exit → Act → World → Prop} {E : Prop}
    (hgd : o.guard = none) (s x : Operand) (t : TypeId) (ho : o.op = .call { callee := .builtin .append, args := #[s, x], argTypes := #[t, t] }) (e : TypeId) (z : Value) (bts : Nat) (ht : P.underlying t = some (.slice e))
    (hi : (P.info? e).map (fun i => (i.zero, i.size, i.bytes)) = some (some z, 12, bts)) (hz1 : z.cells.size = 12) (hzg : ∀ u ∈ z.cells.toList, GoodV u)
    (g n cap : Nat) (xs : List Value) (hs : a.eval s = .slice (some ⟨g, 0, none⟩) n cap) (hown : OwnA e w g cap n xs)
    (ax : Addr) (c : Nat) (news : List Value) (hl : news.length = 12) (hx : a.eval x = .slice (some ax) 1 c) (hnews : ∀ j u, news[j]? = some u → w.cell? (ax.add j) = some u) (h1 : ∀ u ∈ news, u.oneCell' = true) (hng : ∀ u ∈ news, GoodV u)
    (hmax : n + 1 ≤ maxLen) (hb : (n + 1) * bts ≤ 140737488355328)
    (hK : ∀ g' cap' w', OwnA e w' g' cap' (n + 1) (xs ++ news) → w.grownBy w' (some g) → (g' = g ∨ w.heap.size ≤ g') → K (a.put o.dst (.slice (some ⟨g', 0, none⟩) (n + 1) cap')) w') :
    if Region.wanted o (yielded ops a.tmps) = true then Oper.wp P o a w K Q else E := by
  have hw : Region.wanted o (yielded ops a.tmps) = true := by simp [Region.wanted, hgd]
  rw [if_pos hw]
  obtain ⟨g', cap', w', hr, q1, q2, q3⟩ := run_append_twelve (P := P) w t o.type e z bts ht hi hz1 hzg g n cap xs hown ax c news hl hnews h1 hng hmax hb
  unfold Oper.wp
  simp [execOp, ho, resolve, invoke, builtin, hs, hx, hr, Result.andThen]
  exact hK g' cap' w' q1 q2 q3
/-- How far the first loop has come. -/
structure LpAt (w : World) (ts : List HP) (k g cap : Nat) (vs : List R4) (W : World) : Prop where
  below : Below w.heap.size w W
  own : OwnA 42 W g cap k (vs.flatMap flatR)
  len : vs.length = k
  ge : w.heap.size ≤ g
  vals : ∀ (i : Nat) (v : R4) (p : HP), vs[i]? = some v → ts[i]? = some p → VE W v (pqOf p)
  ok : ∀ p ∈ ts.take k, odd2 p = false
theorem LpAt.start {w W : World} (ts : List HP) (hb : Below w.heap.size w W) : LpAt w ts 0 W.heap.size 0 [] (W.alloc (.cells #[] 42)) :=
  ⟨hb.alloc hb.size _, OwnA.start W, rfl, hb.size, fun i v p h => by simp at h, fun p h => by simp at h⟩
theorem LpAt.next {w wr W w' : World} {ts : List HP} {k g cap g' cap' : Nat} {vs : List R4} {v : R4} (h : LpAt w ts k g cap vs wr) (hk : k < ts.length) (hb : Below wr.heap.size wr W) (hg : W.grownBy w' (some g))
    (ho : OwnA 42 w' g' cap' (k + 1) (vs.flatMap flatR ++ flatR v)) (hor : g' = g ∨ W.heap.size ≤ g') (hv : VE W v (pqOf ts[k])) (hodd : odd2 ts[k] = false) : LpAt w ts (k + 1) g' cap' (vs ++ [v]) w' := by
  have hbW := h.below.trans (hb.mono h.below.size)
  have hno := (h.own.kept hb).no
  refine ⟨hbW.grown hg hbW.size (fun j hj => by cases hj; exact h.ge), ?_, by rw [List.length_append, h.len]; rfl, ?_, fun i u p hu hp => ?_, fun p hp => ?_⟩
  · rw [List.flatMap_append]
    simpa using ho
  · rcases hor with rfl | hor
    · exact h.ge
    · have := hbW.size; omega
  · by_cases hi : i < vs.length
    · rw [List.getElem?_append_left hi] at hu
      exact ((h.vals i u p hu hp).kept hb).past hno hg
    · rw [List.getElem?_append_right (by omega)] at hu
      have hik : i - vs.length = 0 := by
        rcases Nat.eq_zero_or_pos (i - vs.length) with h0 | h0
        · exact h0
        · rw [List.getElem?_eq_none (by simp; omega)] at hu; cases hu
      rw [hik] at hu
      simp only [List.getElem?_cons_zero, Option.some.injEq] at hu
      subst hu
      obtain rfl : i = k := by have := h.len; omega
      rw [List.getElem?_eq_getElem hk] at hp
      simp only [Option.some.injEq] at hp
      subst hp
      exact hv.past hno hg
  · rw [List.take_succ_eq_append_getElem hk, List.mem_append] at hp
    rcases hp with hp | hp
    · exact h.ok p hp
    · simp only [List.mem_cons, List.not_mem_nil, or_false] at hp
      subst hp
      exact hodd
theorem LpAt.dl {w W : World} {ts : List HP} {g cap : Nat} {vs : List R4} (h : LpAt w ts ts.length g cap vs W) : DL W g vs (ts.map pqOf) := by
  refine ⟨by rw [h.len, List.length_map], h.own.cell, fun k v p hv hp => ?_⟩
  rw [List.getElem?_map] at hp
  obtain ⟨q, hq, rfl⟩ := Option.map_eq_some_iff.1 hp
  exact h.vals k v q hv hq
end Go.Proofs.YtknackfmepkiaaaGreatDoor


/-
  delta.Of; law03's example.
-/
set_option linter.unusedVariables false
set_option linter.unusedSimpArgs false
namespace Go.Proofs.YtknackfmepkiaaaGreatDoor
open Go.RowKit Rep


theorem clone_num {W : World} {a : Option Addr} {c n : Nat} (h : NumAt W a c n) (hl : (L n).length ≤ 1000000) :
    Calls Tryz.prog 79 #[.slice a (L n).length c] W fun e W' => ∃ a' c', e = .returned (.slice a' (L n).length c') ∧ Hid (Below W.heap.size W W') ∧ Hid (NumAt W' a' c' n) := by
  cases a with
  | some p =>
    refine (clone_some p (L n) c W h.1 (by omega)).mono ?_
    rintro e W' ⟨a', c', rfl, ho, hb⟩
    refine ⟨a', c', rfl, Lib.hid hb, Lib.hid ⟨ho.reads, ?_, ho.1⟩⟩
    obtain ⟨_, ⟨rfl, rfl, h2⟩ | ⟨g, rfl, _, hr⟩⟩ := ho
    · rw [h2]; simp
    · simpa using hr.le
  | none =>
    have h0 : L n = [] := by
      rcases h.1 with h1 | ⟨g, off, h1, _⟩
      · simpa using h1
      · cases h1
    have hn : n = 0 := L_len_zero.1 (by rw [h0]; rfl)
    subst hn
    refine (clone_nil c W).mono ?_
    rintro e W' ⟨a', c', rfl, ho, hb⟩
    refine ⟨a', c', rfl, Lib.hid hb, Lib.hid ⟨ho.reads, ?_, ho.1⟩⟩
    simp [L_zero]
theorem fin_of {W5 w W0 W : World} {q : Rat} {s : Bool} {a1 a2 b1 b2 : Option Addr} {l1 c1 l2 c2 e1 e2 : Nat} (hb5 : Below W5.heap.size W5 w) (hB0 : Below w.heap.size w W0) (k0 : W0.heap[w.heap.size]? = some (.cells #[.bool s, .slice a1 l1 c1, .slice a2 l2 c2] 30 (0, 0))) (b3 : Six W0 (w.heap.size + 1) 32) (hb : Below W0.heap.size W0 W)
    (h0 : s = ngQ q) (h1 : l1 = (L (mgQ q)).length) (h2 : l2 = (L (denN q.den)).length) (n1 : NumAt W b1 e1 (mgQ q)) (n2 : NumAt W b2 e2 (denN q.den)) :
    GotQQ W5 q 0 (.returned (.agg #[.bool s, .slice b1 l1 e1, .slice b2 l2 e2, .bool false, .slice none 0 0, .slice none 0 0])) (set6 ((W.setCell ⟨w.heap.size, 1, none⟩ (.slice b1 l1 e1)).setCell ⟨w.heap.size, 2, none⟩ (.slice b2 l2 e2)) (w.heap.size + 1) s (.slice b1 l1 e1) (.slice b2 l2 e2) false (.slice none 0 0) (.slice none 0 0)) := by
  have hk := stay k0 hb
  have hs : Six W (w.heap.size + 1) 32 := stay b3 hb
  have hrb : RatBlock W w.heap.size := ⟨_, _, _, _, _, _, _, hk⟩
  have hg : W.grownBy ((W.setCell ⟨w.heap.size, 1, none⟩ (.slice b1 l1 e1)).setCell ⟨w.heap.size, 2, none⟩ (.slice b2 l2 e2)) (some w.heap.size) := grownBy_set (grownBy_set (grown_refl W _))
  have hs2 := hs.grown hg (by omega)
  have hv : VQ q (s, (b1, l1, e1), (b2, l2, e2)) ((W.setCell ⟨w.heap.size, 1, none⟩ (.slice b1 l1 e1)).setCell ⟨w.heap.size, 2, none⟩ (.slice b2 l2 e2)) :=
    ⟨h0, h1, h2, ⟨⟨n1.1.grown hg (hrb.apart n1.1), n1.2⟩, ⟨n2.1.grown hg (hrb.apart n2.1), n2.2⟩⟩⟩
  have h5 := hb5.size
  have hbw : Below W5.heap.size W5 W := hb5.trans ((hB0.trans (hb.mono hB0.size)).mono h5)
  exact ⟨s, b1, l1, e1, b2, l2, e2, false, none, 0, 0, none, 0, 0, rfl, Lib.hid (set6_below ((hbw.setCell (p := ⟨w.heap.size, 1, none⟩) h5 _).setCell (p := ⟨w.heap.size, 2, none⟩) h5 _) (by omega)), Lib.hid (hv.set6 hs2 _ _ _ _ _ _), Lib.hid ((vq_z _).set6 hs2 _ _ _ _ _ _)⟩

set_option maxRecDepth 100000 in
set_option maxHeartbeats 8000000 in
theorem DelOf {W5 w : World} {ys : Bool} {ya yb : Option Addr} {yl yc yk ye : Nat} {k : Rat} (hy : VQ k (ys, (ya, yl, yc), (yb, yk, ye)) w) (zk : szQ k ≤ 100) (hb5 : Below W5.heap.size W5 w) :
    Calls Tryz.prog 32 #[.agg #[.bool ys, .slice ya yl yc, .slice yb yk ye]] w (GotQQ W5 k 0) := by
  obtain ⟨W0, hW0, hB0, b0, b1, hs⟩ := boxes2 w #[.bool ys, .slice ya yl yc, .slice yb yk ye] #[.bool false, .slice none 0 0, .slice none 0 0, .bool false, .slice none 0 0, .slice none 0 0] 30 32
  obtain ⟨h0, h1, h2, h3⟩ := hy
  dsimp only at h0 h1 h2 h3
  unfold szQ at zk
  have h3' := h3.kept hB0
  have HC1 : Hid (∀ W, Below W0.heap.size W0 W → Calls Tryz.prog 79 #[.slice ya yl yc] W fun e W' => ∃ a' c', e = .returned (.slice a' yl c') ∧ Hid (Below W.heap.size W W') ∧ Hid (NumAt W' a' c' (mgQ k))) := Lib.hid fun W h => by
    rw [h1]; exact clone_num (h3'.kept h).num (by omega)
  have HC2 : Hid (∀ W, Below W0.heap.size W0 W → Calls Tryz.prog 79 #[.slice yb yk ye] W fun e W' => ∃ a' c', e = .returned (.slice a' yk c') ∧ Hid (Below W.heap.size W W') ∧ Hid (NumAt W' a' c' (denN k.den))) := Lib.hid fun W h => by
    rw [h2]; exact clone_num (h3'.kept h).den (by omega)
  have HK : Hid (∀ W, Below W0.heap.size W0 W → _) := Lib.hid fun W h => cells3 (stay b0 h)
  have HR : Hid (∀ W, Below W0.heap.size W0 W → _) := Lib.hid fun W h => cells6 (stay b1 h)
  have HFIN : Hid (∀ W a3 c3 a4 c4, Below W0.heap.size W0 W → NumAt W a3 c3 (mgQ k) → NumAt W a4 c4 (denN k.den) → _) := Lib.hid fun W a3 c3 a4 c4 hb n1 n2 => fin_of hb5 hB0 b0 b1 hb h0 h1 h2 n1 n2
  have HW0 := Lib.hid hW0
  obtain ⟨k0, k1, k2, f0, f1, f2⟩ := HK.out W0 (Below.refl _ _)
  have hn1 : w.heap.size ≠ w.heap.size + 1 := by omega
  have hn2 : w.heap.size + 1 ≠ w.heap.size := by omega
  clear hW0 hB0 b0 b1 hs h0 h1 h2 h3 h3' zk hb5
  go_enter Tryz.func32, Tryz.ntmps32
  go_wp2_with fail
  rw [← HW0.out]
  refine wp_region_held_drew (S := (fun _ => True)) (by kernel_rfl) (by trivial) (fun hHeld => ?_)
  refine wpAnyH_take (i := 0) (v := ?_) (by rfl) (by kernel_rfl) (by kernel_rfl) (by kernel_rfl) (by exact fun _ _ _ h => h) (Or.inl ⟨by rfl, ?_⟩) hHeld ?_
  rotate_left 1
  · intro w' hSw
    go_simp
    try with_reducible rfl
  try simp only [Act.put, List.setIfInBounds_toArray, List.set_cons_zero, List.set_cons_succ, List.getElem_toArray, List.getElem_cons_zero, List.getElem_cons_succ]
  refine wpAnyH_take (i := 1) (v := ?_) (by rfl) (by kernel_rfl) (by kernel_rfl) (by kernel_rfl) (by exact fun _ _ _ h => h) (Or.inl ⟨by rfl, ?_⟩) hHeld ?_
  rotate_left 1
  · intro w' hSw
    go_simp
    try with_reducible rfl
  try simp only [Act.put, List.setIfInBounds_toArray, List.set_cons_zero, List.set_cons_succ, List.getElem_toArray, List.getElem_cons_zero, List.getElem_cons_succ]
  refine wpAnyH_take (i := 4) (v := ?_) (by rfl) (by kernel_rfl) (by kernel_rfl) (by kernel_rfl) (by exact fun _ _ _ h => h) (Or.inl ⟨by rfl, ?_⟩) hHeld ?_
  rotate_left 1
  · intro w' hSw
    go_simp
    try with_reducible rfl
  try simp only [Act.put, List.setIfInBounds_toArray, List.set_cons_zero, List.set_cons_succ, List.getElem_toArray, List.getElem_cons_zero, List.getElem_cons_succ]
  refine wpAnyH_ready (rs := [2, 5]) (by kernel_rfl) (by simp) ?_
  refine AllReadyH.cons (by rfl) (fun K hK => ?_) ?_
  · go_simp
    refine hK.out _ _ (by trivial) (fun hHeld => ?_)
    clear hK K
    try simp only [Act.put, List.setIfInBounds_toArray, List.set_cons_zero, List.set_cons_succ, List.getElem_toArray, List.getElem_cons_zero, List.getElem_cons_succ]
    refine wpAnyH_ready (rs := [3, 5]) (by kernel_rfl) (by simp) ?_
    refine AllReadyH.cons (by rfl) (fun K hK => ?_) ?_
    · go_simp
      with_reducible refine (HC1.out _ (below_drew _)).mono ?_
      rintro e w3 ⟨a3, c3, rfl, G3, N3⟩
      have hb3 := (below_drew W0).trans (G3.out.mono (Nat.le_refl _))
      obtain ⟨k0, k1, k2, f0, f1, f2⟩ := HK.out _ hb3
      refine hK.out _ _ (by trivial) (fun hHeld => ?_)
      clear hK K
      try simp only [Act.put, List.setIfInBounds_toArray, List.set_cons_zero, List.set_cons_succ, List.getElem_toArray, List.getElem_cons_zero, List.getElem_cons_succ]
      refine wpAnyH_ready (rs := [5]) (by kernel_rfl) (by simp) ?_
      refine AllReadyH.cons (by rfl) (fun K hK => ?_) ?_
      · go_simp
        refine hK.out _ _ (by trivial) (fun hHeld => ?_)
        clear hK K
        try simp only [Act.put, List.setIfInBounds_toArray, List.set_cons_zero, List.set_cons_succ, List.getElem_toArray, List.getElem_cons_zero, List.getElem_cons_succ]
        refine wpAnyH_take (i := 7) (v := ?_) (by rfl) (by kernel_rfl) (by kernel_rfl) (by kernel_rfl) (by exact fun _ _ _ h => h) (Or.inl ⟨by rfl, ?_⟩) hHeld ?_
        rotate_left 1
        · intro w' hSw
          go_simp
          try with_reducible rfl
        try simp only [Act.put, List.setIfInBounds_toArray, List.set_cons_zero, List.set_cons_succ, List.getElem_toArray, List.getElem_cons_zero, List.getElem_cons_succ]
        refine wpAnyH_take (i := 8) (v := ?_) (by rfl) (by kernel_rfl) (by kernel_rfl) (by kernel_rfl) (by exact fun _ _ _ h => h) (Or.inl ⟨by rfl, ?_⟩) hHeld ?_
        rotate_left 1
        · intro w' hSw
          go_simp
          try with_reducible rfl
        try simp only [Act.put, List.setIfInBounds_toArray, List.set_cons_zero, List.set_cons_succ, List.getElem_toArray, List.getElem_cons_zero, List.getElem_cons_succ]
        refine wpAnyH_ready (rs := [6]) (by kernel_rfl) (by simp) ?_
        refine AllReadyH.cons (by rfl) (fun K hK => ?_) ?_
        · go_simp
          with_reducible refine (HC2.out _ hb3).mono ?_
          rintro e w4 ⟨a4, c4, rfl, G4, N4⟩
          have hb4 := hb3.trans (G4.out.mono hb3.size)
          obtain ⟨k0, k1, k2, f0, f1, f2⟩ := HK.out _ hb4
          obtain ⟨m0, m1, m2, m3, m4, m5, n0, n1, n2, n3, n4, n5⟩ := HR.out _ hb4
          have HE := Lib.hid (HFIN.out _ _ _ _ _ hb4 (N3.out.kept G4.out) N4.out)
          refine hK.out _ _ (by trivial) (fun hHeld => ?_)
          clear hK K
          try simp only [Act.put, List.setIfInBounds_toArray, List.set_cons_zero, List.set_cons_succ, List.getElem_toArray, List.getElem_cons_zero, List.getElem_cons_succ]
          refine wpAnyH_ready (rs := [9]) (by kernel_rfl) (by simp) ?_
          refine AllReadyH.cons (by rfl) (fun K hK => ?_) ?_
          · go_simp
            refine hK.out _ _ (by trivial) (fun hHeld => ?_)
            clear hK K
            try simp only [Act.put, List.setIfInBounds_toArray, List.set_cons_zero, List.set_cons_succ, List.getElem_toArray, List.getElem_cons_zero, List.getElem_cons_succ]
            refine wpAnyH_take (i := 10) (v := ?_) (by rfl) (by kernel_rfl) (by kernel_rfl) (by kernel_rfl) (by exact fun _ _ _ h => h) (Or.inl ⟨by rfl, ?_⟩) hHeld ?_
            rotate_left 1
            · intro w' hSw
              go_simp
              try with_reducible rfl
            try simp only [Act.put, List.setIfInBounds_toArray, List.set_cons_zero, List.set_cons_succ, List.getElem_toArray, List.getElem_cons_zero, List.getElem_cons_succ]
            refine wpAnyH_ready (rs := [11]) (by kernel_rfl) (by simp) ?_
            refine AllReadyH.cons (by rfl) (fun K hK => ?_) ?_
            · go_simp
              refine hK.out _ _ (by trivial) (fun hHeld => ?_)
              clear hK K
              try simp only [Act.put, List.setIfInBounds_toArray, List.set_cons_zero, List.set_cons_succ, List.getElem_toArray, List.getElem_cons_zero, List.getElem_cons_succ]
              refine wpAnyH_done (by kernel_rfl) ?_ _
              clear hHeld HC1 HC2 HK HR HFIN
              go_wp2_with fail
              exact bodyPost_ret (v := .agg #[.bool ys, .slice a3 yl c3, .slice a4 yk c4, .bool false, .slice none 0 0, .slice none 0 0]) (by simp [results, Tryz.results32, go_sem, m0, m1, m2, m3, m4, m5]) rfl HE.out
            exact AllReadyH.nil
          exact AllReadyH.nil
        exact AllReadyH.nil
      exact AllReadyH.nil
    refine AllReadyH.cons (by rfl) (fun K hK => ?_) ?_
    · go_simp
      refine hK.out _ _ (by trivial) (fun hHeld => ?_)
      clear hK K
      try simp only [Act.put, List.setIfInBounds_toArray, List.set_cons_zero, List.set_cons_succ, List.getElem_toArray, List.getElem_cons_zero, List.getElem_cons_succ]
      refine wpAnyH_ready (rs := [3]) (by kernel_rfl) (by simp) ?_
      refine AllReadyH.cons (by rfl) (fun K hK => ?_) ?_
      · go_simp
        with_reducible refine (HC1.out _ (below_drew _)).mono ?_
        rintro e w3 ⟨a3, c3, rfl, G3, N3⟩
        have hb3 := (below_drew W0).trans (G3.out.mono (Nat.le_refl _))
        obtain ⟨k0, k1, k2, f0, f1, f2⟩ := HK.out _ hb3
        refine hK.out _ _ (by trivial) (fun hHeld => ?_)
        clear hK K
        try simp only [Act.put, List.setIfInBounds_toArray, List.set_cons_zero, List.set_cons_succ, List.getElem_toArray, List.getElem_cons_zero, List.getElem_cons_succ]
        refine wpAnyH_take (i := 7) (v := ?_) (by rfl) (by kernel_rfl) (by kernel_rfl) (by kernel_rfl) (by exact fun _ _ _ h => h) (Or.inl ⟨by rfl, ?_⟩) hHeld ?_
        rotate_left 1
        · intro w' hSw
          go_simp
          try with_reducible rfl
        try simp only [Act.put, List.setIfInBounds_toArray, List.set_cons_zero, List.set_cons_succ, List.getElem_toArray, List.getElem_cons_zero, List.getElem_cons_succ]
        refine wpAnyH_take (i := 8) (v := ?_) (by rfl) (by kernel_rfl) (by kernel_rfl) (by kernel_rfl) (by exact fun _ _ _ h => h) (Or.inl ⟨by rfl, ?_⟩) hHeld ?_
        rotate_left 1
        · intro w' hSw
          go_simp
          try with_reducible rfl
        try simp only [Act.put, List.setIfInBounds_toArray, List.set_cons_zero, List.set_cons_succ, List.getElem_toArray, List.getElem_cons_zero, List.getElem_cons_succ]
        refine wpAnyH_ready (rs := [6]) (by kernel_rfl) (by simp) ?_
        refine AllReadyH.cons (by rfl) (fun K hK => ?_) ?_
        · go_simp
          with_reducible refine (HC2.out _ hb3).mono ?_
          rintro e w4 ⟨a4, c4, rfl, G4, N4⟩
          have hb4 := hb3.trans (G4.out.mono hb3.size)
          obtain ⟨k0, k1, k2, f0, f1, f2⟩ := HK.out _ hb4
          obtain ⟨m0, m1, m2, m3, m4, m5, n0, n1, n2, n3, n4, n5⟩ := HR.out _ hb4
          have HE := Lib.hid (HFIN.out _ _ _ _ _ hb4 (N3.out.kept G4.out) N4.out)
          refine hK.out _ _ (by trivial) (fun hHeld => ?_)
          clear hK K
          try simp only [Act.put, List.setIfInBounds_toArray, List.set_cons_zero, List.set_cons_succ, List.getElem_toArray, List.getElem_cons_zero, List.getElem_cons_succ]
          refine wpAnyH_ready (rs := [9]) (by kernel_rfl) (by simp) ?_
          refine AllReadyH.cons (by rfl) (fun K hK => ?_) ?_
          · go_simp
            refine hK.out _ _ (by trivial) (fun hHeld => ?_)
            clear hK K
            try simp only [Act.put, List.setIfInBounds_toArray, List.set_cons_zero, List.set_cons_succ, List.getElem_toArray, List.getElem_cons_zero, List.getElem_cons_succ]
            refine wpAnyH_take (i := 10) (v := ?_) (by rfl) (by kernel_rfl) (by kernel_rfl) (by kernel_rfl) (by exact fun _ _ _ h => h) (Or.inl ⟨by rfl, ?_⟩) hHeld ?_
            rotate_left 1
            · intro w' hSw
              go_simp
              try with_reducible rfl
            try simp only [Act.put, List.setIfInBounds_toArray, List.set_cons_zero, List.set_cons_succ, List.getElem_toArray, List.getElem_cons_zero, List.getElem_cons_succ]
            refine wpAnyH_ready (rs := [11]) (by kernel_rfl) (by simp) ?_
            refine AllReadyH.cons (by rfl) (fun K hK => ?_) ?_
            · go_simp
              refine hK.out _ _ (by trivial) (fun hHeld => ?_)
              clear hK K
              try simp only [Act.put, List.setIfInBounds_toArray, List.set_cons_zero, List.set_cons_succ, List.getElem_toArray, List.getElem_cons_zero, List.getElem_cons_succ]
              refine wpAnyH_done (by kernel_rfl) ?_ _
              clear hHeld HC1 HC2 HK HR HFIN
              go_wp2_with fail
              exact bodyPost_ret (v := .agg #[.bool ys, .slice a3 yl c3, .slice a4 yk c4, .bool false, .slice none 0 0, .slice none 0 0]) (by simp [results, Tryz.results32, go_sem, m0, m1, m2, m3, m4, m5]) rfl HE.out
            exact AllReadyH.nil
          exact AllReadyH.nil
        exact AllReadyH.nil
      exact AllReadyH.nil
    exact AllReadyH.nil
  refine AllReadyH.cons (by rfl) (fun K hK => ?_) ?_
  · go_simp
    refine hK.out _ _ (by trivial) (fun hHeld => ?_)
    clear hK K
    try simp only [Act.put, List.setIfInBounds_toArray, List.set_cons_zero, List.set_cons_succ, List.getElem_toArray, List.getElem_cons_zero, List.getElem_cons_succ]
    refine wpAnyH_ready (rs := [2]) (by kernel_rfl) (by simp) ?_
    refine AllReadyH.cons (by rfl) (fun K hK => ?_) ?_
    · go_simp
      refine hK.out _ _ (by trivial) (fun hHeld => ?_)
      clear hK K
      try simp only [Act.put, List.setIfInBounds_toArray, List.set_cons_zero, List.set_cons_succ, List.getElem_toArray, List.getElem_cons_zero, List.getElem_cons_succ]
      refine wpAnyH_ready (rs := [3]) (by kernel_rfl) (by simp) ?_
      refine AllReadyH.cons (by rfl) (fun K hK => ?_) ?_
      · go_simp
        with_reducible refine (HC1.out _ (below_drew _)).mono ?_
        rintro e w3 ⟨a3, c3, rfl, G3, N3⟩
        have hb3 := (below_drew W0).trans (G3.out.mono (Nat.le_refl _))
        obtain ⟨k0, k1, k2, f0, f1, f2⟩ := HK.out _ hb3
        refine hK.out _ _ (by trivial) (fun hHeld => ?_)
        clear hK K
        try simp only [Act.put, List.setIfInBounds_toArray, List.set_cons_zero, List.set_cons_succ, List.getElem_toArray, List.getElem_cons_zero, List.getElem_cons_succ]
        refine wpAnyH_take (i := 7) (v := ?_) (by rfl) (by kernel_rfl) (by kernel_rfl) (by kernel_rfl) (by exact fun _ _ _ h => h) (Or.inl ⟨by rfl, ?_⟩) hHeld ?_
        rotate_left 1
        · intro w' hSw
          go_simp
          try with_reducible rfl
        try simp only [Act.put, List.setIfInBounds_toArray, List.set_cons_zero, List.set_cons_succ, List.getElem_toArray, List.getElem_cons_zero, List.getElem_cons_succ]
        refine wpAnyH_take (i := 8) (v := ?_) (by rfl) (by kernel_rfl) (by kernel_rfl) (by kernel_rfl) (by exact fun _ _ _ h => h) (Or.inl ⟨by rfl, ?_⟩) hHeld ?_
        rotate_left 1
        · intro w' hSw
          go_simp
          try with_reducible rfl
        try simp only [Act.put, List.setIfInBounds_toArray, List.set_cons_zero, List.set_cons_succ, List.getElem_toArray, List.getElem_cons_zero, List.getElem_cons_succ]
        refine wpAnyH_ready (rs := [6]) (by kernel_rfl) (by simp) ?_
        refine AllReadyH.cons (by rfl) (fun K hK => ?_) ?_
        · go_simp
          with_reducible refine (HC2.out _ hb3).mono ?_
          rintro e w4 ⟨a4, c4, rfl, G4, N4⟩
          have hb4 := hb3.trans (G4.out.mono hb3.size)
          obtain ⟨k0, k1, k2, f0, f1, f2⟩ := HK.out _ hb4
          obtain ⟨m0, m1, m2, m3, m4, m5, n0, n1, n2, n3, n4, n5⟩ := HR.out _ hb4
          have HE := Lib.hid (HFIN.out _ _ _ _ _ hb4 (N3.out.kept G4.out) N4.out)
          refine hK.out _ _ (by trivial) (fun hHeld => ?_)
          clear hK K
          try simp only [Act.put, List.setIfInBounds_toArray, List.set_cons_zero, List.set_cons_succ, List.getElem_toArray, List.getElem_cons_zero, List.getElem_cons_succ]
          refine wpAnyH_ready (rs := [9]) (by kernel_rfl) (by simp) ?_
          refine AllReadyH.cons (by rfl) (fun K hK => ?_) ?_
          · go_simp
            refine hK.out _ _ (by trivial) (fun hHeld => ?_)
            clear hK K
            try simp only [Act.put, List.setIfInBounds_toArray, List.set_cons_zero, List.set_cons_succ, List.getElem_toArray, List.getElem_cons_zero, List.getElem_cons_succ]
            refine wpAnyH_take (i := 10) (v := ?_) (by rfl) (by kernel_rfl) (by kernel_rfl) (by kernel_rfl) (by exact fun _ _ _ h => h) (Or.inl ⟨by rfl, ?_⟩) hHeld ?_
            rotate_left 1
            · intro w' hSw
              go_simp
              try with_reducible rfl
            try simp only [Act.put, List.setIfInBounds_toArray, List.set_cons_zero, List.set_cons_succ, List.getElem_toArray, List.getElem_cons_zero, List.getElem_cons_succ]
            refine wpAnyH_ready (rs := [11]) (by kernel_rfl) (by simp) ?_
            refine AllReadyH.cons (by rfl) (fun K hK => ?_) ?_
            · go_simp
              refine hK.out _ _ (by trivial) (fun hHeld => ?_)
              clear hK K
              try simp only [Act.put, List.setIfInBounds_toArray, List.set_cons_zero, List.set_cons_succ, List.getElem_toArray, List.getElem_cons_zero, List.getElem_cons_succ]
              refine wpAnyH_done (by kernel_rfl) ?_ _
              clear hHeld HC1 HC2 HK HR HFIN
              go_wp2_with fail
              exact bodyPost_ret (v := .agg #[.bool ys, .slice a3 yl c3, .slice a4 yk c4, .bool false, .slice none 0 0, .slice none 0 0]) (by simp [results, Tryz.results32, go_sem, m0, m1, m2, m3, m4, m5]) rfl HE.out
            exact AllReadyH.nil
          exact AllReadyH.nil
        exact AllReadyH.nil
      exact AllReadyH.nil
    exact AllReadyH.nil
  exact AllReadyH.nil

theorem spk_text : textDQ (qI 1) (qI (-1)) = ⟨#[49, 45, 49, 100]⟩ := by
  obtain ⟨a1, b1, c1⟩ := qI_parts 1
  obtain ⟨a2, b2, c2⟩ := qI_parts (-1)
  have h0 : qI (-1) ≠ 0 := fun e => by rw [e] at b2; revert b2; decide
  unfold textDQ
  rw [if_neg h0, a2, if_pos (by decide)]
  unfold textQ
  rw [a1, b1, c1, a2, b2, c2]
  decide +kernel
theorem spk_cmp : cmpDQ (qI 1) (qI (-1)) (qI 1) 0 = -1 := by
  obtain ⟨a2, b2, c2⟩ := qI_parts (-1)
  have h1 : cmpQ (qI 1) (qI 1) = 0 := by unfold cmpQ; rw [if_neg Rat.lt_irrefl, if_pos rfl]
  unfold cmpDQ
  rw [if_pos h1]
  rcases sign_cases (qI (-1)) with ⟨h, _⟩ | ⟨_, _, h⟩ | ⟨_, h, _⟩
  · rw [h] at b2; revert b2; decide
  · exact h
  · rw [a2] at h; revert h; decide

set_option maxRecDepth 100000 in
set_option maxHeartbeats 4000000 in
theorem speaks03 {w : World} (hT : Tab w) : Calls Tryz.prog 6 #[] w (Says w) := by
  have z1 : szQ (qI 1) ≤ 100 := by obtain ⟨a, b, c⟩ := qI_parts 1; unfold szQ; rw [b, c]; decide
  have z2 : szQ (qI (-1)) ≤ 100 := by obtain ⟨a, b, c⟩ := qI_parts (-1); unfold szQ; rw [b, c]; decide
  have HO1 : Hid (∀ (W5 W : World), Below W5.heap.size W5 W → Calls Tryz.prog 16 #[.int .i64 1] W (GotQ W5 (qI 1))) := Lib.hid fun W5 W h => (OfP_any 1 W (by omega) (by omega)).mono fun e W' hg => hg.got h
  have HO2 : Hid (∀ (W5 W : World), Below W5.heap.size W5 W → Calls Tryz.prog 16 #[.int .i64 (-1)] W (GotQ W5 (qI (-1)))) := Lib.hid fun W5 W h => (OfP_any (-1) W (by omega) (by omega)).mono fun e W' hg => hg.got h
  have HZ := Lib.hid (And.intro z1 z2)
  clear hT z1 z2
  go_enter Tryz.func6, Tryz.ntmps6
  go_wp2_with fail
  refine (HO1.out w w (Below.refl _ _)).mono ?_
  rintro e w1 ⟨s1, a1, l1, c1, b1, k1, e1, rfl, HB1, HV1⟩
  go_wp2_with fail
  refine (HO2.out w1 w1 (Below.refl _ _)).mono ?_
  rintro e w2 ⟨s2, a2, l2, c2, b2, k2, e2, rfl, HB2, HV2⟩
  have ha := (Below.refl w2.heap.size w2).alloc (Nat.le_refl _) (.cells #[.bool s1, .slice a1 l1 c1, .slice b1 k1 e1, .bool s2, .slice a2 l2 c2, .slice b2 k2 e2] 32)
  have HVX := Lib.hid ((HV1.out.kept HB2.out).kept ha)
  have HVY := Lib.hid (HV2.out.kept ha)
  have hbw := HB1.out.trans (HB2.out.mono HB1.out.size)
  have HBL := Lib.hid (hbw.trans (ha.mono hbw.size))
  have HK : Hid (∀ W, Below (w2.alloc (.cells #[.bool s1, .slice a1 l1 c1, .slice b1 k1 e1, .bool s2, .slice a2 l2 c2, .slice b2 k2 e2] 32)).heap.size (w2.alloc (.cells #[.bool s1, .slice a1 l1 c1, .slice b1 k1 e1, .bool s2, .slice a2 l2 c2, .slice b2 k2 e2] 32)) W → (W.cell? ⟨w2.heap.size, 0, none⟩ = some (.bool s1) ∧ W.cell? ⟨w2.heap.size, 1, none⟩ = some (.slice a1 l1 c1) ∧ W.cell? ⟨w2.heap.size, 2, none⟩ = some (.slice b1 k1 e1) ∧ W.cell? ⟨w2.heap.size, 3, none⟩ = some (.bool s2) ∧ W.cell? ⟨w2.heap.size, 4, none⟩ = some (.slice a2 l2 c2) ∧ W.cell? ⟨w2.heap.size, 5, none⟩ = some (.slice b2 k2 e2))) := Lib.hid fun W h => by
    obtain ⟨f0, f1, f2, f3, f4, f5, _⟩ := cells6 (stay (heap_alloc_new w2 _) h)
    exact ⟨f0, f1, f2, f3, f4, f5⟩
  clear ha hbw HB1 HB2 HV1 HV2
  go_wp2_with fail
  generalize hW3 : w2.alloc (.cells #[.bool s1, .slice a1 l1 c1, .slice b1 k1 e1, .bool s2, .slice a2 l2 c2, .slice b2 k2 e2] 32) = W3 at *
  have HW3 := Lib.hid hW3
  clear hW3
  have HOD : Hid (∀ W z0 z1 z2 z3 z4 z5 z6, Below W3.heap.size W3 W → VQ (qI 1) (z0, (z1, z2, z3), (z4, z5, z6)) W → Calls Tryz.prog 32 #[.agg #[.bool z0, .slice z1 z2 z3, .slice z4 z5 z6]] W (GotQQ W3 (qI 1) 0)) := Lib.hid fun W z0 z1 z2 z3 z4 z5 z6 h hv => DelOf hv HZ.out.1 h
  have HCM : Hid (∀ W z0 z1 z2 z3 z4 z5 z6 u0 u1 u2 u3 u4 u5 u6, Below W3.heap.size W3 W → VQ (qI 1) (z0, (z1, z2, z3), (z4, z5, z6)) W → VQ 0 (u0, (u1, u2, u3), (u4, u5, u6)) W → Calls Tryz.prog 31 #[.agg #[.bool s1, .slice a1 l1 c1, .slice b1 k1 e1, .bool s2, .slice a2 l2 c2, .slice b2 k2 e2], .agg #[.bool z0, .slice z1 z2 z3, .slice z4 z5 z6, .bool u0, .slice u1 u2 u3, .slice u4 u5 u6]] W (GotV W3 (.int .i64 (-1)))) := Lib.hid fun W z0 z1 z2 z3 z4 z5 z6 u0 u1 u2 u3 u4 u5 u6 h hv hu =>
    CmpPP (HVX.out.kept h) (HVY.out.kept h) hv hu HZ.out.1 HZ.out.2 HZ.out.1 (by rw [szQ_zero]; omega) h spk_cmp
  have HTX : Hid (∀ W, Below W3.heap.size W3 W → Calls Tryz.prog 33 #[.agg #[.bool s1, .slice a1 l1 c1, .slice b1 k1 e1, .bool s2, .slice a2 l2 c2, .slice b2 k2 e2]] W (GotV W3 (.string ⟨#[49, 45, 49, 100]⟩))) := Lib.hid fun W h => TextPP (HVX.out.kept h) (HVY.out.kept h) HZ.out.1 HZ.out.2 h spk_text
  have G0 := Lib.hid (below_drew W3)
  refine wp_region_held_drew (S := (fun w' => w'.cell? ⟨w2.heap.size, 0, none⟩ = some (.bool s1) ∧ w'.cell? ⟨w2.heap.size, 1, none⟩ = some (.slice a1 l1 c1) ∧ w'.cell? ⟨w2.heap.size, 2, none⟩ = some (.slice b1 k1 e1) ∧ w'.cell? ⟨w2.heap.size, 3, none⟩ = some (.bool s2) ∧ w'.cell? ⟨w2.heap.size, 4, none⟩ = some (.slice a2 l2 c2) ∧ w'.cell? ⟨w2.heap.size, 5, none⟩ = some (.slice b2 k2 e2))) (by kernel_rfl) ?_ (fun hHeld => ?_)
  · exact HK.out _ G0.out
  refine wpAnyH_take (i := 0) (v := ?_) (by rfl) (by kernel_rfl) (by kernel_rfl) (by kernel_rfl) (by exact fun _ _ _ h => h) (Or.inl ⟨by rfl, ?_⟩) hHeld ?_
  rotate_left 1
  · intro w' hSw
    go_simp
    try with_reducible rfl
  try simp only [Act.put, List.setIfInBounds_toArray, List.set_cons_zero, List.set_cons_succ, List.getElem_toArray, List.getElem_cons_zero, List.getElem_cons_succ]
  refine wpAnyH_ready (rs := [1]) (by kernel_rfl) (by simp) ?_
  refine AllReadyH.cons (by rfl) (fun K hK => ?_) AllReadyH.nil
  go_simp
  with_reducible refine (HO1.out W3 _ G0.out).mono ?_
  rintro e u1 ⟨z0, z1, z2, z3, z4, z5, z6, rfl, G1, V1⟩
  clear hHeld
  refine hK.out _ _ ?_ (fun hHeld => ?_)
  · exact HK.out _ G1.out
  clear hK K
  try simp only [Act.put, List.setIfInBounds_toArray, List.set_cons_zero, List.set_cons_succ, List.getElem_toArray, List.getElem_cons_zero, List.getElem_cons_succ]
  refine wpAnyH_ready (rs := [2]) (by kernel_rfl) (by simp) ?_
  refine AllReadyH.cons (by rfl) (fun K hK => ?_) AllReadyH.nil
  go_simp
  with_reducible refine (HOD.out _ _ _ _ _ _ _ _ G1.out V1.out).mono ?_
  rintro e u2 ⟨y0, y1, y2, y3, y4, y5, y6, x0, x1, x2, x3, x4, x5, x6, rfl, G2, V2, U2⟩
  clear hHeld
  refine hK.out _ _ ?_ (fun hHeld => ?_)
  · exact HK.out _ G2.out
  clear hK K
  try simp only [Act.put, List.setIfInBounds_toArray, List.set_cons_zero, List.set_cons_succ, List.getElem_toArray, List.getElem_cons_zero, List.getElem_cons_succ]
  refine wpAnyH_ready (rs := [3]) (by kernel_rfl) (by simp) ?_
  refine AllReadyH.cons (by rfl) (fun K hK => ?_) AllReadyH.nil
  go_simp
  with_reducible refine (HCM.out _ _ _ _ _ _ _ _ _ _ _ _ _ _ _ G2.out V2.out U2.out).mono ?_
  rintro e u3 ⟨rfl, G3⟩
  clear hHeld
  refine hK.out _ _ ?_ (fun hHeld => ?_)
  · exact HK.out _ G3.out
  clear hK K
  try simp only [Act.put, List.setIfInBounds_toArray, List.set_cons_zero, List.set_cons_succ, List.getElem_toArray, List.getElem_cons_zero, List.getElem_cons_succ]
  refine wpAnyH_take (i := 4) (v := ?_) (by rfl) (by kernel_rfl) (by kernel_rfl) (by kernel_rfl) (by exact fun _ _ _ h => h) (Or.inl ⟨by rfl, ?_⟩) hHeld ?_
  rotate_left 1
  · intro w' hSw
    go_simp
    try with_reducible rfl
  try simp only [Act.put, List.setIfInBounds_toArray, List.set_cons_zero, List.set_cons_succ, List.getElem_toArray, List.getElem_cons_zero, List.getElem_cons_succ]
  refine wpAnyH_take (i := 5) (v := ?_) (by rfl) (by kernel_rfl) (by kernel_rfl) (by kernel_rfl) (by exact fun _ _ _ h => h) (Or.inl ⟨by rfl, ?_⟩) hHeld ?_
  rotate_left 1
  · intro w' hSw
    go_simp
    try with_reducible rfl
  try simp only [Act.put, List.setIfInBounds_toArray, List.set_cons_zero, List.set_cons_succ, List.getElem_toArray, List.getElem_cons_zero, List.getElem_cons_succ]
  refine wpAnyH_take (i := 6) (v := ?_) (by rfl) (by kernel_rfl) (by kernel_rfl) (by kernel_rfl) (by exact fun _ _ _ h => h) (Or.inl ⟨by rfl, ?_⟩) hHeld ?_
  rotate_left 1
  · intro w' hSw
    go_simp
    try with_reducible rfl
  try simp only [Act.put, List.setIfInBounds_toArray, List.set_cons_zero, List.set_cons_succ, List.getElem_toArray, List.getElem_cons_zero, List.getElem_cons_succ]
  refine wpAnyH_ready (rs := [7]) (by kernel_rfl) (by simp) ?_
  refine AllReadyH.cons (by rfl) (fun K hK => ?_) AllReadyH.nil
  go_simp
  with_reducible refine (HTX.out _ G3.out).mono ?_
  rintro e u4 ⟨rfl, G4⟩
  clear hHeld
  refine hK.out _ _ ?_ (fun hHeld => ?_)
  · exact HK.out _ G4.out
  clear hK K
  try simp only [Act.put, List.setIfInBounds_toArray, List.set_cons_zero, List.set_cons_succ, List.getElem_toArray, List.getElem_cons_zero, List.getElem_cons_succ]
  refine wpAnyH_take (i := 8) (v := ?_) (by rfl) (by kernel_rfl) (by kernel_rfl) (by kernel_rfl) (by exact fun _ _ _ h => h) (Or.inl ⟨by rfl, ?_⟩) hHeld ?_
  rotate_left 1
  · intro w' hSw
    go_simp
    try with_reducible rfl
  try simp only [Act.put, List.setIfInBounds_toArray, List.set_cons_zero, List.set_cons_succ, List.getElem_toArray, List.getElem_cons_zero, List.getElem_cons_succ]
  refine wpAnyH_take (i := 9) (v := ?_) (by rfl) (by kernel_rfl) (by kernel_rfl) (by kernel_rfl) (by exact fun _ _ _ h => h) (Or.inl ⟨by rfl, ?_⟩) hHeld ?_
  rotate_left 1
  · intro w' hSw
    go_simp
    try with_reducible rfl
  try simp only [Act.put, List.setIfInBounds_toArray, List.set_cons_zero, List.set_cons_succ, List.getElem_toArray, List.getElem_cons_zero, List.getElem_cons_succ]
  refine wpAnyH_take (i := 10) (v := ?_) (by rfl) (by kernel_rfl) (by kernel_rfl) (by kernel_rfl) (by exact fun _ _ _ h => h) (Or.inl ⟨by rfl, ?_⟩) hHeld ?_
  rotate_left 1
  · intro w' hSw
    go_simp
    try with_reducible rfl
  try simp only [Act.put, List.setIfInBounds_toArray, List.set_cons_zero, List.set_cons_succ, List.getElem_toArray, List.getElem_cons_zero, List.getElem_cons_succ]
  refine wpAnyH_done (by kernel_rfl) ?_ _
  clear hHeld
  have HE := Lib.hid (HBL.out.trans (G4.out.mono HBL.out.size))
  clear G0 G1 G2 G3 G4 V1 V2 U2
  go_wp2_with fail
  go_ret
  exact ⟨rfl, HE.out⟩
end Go.Proofs.YtknackfmepkiaaaGreatDoor


/-
  DeltaSmall: what its walk needs.
-/
set_option linter.unusedVariables false
set_option linter.unusedSimpArgs false
namespace Go.Proofs.YtknackfmepkiaaaGreatDoor
open Go.RowKit Rep


theorem grown12 {W W' : World} {g r : Nat} {v0 v1 v2 v3 v4 v5 v6 v7 v8 v9 v10 v11 : Value} (hg : W.grownBy W' (some g)) (hne : r ≠ g) (h : W.cell? ⟨r, 0, none⟩ = some v0 ∧ W.cell? ⟨r, 1, none⟩ = some v1 ∧ W.cell? ⟨r, 2, none⟩ = some v2 ∧ W.cell? ⟨r, 3, none⟩ = some v3 ∧ W.cell? ⟨r, 4, none⟩ = some v4 ∧ W.cell? ⟨r, 5, none⟩ = some v5 ∧ W.cell? ⟨r, 6, none⟩ = some v6 ∧ W.cell? ⟨r, 7, none⟩ = some v7 ∧ W.cell? ⟨r, 8, none⟩ = some v8 ∧ W.cell? ⟨r, 9, none⟩ = some v9 ∧ W.cell? ⟨r, 10, none⟩ = some v10 ∧ W.cell? ⟨r, 11, none⟩ = some v11) : W'.cell? ⟨r, 0, none⟩ = some v0 ∧ W'.cell? ⟨r, 1, none⟩ = some v1 ∧ W'.cell? ⟨r, 2, none⟩ = some v2 ∧ W'.cell? ⟨r, 3, none⟩ = some v3 ∧ W'.cell? ⟨r, 4, none⟩ = some v4 ∧ W'.cell? ⟨r, 5, none⟩ = some v5 ∧ W'.cell? ⟨r, 6, none⟩ = some v6 ∧ W'.cell? ⟨r, 7, none⟩ = some v7 ∧ W'.cell? ⟨r, 8, none⟩ = some v8 ∧ W'.cell? ⟨r, 9, none⟩ = some v9 ∧ W'.cell? ⟨r, 10, none⟩ = some v10 ∧ W'.cell? ⟨r, 11, none⟩ = some v11 := by
  obtain ⟨h0, h1, h2, h3, h4, h5, h6, h7, h8, h9, h10, h11⟩ := h
  have hn : some r ≠ some g := by simpa using hne
  exact ⟨hg.cell h0 hn, hg.cell h1 hn, hg.cell h2 hn, hg.cell h3 hn, hg.cell h4 hn, hg.cell h5 hn, hg.cell h6 hn, hg.cell h7 hn, hg.cell h8 hn, hg.cell h9 hn, hg.cell h10 hn, hg.cell h11 hn⟩
set_option maxRecDepth 100000 in
theorem info_two : (Tryz.prog.info? 42).map (fun i => (i.zero, i.size, i.bytes)) = some (some (.agg #[.bool false, .slice none 0 0, .slice none 0 0, .bool false, .slice none 0 0, .slice none 0 0, .bool false, .slice none 0 0, .slice none 0 0, .bool false, .slice none 0 0, .slice none 0 0]), 12, 224) := by kernel_rfl
theorem good_two : ∀ u ∈ (Value.cells (.agg #[.bool false, .slice none 0 0, .slice none 0 0, .bool false, .slice none 0 0, .slice none 0 0, .bool false, .slice none 0 0, .slice none 0 0, .bool false, .slice none 0 0, .slice none 0 0])).toList, GoodV u := by
  intro u hu
  simp [Value.cells] at hu
  rcases hu with hu | hu | hu | hu | hu | hu | hu | hu <;> first | exact .inl ⟨_, hu⟩ | exact .inr ⟨_, _, _, hu⟩
theorem good_flat3 (v : RawR) : ∀ u ∈ flat3 v, GoodV u := by
  intro u hu
  simp [flat3] at hu
  rcases hu with rfl | rfl | rfl
  · exact .inl ⟨_, rfl⟩
  · exact .inr ⟨_, _, _, rfl⟩
  · exact .inr ⟨_, _, _, rfl⟩
theorem good_flat (v : R4) : ∀ u ∈ flatR v, GoodV u := by
  intro u hu
  simp only [flatR, List.mem_append] at hu
  rcases hu with hu | hu | hu | hu <;> exact good_flat3 _ u hu
theorem good_one {u : Value} (h : GoodV u) : u.oneCell' = true := by
  rcases h with ⟨_, rfl⟩ | ⟨_, _, _, rfl⟩ <;> rfl
theorem news_cells (W : World) (v : R4) (ty : TypeId) : ∀ j u, (flatR v)[j]? = some u → (W.alloc (.cells (flatR v).toArray ty)).cell? ((⟨W.heap.size, 0, none⟩ : Addr).add j) = some u := by
  intro j u hu
  rw [Go.WideShapes.add_plain, Nat.zero_add]
  simp only [World.cell?, heap_alloc_new]
  simpa using hu
theorem cmp_le {x y : Rat} (h : x ≤ y) : cmpQ x y ≤ 0 := by
  rcases cmpQ_vals x y with e | e | e
  · rw [e]; decide
  · rw [e]; decide
  · exact absurd (cmp_gt.1 e) (Rat.not_lt.2 h)
theorem and255 (n : Int) : ∃ m : Nat, m ≤ 255 ∧ bits .and .i64 n 255 = (m : Int) := by
  have hm : (BitVec.ofInt 64 n &&& BitVec.ofInt 64 255).toNat ≤ 255 := by
    rw [BitVec.toNat_and]
    exact Nat.le_trans Nat.and_le_right (by decide)
  refine ⟨(BitVec.ofInt 64 n &&& BitVec.ofInt 64 255).toNat, hm, ?_⟩
  show IntKind.i64.wrap (((BitVec.ofInt 64 n &&& BitVec.ofInt 64 255).toNat : Nat) : Int) = _
  rw [IntWalk.i64_in _ (by omega)]
theorem qI_sz {m : Nat} (h : m ≤ 255) : szQ (qI ((m : Int) + 1)) ≤ 1 := by
  obtain ⟨a, b, c⟩ := qI_parts ((m : Int) + 1)
  have e : ((m : Int) + 1).natAbs = m + 1 := by omega
  rw [e] at b
  have h1 : (L (m + 1)).length ≤ 1 := by rw [L_len]; omega
  have h0 : (L (denN 1)).length = 0 := by decide
  unfold szQ
  rw [b, c]
  omega
theorem qI_ge (m : Nat) : 1 ≤ qI ((m : Int) + 1) := by
  obtain ⟨a, b, c⟩ := qI_parts ((m : Int) + 1)
  have e := sgn_ng (qI ((m : Int) + 1))
  rw [a, b, decide_eq_false (by omega)] at e
  rw [Rat.le_iff, ← e, c]
  simp [sgn]
  omega
theorem room_letters {b : Nat} {w : World} {g : Nat} {vs0 : List R4} {ps : List PQ} (h : DL w g vs0 ps) (hb : Bench w b 1000 false) (k : Nat) (hk : k < ps.length) : ∃ xxs xxa xxl xxc xxb xxk xxe uus uua uul uuc uub uuk uue yys yya yyl yyc yyb yyk yye vvs vva vvl vvc vvb vvk vve, (∀ W, Room b w W → (W.cell? ⟨g, k * 12, none⟩ = some (.bool xxs) ∧ W.cell? ⟨g, k * 12 + 1, none⟩ = some (.slice xxa xxl xxc) ∧ W.cell? ⟨g, k * 12 + 2, none⟩ = some (.slice xxb xxk xxe) ∧ W.cell? ⟨g, k * 12 + 3, none⟩ = some (.bool uus) ∧ W.cell? ⟨g, k * 12 + 4, none⟩ = some (.slice uua uul uuc) ∧ W.cell? ⟨g, k * 12 + 5, none⟩ = some (.slice uub uuk uue) ∧ W.cell? ⟨g, k * 12 + 6, none⟩ = some (.bool yys) ∧ W.cell? ⟨g, k * 12 + 7, none⟩ = some (.slice yya yyl yyc) ∧ W.cell? ⟨g, k * 12 + 8, none⟩ = some (.slice yyb yyk yye) ∧ W.cell? ⟨g, k * 12 + 9, none⟩ = some (.bool vvs) ∧ W.cell? ⟨g, k * 12 + 10, none⟩ = some (.slice vva vvl vvc) ∧ W.cell? ⟨g, k * 12 + 11, none⟩ = some (.slice vvb vvk vve))) ∧ (∀ W, Room b w W → (VD ps[k].a (xxs, (xxa, xxl, xxc), (xxb, xxk, xxe)) W ∧ VD ps[k].b (uus, (uua, uul, uuc), (uub, uuk, uue)) W ∧ VD ps[k].e (yys, (yya, yyl, yyc), (yyb, yyk, yye)) W ∧ VD ps[k].f (vvs, (vva, vvl, vvc), (vvb, vvk, vve)) W)) := by
  have hk2 : k < vs0.length := by rw [h.len]; exact hk
  have hv := List.getElem?_eq_getElem hk2
  generalize vs0[k] = v at hv
  obtain ⟨⟨xxs, ⟨xxa, xxl, xxc⟩, ⟨xxb, xxk, xxe⟩⟩, ⟨uus, ⟨uua, uul, uuc⟩, ⟨uub, uuk, uue⟩⟩, ⟨yys, ⟨yya, yyl, yyc⟩, ⟨yyb, yyk, yye⟩⟩, ⟨vvs, ⟨vva, vvl, vvc⟩, ⟨vvb, vvk, vve⟩⟩⟩ := v
  refine ⟨_, _, _, _, _, _, _, _, _, _, _, _, _, _, _, _, _, _, _, _, _, _, _, _, _, _, _, _, fun W hr => (h.room hb hr).at hv, fun W hr => ?_⟩
  have := (h.room hb hr).vals k _ _ hv (List.getElem?_eq_getElem hk)
  exact ⟨this.a, this.b, this.e, this.f⟩
end Go.Proofs.YtknackfmepkiaaaGreatDoor

