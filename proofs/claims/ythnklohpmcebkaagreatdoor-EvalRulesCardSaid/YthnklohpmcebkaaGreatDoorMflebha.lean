/- By program out of: EvIn, EvChoice. -/
import Derived.Test.YthnklohpmcebkaaGreatDoorMgdnpdg
import Derived.Test.YthnklohpmcebkaaGreatDoorMbknfnd
set_option linter.unusedVariables false
set_option linter.unusedSimpArgs false
namespace Go.Proofs.YthnklohpmcebkaaGreatDoor
open Go.RowKit Tm Rep Ev
theorem vat_mem {vs : List Vl} {k : Nat} (hk : k < vs.length) : vat vs (k : Int) ∈ vs := by
  unfold vat
  rw [List.getD_eq_getElem?_getD, show ((k : Int)).toNat = k by omega, List.getElem?_eq_getElem hk]
  exact List.getElem_mem hk
section
variable {W : World} {E : Env} {vs : List Vl} {rs : List RV} {ka : Option Addr} {kids : List Int} {kc : Nat}
def OrdA (W : World) (fo : FuncId) (o : Vl → Vl → Bool) : Prop :=
  (∀ args w, (callFunc fo args).run Tryz.prog w = .ok (.enter fo args) w) ∧ ∀ W', Below W.heap.size W W' → ∀ d1 d2 v1 v2, RV.ok d1 v1 W' → RV.ok d2 v2 W' → szQ v1.2 ≤ 100 → szQ v2.2 ≤ 100 → Calls Tryz.prog fo #[.agg #[.bool d1.t, .bool d1.s, .slice d1.z1 d1.m1 d1.k1, .slice d1.z2 d1.m2 d1.k2], .agg #[.bool d2.t, .bool d2.s, .slice d2.z1 d2.m1 d2.k1, .slice d2.z2 d2.m2 d2.k2]] W' (GivesV (.bool (o v1 v2)) W')
theorem OrdA.kept {W W' : World} {fo : FuncId} {o : Vl → Vl → Bool} (h : OrdA W fo o) (hb : Below W.heap.size W W') : OrdA W' fo o := ⟨h.1, fun W2 h2 => h.2 W2 (hb.trans (h2.mono hb.size))⟩
set_option maxRecDepth 100000 in
set_option maxHeartbeats 8000000 in
theorem inOrderA (h : RkAt W E vs rs) (hk : KAt W ka kids kc) (h2 : 2 ≤ kids.length) (hin : ∀ x ∈ kids, 0 ≤ x ∧ x < (vs.length : Int)) (hs : ∀ v ∈ vs, szQ v.2 ≤ 100) {fo : FuncId} {o : Vl → Vl → Bool} (ho : OrdA W fo o) :
    Calls Tryz.prog 85 #[.pointer (some ⟨E.R, 0, none⟩), .slice ka kids.length kc, .func (.func fo) #[] #[]] W (GivesV (.bool (inOrder o vs kids)) W) := by
  have HKK := Lib.hid hk
  have HRK := Lib.hid h
  have HO := Lib.hid ho
  have HIN := Lib.hid (And.intro hin hs)
  obtain ⟨n, hn⟩ : ∃ n, kids.length = n := ⟨_, rfl⟩
  have HN := Lib.hid hn
  have hcap := hk.cap
  have hcp := hk.capped
  have hn6 : n ≤ 1000000 := by have := hk.few; omega
  obtain ⟨nv, hnv⟩ : ∃ nv, vs.length = nv := ⟨_, rfl⟩
  have HNV := Lib.hid hnv
  obtain ⟨bb, off, rfl⟩ := hk.some10 (fun e => by rw [e] at h2; simp at h2)
  have HST : Hid ((∀ k, k < n - 1 → pairOk o vs kids k = false → inOrder o vs kids = false) ∧ (∀ k, (List.range k).all (pairOk o vs kids) = true → pairOk o vs kids k = true → (List.range (k + 1)).all (pairOk o vs kids) = true)) := Lib.hid ⟨fun k hk hf => by unfold inOrder; exact all_range_stop (by rw [HN.out]; exact hk) hf, fun k h1 h2 => by rw [all_range_succ, h1, h2]; rfl⟩
  have HFIN : Hid ((List.range (n - 1)).all (pairOk o vs kids) = true → inOrder o vs kids = true) := Lib.hid (fun hh => by unfold inOrder; rw [HN.out]; exact hh)
  have HPO : Hid (∀ k, pairOk o vs kids k = o (vat vs (kid kids k)) (vat vs (kid kids (k + 1)))) := Lib.hid (fun _ => rfl)
  generalize inOrder o vs kids = res at *
  obtain ⟨po, hpo⟩ : ∃ po, pairOk o vs kids = po := ⟨_, rfl⟩
  rw [hpo] at HST HPO HFIN
  rw [hn] at h2 hcap ⊢
  have f2 : (1 : Int) ≤ (n : Int) := by omega
  have f3 : (1 : Int) ≤ (kc : Int) := by omega
  have f4 : ¬ kc - 1 = 0 := by omega
  clear h hk hn hnv ho hin hs hpo
  go_enter Tryz.func85, Tryz.ntmps85
  go_wp2_with fail
  go_loopw [12] (fun (iv : Value) (wr : World) => ∃ k : Nat, k ≤ n - 1 ∧ iv = .int .i64 (k : Int) ∧ Hid ((List.range k).all po = true) ∧ Hid (Below W.heap.size W wr)) (fun iv _ => n - (intOf iv).toNat)
  case atStart => exact ⟨0, Nat.zero_le _, rfl, Lib.hid rfl, Lib.hid (Below.refl _ _)⟩
  case round =>
    obtain ⟨k, hkn, rfl, HE, HB⟩ := hrel
    by_cases hlt : k < n - 1
    · have hget1 : kids[k]? = some (kids.getD k 0) := by rw [List.getD_eq_getElem?_getD, List.getElem?_eq_getElem (by rw [HN.out]; omega)]; rfl
      have hget2 : kids[k + 1]? = some (kids.getD (k + 1) 0) := by rw [List.getD_eq_getElem?_getD, List.getElem?_eq_getElem (by rw [HN.out]; omega)]; rfl
      have hq1 := kid_at hget1
      have hq2 := kid_at hget2
      have hr1 := HIN.out.1 _ (List.mem_of_getElem? hget1)
      have hr2 := HIN.out.1 _ (List.mem_of_getElem? hget2)
      obtain ⟨g1, o1, hg1, hc1⟩ := (HKK.out.kept HB.out).get hget1
      obtain ⟨g2, o2, hg2, hc2⟩ := (HKK.out.kept HB.out).get hget2
      simp only [Option.some.injEq, Addr.mk.injEq] at hg1 hg2
      obtain ⟨rfl, rfl, _⟩ := hg1
      obtain ⟨rfl, rfl, _⟩ := hg2
      have hrk := HRK.out.kept HB.out
      generalize kids.getD k 0 = x1 at *
      generalize kids.getD (k + 1) 0 = x2 at *
      obtain ⟨k1, d1, rfl, hk1, hd1, hok1, hrg1⟩ := hrk.get hr1
      obtain ⟨k2, d2, rfl, hk2, hd2, hok2, hrg2⟩ := hrk.get hr2
      have hsz1 := HIN.out.2 _ (vat_mem hk1)
      have hsz2 := HIN.out.2 _ (vat_mem hk2)
      obtain ⟨c0, _, _, _, c4, _⟩ := hrk.cells
      have hbd : Below W.heap.size W wr.drew := HB.out.drew
      have hdr : Below wr.heap.size wr wr.drew := (Below.refl wr.heap.size wr).drew
      have HC := Lib.hid (HO.out.2 wr.drew hbd d1 d2 _ _ (hok1.kept hdr) (hok2.kept hdr) hsz1 hsz2)
      obtain ⟨q, hq⟩ : ∃ q, o (vat vs (k1 : Int)) (vat vs (k2 : Int)) = q := ⟨_, rfl⟩
      have HQ : Hid (po k = q) := Lib.hid (by rw [HPO.out, hq1, hq2, hq])
      rw [hq] at HC
      rw [HNV.out] at hk1 hk2 c4
      have HX : Hid (wr.drew.cell? ⟨E.R, 4, none⟩ = some (.slice (some ⟨E.G, 0, none⟩) nv E.cap) ∧ wr.drew.cell? ⟨bb, off + k, none⟩ = some (.int .i64 (k1 : Int)) ∧ wr.drew.rangeAt E.G (k1 * 4) d1.cells ∧ wr.drew.rangeAt E.G (k2 * 4) d2.cells) := Lib.hid ⟨c4, hc1, hrg1, hrg2⟩
      have HBD := Lib.hid hbd
      have hen := HO.out.1
      have hki : (k : Int) < ((n - 1 : Nat) : Int) := by omega
      have hkn2 : (k : Int) < (n : Int) := by omega
      have hki1 : (k1 : Int) < (nv : Int) := by omega
      have hki2 : (k2 : Int) < (nv : Int) := by omega
      have hiw : wrap64 ((k : Int) + 1) = (k : Int) + 1 := IntWalk.wrap64_in _ (by omega)
      have hc2' : wr.cell? ⟨bb, off + 1 + k, none⟩ = some (.int .i64 (k2 : Int)) := by rw [show off + 1 + k = off + (k + 1) by omega]; exact hc2
      clear hget1 hget2 hq1 hq2 hr1 hr2 hd1 hd2 hok1 hok2 hrg1 hrg2 hsz1 hsz2 hq hbd hdr hc1 hc2 hrk c0 c4
      go_wp2_with fail
      refine wp_region_held_drew (S := (fun w' => w'.cell? ⟨E.R, 4, none⟩ = some (.slice (some ⟨E.G, 0, none⟩) nv E.cap) ∧ w'.cell? ⟨bb, off + k, none⟩ = some (.int .i64 (k1 : Int)) ∧ w'.rangeAt E.G (k1 * 4) d1.cells ∧ w'.rangeAt E.G (k2 * 4) d2.cells)) (by kernel_rfl) ?_ (fun hHeld => ?_)
      · exact HX.out
      refine wpAnyH_take (i := 0) (v := ?_) (by rfl) (by kernel_rfl) (by kernel_rfl) (by kernel_rfl) (by exact fun _ _ _ h => h) (Or.inl ⟨by rfl, ?_⟩) hHeld ?_
      rotate_left 1
      · intro w' hSw
        (try dsimp only at hSw)
        go_simp
        try with_reducible rfl
      try simp only [Act.put, List.setIfInBounds_toArray, List.set_cons_zero, List.set_cons_succ, List.getElem_toArray, List.getElem_cons_zero, List.getElem_cons_succ]
      refine wpAnyH_take (i := 1) (v := ?_) (by rfl) (by kernel_rfl) (by kernel_rfl) (by kernel_rfl) (by exact fun _ _ _ h => h) (Or.inl ⟨by rfl, ?_⟩) hHeld ?_
      rotate_left 1
      · intro w' hSw
        (try dsimp only at hSw)
        go_simp
        try with_reducible rfl
      try simp only [Act.put, List.setIfInBounds_toArray, List.set_cons_zero, List.set_cons_succ, List.getElem_toArray, List.getElem_cons_zero, List.getElem_cons_succ]
      refine wpAnyH_take (i := 2) (v := ?_) (by rfl) (by kernel_rfl) (by kernel_rfl) (by kernel_rfl) (by exact fun _ _ _ h => h) (Or.inl ⟨by rfl, ?_⟩) hHeld ?_
      rotate_left 1
      · intro w' hSw
        (try dsimp only at hSw)
        go_simp
        try with_reducible rfl
      try simp only [Act.put, List.setIfInBounds_toArray, List.set_cons_zero, List.set_cons_succ, List.getElem_toArray, List.getElem_cons_zero, List.getElem_cons_succ]
      refine wpAnyH_take (i := 3) (v := ?_) (by rfl) (by kernel_rfl) (by kernel_rfl) (by kernel_rfl) (by exact fun _ _ _ h => h) (Or.inl ⟨by rfl, ?_⟩) hHeld ?_
      rotate_left 1
      · intro w' hSw
        (try dsimp only at hSw)
        go_simp
        try with_reducible rfl
      try simp only [Act.put, List.setIfInBounds_toArray, List.set_cons_zero, List.set_cons_succ, List.getElem_toArray, List.getElem_cons_zero, List.getElem_cons_succ]
      refine wpAnyH_take (i := 4) (v := .slice (some ⟨E.G, 0, none⟩) nv E.cap) (by rfl) (by kernel_rfl) (by kernel_rfl) (by kernel_rfl) (by exact fun _ _ _ h => h) (Or.inl ⟨by rfl, ?_⟩) hHeld ?_
      · intro w' hSw
        obtain ⟨s1, s2, s3, s4⟩ := hSw
        go_simp
      try simp only [Act.put, List.setIfInBounds_toArray, List.set_cons_zero, List.set_cons_succ, List.getElem_toArray, List.getElem_cons_zero, List.getElem_cons_succ]
      refine wpAnyH_take (i := 5) (v := ?_) (by rfl) (by kernel_rfl) (by kernel_rfl) (by kernel_rfl) (by exact fun _ _ _ h => h) (Or.inl ⟨by rfl, ?_⟩) hHeld ?_
      rotate_left 1
      · intro w' hSw
        (try dsimp only at hSw)
        go_simp
        try with_reducible rfl
      try simp only [Act.put, List.setIfInBounds_toArray, List.set_cons_zero, List.set_cons_succ, List.getElem_toArray, List.getElem_cons_zero, List.getElem_cons_succ]
      refine wpAnyH_take (i := 6) (v := ?_) (by rfl) (by kernel_rfl) (by kernel_rfl) (by kernel_rfl) (by exact fun _ _ _ h => h) (Or.inl ⟨by rfl, ?_⟩) hHeld ?_
      rotate_left 1
      · intro w' hSw
        (try dsimp only at hSw)
        go_simp
        try with_reducible rfl
      try simp only [Act.put, List.setIfInBounds_toArray, List.set_cons_zero, List.set_cons_succ, List.getElem_toArray, List.getElem_cons_zero, List.getElem_cons_succ]
      refine wpAnyH_take (i := 7) (v := ?_) (by rfl) (by kernel_rfl) (by kernel_rfl) (by kernel_rfl) (by exact fun _ _ _ h => h) (Or.inl ⟨by rfl, ?_⟩) hHeld ?_
      rotate_left 1
      · intro w' hSw
        (try dsimp only at hSw)
        go_simp
        try with_reducible rfl
      try simp only [Act.put, List.setIfInBounds_toArray, List.set_cons_zero, List.set_cons_succ, List.getElem_toArray, List.getElem_cons_zero, List.getElem_cons_succ]
      refine wpAnyH_take (i := 8) (v := .int .i64 (k1 : Int)) (by rfl) (by kernel_rfl) (by kernel_rfl) (by kernel_rfl) (by exact fun _ _ _ h => h) (Or.inl ⟨by rfl, ?_⟩) hHeld ?_
      · intro w' hSw
        obtain ⟨s1, s2, s3, s4⟩ := hSw
        go_simp
      try simp only [Act.put, List.setIfInBounds_toArray, List.set_cons_zero, List.set_cons_succ, List.getElem_toArray, List.getElem_cons_zero, List.getElem_cons_succ]
      refine wpAnyH_take (i := 9) (v := ?_) (by rfl) (by kernel_rfl) (by kernel_rfl) (by kernel_rfl) (by exact fun _ _ _ h => h) (Or.inl ⟨by rfl, ?_⟩) hHeld ?_
      rotate_left 1
      · intro w' hSw
        (try dsimp only at hSw)
        go_simp
        try with_reducible rfl
      try simp only [Act.put, List.setIfInBounds_toArray, List.set_cons_zero, List.set_cons_succ, List.getElem_toArray, List.getElem_cons_zero, List.getElem_cons_succ]
      refine wpAnyH_take (i := 10) (v := .agg #[.bool d1.t, .bool d1.s, .slice d1.z1 d1.m1 d1.k1, .slice d1.z2 d1.m2 d1.k2]) (by rfl) (by kernel_rfl) (by kernel_rfl) (by kernel_rfl) (by exact fun _ _ _ h => h) (Or.inl ⟨by rfl, ?_⟩) hHeld ?_
      · intro w' hSw
        exact run_load_op 52 (.tmp 26) rfl E.G (k1 * 4) rfl d1.cells _ hSw.2.2.1 Tryz.underlying52 rfl (by rw [size_value]; rfl)
      try simp only [Act.put, List.setIfInBounds_toArray, List.set_cons_zero, List.set_cons_succ, List.getElem_toArray, List.getElem_cons_zero, List.getElem_cons_succ]
      refine wpAnyH_take (i := 11) (v := ?_) (by rfl) (by kernel_rfl) (by kernel_rfl) (by kernel_rfl) (by exact fun _ _ _ h => h) (Or.inl ⟨by rfl, ?_⟩) hHeld ?_
      rotate_left 1
      · intro w' hSw
        (try dsimp only at hSw)
        go_simp
        try with_reducible rfl
      try simp only [Act.put, List.setIfInBounds_toArray, List.set_cons_zero, List.set_cons_succ, List.getElem_toArray, List.getElem_cons_zero, List.getElem_cons_succ]
      refine wpAnyH_take (i := 12) (v := ?_) (by rfl) (by kernel_rfl) (by kernel_rfl) (by kernel_rfl) (by exact fun _ _ _ h => h) (Or.inl ⟨by rfl, ?_⟩) hHeld ?_
      rotate_left 1
      · intro w' hSw
        (try dsimp only at hSw)
        go_simp
        try with_reducible rfl
      try simp only [Act.put, List.setIfInBounds_toArray, List.set_cons_zero, List.set_cons_succ, List.getElem_toArray, List.getElem_cons_zero, List.getElem_cons_succ]
      refine wpAnyH_take (i := 13) (v := ?_) (by rfl) (by kernel_rfl) (by kernel_rfl) (by kernel_rfl) (by exact fun _ _ _ h => h) (Or.inl ⟨by rfl, ?_⟩) hHeld ?_
      rotate_left 1
      · intro w' hSw
        (try dsimp only at hSw)
        go_simp
        try with_reducible rfl
      try simp only [Act.put, List.setIfInBounds_toArray, List.set_cons_zero, List.set_cons_succ, List.getElem_toArray, List.getElem_cons_zero, List.getElem_cons_succ]
      refine wpAnyH_take (i := 14) (v := .slice (some ⟨E.G, 0, none⟩) nv E.cap) (by rfl) (by kernel_rfl) (by kernel_rfl) (by kernel_rfl) (by exact fun _ _ _ h => h) (Or.inl ⟨by rfl, ?_⟩) hHeld ?_
      · intro w' hSw
        obtain ⟨s1, s2, s3, s4⟩ := hSw
        go_simp
      try simp only [Act.put, List.setIfInBounds_toArray, List.set_cons_zero, List.set_cons_succ, List.getElem_toArray, List.getElem_cons_zero, List.getElem_cons_succ]
      refine wpAnyH_take (i := 15) (v := ?_) (by rfl) (by kernel_rfl) (by kernel_rfl) (by kernel_rfl) (by exact fun _ _ _ h => h) (Or.inl ⟨by rfl, ?_⟩) hHeld ?_
      rotate_left 1
      · intro w' hSw
        (try dsimp only at hSw)
        go_simp
        try with_reducible rfl
      try simp only [Act.put, List.setIfInBounds_toArray, List.set_cons_zero, List.set_cons_succ, List.getElem_toArray, List.getElem_cons_zero, List.getElem_cons_succ]
      refine wpAnyH_take (i := 16) (v := ?_) (by rfl) (by kernel_rfl) (by kernel_rfl) (by kernel_rfl) (by exact fun _ _ _ h => h) (Or.inl ⟨by rfl, ?_⟩) hHeld ?_
      rotate_left 1
      · intro w' hSw
        (try dsimp only at hSw)
        go_simp
        try with_reducible rfl
      try simp only [Act.put, List.setIfInBounds_toArray, List.set_cons_zero, List.set_cons_succ, List.getElem_toArray, List.getElem_cons_zero, List.getElem_cons_succ]
      refine wpAnyH_take (i := 17) (v := .agg #[.bool d2.t, .bool d2.s, .slice d2.z1 d2.m1 d2.k1, .slice d2.z2 d2.m2 d2.k2]) (by rfl) (by kernel_rfl) (by kernel_rfl) (by kernel_rfl) (by exact fun _ _ _ h => h) (Or.inl ⟨by rfl, ?_⟩) hHeld ?_
      · intro w' hSw
        exact run_load_op 52 (.tmp 33) rfl E.G (k2 * 4) rfl d2.cells _ hSw.2.2.2 Tryz.underlying52 rfl (by rw [size_value]; rfl)
      try simp only [Act.put, List.setIfInBounds_toArray, List.set_cons_zero, List.set_cons_succ, List.getElem_toArray, List.getElem_cons_zero, List.getElem_cons_succ]
      refine wpAnyH_ready (rs := [18]) (by kernel_rfl) (by simp) ?_
      refine AllReadyH.cons (by rfl) (fun K hK => ?_) AllReadyH.nil
      go_simp
      refine HC.out.mono ?_
      rintro e w5 ⟨rfl, hb5⟩
      have HB5 := Lib.hid (HBD.out.trans (hb5.mono HBD.out.size))
      refine hK.out _ _ ?_ (fun hHeld => ?_)
      · exact ⟨(hb5.cell (p := ⟨E.R, 4, none⟩) (World.block_lt_of_cell? _ _ HX.out.1)).trans HX.out.1, (hb5.cell (p := ⟨bb, off + k, none⟩) (World.block_lt_of_cell? _ _ HX.out.2.1)).trans HX.out.2.1, rangeAt_kept HX.out.2.2.1 hb5 (rangeAt_lt HX.out.2.2.1 (by simp [RV.cells])), rangeAt_kept HX.out.2.2.2 hb5 (rangeAt_lt HX.out.2.2.2 (by simp [RV.cells]))⟩
      clear hK K
      try simp only [Act.put, List.setIfInBounds_toArray, List.set_cons_zero, List.set_cons_succ, List.getElem_toArray, List.getElem_cons_zero, List.getElem_cons_succ]
      refine wpAnyH_take (i := 19) (v := ?_) (by rfl) (by kernel_rfl) (by kernel_rfl) (by kernel_rfl) (by exact fun _ _ _ h => h) (Or.inl ⟨by rfl, ?_⟩) hHeld ?_
      rotate_left 1
      · intro w' hSw
        (try dsimp only at hSw)
        go_simp
        try with_reducible rfl
      try simp only [Act.put, List.setIfInBounds_toArray, List.set_cons_zero, List.set_cons_succ, List.getElem_toArray, List.getElem_cons_zero, List.getElem_cons_succ]
      refine wpAnyH_done (by kernel_rfl) ?_ _
      clear hHeld hb5
      cases q with
      | true =>
        have HNX := Lib.hid (HST.out.2 k HE.out (HQ.out))
        go_wp2_with fail
        go_roundw
        case rel => exact ⟨k + 1, by omega, by go_num, HNX, HB5⟩
        case measure => simp [intOf]; omega
      | false =>
        have HV := Lib.hid (HST.out.1 k hlt (HQ.out))
        go_wp2_with fail
        go_ret
        exact GivesV.mk' (by rw [HV.out]; rfl) HB5.out
    · obtain rfl : k = n - 1 := by omega
      have HV : Hid (res = true) := Lib.hid (HFIN.out HE.out)
      go_wp2_with fail
      go_ret
      exact GivesV.mk' (by rw [HV.out]; rfl) HB.out
def OrdB (W : World) (fo : FuncId) (L : Nat) (o : Vl → Vl → Bool) : Prop :=
  (∀ args w, (callFunc fo args).run Tryz.prog w = .ok (.enter fo args) w) ∧ ∀ W', Below W.heap.size W W' → ∀ d1 d2 v1 v2, RV.ok d1 v1 W' → RV.ok d2 v2 W' → szQ v1.2 ≤ 100 → szQ v2.2 ≤ 100 → Calls Tryz.prog fo #[.agg #[.bool d1.t, .bool d1.s, .slice d1.z1 d1.m1 d1.k1, .slice d1.z2 d1.m2 d1.k2], .agg #[.bool d2.t, .bool d2.s, .slice d2.z1 d2.m1 d2.k1, .slice d2.z2 d2.m2 d2.k2], .pointer (some ⟨L, 0, none⟩)] W' (GivesV (.bool (o v1 v2)) W')
theorem OrdB.kept {W W' : World} {fo : FuncId} {L : Nat} {o : Vl → Vl → Bool} (h : OrdB W fo L o) (hb : Below W.heap.size W W') : OrdB W' fo L o := ⟨h.1, fun W2 h2 => h.2 W2 (hb.trans (h2.mono hb.size))⟩
set_option maxRecDepth 100000 in
set_option maxHeartbeats 8000000 in
theorem inOrderB (h : RkAt W E vs rs) (hk : KAt W ka kids kc) (h2 : 2 ≤ kids.length) (hin : ∀ x ∈ kids, 0 ≤ x ∧ x < (vs.length : Int)) (hs : ∀ v ∈ vs, szQ v.2 ≤ 100) {fo : FuncId} {L : Nat} {o : Vl → Vl → Bool} (ho : OrdB W fo L o) :
    Calls Tryz.prog 85 #[.pointer (some ⟨E.R, 0, none⟩), .slice ka kids.length kc, .func (.func fo) #[] #[.pointer (some ⟨L, 0, none⟩)]] W (GivesV (.bool (inOrder o vs kids)) W) := by
  have HKK := Lib.hid hk
  have HRK := Lib.hid h
  have HO := Lib.hid ho
  have HIN := Lib.hid (And.intro hin hs)
  obtain ⟨n, hn⟩ : ∃ n, kids.length = n := ⟨_, rfl⟩
  have HN := Lib.hid hn
  have hcap := hk.cap
  have hcp := hk.capped
  have hn6 : n ≤ 1000000 := by have := hk.few; omega
  obtain ⟨nv, hnv⟩ : ∃ nv, vs.length = nv := ⟨_, rfl⟩
  have HNV := Lib.hid hnv
  obtain ⟨bb, off, rfl⟩ := hk.some10 (fun e => by rw [e] at h2; simp at h2)
  have HST : Hid ((∀ k, k < n - 1 → pairOk o vs kids k = false → inOrder o vs kids = false) ∧ (∀ k, (List.range k).all (pairOk o vs kids) = true → pairOk o vs kids k = true → (List.range (k + 1)).all (pairOk o vs kids) = true)) := Lib.hid ⟨fun k hk hf => by unfold inOrder; exact all_range_stop (by rw [HN.out]; exact hk) hf, fun k h1 h2 => by rw [all_range_succ, h1, h2]; rfl⟩
  have HFIN : Hid ((List.range (n - 1)).all (pairOk o vs kids) = true → inOrder o vs kids = true) := Lib.hid (fun hh => by unfold inOrder; rw [HN.out]; exact hh)
  have HPO : Hid (∀ k, pairOk o vs kids k = o (vat vs (kid kids k)) (vat vs (kid kids (k + 1)))) := Lib.hid (fun _ => rfl)
  generalize inOrder o vs kids = res at *
  obtain ⟨po, hpo⟩ : ∃ po, pairOk o vs kids = po := ⟨_, rfl⟩
  rw [hpo] at HST HPO HFIN
  rw [hn] at h2 hcap ⊢
  have f2 : (1 : Int) ≤ (n : Int) := by omega
  have f3 : (1 : Int) ≤ (kc : Int) := by omega
  have f4 : ¬ kc - 1 = 0 := by omega
  clear h hk hn hnv ho hin hs hpo
  go_enter Tryz.func85, Tryz.ntmps85
  go_wp2_with fail
  go_loopw [12] (fun (iv : Value) (wr : World) => ∃ k : Nat, k ≤ n - 1 ∧ iv = .int .i64 (k : Int) ∧ Hid ((List.range k).all po = true) ∧ Hid (Below W.heap.size W wr)) (fun iv _ => n - (intOf iv).toNat)
  case atStart => exact ⟨0, Nat.zero_le _, rfl, Lib.hid rfl, Lib.hid (Below.refl _ _)⟩
  case round =>
    obtain ⟨k, hkn, rfl, HE, HB⟩ := hrel
    by_cases hlt : k < n - 1
    · have hget1 : kids[k]? = some (kids.getD k 0) := by rw [List.getD_eq_getElem?_getD, List.getElem?_eq_getElem (by rw [HN.out]; omega)]; rfl
      have hget2 : kids[k + 1]? = some (kids.getD (k + 1) 0) := by rw [List.getD_eq_getElem?_getD, List.getElem?_eq_getElem (by rw [HN.out]; omega)]; rfl
      have hq1 := kid_at hget1
      have hq2 := kid_at hget2
      have hr1 := HIN.out.1 _ (List.mem_of_getElem? hget1)
      have hr2 := HIN.out.1 _ (List.mem_of_getElem? hget2)
      obtain ⟨g1, o1, hg1, hc1⟩ := (HKK.out.kept HB.out).get hget1
      obtain ⟨g2, o2, hg2, hc2⟩ := (HKK.out.kept HB.out).get hget2
      simp only [Option.some.injEq, Addr.mk.injEq] at hg1 hg2
      obtain ⟨rfl, rfl, _⟩ := hg1
      obtain ⟨rfl, rfl, _⟩ := hg2
      have hrk := HRK.out.kept HB.out
      generalize kids.getD k 0 = x1 at *
      generalize kids.getD (k + 1) 0 = x2 at *
      obtain ⟨k1, d1, rfl, hk1, hd1, hok1, hrg1⟩ := hrk.get hr1
      obtain ⟨k2, d2, rfl, hk2, hd2, hok2, hrg2⟩ := hrk.get hr2
      have hsz1 := HIN.out.2 _ (vat_mem hk1)
      have hsz2 := HIN.out.2 _ (vat_mem hk2)
      obtain ⟨c0, _, _, _, c4, _⟩ := hrk.cells
      have hbd : Below W.heap.size W wr.drew := HB.out.drew
      have hdr : Below wr.heap.size wr wr.drew := (Below.refl wr.heap.size wr).drew
      have HC := Lib.hid (HO.out.2 wr.drew hbd d1 d2 _ _ (hok1.kept hdr) (hok2.kept hdr) hsz1 hsz2)
      obtain ⟨q, hq⟩ : ∃ q, o (vat vs (k1 : Int)) (vat vs (k2 : Int)) = q := ⟨_, rfl⟩
      have HQ : Hid (po k = q) := Lib.hid (by rw [HPO.out, hq1, hq2, hq])
      rw [hq] at HC
      rw [HNV.out] at hk1 hk2 c4
      have HX : Hid (wr.drew.cell? ⟨E.R, 4, none⟩ = some (.slice (some ⟨E.G, 0, none⟩) nv E.cap) ∧ wr.drew.cell? ⟨bb, off + k, none⟩ = some (.int .i64 (k1 : Int)) ∧ wr.drew.rangeAt E.G (k1 * 4) d1.cells ∧ wr.drew.rangeAt E.G (k2 * 4) d2.cells) := Lib.hid ⟨c4, hc1, hrg1, hrg2⟩
      have HBD := Lib.hid hbd
      have hen := HO.out.1
      have hki : (k : Int) < ((n - 1 : Nat) : Int) := by omega
      have hkn2 : (k : Int) < (n : Int) := by omega
      have hki1 : (k1 : Int) < (nv : Int) := by omega
      have hki2 : (k2 : Int) < (nv : Int) := by omega
      have hiw : wrap64 ((k : Int) + 1) = (k : Int) + 1 := IntWalk.wrap64_in _ (by omega)
      have hc2' : wr.cell? ⟨bb, off + 1 + k, none⟩ = some (.int .i64 (k2 : Int)) := by rw [show off + 1 + k = off + (k + 1) by omega]; exact hc2
      clear hget1 hget2 hq1 hq2 hr1 hr2 hd1 hd2 hok1 hok2 hrg1 hrg2 hsz1 hsz2 hq hbd hdr hc1 hc2 hrk c0 c4
      go_wp2_with fail
      refine wp_region_held_drew (S := (fun w' => w'.cell? ⟨E.R, 4, none⟩ = some (.slice (some ⟨E.G, 0, none⟩) nv E.cap) ∧ w'.cell? ⟨bb, off + k, none⟩ = some (.int .i64 (k1 : Int)) ∧ w'.rangeAt E.G (k1 * 4) d1.cells ∧ w'.rangeAt E.G (k2 * 4) d2.cells)) (by kernel_rfl) ?_ (fun hHeld => ?_)
      · exact HX.out
      refine wpAnyH_take (i := 0) (v := ?_) (by rfl) (by kernel_rfl) (by kernel_rfl) (by kernel_rfl) (by exact fun _ _ _ h => h) (Or.inl ⟨by rfl, ?_⟩) hHeld ?_
      rotate_left 1
      · intro w' hSw
        (try dsimp only at hSw)
        go_simp
        try with_reducible rfl
      try simp only [Act.put, List.setIfInBounds_toArray, List.set_cons_zero, List.set_cons_succ, List.getElem_toArray, List.getElem_cons_zero, List.getElem_cons_succ]
      refine wpAnyH_take (i := 1) (v := ?_) (by rfl) (by kernel_rfl) (by kernel_rfl) (by kernel_rfl) (by exact fun _ _ _ h => h) (Or.inl ⟨by rfl, ?_⟩) hHeld ?_
      rotate_left 1
      · intro w' hSw
        (try dsimp only at hSw)
        go_simp
        try with_reducible rfl
      try simp only [Act.put, List.setIfInBounds_toArray, List.set_cons_zero, List.set_cons_succ, List.getElem_toArray, List.getElem_cons_zero, List.getElem_cons_succ]
      refine wpAnyH_take (i := 2) (v := ?_) (by rfl) (by kernel_rfl) (by kernel_rfl) (by kernel_rfl) (by exact fun _ _ _ h => h) (Or.inl ⟨by rfl, ?_⟩) hHeld ?_
      rotate_left 1
      · intro w' hSw
        (try dsimp only at hSw)
        go_simp
        try with_reducible rfl
      try simp only [Act.put, List.setIfInBounds_toArray, List.set_cons_zero, List.set_cons_succ, List.getElem_toArray, List.getElem_cons_zero, List.getElem_cons_succ]
      refine wpAnyH_take (i := 3) (v := ?_) (by rfl) (by kernel_rfl) (by kernel_rfl) (by kernel_rfl) (by exact fun _ _ _ h => h) (Or.inl ⟨by rfl, ?_⟩) hHeld ?_
      rotate_left 1
      · intro w' hSw
        (try dsimp only at hSw)
        go_simp
        try with_reducible rfl
      try simp only [Act.put, List.setIfInBounds_toArray, List.set_cons_zero, List.set_cons_succ, List.getElem_toArray, List.getElem_cons_zero, List.getElem_cons_succ]
      refine wpAnyH_take (i := 4) (v := .slice (some ⟨E.G, 0, none⟩) nv E.cap) (by rfl) (by kernel_rfl) (by kernel_rfl) (by kernel_rfl) (by exact fun _ _ _ h => h) (Or.inl ⟨by rfl, ?_⟩) hHeld ?_
      · intro w' hSw
        obtain ⟨s1, s2, s3, s4⟩ := hSw
        go_simp
      try simp only [Act.put, List.setIfInBounds_toArray, List.set_cons_zero, List.set_cons_succ, List.getElem_toArray, List.getElem_cons_zero, List.getElem_cons_succ]
      refine wpAnyH_take (i := 5) (v := ?_) (by rfl) (by kernel_rfl) (by kernel_rfl) (by kernel_rfl) (by exact fun _ _ _ h => h) (Or.inl ⟨by rfl, ?_⟩) hHeld ?_
      rotate_left 1
      · intro w' hSw
        (try dsimp only at hSw)
        go_simp
        try with_reducible rfl
      try simp only [Act.put, List.setIfInBounds_toArray, List.set_cons_zero, List.set_cons_succ, List.getElem_toArray, List.getElem_cons_zero, List.getElem_cons_succ]
      refine wpAnyH_take (i := 6) (v := ?_) (by rfl) (by kernel_rfl) (by kernel_rfl) (by kernel_rfl) (by exact fun _ _ _ h => h) (Or.inl ⟨by rfl, ?_⟩) hHeld ?_
      rotate_left 1
      · intro w' hSw
        (try dsimp only at hSw)
        go_simp
        try with_reducible rfl
      try simp only [Act.put, List.setIfInBounds_toArray, List.set_cons_zero, List.set_cons_succ, List.getElem_toArray, List.getElem_cons_zero, List.getElem_cons_succ]
      refine wpAnyH_take (i := 7) (v := ?_) (by rfl) (by kernel_rfl) (by kernel_rfl) (by kernel_rfl) (by exact fun _ _ _ h => h) (Or.inl ⟨by rfl, ?_⟩) hHeld ?_
      rotate_left 1
      · intro w' hSw
        (try dsimp only at hSw)
        go_simp
        try with_reducible rfl
      try simp only [Act.put, List.setIfInBounds_toArray, List.set_cons_zero, List.set_cons_succ, List.getElem_toArray, List.getElem_cons_zero, List.getElem_cons_succ]
      refine wpAnyH_take (i := 8) (v := .int .i64 (k1 : Int)) (by rfl) (by kernel_rfl) (by kernel_rfl) (by kernel_rfl) (by exact fun _ _ _ h => h) (Or.inl ⟨by rfl, ?_⟩) hHeld ?_
      · intro w' hSw
        obtain ⟨s1, s2, s3, s4⟩ := hSw
        go_simp
      try simp only [Act.put, List.setIfInBounds_toArray, List.set_cons_zero, List.set_cons_succ, List.getElem_toArray, List.getElem_cons_zero, List.getElem_cons_succ]
      refine wpAnyH_take (i := 9) (v := ?_) (by rfl) (by kernel_rfl) (by kernel_rfl) (by kernel_rfl) (by exact fun _ _ _ h => h) (Or.inl ⟨by rfl, ?_⟩) hHeld ?_
      rotate_left 1
      · intro w' hSw
        (try dsimp only at hSw)
        go_simp
        try with_reducible rfl
      try simp only [Act.put, List.setIfInBounds_toArray, List.set_cons_zero, List.set_cons_succ, List.getElem_toArray, List.getElem_cons_zero, List.getElem_cons_succ]
      refine wpAnyH_take (i := 10) (v := .agg #[.bool d1.t, .bool d1.s, .slice d1.z1 d1.m1 d1.k1, .slice d1.z2 d1.m2 d1.k2]) (by rfl) (by kernel_rfl) (by kernel_rfl) (by kernel_rfl) (by exact fun _ _ _ h => h) (Or.inl ⟨by rfl, ?_⟩) hHeld ?_
      · intro w' hSw
        exact run_load_op 52 (.tmp 26) rfl E.G (k1 * 4) rfl d1.cells _ hSw.2.2.1 Tryz.underlying52 rfl (by rw [size_value]; rfl)
      try simp only [Act.put, List.setIfInBounds_toArray, List.set_cons_zero, List.set_cons_succ, List.getElem_toArray, List.getElem_cons_zero, List.getElem_cons_succ]
      refine wpAnyH_take (i := 11) (v := ?_) (by rfl) (by kernel_rfl) (by kernel_rfl) (by kernel_rfl) (by exact fun _ _ _ h => h) (Or.inl ⟨by rfl, ?_⟩) hHeld ?_
      rotate_left 1
      · intro w' hSw
        (try dsimp only at hSw)
        go_simp
        try with_reducible rfl
      try simp only [Act.put, List.setIfInBounds_toArray, List.set_cons_zero, List.set_cons_succ, List.getElem_toArray, List.getElem_cons_zero, List.getElem_cons_succ]
      refine wpAnyH_take (i := 12) (v := ?_) (by rfl) (by kernel_rfl) (by kernel_rfl) (by kernel_rfl) (by exact fun _ _ _ h => h) (Or.inl ⟨by rfl, ?_⟩) hHeld ?_
      rotate_left 1
      · intro w' hSw
        (try dsimp only at hSw)
        go_simp
        try with_reducible rfl
      try simp only [Act.put, List.setIfInBounds_toArray, List.set_cons_zero, List.set_cons_succ, List.getElem_toArray, List.getElem_cons_zero, List.getElem_cons_succ]
      refine wpAnyH_take (i := 13) (v := ?_) (by rfl) (by kernel_rfl) (by kernel_rfl) (by kernel_rfl) (by exact fun _ _ _ h => h) (Or.inl ⟨by rfl, ?_⟩) hHeld ?_
      rotate_left 1
      · intro w' hSw
        (try dsimp only at hSw)
        go_simp
        try with_reducible rfl
      try simp only [Act.put, List.setIfInBounds_toArray, List.set_cons_zero, List.set_cons_succ, List.getElem_toArray, List.getElem_cons_zero, List.getElem_cons_succ]
      refine wpAnyH_take (i := 14) (v := .slice (some ⟨E.G, 0, none⟩) nv E.cap) (by rfl) (by kernel_rfl) (by kernel_rfl) (by kernel_rfl) (by exact fun _ _ _ h => h) (Or.inl ⟨by rfl, ?_⟩) hHeld ?_
      · intro w' hSw
        obtain ⟨s1, s2, s3, s4⟩ := hSw
        go_simp
      try simp only [Act.put, List.setIfInBounds_toArray, List.set_cons_zero, List.set_cons_succ, List.getElem_toArray, List.getElem_cons_zero, List.getElem_cons_succ]
      refine wpAnyH_take (i := 15) (v := ?_) (by rfl) (by kernel_rfl) (by kernel_rfl) (by kernel_rfl) (by exact fun _ _ _ h => h) (Or.inl ⟨by rfl, ?_⟩) hHeld ?_
      rotate_left 1
      · intro w' hSw
        (try dsimp only at hSw)
        go_simp
        try with_reducible rfl
      try simp only [Act.put, List.setIfInBounds_toArray, List.set_cons_zero, List.set_cons_succ, List.getElem_toArray, List.getElem_cons_zero, List.getElem_cons_succ]
      refine wpAnyH_take (i := 16) (v := ?_) (by rfl) (by kernel_rfl) (by kernel_rfl) (by kernel_rfl) (by exact fun _ _ _ h => h) (Or.inl ⟨by rfl, ?_⟩) hHeld ?_
      rotate_left 1
      · intro w' hSw
        (try dsimp only at hSw)
        go_simp
        try with_reducible rfl
      try simp only [Act.put, List.setIfInBounds_toArray, List.set_cons_zero, List.set_cons_succ, List.getElem_toArray, List.getElem_cons_zero, List.getElem_cons_succ]
      refine wpAnyH_take (i := 17) (v := .agg #[.bool d2.t, .bool d2.s, .slice d2.z1 d2.m1 d2.k1, .slice d2.z2 d2.m2 d2.k2]) (by rfl) (by kernel_rfl) (by kernel_rfl) (by kernel_rfl) (by exact fun _ _ _ h => h) (Or.inl ⟨by rfl, ?_⟩) hHeld ?_
      · intro w' hSw
        exact run_load_op 52 (.tmp 33) rfl E.G (k2 * 4) rfl d2.cells _ hSw.2.2.2 Tryz.underlying52 rfl (by rw [size_value]; rfl)
      try simp only [Act.put, List.setIfInBounds_toArray, List.set_cons_zero, List.set_cons_succ, List.getElem_toArray, List.getElem_cons_zero, List.getElem_cons_succ]
      refine wpAnyH_ready (rs := [18]) (by kernel_rfl) (by simp) ?_
      refine AllReadyH.cons (by rfl) (fun K hK => ?_) AllReadyH.nil
      go_simp
      refine HC.out.mono ?_
      rintro e w5 ⟨rfl, hb5⟩
      have HB5 := Lib.hid (HBD.out.trans (hb5.mono HBD.out.size))
      refine hK.out _ _ ?_ (fun hHeld => ?_)
      · exact ⟨(hb5.cell (p := ⟨E.R, 4, none⟩) (World.block_lt_of_cell? _ _ HX.out.1)).trans HX.out.1, (hb5.cell (p := ⟨bb, off + k, none⟩) (World.block_lt_of_cell? _ _ HX.out.2.1)).trans HX.out.2.1, rangeAt_kept HX.out.2.2.1 hb5 (rangeAt_lt HX.out.2.2.1 (by simp [RV.cells])), rangeAt_kept HX.out.2.2.2 hb5 (rangeAt_lt HX.out.2.2.2 (by simp [RV.cells]))⟩
      clear hK K
      try simp only [Act.put, List.setIfInBounds_toArray, List.set_cons_zero, List.set_cons_succ, List.getElem_toArray, List.getElem_cons_zero, List.getElem_cons_succ]
      refine wpAnyH_take (i := 19) (v := ?_) (by rfl) (by kernel_rfl) (by kernel_rfl) (by kernel_rfl) (by exact fun _ _ _ h => h) (Or.inl ⟨by rfl, ?_⟩) hHeld ?_
      rotate_left 1
      · intro w' hSw
        (try dsimp only at hSw)
        go_simp
        try with_reducible rfl
      try simp only [Act.put, List.setIfInBounds_toArray, List.set_cons_zero, List.set_cons_succ, List.getElem_toArray, List.getElem_cons_zero, List.getElem_cons_succ]
      refine wpAnyH_done (by kernel_rfl) ?_ _
      clear hHeld hb5
      cases q with
      | true =>
        have HNX := Lib.hid (HST.out.2 k HE.out (HQ.out))
        go_wp2_with fail
        go_roundw
        case rel => exact ⟨k + 1, by omega, by go_num, HNX, HB5⟩
        case measure => simp [intOf]; omega
      | false =>
        have HV := Lib.hid (HST.out.1 k hlt (HQ.out))
        go_wp2_with fail
        go_ret
        exact GivesV.mk' (by rw [HV.out]; rfl) HB5.out
    · obtain rfl : k = n - 1 := by omega
      have HV : Hid (res = true) := Lib.hid (HFIN.out HE.out)
      go_wp2_with fail
      go_ret
      exact GivesV.mk' (by rw [HV.out]; rfl) HB.out
end
end Go.Proofs.YthnklohpmcebkaaGreatDoor

set_option linter.unusedVariables false
set_option linter.unusedSimpArgs false
namespace Go.Proofs.YthnklohpmcebkaaGreatDoor
open Go.RowKit Tm Rep Ev
def NoInt (w : World) (g : Nat) : Prop := ∀ off k i, w.cell? ⟨g, off, none⟩ ≠ some (.int k i)
theorem VQ.pastE {q : Rat} {v : RawR} {w w' : World} {g : Nat} (h : VQ q v w) (ho : NoInt w g) (hg : w.grownBy w' (some g)) : VQ q v w' := by
  have key : ∀ {a : Option Addr} {xs : List Nat}, Reads w a (xs.map u32v) → xs.map u32v = [] ∨ ∀ r off, a = some ⟨r, off, none⟩ → some r ≠ some g := by
    intro a xs hr
    rcases hr with hr | ⟨r, off, rfl, hr⟩
    · exact .inl hr
    · by_cases e : xs = []
      · exact .inl (by simp [e])
      · refine .inr fun r' off' hg hbq => ?_
        simp at hg hbq
        obtain ⟨rfl, rfl⟩ := hg
        subst hbq
        have h0 := hr 0 _ (map_getElem? (xs := xs) (f := u32v) (List.length_pos_iff.2 e))
        exact ho _ _ _ h0
  exact ⟨h.e0, h.e1, h.e2, ⟨⟨h.lies.num.1.grown hg (key h.lies.num.1), h.lies.num.2⟩, ⟨h.lies.den.1.grown hg (key h.lies.den.1), h.lies.den.2⟩⟩⟩
theorem grown_of_chg {w w' : World} {g : Nat} (hc : Chg (fun j => j = g) w w') : w.grownBy w' (some g) := ⟨hc.os, hc.tape, hc.output, hc.size, fun k hk hne => hc.block k hk (fun e => hne (by rw [e]))⟩
def VB (W : World) (b : Nat) (C : List Value) : Prop := W.heap[b]? = some (.cells C.toArray 52 (0, 0))
def QB (W : World) (b : Nat) (C : List Value) : Prop := W.heap[b]? = some (.cells C.toArray 27 (0, 0))
theorem cell_of_block {W : World} {b : Nat} {C : List Value} {t : TypeId} (h : W.heap[b]? = some (.cells C.toArray t (0, 0))) (j : Nat) : W.cell? ⟨b, j, none⟩ = C[j]? ∧ W.frozen? ⟨b, j, none⟩ = false := by simp [World.cell?, World.frozen?, h]
theorem range_of_block {W : World} {b : Nat} {C : List Value} {t : TypeId} (h : W.heap[b]? = some (.cells C.toArray t (0, 0))) : W.rangeAt b 0 C := fun j u hu => by rw [Nat.zero_add, (cell_of_block h j).1]; exact hu
theorem there_of_block {W : World} {b : Nat} {C : List Value} {t : TypeId} (h : W.heap[b]? = some (.cells C.toArray t (0, 0))) {o n : Nat} (hn : o + n ≤ C.length) : W.there b o n := fun j hj => by
  obtain ⟨h1, h2⟩ := cell_of_block h (o + j)
  refine ⟨?_, h2⟩
  rw [h1, List.getElem?_eq_getElem (by omega)]
  rfl
theorem block_kept {W W' : World} {b : Nat} {o : Obj} (h : W.heap[b]? = some o) (hb : Below W.heap.size W W') : W'.heap[b]? = some o := (hb.block b (Array.getElem?_eq_some_iff.1 h).1).trans h
theorem block_room {W W' : World} {b g m : Nat} {o : Obj} (h : W.heap[g]? = some o) (hr : RoomM b m W W') (hne : g ≠ b) : W'.heap[g]? = some o := (hr.g.block g (Array.getElem?_eq_some_iff.1 h).1 (by simpa using hne)).trans h
theorem noInt_of {W : World} {b : Nat} {C : List Value} {t : TypeId} (h : W.heap[b]? = some (.cells C.toArray t (0, 0))) (hC : ∀ u ∈ C, GoodE u) : NoInt W b := fun off k i e => by
  rw [(cell_of_block h off).1] at e
  rcases hC _ (List.mem_of_getElem? e) with ⟨_, hx⟩ | ⟨_, _, _, hx⟩ <;> cases hx
theorem good_cells (d : RV) : ∀ u ∈ d.cells, GoodE u := by
  intro u hu
  simp only [RV.cells, List.mem_cons, List.not_mem_nil, or_false] at hu
  rcases hu with rfl | rfl | rfl | rfl
  · exact .inl ⟨_, rfl⟩
  · exact .inl ⟨_, rfl⟩
  · exact .inr ⟨_, _, _, rfl⟩
  · exact .inr ⟨_, _, _, rfl⟩
theorem good_rat (d : RV) : ∀ u ∈ d.rat, GoodE u := fun u hu => good_cells d u (by
  have : d.cells = .bool d.t :: d.rat := rfl
  rw [this]
  exact List.mem_cons_of_mem _ hu)
theorem one_cells (d : RV) : d.cells.toArray.all (·.oneCell') = true := by
  refine all_oneCell_toArray ?_
  intro u hu
  simp only [RV.cells, List.mem_cons, List.not_mem_nil, or_false] at hu
  rcases hu with rfl | rfl | rfl | rfl <;> rfl
theorem one_rat (d : RV) : d.rat.toArray.all (·.oneCell') = true := by
  refine all_oneCell_toArray ?_
  intro u hu
  simp only [RV.rat, List.mem_cons, List.not_mem_nil, or_false] at hu
  rcases hu with rfl | rfl | rfl <;> rfl
def zRV : RV := ⟨false, false, none, 0, 0, none, 0, 0⟩
theorem VB.put {W : World} {b : Nat} {C : List Value} (h : VB W b C) (hl : C.length = 4) (d : RV) : VB (W.setCells b 0 d.cells) b d.cells := by
  have := heap_setCells_same b 52 d.cells 0 _ _ h (by rw [hl]; simp [RV.cells])
  unfold VB
  rw [this]
  match C, hl with
  | [c0, c1, c2, c3], _ => rfl
theorem VB.putRat {W : World} {b : Nat} {t : Bool} {d0 d : RV} (h : VB W b d0.cells) (ht : d.t = d0.t) : VB (W.setCells b 1 d.rat) b d.cells := by
  have := heap_setCells_same b 52 d.rat 1 _ _ h (by simp [RV.rat, RV.cells])
  unfold VB
  rw [this]
  unfold RV.rat RV.cells
  rw [ht]
  rfl
theorem QB.put {W : World} {b : Nat} {d0 : RV} (h : QB W b d0.rat) (d : RV) : QB (W.setCells b 0 d.rat) b d.rat := by
  have := heap_setCells_same b 27 d.rat 0 _ _ h (by simp [RV.rat])
  unfold QB
  rw [this]
  rfl
theorem RV.ok.past {d : RV} {v : Vl} {w w' : World} {g : Nat} (h : d.ok v w) (ho : NoInt w g) (hc : Chg (fun j => j = g) w w') : d.ok v w' := ⟨h.t, h.q.pastE ho (grown_of_chg hc)⟩
def GotE (W : World) (v : Vl) (e : Ending) (W' : World) : Prop := ∃ d : RV, e = .returned (.agg #[.bool d.t, .bool d.s, .slice d.z1 d.m1 d.k1, .slice d.z2 d.m2 d.k2]) ∧ Hid (Below W.heap.size W W') ∧ Hid (d.ok v W')
def GotF (b m : Nat) (W : World) (v : Vl) (e : Ending) (W' : World) : Prop := ∃ d : RV, e = .returned (.agg #[.bool d.t, .bool d.s, .slice d.z1 d.m1 d.k1, .slice d.z2 d.m2 d.k2]) ∧ Hid (RoomM b m W W') ∧ Hid (d.ok v W')
theorem GotQ.rv {W W' : World} {q : Rat} {e : Ending} (t : Bool) (h : GotQ W q e W') : ∃ d : RV, d.t = t ∧ e = .returned (.agg #[.bool d.s, .slice d.z1 d.m1 d.k1, .slice d.z2 d.m2 d.k2]) ∧ Hid (Below W.heap.size W W') ∧ Hid (VQ q d.raw W') := by
  obtain ⟨s, z1, m1, k1, z2, m2, k2, rfl, hb, hv⟩ := h
  exact ⟨⟨t, s, z1, m1, k1, z2, m2, k2⟩, rfl, rfl, hb, hv⟩
theorem RoomM.chg {b m g : Nat} {W W1 W2 : World} (h : RoomM b m W W1) (hc : Chg (fun j => j = g) W1 W2) (hg : W.heap.size ≤ g) (hb : g ≠ b) (hn : NoInt W1 g) : RoomM b m W W2 := by
  have hB := h.bench
  unfold Bench at hB
  refine ⟨⟨hc.os.trans h.g.os, hc.tape.trans h.g.tape, hc.output.trans h.g.output, Nat.le_trans h.g.size hc.size, fun k hk hne => (hc.block k (Nat.lt_of_lt_of_le hk h.g.size) (by omega)).trans (h.g.block k hk hne)⟩, ?_, fun j hj => ?_⟩
  · exact (hc.block b (Array.getElem?_eq_some_iff.1 hB).1 (fun e => hb e.symm)).trans hB
  · have h1 := h.tab j hj
    have hl := World.block_lt_of_cell? _ _ h1
    by_cases e : 0 = g
    · subst e; exact absurd h1 (hn _ _ _)
    · exact (World.cell?_of_block (hc.block _ hl e)).trans h1
def zVal : Array Value := #[.bool false, .bool false, .slice none 0 0, .slice none 0 0]
theorem zero_val (w : World) : (zeroValue 52).run Tryz.prog w = .ok (.agg zVal) w := by unfold zVal; go_simp
def zRat : Array Value := #[.bool false, .slice none 0 0, .slice none 0 0]
theorem zero_rat (w : World) : (zeroValue 27).run Tryz.prog w = .ok (.agg zRat) w := by unfold zRat; go_simp
theorem three_of {l : List Int} (h : l.length = 3) : ∃ x y z, l = [x, y, z] := by
  match l, h with
  | [x, y, z], _ => exact ⟨x, y, z, rfl⟩
section
variable {W : World} {E : Env} {vs : List Vl} {rs : List RV} {ka : Option Addr} {kids : List Int} {kc : Nat}
set_option maxRecDepth 100000 in
set_option maxHeartbeats 8000000 in
theorem choice_any (h : RkAt W E vs rs) (hk : KAt W ka kids kc) (h3 : kids.length = 3) (hin : ∀ x ∈ kids, 0 ≤ x ∧ x < (vs.length : Int)) (hs : ∀ v ∈ vs, szQ v.2 ≤ 100) :
    Calls Tryz.prog 40 #[.pointer (some ⟨E.R, 0, none⟩), .slice ka kids.length kc] W (GotE W (if isT vs (kid kids 0) = true then vat vs (kid kids 1) else vat vs (kid kids 2))) := by
  obtain ⟨x, y, z, rfl⟩ := three_of h3
  rw [show kid [x, y, z] 0 = x from rfl, show kid [x, y, z] 1 = y from rfl, show kid [x, y, z] 2 = z from rfl]
  obtain ⟨W2, hW2⟩ : ∃ W2, W2 = W.alloc (.cells #[.bool false, .bool false, .slice none 0 0, .slice none 0 0] 52) := ⟨_, rfl⟩
  have hb2 : Below W.heap.size W W2 := by rw [hW2]; exact (Below.refl _ _).alloc (Nat.le_refl _) _
  have hvb : VB W2 W.heap.size zRV.cells := by rw [hW2]; exact heap_alloc_new W _
  have HC := Lib.hid (isTrue_any (h.kept hb2) (hin x (by simp)))
  obtain ⟨g, off, rfl⟩ := hk.some10 (by simp)
  have hkr : ∀ W', Below W.heap.size W W' → W'.cell? ⟨g, off, none⟩ = some (.int .i64 x) ∧ W'.cell? ⟨g, off + 1, none⟩ = some (.int .i64 y) ∧ W'.cell? ⟨g, off + 2, none⟩ = some (.int .i64 z) := fun W' hW' => by
    rcases (hk.kept hW').at_ with e | ⟨g', off', e, hr⟩
    · cases e
    · cases e
      exact ⟨hr 0 _ rfl, hr 1 _ rfl, hr 2 _ rfl⟩
  obtain ⟨q, hq⟩ : ∃ q, isT vs x = q := ⟨_, rfl⟩
  rw [hq] at HC ⊢
  obtain ⟨c, hc⟩ : ∃ c, (if q = true then y else z) = c := ⟨_, rfl⟩
  have hcv : (if q = true then vat vs y else vat vs z) = vat vs c := by rw [← hc]; cases q <;> rfl
  rw [hcv]
  have hcin : 0 ≤ c ∧ c < (vs.length : Int) := by rw [← hc]; cases q <;> exact hin _ (by simp)
  have H0 := Lib.hid (And.intro h (And.intro hb2 (And.intro hvb (And.intro hs (And.intro hcin hkr)))))
  obtain ⟨k1, k2, k3⟩ := hkr W2 hb2
  have hlen : ([x, y, z] : List Int).length = 3 := rfl
  rw [hlen]
  rw [hW2] at k1 k2 k3
  clear h hk h3 hin hs hb2 hvb hcv hcin hkr hq hlen
  have HW2 := Lib.hid hW2
  go_enter Tryz.func40, Tryz.ntmps40
  go_wp2_with fail
  rw [show (W.alloc (Obj.cells #[.bool false, .bool false, .slice none 0 0, .slice none 0 0] 52)) = W2 from HW2.out.symm]
  clear HW2 hW2 k1 k2 k3
  refine HC.out.mono ?_
  rintro e w1 ⟨rfl, hb1⟩
  have hbw1 := H0.out.2.1.trans (hb1.mono H0.out.2.1.size)
  obtain ⟨k1, k2, k3⟩ := H0.out.2.2.2.2.2 _ hbw1
  have hrk := H0.out.1.kept hbw1
  obtain ⟨k, d, hck, hkl, hd, hok, hrg⟩ := hrk.get H0.out.2.2.2.2.1
  have hsz := H0.out.2.2.2.1 _ (vat_mem hkl)
  rw [← hck] at hsz
  obtain ⟨_, _, _, _, c4, _⟩ := hrk.cells
  have hki : (k : Int) < (vs.length : Int) := by omega
  have hvb1 := block_kept H0.out.2.2.1 hb1
  generalize vs.length = nv at *
  have w2e : ∃ w2, w2 = w1.alloc (.cells d.cells.toArray 52) := ⟨_, rfl⟩
  obtain ⟨w2, hw2⟩ := w2e
  have hb12 : Below w1.heap.size w1 w2 := by rw [hw2]; exact (Below.refl _ _).alloc (Nat.le_refl _) _
  have hv2 : VB w2 w1.heap.size d.cells := by rw [hw2]; exact heap_alloc_new w1 _
  have hq2 : w2.rangeAt w1.heap.size 1 d.rat := fun j u hu => by
    have := range_of_block hv2 (1 + j) u (by rw [show d.cells = [.bool d.t] ++ d.rat from rfl, List.getElem?_append_right (by simp)]; simpa using hu)
    simpa using this
  have HOW := Lib.hid (own10 (hok.q.kept10 hb12 : VQ _ (d.s, (d.z1, d.m1, d.k1), (d.z2, d.m2, d.k2)) w2) hsz)
  have HS := Lib.hid (And.intro hbw1 (And.intro hvb1 (And.intro hb12 (And.intro hv2 (And.intro hq2 hok.t)))))
  have HW := Lib.hid hw2
  have hsz1 : W.heap.size < w1.heap.size := (Array.getElem?_eq_some_iff.1 hvb1).1
  have HSZ := Lib.hid hsz1
  have hck1 : (k : Int) = c := hck.symm
  clear hbw1 hrk hd hok hb1 hvb1 hsz hb12 hv2 hq2 HC hkl hsz1 hck
  cases q <;> (
  have hcc : _ = c := hc
  simp only [if_true, if_false, Bool.false_eq_true] at hcc
  rw [← hck1] at hcc
  subst hcc
  clear hck1 hc
  go_wp2_with (first
    | (refine wpList_val (.agg #[.bool d.t, .bool d.s, .slice d.z1 d.m1 d.k1, .slice d.z2 d.m2 d.k2]) (run_load_op 52 (.tmp 23) (by with_reducible rfl) E.G (k * 4) (by rfl) d.cells _ hrg Tryz.underlying52 rfl (by rw [size_value]; rfl)) (by rfl) ?_)
    | (with_reducible refine wpList_alloc_agg rfl 52 rfl zVal zero_val ?_)
    | (refine wpList_store_new rfl 52 (.tmp 6) (.tmp 24) (by with_reducible rfl) w1 zVal d.cells.toArray (by rfl) (by rfl) (by rfl) (by rw [size_value]; rfl) (by rfl) (one_cells d) ?_)
    | (rw [← HW.out]; refine wpList_val (.agg #[.bool d.s, .slice d.z1 d.m1 d.k1, .slice d.z2 d.m2 d.k2]) (run_load_op 27 (.tmp 25) (by with_reducible rfl) w1.heap.size 1 (by rfl) d.rat _ HS.out.2.2.2.2.1 Tryz.underlying27 rfl (by rw [size_ratio]; rfl)) (by rfl) ?_))
  rw [show w1.alloc (.cells d.cells.toArray 52) = w2 from HW.out.symm]
  refine HOW.out.mono ?_
  intro e w3 hgot
  obtain ⟨d2, hdt, rfl, G3, Q3⟩ := hgot.rv d.t
  have hv3 := block_kept HS.out.2.2.2.1 G3.out
  have hr3 := block_kept (block_kept HS.out.2.1 HS.out.2.2.1) G3.out
  have hth3 : w3.there w1.heap.size 1 3 := there_of_block hv3 (by simp [RV.cells])
  have hv4 : VB (w3.setCells w1.heap.size 1 d2.rat) w1.heap.size d2.cells := VB.putRat (t := d.t) hv3 hdt
  have hr4 : VB (w3.setCells w1.heap.size 1 d2.rat) W.heap.size zRV.cells := ((chg_setCells (S := fun j => j = w1.heap.size) rfl w3 1 d2.rat).block _ (Array.getElem?_eq_some_iff.1 hr3).1 (by have := HSZ.out; omega)).trans hr3
  have hrg4 := range_of_block hv4
  have hth4 : (w3.setCells w1.heap.size 1 d2.rat).there W.heap.size 0 4 := there_of_block hr4 (by simp [RV.cells])
  have hv5 := hr4.put rfl d2
  have hrg5 := range_of_block hv5
  have hfin : GotE W (vat vs c) (.returned (.agg #[.bool d2.t, .bool d2.s, .slice d2.z1 d2.m1 d2.k1, .slice d2.z2 d2.m2 d2.k2])) ((w3.setCells w1.heap.size 1 d2.rat).setCells W.heap.size 0 d2.cells) := by
    refine ⟨d2, rfl, Lib.hid ?_, Lib.hid ⟨hdt.trans HS.out.2.2.2.2.2, ?_⟩⟩
    · have h1 : Below W.heap.size W w3 := (HS.out.1.trans (HS.out.2.2.1.mono HS.out.1.size)).trans (G3.out.mono (by have := HS.out.1.size; have := HS.out.2.2.1.size; omega))
      exact (h1.trans ((chg_setCells (S := fun j => j = w1.heap.size) rfl w3 1 d2.rat).below (fun k hk => by rw [hk]; exact HS.out.1.size) h1.size)).trans ((chg_setCells (S := fun j => j = W.heap.size) rfl _ 0 d2.cells).below (fun k hk => by rw [hk]; exact Nat.le_refl _) (Nat.le_trans h1.size (chg_setCells (S := fun j => j = w1.heap.size) rfl w3 1 d2.rat).size))
    · exact (Q3.out.pastE (noInt_of hv3 (good_cells d)) (grown_of_chg (chg_setCells (S := fun j => j = w1.heap.size) rfl _ _ _))).pastE (noInt_of hr4 (good_cells zRV)) (grown_of_chg (chg_setCells (S := fun j => j = W.heap.size) rfl _ _ _))
  have HFIN := Lib.hid hfin
  clear hgot G3 Q3 hv3 hr3 hv4 hr4 hv5 hfin HOW HW
  go_wp2_with (first
    | (refine wpList_store_mid rfl 27 (.tmp 28) (.tmp 27) rfl w1.heap.size 1 d2.rat.toArray rfl rfl hth3 (by rw [size_ratio]; rfl) (one_rat d2) ?_)
    | (refine wpList_val (.agg #[.bool d2.t, .bool d2.s, .slice d2.z1 d2.m1 d2.k1, .slice d2.z2 d2.m2 d2.k2]) (run_load_op 52 (.tmp 6) (by with_reducible rfl) w1.heap.size 0 (by rfl) d2.cells _ hrg4 Tryz.underlying52 rfl (by rw [size_value]; rfl)) (by rfl) ?_)
    | (refine wpList_store_mid rfl 52 (.tmp 4) (.tmp 29) rfl W.heap.size 0 d2.cells.toArray rfl rfl hth4 (by rw [size_value]; rfl) (one_cells d2) ?_))
  refine bodyPost_ret (v := .agg #[.bool d2.t, .bool d2.s, .slice d2.z1 d2.m1 d2.k1, .slice d2.z2 d2.m2 d2.k2]) ?_ rfl HFIN.out
  have := run_loadVar_mid (P := Tryz.prog) _ W.heap.size 0 52 d2.cells _ hrg5 Tryz.underlying52 rfl (by rw [size_value]; rfl)
  simpa [results, Tryz.results40, asAddr, Act.put, RV.cells] using this)
end
end Go.Proofs.YthnklohpmcebkaaGreatDoor
