/-
  Layer 8: two expressions that are one are told so.
-/
import Derived.Test.YtgojipnhnmigpaaSxRR
set_option linter.unusedVariables false
set_option linter.unusedSimpArgs false
namespace Go.Proofs.Ytgojipnhnmigpaa
open Go.RowKit Sx

def anyB (_ : Nat) : Prop := True
theorem SlAt.any {w : World} {F : Nat → Prop} {v : Value} {k : Fo} (h : SlAt w F v k) : SlAt w anyB v k := h.mono fun _ _ _ => trivial
theorem at_none : ∀ {x : Fo} {i : Nat}, i < x.len → ∃ l t k, x.at? i = some (l, t, k) := fun h => Fo.at_some _ _ h
/-- What is told of an expression. -/
def xv (l : Bool) (K : Int) (T : ByteArray) (P : Int) (v : Value) : Value := .agg #[.bool l, .int .i64 K, .string T, .int .i64 P, v]
theorem same_says : ∀ {x : Fo} {i : Nat} {l : Bool} {t : Tk} {k : Fo}, x.at? i = some (l, t, k) → k.size < x.size := fun h => Fo.at_size h
section
set_option maxRecDepth 100000 in
set_option maxHeartbeats 16000000 in
theorem Same_any : ∀ (m : Nat) (w : World) (l : Bool) (K : Int) (T : ByteArray) (P : Int) (v v' : Value) (k : Fo), k.size = m → SlAt w anyB v k → SlAt w anyB v' k →
    Calls Try.prog 17 #[.agg #[.bool l, .int .i64 K, .string T, .int .i64 P, v], .agg #[.bool l, .int .i64 K, .string T, .int .i64 P, v'], .bool true] w (fun e w' => e = .returned (.bool true) ∧ Below w.heap.size w w') := by
  intro m
  induction m using Nat.strongRecOn with
  | _ m ih =>
  intro w l K T P v v' k hm hv hv'
  have HIH : Hid (∀ (W : World) (i : Nat) (l : Bool) (K : Int) (T : ByteArray) (P : Int) (v v' : Value) (k' : Fo), k.at? i = some (l, ⟨K, T, P⟩, k') → SlAt W anyB v k' → SlAt W anyB v' k' →
      Calls Try.prog 17 #[.agg #[.bool l, .int .i64 K, .string T, .int .i64 P, v], .agg #[.bool l, .int .i64 K, .string T, .int .i64 P, v'], .bool true] W (fun e w' => e = .returned (.bool true) ∧ Below W.heap.size W w')) :=
    Lib.hid fun W i l K T P v v' k' hi h1 h2 => ih k'.size (by have := Fo.at_size hi; omega) W l K T P v v' k' rfl h1 h2
  obtain ⟨a, c, rfl, hc1, hc2, hc3⟩ := hv.value
  obtain ⟨a', c', rfl, hd1, hd2, hd3⟩ := hv'.value
  obtain ⟨W2, hW2⟩ : ∃ W2, W2 = (w.alloc (.cells #[.bool l, .int .i64 K, .string T, .int .i64 P, .slice a k.len c] 38)).alloc (.cells #[.bool l, .int .i64 K, .string T, .int .i64 P, .slice a' k.len c'] 38) := ⟨_, rfl⟩
  have hb2 : Below w.heap.size w W2 := by rw [hW2]; exact ((Below.refl _ _).alloc (Nat.le_refl _) _).alloc (by simp) _
  have hs2 : W2.heap.size = w.heap.size + 2 := by rw [hW2]; simp
  have hx3 : W2.cell? ⟨w.heap.size, 4, none⟩ = some (.slice a k.len c) := by rw [hW2]; simp
  have hx4 : W2.cell? ⟨w.heap.size + 1, 4, none⟩ = some (.slice a' k.len c') := by rw [hW2]; simp
  have HV := Lib.hid (And.intro (hv.kept hb2) (hv'.kept hb2))
  have HB2 := Lib.hid (And.intro hb2 (And.intro hs2 (And.intro hx3 hx4)))
  obtain ⟨n, hn⟩ : ∃ n, k.len = n := ⟨_, rfl⟩
  have HN := Lib.hid hn
  have hnm : (n : Int) ≤ 9223372036854775807 := by have : n ≤ c := by omega
                                                   have h2 : c ≤ 9223372036854775807 := hc2
                                                   omega
  rw [hn] at HV HB2 hW2 ⊢
  clear ih hm hv hv' hc1 hc2 hc3 hd1 hd2 hd3 hb2 hs2 hx3 hx4 hn
  go_enter Try.func17, Try.ntmps17
  go_wp2_with fail
  rw [← hW2]
  clear hW2
  go_loopw [7] (fun (iv : Value) (wr : World) => ∃ (i : Nat), iv = .int .i64 (i : Int) ∧ i ≤ n ∧ Hid (Below W2.heap.size W2 wr)) (fun iv _ => n - (intOf iv).toNat)
  case atStart => exact ⟨0, rfl, Nat.zero_le _, Lib.hid (Below.refl _ _)⟩
  case round =>
    obtain ⟨i, rfl, hi, HK⟩ := hrel
    have e3 : wr.cell? ⟨w.heap.size, 4, none⟩ = some (.slice a n c) := (HK.out.cell (p := ⟨w.heap.size, 4, none⟩) (by have := HB2.out.2.1; show w.heap.size < _; omega)).trans HB2.out.2.2.1
    have e4 : wr.cell? ⟨w.heap.size + 1, 4, none⟩ = some (.slice a' n c') := (HK.out.cell (p := ⟨w.heap.size + 1, 4, none⟩) (by have := HB2.out.2.1; show w.heap.size + 1 < _; omega)).trans HB2.out.2.2.2
    by_cases hin : i < n
    · obtain ⟨l2, ⟨K2, T2, P2⟩, k2, hat⟩ := Fo.at_some k i (by rw [HN.out]; exact hin)
      have hva := (HV.out.1.kept HK.out)
      have hvb := (HV.out.2.kept HK.out)
      rw [← HN.out] at hva hvb
      obtain ⟨g, v2, rfl, _, hs, hx⟩ := hva.get hat
      obtain ⟨g', v2', rfl, _, hs', hx'⟩ := hvb.get hat
      have hw1 : wr.rangeAt g (i * 5) [.bool l2, .int .i64 K2, .string T2, .int .i64 P2, v2] := hx
      have hw2 : wr.rangeAt g' (i * 5) [.bool l2, .int .i64 K2, .string T2, .int .i64 P2, v2'] := hx'
      have HC := Lib.hid (HIH.out wr.drew i l2 K2 T2 P2 v2 v2' k2 hat (hs.kept ((Below.refl _ _).drew)) (hs'.kept ((Below.refl _ _).drew)))
      have HX := Lib.hid (And.intro e3 (And.intro e4 (And.intro hw1 hw2)))
      have hin' : (i : Int) < (n : Int) := by omega
      have hiw : wrap64 ((i : Int) + 1) = (i : Int) + 1 := IntWalk.wrap64_in _ (by omega)
      clear hva hvb hs hs' hx hx' hw1 hw2 hat
      go_wp2_with fail
      refine wp_region_held_drew (S := (fun w' => w'.cell? ⟨w.heap.size, 4, none⟩ = some (.slice (some ⟨g, 0, none⟩) n c) ∧ w'.cell? ⟨w.heap.size + 1, 4, none⟩ = some (.slice (some ⟨g', 0, none⟩) n c') ∧ w'.rangeAt g (i * 5) [.bool l2, .int .i64 K2, .string T2, .int .i64 P2, v2] ∧ w'.rangeAt g' (i * 5) [.bool l2, .int .i64 K2, .string T2, .int .i64 P2, v2'])) (by kernel_rfl) ?_ (fun hHeld => ?_)
      · exact HX.out
      refine wpAnyH_take (i := 0) (v := ?_) (by rfl) (by kernel_rfl) (by kernel_rfl) (by kernel_rfl) (by exact fun _ _ _ h => h) (Or.inl ⟨by rfl, ?_⟩) hHeld ?_
      rotate_left 1
      · intro w' hSw
        (try dsimp only at hSw)
        go_simp
        try with_reducible rfl
      try simp only [Act.put, List.setIfInBounds_toArray, List.set_cons_zero, List.set_cons_succ, List.getElem_toArray, List.getElem_cons_zero, List.getElem_cons_succ]
      refine wpAnyH_take (i := 1) (v := .slice (some ⟨g, 0, none⟩) n c) (by rfl) (by kernel_rfl) (by kernel_rfl) (by kernel_rfl) (by exact fun _ _ _ h => h) (Or.inl ⟨by rfl, ?_⟩) hHeld ?_
      · intro w' hSw
        exact load_sl (.tmp 59) rfl rfl hSw.1
      try simp only [Act.put, List.setIfInBounds_toArray, List.set_cons_zero, List.set_cons_succ, List.getElem_toArray, List.getElem_cons_zero, List.getElem_cons_succ]
      refine wpAnyH_take (i := 2) (v := ?_) (by rfl) (by kernel_rfl) (by kernel_rfl) (by kernel_rfl) (by exact fun _ _ _ h => h) (Or.inl ⟨by rfl, ?_⟩) hHeld ?_
      rotate_left 1
      · intro w' hSw
        (try dsimp only at hSw)
        go_simp
        try with_reducible rfl
      try simp only [Act.put, List.setIfInBounds_toArray, List.set_cons_zero, List.set_cons_succ, List.getElem_toArray, List.getElem_cons_zero, List.getElem_cons_succ]
      refine wpAnyH_take (i := 3) (v := .pointer (some ⟨g, i * 5, none⟩)) (by rfl) (by kernel_rfl) (by kernel_rfl) (by kernel_rfl) (by exact fun _ _ _ h => h) (Or.inl ⟨by rfl, ?_⟩) hHeld ?_
      · intro w' hSw
        exact idx_sexp rfl rfl rfl hin
      try simp only [Act.put, List.setIfInBounds_toArray, List.set_cons_zero, List.set_cons_succ, List.getElem_toArray, List.getElem_cons_zero, List.getElem_cons_succ]
      refine wpAnyH_take (i := 4) (v := .agg #[.bool l2, .int .i64 K2, .string T2, .int .i64 P2, v2]) (by rfl) (by kernel_rfl) (by kernel_rfl) (by kernel_rfl) (by exact fun _ _ _ h => h) (Or.inl ⟨by rfl, ?_⟩) hHeld ?_
      · intro w' hSw
        exact run_load_op 38 (.tmp 62) rfl g (i * 5) rfl [.bool l2, .int .i64 K2, .string T2, .int .i64 P2, v2] _ hSw.2.2.1 Try.underlying38 rfl (by rw [size_sexp]; rfl)
      try simp only [Act.put, List.setIfInBounds_toArray, List.set_cons_zero, List.set_cons_succ, List.getElem_toArray, List.getElem_cons_zero, List.getElem_cons_succ]
      refine wpAnyH_take (i := 5) (v := ?_) (by rfl) (by kernel_rfl) (by kernel_rfl) (by kernel_rfl) (by exact fun _ _ _ h => h) (Or.inl ⟨by rfl, ?_⟩) hHeld ?_
      rotate_left 1
      · intro w' hSw
        (try dsimp only at hSw)
        go_simp
        try with_reducible rfl
      try simp only [Act.put, List.setIfInBounds_toArray, List.set_cons_zero, List.set_cons_succ, List.getElem_toArray, List.getElem_cons_zero, List.getElem_cons_succ]
      refine wpAnyH_take (i := 6) (v := .slice (some ⟨g', 0, none⟩) n c') (by rfl) (by kernel_rfl) (by kernel_rfl) (by kernel_rfl) (by exact fun _ _ _ h => h) (Or.inl ⟨by rfl, ?_⟩) hHeld ?_
      · intro w' hSw
        exact load_sl (.tmp 64) rfl rfl hSw.2.1
      try simp only [Act.put, List.setIfInBounds_toArray, List.set_cons_zero, List.set_cons_succ, List.getElem_toArray, List.getElem_cons_zero, List.getElem_cons_succ]
      refine wpAnyH_take (i := 7) (v := ?_) (by rfl) (by kernel_rfl) (by kernel_rfl) (by kernel_rfl) (by exact fun _ _ _ h => h) (Or.inl ⟨by rfl, ?_⟩) hHeld ?_
      rotate_left 1
      · intro w' hSw
        (try dsimp only at hSw)
        go_simp
        try with_reducible rfl
      try simp only [Act.put, List.setIfInBounds_toArray, List.set_cons_zero, List.set_cons_succ, List.getElem_toArray, List.getElem_cons_zero, List.getElem_cons_succ]
      refine wpAnyH_take (i := 8) (v := .pointer (some ⟨g', i * 5, none⟩)) (by rfl) (by kernel_rfl) (by kernel_rfl) (by kernel_rfl) (by exact fun _ _ _ h => h) (Or.inl ⟨by rfl, ?_⟩) hHeld ?_
      · intro w' hSw
        exact idx_sexp rfl rfl rfl hin
      try simp only [Act.put, List.setIfInBounds_toArray, List.set_cons_zero, List.set_cons_succ, List.getElem_toArray, List.getElem_cons_zero, List.getElem_cons_succ]
      refine wpAnyH_take (i := 9) (v := .agg #[.bool l2, .int .i64 K2, .string T2, .int .i64 P2, v2']) (by rfl) (by kernel_rfl) (by kernel_rfl) (by kernel_rfl) (by exact fun _ _ _ h => h) (Or.inl ⟨by rfl, ?_⟩) hHeld ?_
      · intro w' hSw
        exact run_load_op 38 (.tmp 67) rfl g' (i * 5) rfl [.bool l2, .int .i64 K2, .string T2, .int .i64 P2, v2'] _ hSw.2.2.2 Try.underlying38 rfl (by rw [size_sexp]; rfl)
      try simp only [Act.put, List.setIfInBounds_toArray, List.set_cons_zero, List.set_cons_succ, List.getElem_toArray, List.getElem_cons_zero, List.getElem_cons_succ]
      refine wpAnyH_take (i := 10) (v := ?_) (by rfl) (by kernel_rfl) (by kernel_rfl) (by kernel_rfl) (by exact fun _ _ _ h => h) (Or.inl ⟨by rfl, ?_⟩) hHeld ?_
      rotate_left 1
      · intro w' hSw
        (try dsimp only at hSw)
        go_simp
        try with_reducible rfl
      try simp only [Act.put, List.setIfInBounds_toArray, List.set_cons_zero, List.set_cons_succ, List.getElem_toArray, List.getElem_cons_zero, List.getElem_cons_succ]
      refine wpAnyH_ready (rs := [11]) (by kernel_rfl) (by simp) ?_
      refine AllReadyH.cons (by rfl) (fun K hK => ?_) AllReadyH.nil
      go_simp
      refine HC.out.mono ?_
      rintro e w5 ⟨rfl, hb5⟩
      refine hK.out _ _ ?_ (fun hHeld => ?_)
      · exact ⟨(hb5.cell (p := ⟨w.heap.size, 4, none⟩) (World.block_lt_of_cell? _ _ HX.out.1)).trans HX.out.1, (hb5.cell (p := ⟨w.heap.size + 1, 4, none⟩) (World.block_lt_of_cell? _ _ HX.out.2.1)).trans HX.out.2.1, fun j u hu => (hb5.cell (p := ⟨g, i * 5 + j, none⟩) (World.block_lt_of_cell? _ _ (HX.out.2.2.1 j u hu))).trans (HX.out.2.2.1 j u hu), fun j u hu => (hb5.cell (p := ⟨g', i * 5 + j, none⟩) (World.block_lt_of_cell? _ _ (HX.out.2.2.2 j u hu))).trans (HX.out.2.2.2 j u hu)⟩
      clear hK K
      try simp only [Act.put, List.setIfInBounds_toArray, List.set_cons_zero, List.set_cons_succ, List.getElem_toArray, List.getElem_cons_zero, List.getElem_cons_succ]
      refine wpAnyH_take (i := 12) (v := ?_) (by rfl) (by kernel_rfl) (by kernel_rfl) (by kernel_rfl) (by exact fun _ _ _ h => h) (Or.inl ⟨by rfl, ?_⟩) hHeld ?_
      rotate_left 1
      · intro w' hSw
        (try dsimp only at hSw)
        go_simp
        try with_reducible rfl
      try simp only [Act.put, List.setIfInBounds_toArray, List.set_cons_zero, List.set_cons_succ, List.getElem_toArray, List.getElem_cons_zero, List.getElem_cons_succ]
      refine wpAnyH_done (by kernel_rfl) ?_ _
      clear hHeld
      have H6 := Lib.hid ((HK.out.drew).trans (hb5.mono HK.out.drew.size))
      clear hb5 HC
      go_wp2_with fail
      go_roundw
      case rel => exact ⟨i + 1, by go_num, by omega, H6⟩
      case measure => simp [intOf]; omega
    · obtain rfl : i = n := by omega
      have HEND := Lib.hid (HB2.out.1.trans (HK.out.mono HB2.out.1.size))
      go_wp2_with fail
      refine bodyPost_ret (v := .bool true) ?_ rfl ⟨rfl, HEND.out⟩
      simp [results, Try.results17, Act.put]
set_option maxRecDepth 100000 in
set_option maxHeartbeats 16000000 in
theorem LSame_any {w : World} {v v' : Value} {k : Fo} (hv : SlAt w anyB v k) (hv' : SlAt w anyB v' k) :
    Calls Try.prog 9 #[v, v', .bool true] w (fun e w' => e = .returned (.bool true) ∧ Below w.heap.size w w') := by
  obtain ⟨a, c, rfl, hc1, hc2, hc3⟩ := hv.value
  obtain ⟨a', c', rfl, hd1, hd2, hd3⟩ := hv'.value
  have HV := Lib.hid (And.intro hv hv')
  obtain ⟨n, hn⟩ : ∃ n, k.len = n := ⟨_, rfl⟩
  have HN := Lib.hid hn
  have hnm : (n : Int) ≤ 9223372036854775807 := by have : n ≤ c := by omega
                                                   have h2 : c ≤ 9223372036854775807 := hc2
                                                   omega
  rw [hn] at HV ⊢
  clear hv hv' hc1 hc2 hc3 hd1 hd2 hd3 hn
  go_enter Try.func9, Try.ntmps9
  go_wp2_with fail
  go_loopw [15] (fun (iv : Value) (wr : World) => ∃ (i : Nat), iv = .int .i64 (i : Int) ∧ i ≤ n ∧ Hid (Below w.heap.size w wr)) (fun iv _ => n - (intOf iv).toNat)
  case atStart => exact ⟨0, rfl, Nat.zero_le _, Lib.hid (Below.refl _ _)⟩
  case round =>
    obtain ⟨i, rfl, hi, HK⟩ := hrel
    by_cases hin : i < n
    · obtain ⟨l2, ⟨K2, T2, P2⟩, k2, hat⟩ := Fo.at_some k i (by rw [HN.out]; exact hin)
      have hva := (HV.out.1.kept HK.out)
      have hvb := (HV.out.2.kept HK.out)
      rw [← HN.out] at hva hvb
      obtain ⟨g, v2, rfl, _, hs, hx⟩ := hva.get hat
      obtain ⟨g', v2', rfl, _, hs', hx'⟩ := hvb.get hat
      have hw1 : wr.rangeAt g (i * 5) [.bool l2, .int .i64 K2, .string T2, .int .i64 P2, v2] := hx
      have hw2 : wr.rangeAt g' (i * 5) [.bool l2, .int .i64 K2, .string T2, .int .i64 P2, v2'] := hx'
      have HC := Lib.hid (Same_any k2.size wr.drew l2 K2 T2 P2 v2 v2' k2 rfl (hs.kept ((Below.refl _ _).drew)) (hs'.kept ((Below.refl _ _).drew)))
      have HX := Lib.hid (And.intro hw1 hw2)
      have hin' : (i : Int) < (n : Int) := by omega
      have hiw : IntKind.i64.wrap ((i : Int) + 1) = (i : Int) + 1 := IntWalk.i64_in _ (by omega)
      have hiw' : wrap64 ((i : Int) + 1) = (i : Int) + 1 := IntWalk.wrap64_in _ (by omega)
      clear hva hvb hs hs' hx hx' hw1 hw2 hat
      go_wp2_with fail
      refine wp_region_held_drew (S := (fun w' => w'.rangeAt g (i * 5) [.bool l2, .int .i64 K2, .string T2, .int .i64 P2, v2] ∧ w'.rangeAt g' (i * 5) [.bool l2, .int .i64 K2, .string T2, .int .i64 P2, v2'])) (by kernel_rfl) ?_ (fun hHeld => ?_)
      · exact HX.out
      refine wpAnyH_take (i := 0) (v := ?_) (by rfl) (by kernel_rfl) (by kernel_rfl) (by kernel_rfl) (by exact fun _ _ _ h => h) (Or.inl ⟨by rfl, ?_⟩) hHeld ?_
      rotate_left 1
      · intro w' hSw
        (try dsimp only at hSw)
        go_simp
        try with_reducible rfl
      try simp only [Act.put, List.setIfInBounds_toArray, List.set_cons_zero, List.set_cons_succ, List.getElem_toArray, List.getElem_cons_zero, List.getElem_cons_succ]
      refine wpAnyH_take (i := 1) (v := ?_) (by rfl) (by kernel_rfl) (by kernel_rfl) (by kernel_rfl) (by exact fun _ _ _ h => h) (Or.inl ⟨by rfl, ?_⟩) hHeld ?_
      rotate_left 1
      · intro w' hSw
        (try dsimp only at hSw)
        go_simp
        try with_reducible rfl
      try simp only [Act.put, List.setIfInBounds_toArray, List.set_cons_zero, List.set_cons_succ, List.getElem_toArray, List.getElem_cons_zero, List.getElem_cons_succ]
      refine wpAnyH_take (i := 2) (v := .pointer (some ⟨g, i * 5, none⟩)) (by rfl) (by kernel_rfl) (by kernel_rfl) (by kernel_rfl) (by exact fun _ _ _ h => h) (Or.inl ⟨by rfl, ?_⟩) hHeld ?_
      · intro w' hSw
        exact idx_sexp rfl rfl rfl hin
      try simp only [Act.put, List.setIfInBounds_toArray, List.set_cons_zero, List.set_cons_succ, List.getElem_toArray, List.getElem_cons_zero, List.getElem_cons_succ]
      refine wpAnyH_take (i := 3) (v := .agg #[.bool l2, .int .i64 K2, .string T2, .int .i64 P2, v2]) (by rfl) (by kernel_rfl) (by kernel_rfl) (by kernel_rfl) (by exact fun _ _ _ h => h) (Or.inl ⟨by rfl, ?_⟩) hHeld ?_
      · intro w' hSw
        exact run_load_op 38 (.tmp 20) rfl g (i * 5) rfl [.bool l2, .int .i64 K2, .string T2, .int .i64 P2, v2] _ hSw.1 Try.underlying38 rfl (by rw [size_sexp]; rfl)
      try simp only [Act.put, List.setIfInBounds_toArray, List.set_cons_zero, List.set_cons_succ, List.getElem_toArray, List.getElem_cons_zero, List.getElem_cons_succ]
      refine wpAnyH_take (i := 4) (v := ?_) (by rfl) (by kernel_rfl) (by kernel_rfl) (by kernel_rfl) (by exact fun _ _ _ h => h) (Or.inl ⟨by rfl, ?_⟩) hHeld ?_
      rotate_left 1
      · intro w' hSw
        (try dsimp only at hSw)
        go_simp
        try with_reducible rfl
      try simp only [Act.put, List.setIfInBounds_toArray, List.set_cons_zero, List.set_cons_succ, List.getElem_toArray, List.getElem_cons_zero, List.getElem_cons_succ]
      refine wpAnyH_take (i := 5) (v := ?_) (by rfl) (by kernel_rfl) (by kernel_rfl) (by kernel_rfl) (by exact fun _ _ _ h => h) (Or.inl ⟨by rfl, ?_⟩) hHeld ?_
      rotate_left 1
      · intro w' hSw
        (try dsimp only at hSw)
        go_simp
        try with_reducible rfl
      try simp only [Act.put, List.setIfInBounds_toArray, List.set_cons_zero, List.set_cons_succ, List.getElem_toArray, List.getElem_cons_zero, List.getElem_cons_succ]
      refine wpAnyH_take (i := 6) (v := .pointer (some ⟨g', i * 5, none⟩)) (by rfl) (by kernel_rfl) (by kernel_rfl) (by kernel_rfl) (by exact fun _ _ _ h => h) (Or.inl ⟨by rfl, ?_⟩) hHeld ?_
      · intro w' hSw
        exact idx_sexp rfl rfl rfl hin
      try simp only [Act.put, List.setIfInBounds_toArray, List.set_cons_zero, List.set_cons_succ, List.getElem_toArray, List.getElem_cons_zero, List.getElem_cons_succ]
      refine wpAnyH_take (i := 7) (v := .agg #[.bool l2, .int .i64 K2, .string T2, .int .i64 P2, v2']) (by rfl) (by kernel_rfl) (by kernel_rfl) (by kernel_rfl) (by exact fun _ _ _ h => h) (Or.inl ⟨by rfl, ?_⟩) hHeld ?_
      · intro w' hSw
        exact run_load_op 38 (.tmp 24) rfl g' (i * 5) rfl [.bool l2, .int .i64 K2, .string T2, .int .i64 P2, v2'] _ hSw.2 Try.underlying38 rfl (by rw [size_sexp]; rfl)
      try simp only [Act.put, List.setIfInBounds_toArray, List.set_cons_zero, List.set_cons_succ, List.getElem_toArray, List.getElem_cons_zero, List.getElem_cons_succ]
      refine wpAnyH_take (i := 8) (v := ?_) (by rfl) (by kernel_rfl) (by kernel_rfl) (by kernel_rfl) (by exact fun _ _ _ h => h) (Or.inl ⟨by rfl, ?_⟩) hHeld ?_
      rotate_left 1
      · intro w' hSw
        (try dsimp only at hSw)
        go_simp
        try with_reducible rfl
      try simp only [Act.put, List.setIfInBounds_toArray, List.set_cons_zero, List.set_cons_succ, List.getElem_toArray, List.getElem_cons_zero, List.getElem_cons_succ]
      refine wpAnyH_ready (rs := [9]) (by kernel_rfl) (by simp) ?_
      refine AllReadyH.cons (by rfl) (fun K hK => ?_) AllReadyH.nil
      go_simp
      refine HC.out.mono ?_
      rintro e w5 ⟨rfl, hb5⟩
      refine hK.out _ _ ?_ (fun hHeld => ?_)
      · exact ⟨fun j u hu => (hb5.cell (p := ⟨g, i * 5 + j, none⟩) (World.block_lt_of_cell? _ _ (HX.out.1 j u hu))).trans (HX.out.1 j u hu), fun j u hu => (hb5.cell (p := ⟨g', i * 5 + j, none⟩) (World.block_lt_of_cell? _ _ (HX.out.2 j u hu))).trans (HX.out.2 j u hu)⟩
      clear hK K
      try simp only [Act.put, List.setIfInBounds_toArray, List.set_cons_zero, List.set_cons_succ, List.getElem_toArray, List.getElem_cons_zero, List.getElem_cons_succ]
      refine wpAnyH_take (i := 10) (v := ?_) (by rfl) (by kernel_rfl) (by kernel_rfl) (by kernel_rfl) (by exact fun _ _ _ h => h) (Or.inl ⟨by rfl, ?_⟩) hHeld ?_
      rotate_left 1
      · intro w' hSw
        (try dsimp only at hSw)
        go_simp
        try with_reducible rfl
      try simp only [Act.put, List.setIfInBounds_toArray, List.set_cons_zero, List.set_cons_succ, List.getElem_toArray, List.getElem_cons_zero, List.getElem_cons_succ]
      refine wpAnyH_done (by kernel_rfl) ?_ _
      clear hHeld
      have H6 := Lib.hid ((HK.out.drew).trans (hb5.mono HK.out.drew.size))
      clear hb5 HC
      go_wp2_with fail
      go_roundw
      case rel => exact ⟨i + 1, by go_num, by omega, H6⟩
      case measure => simp [intOf]; omega
    · obtain rfl : i = n := by omega
      go_wp2_with fail
      refine bodyPost_ret (v := .bool true) ?_ rfl ⟨rfl, HK.out⟩
      simp [results, Try.results9, Act.put]
end
end Go.Proofs.Ytgojipnhnmigpaa
