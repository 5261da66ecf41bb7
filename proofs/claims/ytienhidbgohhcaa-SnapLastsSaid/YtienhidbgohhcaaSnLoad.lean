/-
  Layer 6: Load.
-/
import Derived.Test.YtienhidbgohhcaaSnNew
set_option linter.unusedVariables false
set_option linter.unusedSimpArgs false
namespace Go.Proofs.Ytienhidbgohhcaa
open Go.RowKit

/-- The slot that is told, if any. -/
def told (s0 s1 : Shot) (f : Int) : Option Shot := if newestOf s0 s1 f = -1 then none else if newestOf s0 s1 f = 0 then some s0 else some s1
theorem newest_vals (s0 s1 : Shot) (f : Int) : newestOf s0 s1 f = -1 ∨ newestOf s0 s1 f = 0 ∨ newestOf s0 s1 f = 1 := by
  have h0 : newest0 s0 f = -1 ∨ newest0 s0 f = 0 := by unfold newest0; split <;> simp
  unfold newestOf
  split
  · exact .inr (.inr rfl)
  · rcases h0 with h | h
    · exact .inl h
    · exact .inr (.inl h)
/-- What Load answers. -/
def Loads (t : Option Shot) (w : World) (en : Ending) (w' : World) : Prop :=
  ∃ a l c ep er, en = .returned (.tuple #[.slice a l c, .int .i64 ep, .int .i64 er]) ∧ Below w.heap.size w w' ∧
    (match t with | none => a = none ∧ l = 0 ∧ c = 0 ∧ ep = 0 ∧ er = 5 | some s => l = s.b.length ∧ ep = s.e ∧ er = 0 ∧ ShotAt w' s a c ∧ New w.heap.size a s.b)
section
variable {w : World} {d s l : Nat} {v : Value} {n : Nat} {A : Dk.DV}
set_option maxRecDepth 100000 in
set_option maxHeartbeats 4000000 in
theorem Load_any (h : DkAt w d s l v n A) (h2 : 2 ≤ n) (f : Int) : Calls Try.prog 8 #[.pointer (some ⟨d, 0, none⟩), .int .u32 f] w (Loads (told (slotOf A.seen n 0) (slotOf A.seen n 1) f) w) := by
  have zs := fun w => (zero_of_info zero_shots).1 w
  have HA := Lib.hid (shots_any h h2)
  generalize slotOf A.seen n 0 = s0 at *
  generalize slotOf A.seen n 1 = s1 at *
  clear h h2
  go_enter Try.func8, Try.ntmps8
  go_wp2_with fail
  refine HA.out.mono ?_
  rintro e w1 ⟨a0, c0, a1, c1, rfl, hs0, hs1, hb1, hn0, hn1⟩
  have HN0 := Lib.hid hn0
  have HN1 := Lib.hid hn1
  clear hn0 hn1
  have HN := Lib.hid (fun W => newest_any (w := W) s0 s1 a0 a1 c0 c1 f)
  have hsv : (Try.prog.info? 46).map (·.size) = some (shotC s0 a0 c0 ++ shotC s1 a1 c1).toArray.size := size_shots
  have hszl : (Try.prog.info? 46).map (·.size) = some (shotC s0 a0 c0 ++ shotC s1 a1 c1).length := size_shots
  have hszz : (zshot ++ zshot).toArray.size = (shotC s0 a0 c0 ++ shotC s1 a1 c1).toArray.size := rfl
  have hall : (shotC s0 a0 c0 ++ shotC s1 a1 c1).toArray.all (·.oneCell') = true := all_oneCell_toArray (by intro v hv; simp [shotC] at hv; rcases hv with rfl | rfl | rfl | rfl | rfl | rfl | rfl | rfl <;> rfl)
  obtain ⟨T, hT⟩ : ∃ T, shotC s0 a0 c0 ++ shotC s1 a1 c1 = T := ⟨_, rfl⟩
  rw [hT] at HN hsv hszl hszz hall ⊢
  have HT := Lib.hid hT
  have HS0 := Lib.hid hs0
  have HS1 := Lib.hid hs1
  have HB1 := Lib.hid hb1
  clear HA hT hs0 hs1 hb1
  go_wp2_with (first | (with_reducible refine wpList_alloc_agg rfl 46 rfl (zshot ++ zshot).toArray zs ?_) | (with_reducible refine wpList_store_new rfl 46 (.tmp 7) (.tmp 10) rfl w1 (zshot ++ zshot).toArray T.toArray rfl rfl rfl hsv hszz hall ?_) | (with_reducible refine wpList_load_mid rfl 46 (.tmp 7) rfl w1.heap.size 0 rfl T _ (rangeAt_new _ _ _) Try.underlying46 rfl hszl ?_))
  refine (HN.out _).mono ?_
  rintro e w2 ⟨rfl, hb2⟩
  have hblk : w2.heap[w1.heap.size]? = some (.cells T.toArray 46 (0, 0)) := (hb2.block _ (by simp)).trans (heap_alloc_last w1 _)
  have HBLK := Lib.hid hblk
  have hbw : Below w1.heap.size w1 w2 := ((Below.refl _ _).alloc (Nat.le_refl _) _).trans (hb2.mono (by simp))
  have HB2 := Lib.hid (HB1.out.trans (hbw.mono HB1.out.size))
  have HK0 := Lib.hid (HS0.out.kept hbw)
  have HK1 := Lib.hid (HS1.out.kept hbw)
  generalize w1.heap.size = p at *
  have hto := Lib.hid (show told s0 s1 f = if newestOf s0 s1 f = -1 then none else if newestOf s0 s1 f = 0 then some s0 else some s1 from rfl)
  have hv := newest_vals s0 s1 f
  generalize told s0 s1 f = TO at *
  generalize newestOf s0 s1 f = nw at *
  clear HN hblk hb2 hbw zs hsv hszl hszz hall
  rcases hv with rfl | rfl | rfl
  · have HE : Hid (Loads TO w (.returned (.tuple #[.slice none 0 0, .int .i64 0, .int .i64 5])) w2) := Lib.hid (by
      rw [hto.out, if_pos rfl]
      exact ⟨none, 0, 0, 0, 5, rfl, HB2.out, rfl, rfl, rfl, rfl, rfl⟩)
    clear hto
    go_wp2_with fail
    refine bodyPost_ret (v := .tuple #[.slice none 0 0, .int .i64 0, .int .i64 5]) (by simp [results, Try.results8]) rfl HE.out
  · have HE : Hid (Loads TO w (.returned (.tuple #[.slice a0 s0.b.length c0, .int .i64 s0.e, .int .i64 0])) w2.drew) := Lib.hid (by
      rw [hto.out]
      refine ⟨_, _, _, _, _, rfl, HB2.out.drew, ?_⟩
      simp
      exact ⟨HK0.out.kept ((Below.refl _ _).drew), HN0.out⟩)
    have hcb := HBLK.out
    rw [← HT.out] at hcb
    have k2 : w2.drew.cell? ⟨p, 2, none⟩ = some (.slice a0 s0.b.length c0) := by simp only [World.cell?, heap_drew', hcb]; rfl
    have k0 : w2.drew.cell? ⟨p, 0, none⟩ = some (.int .i64 s0.e) := by simp only [World.cell?, heap_drew', hcb]; rfl
    clear hto hcb HBLK HT
    go_wp2_with fail
    refine wp_region_held_drew (S := (fun w' => w'.cell? ⟨p, 2, none⟩ = some (.slice a0 s0.b.length c0) ∧ w'.cell? ⟨p, 0, none⟩ = some (.int .i64 s0.e))) (by kernel_rfl) ?_ (fun hHeld => ?_)
    · exact ⟨k2, k0⟩
    refine wpAnyH_take (i := 0) (v := ?_) (by rfl) (by kernel_rfl) (by kernel_rfl) (by kernel_rfl) (by exact fun _ _ _ h => h) (Or.inl ⟨by rfl, ?_⟩) hHeld ?_
    rotate_left 1
    · intro w' hSw
      (try dsimp only at hSw)
      go_simp
      try with_reducible rfl
    try simp only [Act.put, List.setIfInBounds_toArray, List.set_cons_zero, List.set_cons_succ, List.getElem_toArray, List.getElem_cons_zero, List.getElem_cons_succ]
    refine wpAnyH_take (i := 1) (v := ?_) (by rfl) (by kernel_rfl) (by kernel_rfl) (by kernel_rfl) (by exact fun _ _ _ h => h) (Or.inl ⟨by rfl, ?_⟩) hHeld ?_
    rotate_left 1
    · intro w' hSw
      (try dsimp only at hSw)
      go_simp
      try with_reducible rfl
    try simp only [Act.put, List.setIfInBounds_toArray, List.set_cons_zero, List.set_cons_succ, List.getElem_toArray, List.getElem_cons_zero, List.getElem_cons_succ]
    refine wpAnyH_take (i := 2) (v := ?_) (by rfl) (by kernel_rfl) (by kernel_rfl) (by kernel_rfl) (by exact fun _ _ _ h => h) (Or.inl ⟨by rfl, ?_⟩) hHeld ?_
    rotate_left 1
    · intro w' hSw
      (try dsimp only at hSw)
      go_simp
      try with_reducible rfl
    try simp only [Act.put, List.setIfInBounds_toArray, List.set_cons_zero, List.set_cons_succ, List.getElem_toArray, List.getElem_cons_zero, List.getElem_cons_succ]
    refine wpAnyH_take (i := 3) (v := ?_) (by rfl) (by kernel_rfl) (by kernel_rfl) (by kernel_rfl) (by exact fun _ _ _ h => h) (Or.inl ⟨by rfl, ?_⟩) hHeld ?_
    rotate_left 1
    · intro w' hSw
      (try dsimp only at hSw)
      go_simp
      try with_reducible rfl
    try simp only [Act.put, List.setIfInBounds_toArray, List.set_cons_zero, List.set_cons_succ, List.getElem_toArray, List.getElem_cons_zero, List.getElem_cons_succ]
    refine wpAnyH_take (i := 4) (v := ?_) (by rfl) (by kernel_rfl) (by kernel_rfl) (by kernel_rfl) (by exact fun _ _ _ h => h) (Or.inl ⟨by rfl, ?_⟩) hHeld ?_
    rotate_left 1
    · intro w' hSw
      (try dsimp only at hSw)
      go_simp
      try with_reducible rfl
    try simp only [Act.put, List.setIfInBounds_toArray, List.set_cons_zero, List.set_cons_succ, List.getElem_toArray, List.getElem_cons_zero, List.getElem_cons_succ]
    refine wpAnyH_take (i := 5) (v := ?_) (by rfl) (by kernel_rfl) (by kernel_rfl) (by kernel_rfl) (by exact fun _ _ _ h => h) (Or.inl ⟨by rfl, ?_⟩) hHeld ?_
    rotate_left 1
    · intro w' hSw
      (try dsimp only at hSw)
      go_simp
      try with_reducible rfl
    try simp only [Act.put, List.setIfInBounds_toArray, List.set_cons_zero, List.set_cons_succ, List.getElem_toArray, List.getElem_cons_zero, List.getElem_cons_succ]
    refine wpAnyH_take (i := 6) (v := ?_) (by rfl) (by kernel_rfl) (by kernel_rfl) (by kernel_rfl) (by exact fun _ _ _ h => h) (Or.inl ⟨by rfl, ?_⟩) hHeld ?_
    rotate_left 1
    · intro w' hSw
      (try dsimp only at hSw)
      go_simp
      try with_reducible rfl
    try simp only [Act.put, List.setIfInBounds_toArray, List.set_cons_zero, List.set_cons_succ, List.getElem_toArray, List.getElem_cons_zero, List.getElem_cons_succ]
    refine wpAnyH_take (i := 7) (v := ?_) (by rfl) (by kernel_rfl) (by kernel_rfl) (by kernel_rfl) (by exact fun _ _ _ h => h) (Or.inl ⟨by rfl, ?_⟩) hHeld ?_
    rotate_left 1
    · intro w' hSw
      (try dsimp only at hSw)
      go_simp
      try with_reducible rfl
    try simp only [Act.put, List.setIfInBounds_toArray, List.set_cons_zero, List.set_cons_succ, List.getElem_toArray, List.getElem_cons_zero, List.getElem_cons_succ]
    refine wpAnyH_take (i := 8) (v := ?_) (by rfl) (by kernel_rfl) (by kernel_rfl) (by kernel_rfl) (by exact fun _ _ _ h => h) (Or.inl ⟨by rfl, ?_⟩) hHeld ?_
    rotate_left 1
    · intro w' hSw
      (try dsimp only at hSw)
      go_simp
      try with_reducible rfl
    try simp only [Act.put, List.setIfInBounds_toArray, List.set_cons_zero, List.set_cons_succ, List.getElem_toArray, List.getElem_cons_zero, List.getElem_cons_succ]
    refine wpAnyH_take (i := 9) (v := ?_) (by rfl) (by kernel_rfl) (by kernel_rfl) (by kernel_rfl) (by exact fun _ _ _ h => h) (Or.inl ⟨by rfl, ?_⟩) hHeld ?_
    rotate_left 1
    · intro w' hSw
      (try dsimp only at hSw)
      go_simp
      try with_reducible rfl
    try simp only [Act.put, List.setIfInBounds_toArray, List.set_cons_zero, List.set_cons_succ, List.getElem_toArray, List.getElem_cons_zero, List.getElem_cons_succ]
    refine wpAnyH_take (i := 10) (v := ?_) (by rfl) (by kernel_rfl) (by kernel_rfl) (by kernel_rfl) (by exact fun _ _ _ h => h) (Or.inl ⟨by rfl, ?_⟩) hHeld ?_
    rotate_left 1
    · intro w' hSw
      (try dsimp only at hSw)
      go_simp
      try with_reducible rfl
    try simp only [Act.put, List.setIfInBounds_toArray, List.set_cons_zero, List.set_cons_succ, List.getElem_toArray, List.getElem_cons_zero, List.getElem_cons_succ]
    refine wpAnyH_done (by kernel_rfl) ?_ _
    clear hHeld
    go_wp2_with fail
    refine bodyPost_ret (v := .tuple #[.slice a0 s0.b.length c0, .int .i64 s0.e, .int .i64 0]) (by simp [results, Try.results8]) rfl HE.out
  · have HE : Hid (Loads TO w (.returned (.tuple #[.slice a1 s1.b.length c1, .int .i64 s1.e, .int .i64 0])) w2.drew) := Lib.hid (by
      rw [hto.out]
      refine ⟨_, _, _, _, _, rfl, HB2.out.drew, ?_⟩
      simp
      exact ⟨HK1.out.kept ((Below.refl _ _).drew), HN1.out⟩)
    have hcb := HBLK.out
    rw [← HT.out] at hcb
    have k2 : w2.drew.cell? ⟨p, 6, none⟩ = some (.slice a1 s1.b.length c1) := by simp only [World.cell?, heap_drew', hcb]; rfl
    have k0 : w2.drew.cell? ⟨p, 4, none⟩ = some (.int .i64 s1.e) := by simp only [World.cell?, heap_drew', hcb]; rfl
    clear hto hcb HBLK HT
    go_wp2_with fail
    refine wp_region_held_drew (S := (fun w' => w'.cell? ⟨p, 6, none⟩ = some (.slice a1 s1.b.length c1) ∧ w'.cell? ⟨p, 4, none⟩ = some (.int .i64 s1.e))) (by kernel_rfl) ?_ (fun hHeld => ?_)
    · exact ⟨k2, k0⟩
    refine wpAnyH_take (i := 0) (v := ?_) (by rfl) (by kernel_rfl) (by kernel_rfl) (by kernel_rfl) (by exact fun _ _ _ h => h) (Or.inl ⟨by rfl, ?_⟩) hHeld ?_
    rotate_left 1
    · intro w' hSw
      (try dsimp only at hSw)
      go_simp
      try with_reducible rfl
    try simp only [Act.put, List.setIfInBounds_toArray, List.set_cons_zero, List.set_cons_succ, List.getElem_toArray, List.getElem_cons_zero, List.getElem_cons_succ]
    refine wpAnyH_take (i := 1) (v := ?_) (by rfl) (by kernel_rfl) (by kernel_rfl) (by kernel_rfl) (by exact fun _ _ _ h => h) (Or.inl ⟨by rfl, ?_⟩) hHeld ?_
    rotate_left 1
    · intro w' hSw
      (try dsimp only at hSw)
      go_simp
      try with_reducible rfl
    try simp only [Act.put, List.setIfInBounds_toArray, List.set_cons_zero, List.set_cons_succ, List.getElem_toArray, List.getElem_cons_zero, List.getElem_cons_succ]
    refine wpAnyH_take (i := 2) (v := ?_) (by rfl) (by kernel_rfl) (by kernel_rfl) (by kernel_rfl) (by exact fun _ _ _ h => h) (Or.inl ⟨by rfl, ?_⟩) hHeld ?_
    rotate_left 1
    · intro w' hSw
      (try dsimp only at hSw)
      go_simp
      try with_reducible rfl
    try simp only [Act.put, List.setIfInBounds_toArray, List.set_cons_zero, List.set_cons_succ, List.getElem_toArray, List.getElem_cons_zero, List.getElem_cons_succ]
    refine wpAnyH_take (i := 3) (v := ?_) (by rfl) (by kernel_rfl) (by kernel_rfl) (by kernel_rfl) (by exact fun _ _ _ h => h) (Or.inl ⟨by rfl, ?_⟩) hHeld ?_
    rotate_left 1
    · intro w' hSw
      (try dsimp only at hSw)
      go_simp
      try with_reducible rfl
    try simp only [Act.put, List.setIfInBounds_toArray, List.set_cons_zero, List.set_cons_succ, List.getElem_toArray, List.getElem_cons_zero, List.getElem_cons_succ]
    refine wpAnyH_take (i := 4) (v := ?_) (by rfl) (by kernel_rfl) (by kernel_rfl) (by kernel_rfl) (by exact fun _ _ _ h => h) (Or.inl ⟨by rfl, ?_⟩) hHeld ?_
    rotate_left 1
    · intro w' hSw
      (try dsimp only at hSw)
      go_simp
      try with_reducible rfl
    try simp only [Act.put, List.setIfInBounds_toArray, List.set_cons_zero, List.set_cons_succ, List.getElem_toArray, List.getElem_cons_zero, List.getElem_cons_succ]
    refine wpAnyH_take (i := 5) (v := ?_) (by rfl) (by kernel_rfl) (by kernel_rfl) (by kernel_rfl) (by exact fun _ _ _ h => h) (Or.inl ⟨by rfl, ?_⟩) hHeld ?_
    rotate_left 1
    · intro w' hSw
      (try dsimp only at hSw)
      go_simp
      try with_reducible rfl
    try simp only [Act.put, List.setIfInBounds_toArray, List.set_cons_zero, List.set_cons_succ, List.getElem_toArray, List.getElem_cons_zero, List.getElem_cons_succ]
    refine wpAnyH_take (i := 6) (v := ?_) (by rfl) (by kernel_rfl) (by kernel_rfl) (by kernel_rfl) (by exact fun _ _ _ h => h) (Or.inl ⟨by rfl, ?_⟩) hHeld ?_
    rotate_left 1
    · intro w' hSw
      (try dsimp only at hSw)
      go_simp
      try with_reducible rfl
    try simp only [Act.put, List.setIfInBounds_toArray, List.set_cons_zero, List.set_cons_succ, List.getElem_toArray, List.getElem_cons_zero, List.getElem_cons_succ]
    refine wpAnyH_take (i := 7) (v := ?_) (by rfl) (by kernel_rfl) (by kernel_rfl) (by kernel_rfl) (by exact fun _ _ _ h => h) (Or.inl ⟨by rfl, ?_⟩) hHeld ?_
    rotate_left 1
    · intro w' hSw
      (try dsimp only at hSw)
      go_simp
      try with_reducible rfl
    try simp only [Act.put, List.setIfInBounds_toArray, List.set_cons_zero, List.set_cons_succ, List.getElem_toArray, List.getElem_cons_zero, List.getElem_cons_succ]
    refine wpAnyH_take (i := 8) (v := ?_) (by rfl) (by kernel_rfl) (by kernel_rfl) (by kernel_rfl) (by exact fun _ _ _ h => h) (Or.inl ⟨by rfl, ?_⟩) hHeld ?_
    rotate_left 1
    · intro w' hSw
      (try dsimp only at hSw)
      go_simp
      try with_reducible rfl
    try simp only [Act.put, List.setIfInBounds_toArray, List.set_cons_zero, List.set_cons_succ, List.getElem_toArray, List.getElem_cons_zero, List.getElem_cons_succ]
    refine wpAnyH_take (i := 9) (v := ?_) (by rfl) (by kernel_rfl) (by kernel_rfl) (by kernel_rfl) (by exact fun _ _ _ h => h) (Or.inl ⟨by rfl, ?_⟩) hHeld ?_
    rotate_left 1
    · intro w' hSw
      (try dsimp only at hSw)
      go_simp
      try with_reducible rfl
    try simp only [Act.put, List.setIfInBounds_toArray, List.set_cons_zero, List.set_cons_succ, List.getElem_toArray, List.getElem_cons_zero, List.getElem_cons_succ]
    refine wpAnyH_take (i := 10) (v := ?_) (by rfl) (by kernel_rfl) (by kernel_rfl) (by kernel_rfl) (by exact fun _ _ _ h => h) (Or.inl ⟨by rfl, ?_⟩) hHeld ?_
    rotate_left 1
    · intro w' hSw
      (try dsimp only at hSw)
      go_simp
      try with_reducible rfl
    try simp only [Act.put, List.setIfInBounds_toArray, List.set_cons_zero, List.set_cons_succ, List.getElem_toArray, List.getElem_cons_zero, List.getElem_cons_succ]
    refine wpAnyH_done (by kernel_rfl) ?_ _
    clear hHeld
    go_wp2_with fail
    refine bodyPost_ret (v := .tuple #[.slice a1 s1.b.length c1, .int .i64 s1.e, .int .i64 0]) (by simp [results, Try.results8]) rfl HE.out
end
end Go.Proofs.Ytienhidbgohhcaa
