/-
  Layer 8, the document's: Read.
-/
import Derived.Test.YtgojipnhnmigpaaSxR
set_option linter.unusedVariables false
set_option linter.unusedSimpArgs false
namespace Go.Proofs.Ytgojipnhnmigpaa
open Go.RowKit Sx

/-- What the document's read of tokens comes to. -/
def RRead (ts : List Tk) (w : World) (e : Ending) (w' : World) : Prop :=
  Below w.heap.size w w' ∧ match readS ts with
    | .error x => x.1 ≠ 0 ∧ e = .returned (.tuple #[.slice none 0 0, .int .i64 x.1, .int .i64 x.2])
    | .ok y => ∃ v, e = .returned (.tuple #[v, .int .i64 0, .int .i64 0]) ∧ SlAt w' (fun k => w.heap.size ≤ k) v y
section
variable {ts : List Tk} {c : Nat} {a : Option Addr} {w : World}
set_option maxRecDepth 100000 in
set_option maxHeartbeats 16000000 in
theorem RRead_any (hin : TksIn w a ts c) (hl : ts.length ≤ 100000) : Calls Try.prog 8 #[.slice a ts.length c] w (RRead ts w) := by
  have HC := Lib.hid (list_any (c := c) (a := a) hl ts.length w 0 0 (by omega) (Nat.zero_le _) (Nat.zero_le _) hin.at_)
  have HIN := Lib.hid hin.at_
  obtain ⟨L, hL⟩ : ∃ L, ts.length = L := ⟨_, rfl⟩
  have HL := Lib.hid hL
  have HLS : Hid (ts.length ≤ 100000) := Lib.hid hl
  rw [hL] at HC ⊢
  clear hin hl hL
  go_enter Try.func8, Try.ntmps8
  go_wp2_with fail
  refine HC.out.mono ?_
  rintro e w5 ⟨hb5, ⟨k, p, hk0, rfl, hsay⟩ | ⟨v2, y2, j2, rfl, hge, hle, hat, hsl, hfew, hsay⟩⟩
  · have hk0' : (k == 0) = false := by simpa using hk0
    have HBAD : Hid (RRead ts w (.returned (.tuple #[.slice none 0 0, .int .i64 k, .int .i64 p])) w5) := Lib.hid (by
      have h1 : readS ts = .error (k, p) := hsay base [] rfl
      unfold RRead
      rw [h1]
      exact ⟨hb5, hk0, rfl⟩)
    clear hk0 hsay hb5 HC
    go_wp2_with fail
    refine bodyPost_ret (v := .tuple #[.slice none 0 0, .int .i64 k, .int .i64 p]) ?_ rfl HBAD.out
    simp [results, Try.results8, Act.put]
  · have hsay0 : readS ts = runF [base.put y2] (ts.drop j2) := hsay base [] rfl
    rw [HL.out] at hle
    by_cases hj2 : j2 < L
    · obtain ⟨t2, ht2, hk2⟩ : ∃ t, ts[j2]? = some t ∧ t.k = 2 := hat.resolve_left (by rw [HL.out]; omega)
      obtain ⟨K, T, P⟩ := t2
      obtain ⟨g, off, rfl, hx⟩ := (HIN.out.kept hb5).get ht2
      have hx' : w5.rangeAt g (off + j2 * 3) [.int .i64 K, .string T, .int .i64 P] := hx
      have HC5 : Hid (w5.cell? ⟨g, off + j2 * 3 + 2, none⟩ = some (.int .i64 P)) := Lib.hid (hx' 2 _ rfl)
      have HBAD : Hid (RRead ts w (.returned (.tuple #[.slice none 0 0, .int .i64 11, .int .i64 P])) w5.drew) := Lib.hid (by
        have h1 : readS ts = .error (11, P) := by rw [hsay0, drop_at ht2, run_bad (step_none hk2)]
        unfold RRead
        rw [h1]
        exact ⟨hb5.drew, by simp, rfl⟩)
      have hjL : (j2 : Int) < (L : Int) := by omega
      clear hsay hsay0 hat hsl hge hle hfew hb5 HC hx hx' ht2 hk2
      go_wp2_with fail
      refine wp_region_held_drew (S := (fun w' => w'.cell? ⟨g, off + j2 * 3 + 2, none⟩ = some (.int .i64 P))) (by kernel_rfl) ?_ (fun hHeld => ?_)
      · exact HC5.out
      refine wpAnyH_take (i := 0) (v := ?_) (by rfl) (by kernel_rfl) (by kernel_rfl) (by kernel_rfl) (by exact fun _ _ _ h => h) (Or.inl ⟨by rfl, ?_⟩) hHeld ?_
      rotate_left 1
      · intro w' hSw
        (try dsimp only at hSw)
        go_simp
        try with_reducible rfl
      try simp only [Act.put, List.setIfInBounds_toArray, List.set_cons_zero, List.set_cons_succ, List.getElem_toArray, List.getElem_cons_zero, List.getElem_cons_succ]
      refine wpAnyH_take (i := 1) (v := ?_) (by rfl) (by kernel_rfl) (by kernel_rfl) (by kernel_rfl) (by exact fun _ _ _ h => h) (Or.inl ⟨by rfl, ?_⟩) hHeld ?_
      rotate_left 1
      · intro w' hSw
        (try dsimp only at hSw)
        go_simp
        try with_reducible rfl
      try simp only [Act.put, List.setIfInBounds_toArray, List.set_cons_zero, List.set_cons_succ, List.getElem_toArray, List.getElem_cons_zero, List.getElem_cons_succ]
      refine wpAnyH_take (i := 2) (v := ?_) (by rfl) (by kernel_rfl) (by kernel_rfl) (by kernel_rfl) (by exact fun _ _ _ h => h) (Or.inl ⟨by rfl, ?_⟩) hHeld ?_
      rotate_left 1
      · intro w' hSw
        (try dsimp only at hSw)
        go_simp
        try with_reducible rfl
      try simp only [Act.put, List.setIfInBounds_toArray, List.set_cons_zero, List.set_cons_succ, List.getElem_toArray, List.getElem_cons_zero, List.getElem_cons_succ]
      refine wpAnyH_take (i := 3) (v := ?_) (by rfl) (by kernel_rfl) (by kernel_rfl) (by kernel_rfl) (by exact fun _ _ _ h => h) (Or.inl ⟨by rfl, ?_⟩) hHeld ?_
      rotate_left 1
      · intro w' hSw
        (try dsimp only at hSw)
        go_simp
        try with_reducible rfl
      try simp only [Act.put, List.setIfInBounds_toArray, List.set_cons_zero, List.set_cons_succ, List.getElem_toArray, List.getElem_cons_zero, List.getElem_cons_succ]
      refine wpAnyH_take (i := 4) (v := .int .i64 P) (by rfl) (by kernel_rfl) (by kernel_rfl) (by kernel_rfl) (by exact fun _ _ _ h => h) (Or.inl ⟨by rfl, ?_⟩) hHeld ?_
      · intro w' hSw
        exact load_int (.tmp 27) rfl rfl hSw
      try simp only [Act.put, List.setIfInBounds_toArray, List.set_cons_zero, List.set_cons_succ, List.getElem_toArray, List.getElem_cons_zero, List.getElem_cons_succ]
      refine wpAnyH_take (i := 5) (v := ?_) (by rfl) (by kernel_rfl) (by kernel_rfl) (by kernel_rfl) (by exact fun _ _ _ h => h) (Or.inl ⟨by rfl, ?_⟩) hHeld ?_
      rotate_left 1
      · intro w' hSw
        (try dsimp only at hSw)
        go_simp
        try with_reducible rfl
      try simp only [Act.put, List.setIfInBounds_toArray, List.set_cons_zero, List.set_cons_succ, List.getElem_toArray, List.getElem_cons_zero, List.getElem_cons_succ]
      refine wpAnyH_take (i := 6) (v := ?_) (by rfl) (by kernel_rfl) (by kernel_rfl) (by kernel_rfl) (by exact fun _ _ _ h => h) (Or.inl ⟨by rfl, ?_⟩) hHeld ?_
      rotate_left 1
      · intro w' hSw
        (try dsimp only at hSw)
        go_simp
        try with_reducible rfl
      try simp only [Act.put, List.setIfInBounds_toArray, List.set_cons_zero, List.set_cons_succ, List.getElem_toArray, List.getElem_cons_zero, List.getElem_cons_succ]
      refine wpAnyH_take (i := 7) (v := ?_) (by rfl) (by kernel_rfl) (by kernel_rfl) (by kernel_rfl) (by exact fun _ _ _ h => h) (Or.inl ⟨by rfl, ?_⟩) hHeld ?_
      rotate_left 1
      · intro w' hSw
        (try dsimp only at hSw)
        go_simp
        try with_reducible rfl
      try simp only [Act.put, List.setIfInBounds_toArray, List.set_cons_zero, List.set_cons_succ, List.getElem_toArray, List.getElem_cons_zero, List.getElem_cons_succ]
      refine wpAnyH_done (by kernel_rfl) ?_ _
      clear hHeld
      go_wp2_with fail
      refine bodyPost_ret (v := .tuple #[.slice none 0 0, .int .i64 11, .int .i64 P]) ?_ rfl HBAD.out
      simp [results, Try.results8, Act.put]
    · obtain rfl : j2 = L := by omega
      have HOK : Hid (RRead ts w (.returned (.tuple #[v2, .int .i64 0, .int .i64 0])) w5) := Lib.hid (by
        have h1 : readS ts = .ok y2 := by
          rw [hsay0, List.drop_eq_nil_of_le (by rw [HL.out]; exact Nat.le_refl _)]
          rfl
        unfold RRead
        rw [h1]
        exact ⟨hb5, v2, rfl, hsl⟩)
      clear hsay hsay0 hat hsl hge hle hfew hb5 HC
      go_wp2_with fail
      refine bodyPost_ret (v := .tuple #[v2, .int .i64 0, .int .i64 0]) ?_ rfl HOK.out
      simp [results, Try.results8, Act.put]
end
end Go.Proofs.Ytgojipnhnmigpaa
