/-
  Layer 8: read: a list begins, a list ends.
-/
import Derived.Test.YtgojipnhnmigpaaSxB
set_option linter.unusedVariables false
set_option linter.unusedSimpArgs false
namespace Go.Proofs.Ytgojipnhnmigpaa
open Go.RowKit Sx

section
variable {w0 W W5 : World} {R N : Nat} {fs : List Fr} {sv v : Value} {vs : List Value} {f f2 : Fr} {g n c g' c' : Nat} {K P : Int} {T : ByteArray}
theorem head_sexp {o : Oper} {aa : Act} {w : World} {x hi : Operand} (ho : o.op = .slice 24 x none (some hi) none) {A : Option Addr} {n c j : Nat} (hx : aa.eval x = .slice A n c) (hhi : aa.eval hi = .int .i64 (j : Int)) (h2 : j ≤ c) :
    (execOp aa.eval o).run Try.prog w = .ok (.value (.slice A j c)) w := by
  have hsz : (sizeOf (Try.prog.elem 24)).run Try.prog w = .ok 5 w := by kernel_rfl
  have h := run_slice_h (P := Try.prog) w 24 A n c Try.underlying24 .i64 (j : Int) (by omega) (by omega)
  rw [hsz] at h
  have he : (if c = 0 then A else A.map (fun x => x.add (0 * 5))) = A := by
    split
    · rfl
    · cases A with
      | none => rfl
      | some x => simp [Addr.add_zero']
  simp only [Result.andThen_ok, sliced, Int.toNat_natCast, Nat.sub_zero] at h
  rw [he] at h
  unfold execOp
  simp only [ho, hx, hhi, Option.map_some, Option.map_none]
  simp only [Sem.run_bind, run_sliceAt_slice (P := Try.prog) w 24 _ _ _ _ Try.underlying24, h, Result.andThen_ok, Sem.run_pure]
set_option maxRecDepth 100000 in
set_option maxHeartbeats 8000000 in
theorem read_open (h : RSt w0 R N W fs sv vs) (h1 : K = 1) (hd : fs.length ≤ 1000) :
    Calls Try.prog 13 #[.pointer (some ⟨R, 0, none⟩), .agg #[.int .i64 K, .string T, .int .i64 P]] W (fun e w' => e = .returned (.int .i64 0) ∧ ∃ sv' vs', RSt w0 R N w' (⟨true, ⟨K, T, P⟩, .nil⟩ :: fs) sv' vs') := by
  obtain ⟨g, c, n, rfl, hn, hnc, hgl, hgR⟩ := h.value
  have b1 : Below W.heap.size W (W.alloc (.cells #[.int .i64 K, .string T, .int .i64 P] 35)) := (Below.refl _ _).alloc (Nat.le_refl _) _
  have HWI := Lib.hid (within_any (h.kept b1) hn)
  have b4 : Below W.heap.size W ((W.alloc (.cells #[.int .i64 K, .string T, .int .i64 P] 35)).drew.alloc (.cells z5.toArray 38)) := b1.drew.alloc b1.size _
  have H4 := Lib.hid (h.kept b4)
  have hst4 := H4.out.stack
  rw [hn] at hst4
  have HROW := Lib.hid hst4
  have HLEN : Hid (n + 1 + 1 ≤ 2000000) := Lib.hid (by omega)
  have HLE : Hid (w0.heap.size ≤ ((W.alloc (.cells #[.int .i64 K, .string T, .int .i64 P] 35)).drew.alloc (.cells z5.toArray 38)).heap.size) := Lib.hid (Nat.le_trans h.below.size b4.size)
  have hbox0 : (W.alloc (.cells #[.int .i64 K, .string T, .int .i64 P] 35)).rangeAt W.heap.size 0 [.int .i64 K, .string T, .int .i64 P] := rangeAt_new W [.int .i64 K, .string T, .int .i64 P] 35
  have HBOX0 := Lib.hid hbox0
  have HBOX4 : Hid (((W.alloc (.cells #[.int .i64 K, .string T, .int .i64 P] 35)).drew.alloc (.cells z5.toArray 38)).rangeAt W.heap.size 0 [.int .i64 K, .string T, .int .i64 P]) := Lib.hid (World.rangeAt_alloc (w := (W.alloc (.cells #[.int .i64 K, .string T, .int .i64 P] 35)).drew) hbox0 _)
  have HC4 := Lib.hid H4.out.cells.1
  have HC2 := Lib.hid (h.kept b1).cells.1
  have hz := z5_new ((W.alloc (.cells #[.int .i64 K, .string T, .int .i64 P] 35)).drew)
  rw [show ((W.alloc (.cells #[.int .i64 K, .string T, .int .i64 P] 35)).drew).heap.size = W.heap.size + 1 by simp] at hz
  have HZ := Lib.hid hz
  have HGL : Hid (R ≠ W.heap.size ∧ g < W.heap.size ∧ g ≠ R) := Lib.hid ⟨Nat.ne_of_lt h.Rlt, hgl, hgR⟩
  have HN := Lib.hid hn
  have HD := Lib.hid hd
  have hlt : ¬ (1000 : Int) ≤ (n : Int) := by omega
  subst h1
  clear h hn hnc hgl hgR b1 b4 hst4 hz hd hbox0
  go_enter Try.func13, Try.ntmps13
  go_wp2_with (first | (go_at_call 14; refine HWI.out.mono ?_; rintro e w' ⟨rfl, rfl⟩))
  refine wp_region_held_drew (S := (fun w' => w'.rangeAt W.heap.size 0 [.int .i64 1, .string T, .int .i64 P])) (by kernel_rfl) ?_ (fun hHeld => ?_)
  · exact HBOX0.out
  refine wpAnyH_take (i := 0) (v := ?_) (by rfl) (by kernel_rfl) (by kernel_rfl) (by kernel_rfl) (by exact fun _ _ _ h => h) (Or.inl ⟨by rfl, ?_⟩) hHeld ?_
  rotate_left 1
  · intro w' hSw
    (try dsimp only at hSw)
    go_simp
    try with_reducible rfl
  try simp only [Act.put, List.setIfInBounds_toArray, List.set_cons_zero, List.set_cons_succ, List.getElem_toArray, List.getElem_cons_zero, List.getElem_cons_succ]
  refine wpAnyH_take (i := 1) (v := ?_) (by rfl) (by kernel_rfl) (by kernel_rfl) (by kernel_rfl) (by exact fun _ _ _ h => h) (Or.inl ⟨by rfl, ?_⟩) hHeld ?_
  rotate_left 1
  · intro w' hSw
    (try dsimp only at hSw)
    go_simp
    try with_reducible rfl
  try simp only [Act.put, List.setIfInBounds_toArray, List.set_cons_zero, List.set_cons_succ, List.getElem_toArray, List.getElem_cons_zero, List.getElem_cons_succ]
  refine wpAnyH_take (i := 2) (v := ?_) (by rfl) (by kernel_rfl) (by kernel_rfl) (by kernel_rfl) (by exact fun _ _ _ h => h) (Or.inl ⟨by rfl, ?_⟩) hHeld ?_
  rotate_left 1
  · intro w' hSw
    (try dsimp only at hSw)
    go_simp
    try with_reducible rfl
  try simp only [Act.put, List.setIfInBounds_toArray, List.set_cons_zero, List.set_cons_succ, List.getElem_toArray, List.getElem_cons_zero, List.getElem_cons_succ]
  refine wpAnyH_take (i := 4) (v := .agg #[.int .i64 1, .string T, .int .i64 P]) (by rfl) (by kernel_rfl) (by kernel_rfl) (by kernel_rfl) (by exact fun _ _ _ h => h) (Or.inl ⟨by rfl, ?_⟩) hHeld ?_
  · intro w' hSw
    exact run_load_op 35 (.tmp 3) rfl W.heap.size 0 rfl [.int .i64 1, .string T, .int .i64 P] _ hSw Try.underlying35 rfl (by rw [size_token]; rfl)
  try simp only [Act.put, List.setIfInBounds_toArray, List.set_cons_zero, List.set_cons_succ, List.getElem_toArray, List.getElem_cons_zero, List.getElem_cons_succ]
  refine wpAnyH_take (i := 5) (v := .agg #[.bool true, .int .i64 1, .string T, .int .i64 P, .slice none 0 0]) (by rfl) (by kernel_rfl) (by kernel_rfl) (by kernel_rfl) (by exact fun _ _ _ h => h) (Or.inl ⟨by rfl, ?_⟩) hHeld ?_
  · intro w' hSw
    exact build_list rfl rfl
  try simp only [Act.put, List.setIfInBounds_toArray, List.set_cons_zero, List.set_cons_succ, List.getElem_toArray, List.getElem_cons_zero, List.getElem_cons_succ]
  refine wpAnyH_ready (rs := [3, 7]) (by kernel_rfl) (by simp) ?_
  refine AllReadyH.cons (by rfl) (fun K hK => ?_) ?_
  · refine step_val _ (load_sl (.tmp 19) rfl rfl HC2.out) rfl ?_
    refine hK.out _ _ ?_ (fun hHeld => ?_)
    · exact hHeld
    clear hK K
    try simp only [Act.put, List.setIfInBounds_toArray, List.set_cons_zero, List.set_cons_succ, List.getElem_toArray, List.getElem_cons_zero, List.getElem_cons_succ]
    refine wpAnyH_take (i := 6) (v := ?_) (by rfl) (by kernel_rfl) (by kernel_rfl) (by kernel_rfl) (by exact fun _ _ _ h => h) (Or.inl ⟨by rfl, ?_⟩) hHeld ?_
    rotate_left 1
    · intro w' hSw
      (try dsimp only at hSw)
      go_simp
      try with_reducible rfl
    try simp only [Act.put, List.setIfInBounds_toArray, List.set_cons_zero, List.set_cons_succ, List.getElem_toArray, List.getElem_cons_zero, List.getElem_cons_succ]
    refine wpAnyH_ready (rs := [7]) (by kernel_rfl) (by simp) ?_
    refine AllReadyH.cons (by rfl) (fun K hK => ?_) AllReadyH.nil
    go_simp
    refine hK.out _ _ ?_ (fun hHeld => ?_)
    · exact HBOX4.out
    clear hK K
    try simp only [Act.put, List.setIfInBounds_toArray, List.set_cons_zero, List.set_cons_succ, List.getElem_toArray, List.getElem_cons_zero, List.getElem_cons_succ]
    refine wpAnyH_ready (rs := [8]) (by kernel_rfl) (by simp) ?_
    refine AllReadyH.cons (by rfl) (fun K hK => ?_) AllReadyH.nil
    refine step_app_sexp rfl (.tmp 20) (.tmp 24) rfl w0.heap.size (.slice (some ⟨g, 0, none⟩) (n + 1) c) (n + 1) (stackC fs vs) rfl HROW.out ⟨W.heap.size + 1, 0, none⟩ 1 1 z5 rfl rfl (by exact HZ.out) z5_one HLEN.out HLE.out ?_
    intro v' w5 hown hgrw hnew
    obtain ⟨g', c', rfl⟩ := ownsRow_form' hown
    have HF := Lib.hid (open_fin (t := ⟨1, T, P⟩) H4.out HN.out HD.out hown hgrw (hnew g' rfl))
    have g5 : w5.rangeAt W.heap.size 0 [.int .i64 1, .string T, .int .i64 P] := fun j u hu => hgrw.cell (HBOX4.out j u hu) (fun e => by cases e; exact Nat.lt_irrefl _ HGL.out.2.1)
    have gc := HF.out.2.2.2.1.1
    have gf := HF.out.2.2.2.1.2
    have gc2 := HF.out.2.2.2.2.1.1
    have gf2 := HF.out.2.2.2.2.1.2
    have HG : Hid (g' ≠ W.heap.size ∧ R ≠ W.heap.size) := Lib.hid ⟨by
      have := HGL.out
      rcases hnew g' rfl with e | e
      · have e' : g = g' := by cases e; rfl
        omega
      · simp at e
        omega, HGL.out.1⟩
    clear hown hgrw hnew
    refine hK.out _ _ ?_ (fun hHeld => ?_)
    · exact g5
    clear hK K
    try simp only [Act.put, List.setIfInBounds_toArray, List.set_cons_zero, List.set_cons_succ, List.getElem_toArray, List.getElem_cons_zero, List.getElem_cons_succ]
    refine wpAnyH_take (i := 9) (v := .pointer (some ⟨g', (n + 1) * 5, none⟩)) (by rfl) (by kernel_rfl) (by kernel_rfl) (by kernel_rfl) (by exact fun _ _ _ h => h) (Or.inl ⟨by rfl, ?_⟩) hHeld ?_
    · intro w' hSw
      exact idx_sexp rfl rfl rfl (by omega)
    try simp only [Act.put, List.setIfInBounds_toArray, List.set_cons_zero, List.set_cons_succ, List.getElem_toArray, List.getElem_cons_zero, List.getElem_cons_succ]
    refine wpAnyH_take (i := 11) (v := ?_) (by rfl) (by kernel_rfl) (by kernel_rfl) (by kernel_rfl) (by exact fun _ _ _ h => h) (Or.inl ⟨by rfl, ?_⟩) hHeld ?_
    rotate_left 1
    · intro w' hSw
      (try dsimp only at hSw)
      go_simp
      try with_reducible rfl
    try simp only [Act.put, List.setIfInBounds_toArray, List.set_cons_zero, List.set_cons_succ, List.getElem_toArray, List.getElem_cons_zero, List.getElem_cons_succ]
    refine wpAnyH_take (i := 12) (v := ?_) (by rfl) (by kernel_rfl) (by kernel_rfl) (by kernel_rfl) (by exact fun _ _ _ h => h) (Or.inl ⟨by rfl, ?_⟩) hHeld ?_
    rotate_left 1
    · intro w' hSw
      (try dsimp only at hSw)
      go_simp
      try with_reducible rfl
    try simp only [Act.put, List.setIfInBounds_toArray, List.set_cons_zero, List.set_cons_succ, List.getElem_toArray, List.getElem_cons_zero, List.getElem_cons_succ]
    refine wpAnyH_ready (rs := [10, 13]) (by kernel_rfl) (by simp) ?_
    refine AllReadyH.cons (by rfl) (fun K hK => ?_) ?_
    · refine step_store_cells rfl 38 (.tmp 26) (.tmp 22) rfl g' ((n + 1) * 5) (sx5 true ⟨1, T, P⟩ (.slice none 0 0)).toArray rfl rfl (by exact HF.out.2.1) size_sexp (sx5_one true ⟨1, T, P⟩ rfl) ?_
      refine hK.out _ _ ?_ (fun hHeld => ?_)
      · exact rangeAt_blk hHeld (heap_setCells_other _ _ _ _ _ (fun e => HG.out.1 e.symm))
      clear hK K
      try simp only [Act.put, List.setIfInBounds_toArray, List.set_cons_zero, List.set_cons_succ, List.getElem_toArray, List.getElem_cons_zero, List.getElem_cons_succ]
      refine wpAnyH_ready (rs := [13]) (by kernel_rfl) (by simp) ?_
      refine AllReadyH.cons (by rfl) (fun K hK => ?_) AllReadyH.nil
      go_simp
      refine hK.out _ _ ?_ (fun hHeld => ?_)
      · exact rangeAt_blk hHeld (heap_setCell_other _ _ _ _ (fun e => HG.out.2 e.symm))
      clear hK K
      try simp only [Act.put, List.setIfInBounds_toArray, List.set_cons_zero, List.set_cons_succ, List.getElem_toArray, List.getElem_cons_zero, List.getElem_cons_succ]
      refine wpAnyH_done (by kernel_rfl) ?_ _
      clear hHeld
      go_wp2_with fail
      go_ret
      exact ⟨rfl, _, _, HF.out.2.2.2.2.2.1⟩
    refine AllReadyH.cons (by rfl) (fun K hK => ?_) ?_
    · go_simp
      refine hK.out _ _ ?_ (fun hHeld => ?_)
      · exact rangeAt_blk hHeld (heap_setCell_other _ _ _ _ (fun e => HG.out.2 e.symm))
      clear hK K
      try simp only [Act.put, List.setIfInBounds_toArray, List.set_cons_zero, List.set_cons_succ, List.getElem_toArray, List.getElem_cons_zero, List.getElem_cons_succ]
      refine wpAnyH_ready (rs := [10]) (by kernel_rfl) (by simp) ?_
      refine AllReadyH.cons (by rfl) (fun K hK => ?_) AllReadyH.nil
      refine step_store_cells rfl 38 (.tmp 26) (.tmp 22) rfl g' ((n + 1) * 5) (sx5 true ⟨1, T, P⟩ (.slice none 0 0)).toArray rfl rfl (by exact HF.out.2.2.1) size_sexp (sx5_one true ⟨1, T, P⟩ rfl) ?_
      refine hK.out _ _ ?_ (fun hHeld => ?_)
      · exact rangeAt_blk hHeld (heap_setCells_other _ _ _ _ _ (fun e => HG.out.1 e.symm))
      clear hK K
      try simp only [Act.put, List.setIfInBounds_toArray, List.set_cons_zero, List.set_cons_succ, List.getElem_toArray, List.getElem_cons_zero, List.getElem_cons_succ]
      refine wpAnyH_done (by kernel_rfl) ?_ _
      clear hHeld
      go_wp2_with fail
      go_ret
      exact ⟨rfl, _, _, HF.out.2.2.2.2.2.2⟩
    exact AllReadyH.nil
  refine AllReadyH.cons (by rfl) (fun K hK => ?_) ?_
  · go_simp
    refine hK.out _ _ ?_ (fun hHeld => ?_)
    · exact HBOX4.out
    clear hK K
    try simp only [Act.put, List.setIfInBounds_toArray, List.set_cons_zero, List.set_cons_succ, List.getElem_toArray, List.getElem_cons_zero, List.getElem_cons_succ]
    refine wpAnyH_ready (rs := [3]) (by kernel_rfl) (by simp) ?_
    refine AllReadyH.cons (by rfl) (fun K hK => ?_) AllReadyH.nil
    refine step_val _ (load_sl (.tmp 19) rfl rfl HC4.out) rfl ?_
    refine hK.out _ _ ?_ (fun hHeld => ?_)
    · exact hHeld
    clear hK K
    try simp only [Act.put, List.setIfInBounds_toArray, List.set_cons_zero, List.set_cons_succ, List.getElem_toArray, List.getElem_cons_zero, List.getElem_cons_succ]
    refine wpAnyH_take (i := 6) (v := ?_) (by rfl) (by kernel_rfl) (by kernel_rfl) (by kernel_rfl) (by exact fun _ _ _ h => h) (Or.inl ⟨by rfl, ?_⟩) hHeld ?_
    rotate_left 1
    · intro w' hSw
      (try dsimp only at hSw)
      go_simp
      try with_reducible rfl
    try simp only [Act.put, List.setIfInBounds_toArray, List.set_cons_zero, List.set_cons_succ, List.getElem_toArray, List.getElem_cons_zero, List.getElem_cons_succ]
    refine wpAnyH_ready (rs := [8]) (by kernel_rfl) (by simp) ?_
    refine AllReadyH.cons (by rfl) (fun K hK => ?_) AllReadyH.nil
    refine step_app_sexp rfl (.tmp 20) (.tmp 24) rfl w0.heap.size (.slice (some ⟨g, 0, none⟩) (n + 1) c) (n + 1) (stackC fs vs) rfl HROW.out ⟨W.heap.size + 1, 0, none⟩ 1 1 z5 rfl rfl (by exact HZ.out) z5_one HLEN.out HLE.out ?_
    intro v' w5 hown hgrw hnew
    obtain ⟨g', c', rfl⟩ := ownsRow_form' hown
    have HF := Lib.hid (open_fin (t := ⟨1, T, P⟩) H4.out HN.out HD.out hown hgrw (hnew g' rfl))
    have g5 : w5.rangeAt W.heap.size 0 [.int .i64 1, .string T, .int .i64 P] := fun j u hu => hgrw.cell (HBOX4.out j u hu) (fun e => by cases e; exact Nat.lt_irrefl _ HGL.out.2.1)
    have gc := HF.out.2.2.2.1.1
    have gf := HF.out.2.2.2.1.2
    have gc2 := HF.out.2.2.2.2.1.1
    have gf2 := HF.out.2.2.2.2.1.2
    have HG : Hid (g' ≠ W.heap.size ∧ R ≠ W.heap.size) := Lib.hid ⟨by
      have := HGL.out
      rcases hnew g' rfl with e | e
      · have e' : g = g' := by cases e; rfl
        omega
      · simp at e
        omega, HGL.out.1⟩
    clear hown hgrw hnew
    refine hK.out _ _ ?_ (fun hHeld => ?_)
    · exact g5
    clear hK K
    try simp only [Act.put, List.setIfInBounds_toArray, List.set_cons_zero, List.set_cons_succ, List.getElem_toArray, List.getElem_cons_zero, List.getElem_cons_succ]
    refine wpAnyH_take (i := 9) (v := .pointer (some ⟨g', (n + 1) * 5, none⟩)) (by rfl) (by kernel_rfl) (by kernel_rfl) (by kernel_rfl) (by exact fun _ _ _ h => h) (Or.inl ⟨by rfl, ?_⟩) hHeld ?_
    · intro w' hSw
      exact idx_sexp rfl rfl rfl (by omega)
    try simp only [Act.put, List.setIfInBounds_toArray, List.set_cons_zero, List.set_cons_succ, List.getElem_toArray, List.getElem_cons_zero, List.getElem_cons_succ]
    refine wpAnyH_take (i := 11) (v := ?_) (by rfl) (by kernel_rfl) (by kernel_rfl) (by kernel_rfl) (by exact fun _ _ _ h => h) (Or.inl ⟨by rfl, ?_⟩) hHeld ?_
    rotate_left 1
    · intro w' hSw
      (try dsimp only at hSw)
      go_simp
      try with_reducible rfl
    try simp only [Act.put, List.setIfInBounds_toArray, List.set_cons_zero, List.set_cons_succ, List.getElem_toArray, List.getElem_cons_zero, List.getElem_cons_succ]
    refine wpAnyH_take (i := 12) (v := ?_) (by rfl) (by kernel_rfl) (by kernel_rfl) (by kernel_rfl) (by exact fun _ _ _ h => h) (Or.inl ⟨by rfl, ?_⟩) hHeld ?_
    rotate_left 1
    · intro w' hSw
      (try dsimp only at hSw)
      go_simp
      try with_reducible rfl
    try simp only [Act.put, List.setIfInBounds_toArray, List.set_cons_zero, List.set_cons_succ, List.getElem_toArray, List.getElem_cons_zero, List.getElem_cons_succ]
    refine wpAnyH_ready (rs := [10, 13]) (by kernel_rfl) (by simp) ?_
    refine AllReadyH.cons (by rfl) (fun K hK => ?_) ?_
    · refine step_store_cells rfl 38 (.tmp 26) (.tmp 22) rfl g' ((n + 1) * 5) (sx5 true ⟨1, T, P⟩ (.slice none 0 0)).toArray rfl rfl (by exact HF.out.2.1) size_sexp (sx5_one true ⟨1, T, P⟩ rfl) ?_
      refine hK.out _ _ ?_ (fun hHeld => ?_)
      · exact rangeAt_blk hHeld (heap_setCells_other _ _ _ _ _ (fun e => HG.out.1 e.symm))
      clear hK K
      try simp only [Act.put, List.setIfInBounds_toArray, List.set_cons_zero, List.set_cons_succ, List.getElem_toArray, List.getElem_cons_zero, List.getElem_cons_succ]
      refine wpAnyH_ready (rs := [13]) (by kernel_rfl) (by simp) ?_
      refine AllReadyH.cons (by rfl) (fun K hK => ?_) AllReadyH.nil
      go_simp
      refine hK.out _ _ ?_ (fun hHeld => ?_)
      · exact rangeAt_blk hHeld (heap_setCell_other _ _ _ _ (fun e => HG.out.2 e.symm))
      clear hK K
      try simp only [Act.put, List.setIfInBounds_toArray, List.set_cons_zero, List.set_cons_succ, List.getElem_toArray, List.getElem_cons_zero, List.getElem_cons_succ]
      refine wpAnyH_done (by kernel_rfl) ?_ _
      clear hHeld
      go_wp2_with fail
      go_ret
      exact ⟨rfl, _, _, HF.out.2.2.2.2.2.1⟩
    refine AllReadyH.cons (by rfl) (fun K hK => ?_) ?_
    · go_simp
      refine hK.out _ _ ?_ (fun hHeld => ?_)
      · exact rangeAt_blk hHeld (heap_setCell_other _ _ _ _ (fun e => HG.out.2 e.symm))
      clear hK K
      try simp only [Act.put, List.setIfInBounds_toArray, List.set_cons_zero, List.set_cons_succ, List.getElem_toArray, List.getElem_cons_zero, List.getElem_cons_succ]
      refine wpAnyH_ready (rs := [10]) (by kernel_rfl) (by simp) ?_
      refine AllReadyH.cons (by rfl) (fun K hK => ?_) AllReadyH.nil
      refine step_store_cells rfl 38 (.tmp 26) (.tmp 22) rfl g' ((n + 1) * 5) (sx5 true ⟨1, T, P⟩ (.slice none 0 0)).toArray rfl rfl (by exact HF.out.2.2.1) size_sexp (sx5_one true ⟨1, T, P⟩ rfl) ?_
      refine hK.out _ _ ?_ (fun hHeld => ?_)
      · exact rangeAt_blk hHeld (heap_setCells_other _ _ _ _ _ (fun e => HG.out.1 e.symm))
      clear hK K
      try simp only [Act.put, List.setIfInBounds_toArray, List.set_cons_zero, List.set_cons_succ, List.getElem_toArray, List.getElem_cons_zero, List.getElem_cons_succ]
      refine wpAnyH_done (by kernel_rfl) ?_ _
      clear hHeld
      go_wp2_with fail
      go_ret
      exact ⟨rfl, _, _, HF.out.2.2.2.2.2.2⟩
    exact AllReadyH.nil
  exact AllReadyH.nil
set_option maxRecDepth 100000 in
set_option maxHeartbeats 8000000 in
theorem read_close (h : RSt w0 R N W (f :: f2 :: fs) sv (v :: vs)) (h2 : K = 2) (hN : N + 1 ≤ 1000000) :
    Calls Try.prog 13 #[.pointer (some ⟨R, 0, none⟩), .agg #[.int .i64 K, .string T, .int .i64 P]] W (fun e w' => e = .returned (.int .i64 0) ∧ ∃ sv' vs', RSt w0 R (N + 1) w' (f2.put (.one f.l f.t f.acc) :: fs) sv' vs') := by
  obtain ⟨g, c, n, rfl, hn, hnc, hgl, hgR⟩ := h.value
  obtain ⟨v2, vs, rfl⟩ : ∃ v2 vs', vs = v2 :: vs' := by
    have := h.rows.2
    cases vs with
    | nil => exact this.elim
    | cons a b => exact ⟨a, b, rfl⟩
  obtain ⟨m, rfl⟩ : ∃ m, n = m + 1 := ⟨n - 1, by simp at hn; omega⟩
  have hfs : fs.length = m := by simpa using hn
  have hdp := h.deep
  obtain ⟨L, hL⟩ : ∃ L, f.l = L := ⟨_, rfl⟩
  obtain ⟨⟨K1, T1, P1⟩, hT⟩ : ∃ t, f.t = t := ⟨_, rfl⟩
  obtain ⟨va, vc, rfl⟩ := h.rows.1.form
  have b1 : Below W.heap.size W (W.alloc (.cells #[.int .i64 K, .string T, .int .i64 P] 35)) := (Below.refl _ _).alloc (Nat.le_refl _) _
  have HWI := Lib.hid (within_any (h.kept b1) hn)
  have HLA := Lib.hid (last_any (h.kept b1) hn)
  obtain ⟨W2, hW2⟩ : ∃ W2, W2 = (W.alloc (.cells #[.int .i64 K, .string T, .int .i64 P] 35)).drew := ⟨_, rfl⟩
  have b2 : Below W.heap.size W W2 := by rw [hW2]; exact b1.drew
  obtain ⟨k5, hk5⟩ : ∃ k : Nat, f.acc.len = k := ⟨_, rfl⟩
  have hx : W2.rangeAt g ((m + 1) * 5) [.bool L, .int .i64 K1, .string T1, .int .i64 P1, .slice va k5 vc] := fun j u hu => by
    have hst := (h.kept b2).stack
    have hj := (List.getElem?_eq_some_iff.1 hu).1
    simp only [List.length_cons, List.length_nil] at hj
    rw [hn] at hst
    have hl2 := stackC_len h.rows.2
    simp only [List.length_cons] at hl2
    rw [hst.cellAt _ (by omega), stackC, List.getElem?_append_right (by omega), hl2, hfs, Nat.add_sub_cancel_left, hL, hT, hk5]
    exact hu
  have b3 : Below W.heap.size W (W2.alloc (.cells #[.bool L, .int .i64 K1, .string T1, .int .i64 P1, .slice va k5 vc] 38)) := b2.alloc b2.size _
  have H3 := Lib.hid (h.kept b3)
  have hbox3 : (W2.alloc (.cells #[.bool L, .int .i64 K1, .string T1, .int .i64 P1, .slice va k5 vc] 38)).rangeAt W2.heap.size 0 [.bool L, .int .i64 K1, .string T1, .int .i64 P1, .slice va k5 vc] := rangeAt_new W2 [.bool L, .int .i64 K1, .string T1, .int .i64 P1, .slice va k5 vc] 38
  obtain ⟨hp1, hp2⟩ := (H3.out.kept ((Below.refl _ _).drew)).popEnd (by simpa using hn) (by simp)
  have HW3 := Lib.hid (within_any (H3.out.kept ((Below.refl _ _).drew)) hn)
  have HPUT := Lib.hid (put_any (l := L) (t := ⟨K1, T1, P1⟩) hp1 hp2 hN)
  have HRL : Hid (R ≠ W2.heap.size) := Lib.hid (Nat.ne_of_lt (Nat.lt_of_lt_of_le h.Rlt b2.size))
  have zs := fun w => (zero_of_info zero_sexp).1 w
  have HX := Lib.hid hx
  have HBOX := Lib.hid hbox3
  have HF := Lib.hid (And.intro hL (And.intro hT (And.intro hk5 hfs)))
  have hone : (#[Value.bool L, .int .i64 K1, .string T1, .int .i64 P1, .slice va k5 vc] : Array Value).all (·.oneCell') = true := by simp [Value.oneCell']
  have c3 := H3.out.cells.1
  have hne0 : (((m : Int) + 1) == 0) = false := by simp; omega
  have hmle : m + 1 ≤ c := by omega
  have HC3 := Lib.hid c3
  have HFZ := Lib.hid (H3.out.cells.2 0)
  subst h2
  have HM := Lib.hid hmle
  clear h hn hnc hgl hgR hfs hdp hL hT b1 b2 b3 hx hbox3 hmle hp1 hp2 c3
  rw [hk5] at HPUT
  clear hk5
  go_enter Try.func13, Try.ntmps13
  go_wp2_with (first | (go_at_call 14; refine HWI.out.mono ?_; rintro e w' ⟨rfl, rfl⟩) | (go_at_call 15; refine HLA.out.mono ?_; rintro e w' ⟨rfl, rfl⟩; rw [← hW2]; clear hW2) | (refine wpList_val (.agg #[.bool L, .int .i64 K1, .string T1, .int .i64 P1, .slice va k5 vc]) (run_load_op 38 (.tmp 36) (by with_reducible rfl) g ((m + 1) * 5) (by rfl) [.bool L, .int .i64 K1, .string T1, .int .i64 P1, .slice va k5 vc] _ HX.out Try.underlying38 rfl (by rw [size_sexp]; rfl)) (by rfl) ?_) | (with_reducible refine wpList_alloc_agg rfl 38 rfl _ zs ?_) | (with_reducible refine wpList_store_new rfl 38 (.tmp 5) (.tmp 37) rfl W2 _ #[.bool L, .int .i64 K1, .string T1, .int .i64 P1, .slice va k5 vc] rfl rfl rfl size_sexp rfl hone ?_))
  refine wp_region_held_drew (S := (fun _ => True)) (by kernel_rfl) ?_ (fun hHeld => ?_)
  · trivial
  refine wpAnyH_take (i := 0) (v := ?_) (by rfl) (by kernel_rfl) (by kernel_rfl) (by kernel_rfl) (by exact fun _ _ _ h => h) (Or.inl ⟨by rfl, ?_⟩) hHeld ?_
  rotate_left 1
  · intro w' hSw
    (try dsimp only at hSw)
    go_simp
    try with_reducible rfl
  try simp only [Act.put, List.setIfInBounds_toArray, List.set_cons_zero, List.set_cons_succ, List.getElem_toArray, List.getElem_cons_zero, List.getElem_cons_succ]
  refine wpAnyH_take (i := 1) (v := ?_) (by rfl) (by kernel_rfl) (by kernel_rfl) (by kernel_rfl) (by exact fun _ _ _ h => h) (Or.inl ⟨by rfl, ?_⟩) hHeld ?_
  rotate_left 1
  · intro w' hSw
    (try dsimp only at hSw)
    go_simp
    try with_reducible rfl
  try simp only [Act.put, List.setIfInBounds_toArray, List.set_cons_zero, List.set_cons_succ, List.getElem_toArray, List.getElem_cons_zero, List.getElem_cons_succ]
  refine wpAnyH_take (i := 2) (v := ?_) (by rfl) (by kernel_rfl) (by kernel_rfl) (by kernel_rfl) (by exact fun _ _ _ h => h) (Or.inl ⟨by rfl, ?_⟩) hHeld ?_
  rotate_left 1
  · intro w' hSw
    (try dsimp only at hSw)
    go_simp
    try with_reducible rfl
  try simp only [Act.put, List.setIfInBounds_toArray, List.set_cons_zero, List.set_cons_succ, List.getElem_toArray, List.getElem_cons_zero, List.getElem_cons_succ]
  refine wpAnyH_take (i := 3) (v := ?_) (by rfl) (by kernel_rfl) (by kernel_rfl) (by kernel_rfl) (by exact fun _ _ _ h => h) (Or.inl ⟨by rfl, ?_⟩) hHeld ?_
  rotate_left 1
  · intro w' hSw
    (try dsimp only at hSw)
    go_simp
    try with_reducible rfl
  try simp only [Act.put, List.setIfInBounds_toArray, List.set_cons_zero, List.set_cons_succ, List.getElem_toArray, List.getElem_cons_zero, List.getElem_cons_succ]
  refine wpAnyH_take (i := 5) (v := ?_) (by rfl) (by kernel_rfl) (by kernel_rfl) (by kernel_rfl) (by exact fun _ _ _ h => h) (Or.inl ⟨by rfl, ?_⟩) hHeld ?_
  rotate_left 1
  · intro w' hSw
    (try dsimp only at hSw)
    go_simp
    try with_reducible rfl
  try simp only [Act.put, List.setIfInBounds_toArray, List.set_cons_zero, List.set_cons_succ, List.getElem_toArray, List.getElem_cons_zero, List.getElem_cons_succ]
  refine wpAnyH_ready (rs := [4, 6]) (by kernel_rfl) (by simp) ?_
  refine AllReadyH.cons (by rfl) (fun K hK => ?_) ?_
  · refine step_val _ (load_sl (.tmp 41) rfl rfl HC3.out) rfl ?_
    refine hK.out _ _ ?_ (fun hHeld => ?_)
    · trivial
    clear hK K
    try simp only [Act.put, List.setIfInBounds_toArray, List.set_cons_zero, List.set_cons_succ, List.getElem_toArray, List.getElem_cons_zero, List.getElem_cons_succ]
    refine wpAnyH_ready (rs := [6]) (by kernel_rfl) (by simp) ?_
    refine AllReadyH.cons (by rfl) (fun K hK => ?_) AllReadyH.nil
    go_simp
    refine HW3.out.mono ?_
    rintro e w' ⟨rfl, rfl⟩
    refine hK.out _ _ ?_ (fun hHeld => ?_)
    · trivial
    clear hK K
    try simp only [Act.put, List.setIfInBounds_toArray, List.set_cons_zero, List.set_cons_succ, List.getElem_toArray, List.getElem_cons_zero, List.getElem_cons_succ]
    refine wpAnyH_take (i := 7) (v := .slice (some ⟨g, 0, none⟩) (m + 1) c) (by rfl) (by kernel_rfl) (by kernel_rfl) (by kernel_rfl) (by exact fun _ _ _ h => h) (Or.inl ⟨by rfl, ?_⟩) hHeld ?_
    · intro w' hSw
      exact head_sexp rfl rfl rfl HM.out
    try simp only [Act.put, List.setIfInBounds_toArray, List.set_cons_zero, List.set_cons_succ, List.getElem_toArray, List.getElem_cons_zero, List.getElem_cons_succ]
    refine wpAnyH_take (i := 8) (v := ?_) (by rfl) (by kernel_rfl) (by kernel_rfl) (by kernel_rfl) (by exact fun _ _ _ h => h) (Or.inl ⟨by rfl, ?_⟩) hHeld ?_
    rotate_left 1
    · intro w' hSw
      (try dsimp only at hSw)
      go_simp
      try with_reducible rfl
    try simp only [Act.put, List.setIfInBounds_toArray, List.set_cons_zero, List.set_cons_succ, List.getElem_toArray, List.getElem_cons_zero, List.getElem_cons_succ]
    refine wpAnyH_take (i := 9) (v := ?_) (by rfl) (by kernel_rfl) (by kernel_rfl) (by kernel_rfl) (by exact fun _ _ _ h => h) (Or.inl ⟨by rfl, ?_⟩) hHeld ?_
    rotate_left 1
    · intro w' hSw
      (try dsimp only at hSw)
      go_simp
      try with_reducible rfl
    try simp only [Act.put, List.setIfInBounds_toArray, List.set_cons_zero, List.set_cons_succ, List.getElem_toArray, List.getElem_cons_zero, List.getElem_cons_succ]
    refine wpAnyH_ready (rs := [10]) (by kernel_rfl) (by simp) ?_
    refine AllReadyH.cons (by rfl) (fun K hK => ?_) AllReadyH.nil
    have hc3 := HC3.out
    have hf3 := HFZ.out
    go_simp
    refine hK.out _ _ ?_ (fun hHeld => ?_)
    · trivial
    clear hK K
    try simp only [Act.put, List.setIfInBounds_toArray, List.set_cons_zero, List.set_cons_succ, List.getElem_toArray, List.getElem_cons_zero, List.getElem_cons_succ]
    refine wpAnyH_done (by kernel_rfl) ?_ _
    clear hHeld
    have hbox4 := rangeAt_blk (w' := (W2.alloc (.cells #[.bool L, .int .i64 K1, .string T1, .int .i64 P1, .slice va k5 vc] 38)).drew.setCell ⟨R, 0, none⟩ (.slice (some ⟨g, 0, none⟩) (m + 1) c)) HBOX.out (heap_setCell_other _ _ _ _ (fun e => HRL.out e.symm))
    have HBOX4 := Lib.hid hbox4
    clear hbox4
    go_wp2_with (first | (refine wpList_val (.agg #[.bool L, .int .i64 K1, .string T1, .int .i64 P1, .slice va k5 vc]) (run_load_op 38 (.tmp 5) (by with_reducible rfl) W2.heap.size 0 (by rfl) [.bool L, .int .i64 K1, .string T1, .int .i64 P1, .slice va k5 vc] _ HBOX4.out Try.underlying38 rfl (by rw [size_sexp]; rfl)) (by rfl) ?_))
    refine HPUT.out.mono ?_
    rintro e w2 ⟨rfl, hp⟩
    have HP := Lib.hid hp
    clear hp HPUT
    go_wp2_with fail
    go_ret
    obtain ⟨v', hv'⟩ := HP.out
    rw [← HF.out.1, ← HF.out.2.1] at hv'
    exact ⟨rfl, _, _, hv'⟩
  refine AllReadyH.cons (by rfl) (fun K hK => ?_) ?_
  · go_simp
    refine HW3.out.mono ?_
    rintro e w' ⟨rfl, rfl⟩
    refine hK.out _ _ ?_ (fun hHeld => ?_)
    · trivial
    clear hK K
    try simp only [Act.put, List.setIfInBounds_toArray, List.set_cons_zero, List.set_cons_succ, List.getElem_toArray, List.getElem_cons_zero, List.getElem_cons_succ]
    refine wpAnyH_ready (rs := [4]) (by kernel_rfl) (by simp) ?_
    refine AllReadyH.cons (by rfl) (fun K hK => ?_) AllReadyH.nil
    refine step_val _ (load_sl (.tmp 41) rfl rfl HC3.out) rfl ?_
    refine hK.out _ _ ?_ (fun hHeld => ?_)
    · trivial
    clear hK K
    try simp only [Act.put, List.setIfInBounds_toArray, List.set_cons_zero, List.set_cons_succ, List.getElem_toArray, List.getElem_cons_zero, List.getElem_cons_succ]
    refine wpAnyH_take (i := 7) (v := .slice (some ⟨g, 0, none⟩) (m + 1) c) (by rfl) (by kernel_rfl) (by kernel_rfl) (by kernel_rfl) (by exact fun _ _ _ h => h) (Or.inl ⟨by rfl, ?_⟩) hHeld ?_
    · intro w' hSw
      exact head_sexp rfl rfl rfl HM.out
    try simp only [Act.put, List.setIfInBounds_toArray, List.set_cons_zero, List.set_cons_succ, List.getElem_toArray, List.getElem_cons_zero, List.getElem_cons_succ]
    refine wpAnyH_take (i := 8) (v := ?_) (by rfl) (by kernel_rfl) (by kernel_rfl) (by kernel_rfl) (by exact fun _ _ _ h => h) (Or.inl ⟨by rfl, ?_⟩) hHeld ?_
    rotate_left 1
    · intro w' hSw
      (try dsimp only at hSw)
      go_simp
      try with_reducible rfl
    try simp only [Act.put, List.setIfInBounds_toArray, List.set_cons_zero, List.set_cons_succ, List.getElem_toArray, List.getElem_cons_zero, List.getElem_cons_succ]
    refine wpAnyH_take (i := 9) (v := ?_) (by rfl) (by kernel_rfl) (by kernel_rfl) (by kernel_rfl) (by exact fun _ _ _ h => h) (Or.inl ⟨by rfl, ?_⟩) hHeld ?_
    rotate_left 1
    · intro w' hSw
      (try dsimp only at hSw)
      go_simp
      try with_reducible rfl
    try simp only [Act.put, List.setIfInBounds_toArray, List.set_cons_zero, List.set_cons_succ, List.getElem_toArray, List.getElem_cons_zero, List.getElem_cons_succ]
    refine wpAnyH_ready (rs := [10]) (by kernel_rfl) (by simp) ?_
    refine AllReadyH.cons (by rfl) (fun K hK => ?_) AllReadyH.nil
    have hc3 := HC3.out
    have hf3 := HFZ.out
    go_simp
    refine hK.out _ _ ?_ (fun hHeld => ?_)
    · trivial
    clear hK K
    try simp only [Act.put, List.setIfInBounds_toArray, List.set_cons_zero, List.set_cons_succ, List.getElem_toArray, List.getElem_cons_zero, List.getElem_cons_succ]
    refine wpAnyH_done (by kernel_rfl) ?_ _
    clear hHeld
    have hbox4 := rangeAt_blk (w' := (W2.alloc (.cells #[.bool L, .int .i64 K1, .string T1, .int .i64 P1, .slice va k5 vc] 38)).drew.setCell ⟨R, 0, none⟩ (.slice (some ⟨g, 0, none⟩) (m + 1) c)) HBOX.out (heap_setCell_other _ _ _ _ (fun e => HRL.out e.symm))
    have HBOX4 := Lib.hid hbox4
    clear hbox4
    go_wp2_with (first | (refine wpList_val (.agg #[.bool L, .int .i64 K1, .string T1, .int .i64 P1, .slice va k5 vc]) (run_load_op 38 (.tmp 5) (by with_reducible rfl) W2.heap.size 0 (by rfl) [.bool L, .int .i64 K1, .string T1, .int .i64 P1, .slice va k5 vc] _ HBOX4.out Try.underlying38 rfl (by rw [size_sexp]; rfl)) (by rfl) ?_))
    refine HPUT.out.mono ?_
    rintro e w2 ⟨rfl, hp⟩
    have HP := Lib.hid hp
    clear hp HPUT
    go_wp2_with fail
    go_ret
    obtain ⟨v', hv'⟩ := HP.out
    rw [← HF.out.1, ← HF.out.2.1] at hv'
    exact ⟨rfl, _, _, hv'⟩
  exact AllReadyH.nil
end
end Go.Proofs.Ytgojipnhnmigpaa

