/-
  Layer 6: what a header tells.
-/
import Derived.Test.YtienhidbgohhcaaSnHdr
import Derived.Test.YtienhidbgohhcaaRegCut
set_option linter.unusedVariables false
set_option linter.unusedSimpArgs false
namespace Go.Proofs.Ytienhidbgohhcaa
open Go.RowKit

def seg (S : List Int) (o n : Nat) : List Int := (S.drop o).take n
/-- What a sector's fields are. -/
def hE (S : List Int) : Int := numOf (seg S 5 8)
def hZ (S : List Int) : Int := numOf (seg S 13 8)
def hF (S : List Int) : Int := IntKind.u32.wrap (numOf (seg S 21 4))
def hS (S : List Int) : Int := IntKind.u32.wrap (numOf (seg S 25 4))
theorem hE_range (S : List Int) : 0 ≤ hE S ∧ hE S ≤ 18446744073709551615 := numOf_range _
theorem hZ_range (S : List Int) : 0 ≤ hZ S ∧ hZ S ≤ 18446744073709551615 := numOf_range _
theorem hF_range (S : List Int) : 0 ≤ hF S ∧ hF S ≤ 4294967295 := by unfold hF; rw [IntKind.wrap_u32]; omega
theorem hS_range (S : List Int) : 0 ≤ hS S ∧ hS S ≤ 4294967295 := by unfold hS; rw [IntKind.wrap_u32]; omega
/-- Is it a header? -/
def isHdr (S : List Int) : Bool := decide (1 ≤ hE S ∧ hE S ≤ 4611686018427387904 ∧ S = hdrL (hE S).toNat (hZ S).toNat (hF S).toNat (hS S).toNat)
theorem seg_range {W : World} {b : Nat} {S : List Int} {t : TypeId} (h : W.heap[b]? = some (.cells (bys S).toArray t (0, 0))) (o n : Nat) : W.rangeAt b o (bys (seg S o n)) := by
  unfold seg
  rw [bys_sec]
  exact rangeAt_blk h o n
theorem number_seg {W : World} {b : Nat} {S : List Int} {t : TypeId} (h : W.heap[b]? = some (.cells (bys S).toArray t (0, 0))) (hS : S.length = 64) (o n c : Nat) (ho : o + n ≤ 64) (hn : n ≤ 8) :
    Calls Try.prog 40 #[.slice (some ⟨b, o, none⟩) n c] W fun e w' => e = .returned (.int .u64 (numOf (seg S o n))) ∧ W = w' := by
  have hl : (seg S o n).length = n := by simp [seg]; omega
  have := number_any (c := c) (seg_range h o n) (by omega)
  rwa [hl] at this
theorem size_header : (Try.prog.info? 52).map (·.size) = some 4 := by kernel_rfl
theorem zero_header : (Try.prog.info? 52).map (fun i => (i.zero, i.size)) = some (some (.agg #[.int .u64 0, .int .u64 0, .int .u32 0, .int .u32 0]), 4) := by kernel_rfl
/-- What parse answers. -/
def Parses (S : List Int) (w : World) (en : Ending) (w' : World) : Prop :=
  en = .returned (.tuple #[if isHdr S then .agg #[.int .u64 (hE S), .int .u64 (hZ S), .int .u32 (hF S), .int .u32 (hS S)] else .agg #[.int .u64 0, .int .u64 0, .int .u32 0, .int .u32 0], .bool (isHdr S)]) ∧ Below w.heap.size w w'
/-- The three blocks of the call. -/
structure PsAt (w : World) (S : List Int) (V : List Value) (W : World) : Prop where
  s : W.heap[w.heap.size]? = some (.cells (bys S).toArray 57 (0, 0))
  z : W.heap[w.heap.size + 1]? = some (.cells #[.int .u64 0, .int .u64 0, .int .u32 0, .int .u32 0] 52 (0, 0))
  v : W.heap[w.heap.size + 1 + 1]? = some (.cells V.toArray 52 (0, 0))
  b : Below w.heap.size w W
  n : V.length = 4
theorem PsAt.past {w W W' : World} {S : List Int} {V : List Value} (h : PsAt w S V W) (hb : Below W.heap.size W W') : PsAt w S V W' :=
  have k : ∀ {i : Nat} {ob : Obj}, W.heap[i]? = some ob → W'.heap[i]? = some ob := fun hi => (hb.block _ (Array.getElem?_eq_some_iff.1 hi).1).trans hi
  ⟨k h.s, k h.z, k h.v, h.b.trans (hb.mono h.b.size), h.n⟩
/-- The last store, and what is handed back. -/
theorem PsAt.ends {w W : World} {S : List Int} {V V' : List Value} (h : PsAt w S V W) (hV : V'.length = 4) : Below w.heap.size w (W.setCells (w.heap.size + 1) 0 V') ∧ W.there (w.heap.size + 1) 0 4 ∧
    (loadVar 52 ⟨w.heap.size + 1, 0, none⟩).run Try.prog (W.setCells (w.heap.size + 1) 0 V') = .ok (.agg V'.toArray) (W.setCells (w.heap.size + 1) 0 V') := by
  have hth : W.there (w.heap.size + 1) 0 4 := there_blk (C := [.int .u64 0, .int .u64 0, .int .u32 0, .int .u32 0]) h.z 0 _ (by simp)
  refine ⟨h.b.trans ((chg_setCells (S := fun j => j = w.heap.size + 1) rfl _ _ _).below (fun k hk => by omega) h.b.size), hth, ?_⟩
  exact run_loadVar_mid (P := Try.prog) _ (w.heap.size + 1) 0 52 V' _ (World.rangeAt_setCells_same _ _ _ _ (by rw [hV]; exact hth)) Try.underlying52 rfl (by rw [hV]; exact size_header)
theorem run_build_nohdr {o : Oper} {a : Act} {w : World} (ho : o.op = .build 52 #[]) : (execOp a.eval o).run Try.prog w = .ok (.value (.agg #[.int .u64 0, .int .u64 0, .int .u32 0, .int .u32 0])) w := by
  have hz := (zero_of_info zero_header).1 w
  have : (Instr.build 52 #[]).run Try.prog w = .ok (.agg #[.int .u64 0, .int .u64 0, .int .u32 0, .int .u32 0]) w := by
    simp [Instr.build, hz, run_underlying Try.underlying52, Instr.fill, Value.cells]
  unfold execOp
  simp [ho, this]
theorem isHdr_no {S : List Int} (h : hE S < 1 ∨ 4611686018427387904 < hE S) : isHdr S = false := by
  unfold isHdr
  simp
  omega
theorem isHdr_in {S : List Int} (h1 : 1 ≤ hE S) (h2 : hE S ≤ 4611686018427387904) : isHdr S = decide (S = hdrL (hE S).toNat (hZ S).toNat (hF S).toNat (hS S).toNat) := by
  unfold isHdr
  simp [h1, h2]
set_option maxRecDepth 100000 in
set_option maxHeartbeats 4000000 in
theorem parse_any (w : World) (S : List Int) (hS64 : S.length = 64) : Calls Try.prog 36 #[.agg (bys S).toArray] w (Parses S w) := by
  have zs := fun w => (zero_of_info zero_header).1 w
  obtain ⟨W0, hW0⟩ : ∃ W0, W0 = (w.alloc (.cells (bys S).toArray 57)).alloc (.cells #[Value.int .u64 0, .int .u64 0, .int .u32 0, .int .u32 0] 52) := ⟨_, rfl⟩
  have hb0 : W0.drew.heap[w.heap.size]? = some (.cells (bys S).toArray 57 (0, 0)) := by
    rw [hW0, heap_drew', Below.heap_alloc _ _ _ (by simp)]
    exact heap_alloc_last w _
  have hy0 : W0.drew.heap[w.heap.size + 1]? = some (.cells #[Value.int .u64 0, .int .u64 0, .int .u32 0, .int .u32 0] 52 (0, 0)) := by
    rw [hW0, heap_drew']
    have := heap_alloc_last (w.alloc (.cells (bys S).toArray 57)) (.cells #[Value.int .u64 0, .int .u64 0, .int .u32 0, .int .u32 0] 52)
    simpa using this
  have hz0 : W0.drew.heap.size = w.heap.size + 1 + 1 := by rw [hW0]; simp [World.drew, World.drewN]
  have hB0 : Below w.heap.size w W0.drew := by
    rw [hW0]
    exact (((Below.refl _ _).alloc (Nat.le_refl _) _).alloc (by simp) _).drew
  have hb1 : (W0.alloc (.cells #[Value.int .u64 0, .int .u64 0, .int .u32 0, .int .u32 0] 52)).drew.heap[w.heap.size]? = some (.cells (bys S).toArray 57 (0, 0)) := by
    rw [heap_drew', Below.heap_alloc _ _ _ (by rw [show W0.heap.size = _ from hz0]; omega)]
    exact hb0
  have HA0 := Lib.hid (number_seg hb0 hS64 5 8 59 (by omega) (by omega))
  have HB0 := Lib.hid (number_seg hb1 hS64 5 8 59 (by omega) (by omega))
  have HA1 := Lib.hid (number_seg hb0 hS64 13 8 51 (by omega) (by omega))
  have HB1 := Lib.hid (number_seg hb1 hS64 13 8 51 (by omega) (by omega))
  have HA2 := Lib.hid (number_seg hb0 hS64 21 4 43 (by omega) (by omega))
  have HB2 := Lib.hid (number_seg hb1 hS64 21 4 43 (by omega) (by omega))
  have HA3 := Lib.hid (number_seg hb0 hS64 25 4 39 (by omega) (by omega))
  have HB3 := Lib.hid (number_seg hb1 hS64 25 4 39 (by omega) (by omega))
  obtain ⟨V, hV⟩ : ∃ V, V = [Value.int .u64 (hE S), .int .u64 (hZ S), .int .u32 (hF S), .int .u32 (hS S)] := ⟨_, rfl⟩
  obtain ⟨W1, hW1⟩ : ∃ W1, W1 = W0.drew.alloc (.cells V.toArray 52) := ⟨_, rfl⟩
  have hp1 : PsAt w S V W1.drew := by
    have hp : PsAt w S V W1 := by
      rw [hW1]
      refine ⟨?_, ?_, ?_, hB0.alloc (by omega) _, by rw [hV]; rfl⟩
      · rw [Below.heap_alloc _ _ _ (by omega)]; exact hb0
      · rw [Below.heap_alloc _ _ _ (by omega)]; exact hy0
      · rw [← hz0]; exact heap_alloc_last _ _
    exact hp.past ((Below.refl _ _).drew)
  have HW0 := Lib.hid hW0
  have HW1 := Lib.hid hW1
  have HP1 := Lib.hid hp1
  have HV := Lib.hid hV
  have hsv : (Try.prog.info? 52).map (·.size) = some V.toArray.size := by rw [hV]; exact size_header
  have hsz0 : (4 : Nat) = V.toArray.size := by rw [hV]; rfl
  have hall : V.toArray.all (·.oneCell') = true := by rw [hV]; simp [Value.oneCell']
  have HS := Lib.hid hS64
  have HZ0 := Lib.hid hz0
  clear hW0 hb0 hb1 hy0 hB0 hW1 hp1 hS64 hz0
  go_enter Try.func36, Try.ntmps36
  go_wp2_with (first | (with_reducible refine wpList_box_agg rfl 57 (.tmp 0) rfl (bys S).toArray rfl ?_) | (with_reducible refine wpList_alloc_agg rfl 52 rfl _ zs ?_))
  rw [← HW0.out]
  apply Rg.cut (R := fun w' => W1 = w')
  case h =>
    refine wp_region_held_drew (S := (fun _ => True)) (by kernel_rfl) ?_ (fun hHeld => ?_)
    · trivial
    refine wpAnyH_take (i := 0) (v := ?_) (by rfl) (by kernel_rfl) (by kernel_rfl) (by kernel_rfl) (by exact fun _ _ _ h => h) (Or.inl ⟨by rfl, ?_⟩) hHeld ?_
    rotate_left 1
    · intro w' hSw
      (try dsimp only at hSw)
      go_simp
      try with_reducible rfl
    try simp only [Act.put, List.setIfInBounds_toArray, List.set_cons_zero, List.set_cons_succ, List.getElem_toArray, List.getElem_cons_zero, List.getElem_cons_succ]
    refine wpAnyH_take (i := 2) (v := ?_) (by rfl) (by kernel_rfl) (by kernel_rfl) (by kernel_rfl) (by exact fun _ _ _ h => h) (Or.inl ⟨by rfl, ?_⟩) hHeld ?_
    rotate_left 1
    · intro w' hSw
      (try dsimp only at hSw)
      go_simp
      try with_reducible rfl
    try simp only [Act.put, List.setIfInBounds_toArray, List.set_cons_zero, List.set_cons_succ, List.getElem_toArray, List.getElem_cons_zero, List.getElem_cons_succ]
    refine wpAnyH_take (i := 4) (v := ?_) (by rfl) (by kernel_rfl) (by kernel_rfl) (by kernel_rfl) (by exact fun _ _ _ h => h) (Or.inl ⟨by rfl, ?_⟩) hHeld ?_
    rotate_left 1
    · intro w' hSw
      (try dsimp only at hSw)
      go_simp
      try with_reducible rfl
    try simp only [Act.put, List.setIfInBounds_toArray, List.set_cons_zero, List.set_cons_succ, List.getElem_toArray, List.getElem_cons_zero, List.getElem_cons_succ]
    refine wpAnyH_take (i := 7) (v := ?_) (by rfl) (by kernel_rfl) (by kernel_rfl) (by kernel_rfl) (by exact fun _ _ _ h => h) (Or.inl ⟨by rfl, ?_⟩) hHeld ?_
    rotate_left 1
    · intro w' hSw
      (try dsimp only at hSw)
      go_simp
      try with_reducible rfl
    try simp only [Act.put, List.setIfInBounds_toArray, List.set_cons_zero, List.set_cons_succ, List.getElem_toArray, List.getElem_cons_zero, List.getElem_cons_succ]
    refine wpAnyH_ready (rs := [1, 11]) (by kernel_rfl) (by simp) ?_
    refine AllReadyH.cons (by rfl) (fun K hK => ?_) ?_
    · go_simp
      with_reducible refine (HA0.out).mono ?_
      rintro en w' ⟨rfl, rfl⟩
      refine hK.out _ _ ?_ (fun hHeld => ?_)
      · trivial
      clear hK K
      try simp only [Act.put, List.setIfInBounds_toArray, List.set_cons_zero, List.set_cons_succ, List.getElem_toArray, List.getElem_cons_zero, List.getElem_cons_succ]
      refine wpAnyH_ready (rs := [3, 11]) (by kernel_rfl) (by simp) ?_
      refine AllReadyH.cons (by rfl) (fun K hK => ?_) ?_
      · go_simp
        with_reducible refine (HA1.out).mono ?_
        rintro en w' ⟨rfl, rfl⟩
        refine hK.out _ _ ?_ (fun hHeld => ?_)
        · trivial
        clear hK K
        try simp only [Act.put, List.setIfInBounds_toArray, List.set_cons_zero, List.set_cons_succ, List.getElem_toArray, List.getElem_cons_zero, List.getElem_cons_succ]
        refine wpAnyH_ready (rs := [5, 11]) (by kernel_rfl) (by simp) ?_
        refine AllReadyH.cons (by rfl) (fun K hK => ?_) ?_
        · go_simp
          with_reducible refine (HA2.out).mono ?_
          rintro en w' ⟨rfl, rfl⟩
          refine hK.out _ _ ?_ (fun hHeld => ?_)
          · trivial
          clear hK K
          try simp only [Act.put, List.setIfInBounds_toArray, List.set_cons_zero, List.set_cons_succ, List.getElem_toArray, List.getElem_cons_zero, List.getElem_cons_succ]
          refine wpAnyH_take (i := 6) (v := ?_) (by rfl) (by kernel_rfl) (by kernel_rfl) (by kernel_rfl) (by exact fun _ _ _ h => h) (Or.inl ⟨by rfl, ?_⟩) hHeld ?_
          rotate_left 1
          · intro w' hSw
            (try dsimp only at hSw)
            go_simp
            try with_reducible rfl
          try simp only [Act.put, List.setIfInBounds_toArray, List.set_cons_zero, List.set_cons_succ, List.getElem_toArray, List.getElem_cons_zero, List.getElem_cons_succ]
          refine wpAnyH_ready (rs := [8, 11]) (by kernel_rfl) (by simp) ?_
          refine AllReadyH.cons (by rfl) (fun K hK => ?_) ?_
          · go_simp
            with_reducible refine (HA3.out).mono ?_
            rintro en w' ⟨rfl, rfl⟩
            refine hK.out _ _ ?_ (fun hHeld => ?_)
            · trivial
            clear hK K
            try simp only [Act.put, List.setIfInBounds_toArray, List.set_cons_zero, List.set_cons_succ, List.getElem_toArray, List.getElem_cons_zero, List.getElem_cons_succ]
            refine wpAnyH_take (i := 9) (v := ?_) (by rfl) (by kernel_rfl) (by kernel_rfl) (by kernel_rfl) (by exact fun _ _ _ h => h) (Or.inl ⟨by rfl, ?_⟩) hHeld ?_
            rotate_left 1
            · intro w' hSw
              (try dsimp only at hSw)
              go_simp
              try with_reducible rfl
            try simp only [Act.put, List.setIfInBounds_toArray, List.set_cons_zero, List.set_cons_succ, List.getElem_toArray, List.getElem_cons_zero, List.getElem_cons_succ]
            refine wpAnyH_take (i := 10) (v := ?_) (by rfl) (by kernel_rfl) (by kernel_rfl) (by kernel_rfl) (by exact fun _ _ _ h => h) (Or.inl ⟨by rfl, ?_⟩) hHeld ?_
            rotate_left 1
            · intro w' hSw
              (try dsimp only at hSw)
              go_simp
              try with_reducible rfl
            try simp only [Act.put, List.setIfInBounds_toArray, List.set_cons_zero, List.set_cons_succ, List.getElem_toArray, List.getElem_cons_zero, List.getElem_cons_succ]
            refine wpAnyH_ready (rs := [11]) (by kernel_rfl) (by simp) ?_
            refine AllReadyH.cons (by rfl) (fun K hK => ?_) AllReadyH.nil
            refine Rg.step_alloc_agg rfl 52 rfl #[Value.int .u64 0, .int .u64 0, .int .u32 0, .int .u32 0] zs ?_
            rw [HZ0.out]
            refine hK.out _ _ ?_ (fun hHeld => ?_)
            · trivial
            clear hK K
            try simp only [Act.put, List.setIfInBounds_toArray, List.set_cons_zero, List.set_cons_succ, List.getElem_toArray, List.getElem_cons_zero, List.getElem_cons_succ]
            refine wpAnyH_ready (rs := [12]) (by kernel_rfl) (by simp) ?_
            refine AllReadyH.cons (by rfl) (fun K hK => ?_) AllReadyH.nil
            refine Rg.step_store_new rfl 52 (.tmp 4) (.tmp 15) rfl W0.drew #[Value.int .u64 0, .int .u64 0, .int .u32 0, .int .u32 0] V.toArray (by rw [HZ0.out]; rfl) (by rw [HV.out]; rfl) rfl hsv hsz0 hall ?_
            refine hK.out _ _ ?_ (fun hHeld => ?_)
            · trivial
            clear hK K
            try simp only [Act.put, List.setIfInBounds_toArray, List.set_cons_zero, List.set_cons_succ, List.getElem_toArray, List.getElem_cons_zero, List.getElem_cons_succ]
            refine wpAnyH_done (by kernel_rfl) ?_ _
            exact Rg.Only.mk' rfl HW1.out
          refine AllReadyH.cons (by rfl) (fun K hK => ?_) ?_
          · refine Rg.step_alloc_agg rfl 52 rfl #[Value.int .u64 0, .int .u64 0, .int .u32 0, .int .u32 0] zs ?_
            rw [HZ0.out]
            refine hK.out _ _ ?_ (fun hHeld => ?_)
            · trivial
            clear hK K
            try simp only [Act.put, List.setIfInBounds_toArray, List.set_cons_zero, List.set_cons_succ, List.getElem_toArray, List.getElem_cons_zero, List.getElem_cons_succ]
            refine wpAnyH_ready (rs := [8]) (by kernel_rfl) (by simp) ?_
            refine AllReadyH.cons (by rfl) (fun K hK => ?_) AllReadyH.nil
            go_simp
            with_reducible refine (HB3.out).mono ?_
            rintro en w' ⟨rfl, rfl⟩
            refine hK.out _ _ ?_ (fun hHeld => ?_)
            · trivial
            clear hK K
            try simp only [Act.put, List.setIfInBounds_toArray, List.set_cons_zero, List.set_cons_succ, List.getElem_toArray, List.getElem_cons_zero, List.getElem_cons_succ]
            refine wpAnyH_take (i := 9) (v := ?_) (by rfl) (by kernel_rfl) (by kernel_rfl) (by kernel_rfl) (by exact fun _ _ _ h => h) (Or.inl ⟨by rfl, ?_⟩) hHeld ?_
            rotate_left 1
            · intro w' hSw
              (try dsimp only at hSw)
              go_simp
              try with_reducible rfl
            try simp only [Act.put, List.setIfInBounds_toArray, List.set_cons_zero, List.set_cons_succ, List.getElem_toArray, List.getElem_cons_zero, List.getElem_cons_succ]
            refine wpAnyH_take (i := 10) (v := ?_) (by rfl) (by kernel_rfl) (by kernel_rfl) (by kernel_rfl) (by exact fun _ _ _ h => h) (Or.inl ⟨by rfl, ?_⟩) hHeld ?_
            rotate_left 1
            · intro w' hSw
              (try dsimp only at hSw)
              go_simp
              try with_reducible rfl
            try simp only [Act.put, List.setIfInBounds_toArray, List.set_cons_zero, List.set_cons_succ, List.getElem_toArray, List.getElem_cons_zero, List.getElem_cons_succ]
            refine wpAnyH_ready (rs := [12]) (by kernel_rfl) (by simp) ?_
            refine AllReadyH.cons (by rfl) (fun K hK => ?_) AllReadyH.nil
            refine Rg.step_store_new rfl 52 (.tmp 4) (.tmp 15) rfl W0.drew #[Value.int .u64 0, .int .u64 0, .int .u32 0, .int .u32 0] V.toArray (by rw [HZ0.out]; rfl) (by rw [HV.out]; rfl) rfl hsv hsz0 hall ?_
            refine hK.out _ _ ?_ (fun hHeld => ?_)
            · trivial
            clear hK K
            try simp only [Act.put, List.setIfInBounds_toArray, List.set_cons_zero, List.set_cons_succ, List.getElem_toArray, List.getElem_cons_zero, List.getElem_cons_succ]
            refine wpAnyH_done (by kernel_rfl) ?_ _
            exact Rg.Only.mk' rfl HW1.out
          exact AllReadyH.nil
        refine AllReadyH.cons (by rfl) (fun K hK => ?_) ?_
        · refine Rg.step_alloc_agg rfl 52 rfl #[Value.int .u64 0, .int .u64 0, .int .u32 0, .int .u32 0] zs ?_
          rw [HZ0.out]
          refine hK.out _ _ ?_ (fun hHeld => ?_)
          · trivial
          clear hK K
          try simp only [Act.put, List.setIfInBounds_toArray, List.set_cons_zero, List.set_cons_succ, List.getElem_toArray, List.getElem_cons_zero, List.getElem_cons_succ]
          refine wpAnyH_ready (rs := [5]) (by kernel_rfl) (by simp) ?_
          refine AllReadyH.cons (by rfl) (fun K hK => ?_) AllReadyH.nil
          go_simp
          with_reducible refine (HB2.out).mono ?_
          rintro en w' ⟨rfl, rfl⟩
          refine hK.out _ _ ?_ (fun hHeld => ?_)
          · trivial
          clear hK K
          try simp only [Act.put, List.setIfInBounds_toArray, List.set_cons_zero, List.set_cons_succ, List.getElem_toArray, List.getElem_cons_zero, List.getElem_cons_succ]
          refine wpAnyH_take (i := 6) (v := ?_) (by rfl) (by kernel_rfl) (by kernel_rfl) (by kernel_rfl) (by exact fun _ _ _ h => h) (Or.inl ⟨by rfl, ?_⟩) hHeld ?_
          rotate_left 1
          · intro w' hSw
            (try dsimp only at hSw)
            go_simp
            try with_reducible rfl
          try simp only [Act.put, List.setIfInBounds_toArray, List.set_cons_zero, List.set_cons_succ, List.getElem_toArray, List.getElem_cons_zero, List.getElem_cons_succ]
          refine wpAnyH_ready (rs := [8]) (by kernel_rfl) (by simp) ?_
          refine AllReadyH.cons (by rfl) (fun K hK => ?_) AllReadyH.nil
          go_simp
          with_reducible refine (HB3.out).mono ?_
          rintro en w' ⟨rfl, rfl⟩
          refine hK.out _ _ ?_ (fun hHeld => ?_)
          · trivial
          clear hK K
          try simp only [Act.put, List.setIfInBounds_toArray, List.set_cons_zero, List.set_cons_succ, List.getElem_toArray, List.getElem_cons_zero, List.getElem_cons_succ]
          refine wpAnyH_take (i := 9) (v := ?_) (by rfl) (by kernel_rfl) (by kernel_rfl) (by kernel_rfl) (by exact fun _ _ _ h => h) (Or.inl ⟨by rfl, ?_⟩) hHeld ?_
          rotate_left 1
          · intro w' hSw
            (try dsimp only at hSw)
            go_simp
            try with_reducible rfl
          try simp only [Act.put, List.setIfInBounds_toArray, List.set_cons_zero, List.set_cons_succ, List.getElem_toArray, List.getElem_cons_zero, List.getElem_cons_succ]
          refine wpAnyH_take (i := 10) (v := ?_) (by rfl) (by kernel_rfl) (by kernel_rfl) (by kernel_rfl) (by exact fun _ _ _ h => h) (Or.inl ⟨by rfl, ?_⟩) hHeld ?_
          rotate_left 1
          · intro w' hSw
            (try dsimp only at hSw)
            go_simp
            try with_reducible rfl
          try simp only [Act.put, List.setIfInBounds_toArray, List.set_cons_zero, List.set_cons_succ, List.getElem_toArray, List.getElem_cons_zero, List.getElem_cons_succ]
          refine wpAnyH_ready (rs := [12]) (by kernel_rfl) (by simp) ?_
          refine AllReadyH.cons (by rfl) (fun K hK => ?_) AllReadyH.nil
          refine Rg.step_store_new rfl 52 (.tmp 4) (.tmp 15) rfl W0.drew #[Value.int .u64 0, .int .u64 0, .int .u32 0, .int .u32 0] V.toArray (by rw [HZ0.out]; rfl) (by rw [HV.out]; rfl) rfl hsv hsz0 hall ?_
          refine hK.out _ _ ?_ (fun hHeld => ?_)
          · trivial
          clear hK K
          try simp only [Act.put, List.setIfInBounds_toArray, List.set_cons_zero, List.set_cons_succ, List.getElem_toArray, List.getElem_cons_zero, List.getElem_cons_succ]
          refine wpAnyH_done (by kernel_rfl) ?_ _
          exact Rg.Only.mk' rfl HW1.out
        exact AllReadyH.nil
      refine AllReadyH.cons (by rfl) (fun K hK => ?_) ?_
      · refine Rg.step_alloc_agg rfl 52 rfl #[Value.int .u64 0, .int .u64 0, .int .u32 0, .int .u32 0] zs ?_
        rw [HZ0.out]
        refine hK.out _ _ ?_ (fun hHeld => ?_)
        · trivial
        clear hK K
        try simp only [Act.put, List.setIfInBounds_toArray, List.set_cons_zero, List.set_cons_succ, List.getElem_toArray, List.getElem_cons_zero, List.getElem_cons_succ]
        refine wpAnyH_ready (rs := [3]) (by kernel_rfl) (by simp) ?_
        refine AllReadyH.cons (by rfl) (fun K hK => ?_) AllReadyH.nil
        go_simp
        with_reducible refine (HB1.out).mono ?_
        rintro en w' ⟨rfl, rfl⟩
        refine hK.out _ _ ?_ (fun hHeld => ?_)
        · trivial
        clear hK K
        try simp only [Act.put, List.setIfInBounds_toArray, List.set_cons_zero, List.set_cons_succ, List.getElem_toArray, List.getElem_cons_zero, List.getElem_cons_succ]
        refine wpAnyH_ready (rs := [5]) (by kernel_rfl) (by simp) ?_
        refine AllReadyH.cons (by rfl) (fun K hK => ?_) AllReadyH.nil
        go_simp
        with_reducible refine (HB2.out).mono ?_
        rintro en w' ⟨rfl, rfl⟩
        refine hK.out _ _ ?_ (fun hHeld => ?_)
        · trivial
        clear hK K
        try simp only [Act.put, List.setIfInBounds_toArray, List.set_cons_zero, List.set_cons_succ, List.getElem_toArray, List.getElem_cons_zero, List.getElem_cons_succ]
        refine wpAnyH_take (i := 6) (v := ?_) (by rfl) (by kernel_rfl) (by kernel_rfl) (by kernel_rfl) (by exact fun _ _ _ h => h) (Or.inl ⟨by rfl, ?_⟩) hHeld ?_
        rotate_left 1
        · intro w' hSw
          (try dsimp only at hSw)
          go_simp
          try with_reducible rfl
        try simp only [Act.put, List.setIfInBounds_toArray, List.set_cons_zero, List.set_cons_succ, List.getElem_toArray, List.getElem_cons_zero, List.getElem_cons_succ]
        refine wpAnyH_ready (rs := [8]) (by kernel_rfl) (by simp) ?_
        refine AllReadyH.cons (by rfl) (fun K hK => ?_) AllReadyH.nil
        go_simp
        with_reducible refine (HB3.out).mono ?_
        rintro en w' ⟨rfl, rfl⟩
        refine hK.out _ _ ?_ (fun hHeld => ?_)
        · trivial
        clear hK K
        try simp only [Act.put, List.setIfInBounds_toArray, List.set_cons_zero, List.set_cons_succ, List.getElem_toArray, List.getElem_cons_zero, List.getElem_cons_succ]
        refine wpAnyH_take (i := 9) (v := ?_) (by rfl) (by kernel_rfl) (by kernel_rfl) (by kernel_rfl) (by exact fun _ _ _ h => h) (Or.inl ⟨by rfl, ?_⟩) hHeld ?_
        rotate_left 1
        · intro w' hSw
          (try dsimp only at hSw)
          go_simp
          try with_reducible rfl
        try simp only [Act.put, List.setIfInBounds_toArray, List.set_cons_zero, List.set_cons_succ, List.getElem_toArray, List.getElem_cons_zero, List.getElem_cons_succ]
        refine wpAnyH_take (i := 10) (v := ?_) (by rfl) (by kernel_rfl) (by kernel_rfl) (by kernel_rfl) (by exact fun _ _ _ h => h) (Or.inl ⟨by rfl, ?_⟩) hHeld ?_
        rotate_left 1
        · intro w' hSw
          (try dsimp only at hSw)
          go_simp
          try with_reducible rfl
        try simp only [Act.put, List.setIfInBounds_toArray, List.set_cons_zero, List.set_cons_succ, List.getElem_toArray, List.getElem_cons_zero, List.getElem_cons_succ]
        refine wpAnyH_ready (rs := [12]) (by kernel_rfl) (by simp) ?_
        refine AllReadyH.cons (by rfl) (fun K hK => ?_) AllReadyH.nil
        refine Rg.step_store_new rfl 52 (.tmp 4) (.tmp 15) rfl W0.drew #[Value.int .u64 0, .int .u64 0, .int .u32 0, .int .u32 0] V.toArray (by rw [HZ0.out]; rfl) (by rw [HV.out]; rfl) rfl hsv hsz0 hall ?_
        refine hK.out _ _ ?_ (fun hHeld => ?_)
        · trivial
        clear hK K
        try simp only [Act.put, List.setIfInBounds_toArray, List.set_cons_zero, List.set_cons_succ, List.getElem_toArray, List.getElem_cons_zero, List.getElem_cons_succ]
        refine wpAnyH_done (by kernel_rfl) ?_ _
        exact Rg.Only.mk' rfl HW1.out
      exact AllReadyH.nil
    refine AllReadyH.cons (by rfl) (fun K hK => ?_) ?_
    · refine Rg.step_alloc_agg rfl 52 rfl #[Value.int .u64 0, .int .u64 0, .int .u32 0, .int .u32 0] zs ?_
      rw [HZ0.out]
      refine hK.out _ _ ?_ (fun hHeld => ?_)
      · trivial
      clear hK K
      try simp only [Act.put, List.setIfInBounds_toArray, List.set_cons_zero, List.set_cons_succ, List.getElem_toArray, List.getElem_cons_zero, List.getElem_cons_succ]
      refine wpAnyH_ready (rs := [1]) (by kernel_rfl) (by simp) ?_
      refine AllReadyH.cons (by rfl) (fun K hK => ?_) AllReadyH.nil
      go_simp
      with_reducible refine (HB0.out).mono ?_
      rintro en w' ⟨rfl, rfl⟩
      refine hK.out _ _ ?_ (fun hHeld => ?_)
      · trivial
      clear hK K
      try simp only [Act.put, List.setIfInBounds_toArray, List.set_cons_zero, List.set_cons_succ, List.getElem_toArray, List.getElem_cons_zero, List.getElem_cons_succ]
      refine wpAnyH_ready (rs := [3]) (by kernel_rfl) (by simp) ?_
      refine AllReadyH.cons (by rfl) (fun K hK => ?_) AllReadyH.nil
      go_simp
      with_reducible refine (HB1.out).mono ?_
      rintro en w' ⟨rfl, rfl⟩
      refine hK.out _ _ ?_ (fun hHeld => ?_)
      · trivial
      clear hK K
      try simp only [Act.put, List.setIfInBounds_toArray, List.set_cons_zero, List.set_cons_succ, List.getElem_toArray, List.getElem_cons_zero, List.getElem_cons_succ]
      refine wpAnyH_ready (rs := [5]) (by kernel_rfl) (by simp) ?_
      refine AllReadyH.cons (by rfl) (fun K hK => ?_) AllReadyH.nil
      go_simp
      with_reducible refine (HB2.out).mono ?_
      rintro en w' ⟨rfl, rfl⟩
      refine hK.out _ _ ?_ (fun hHeld => ?_)
      · trivial
      clear hK K
      try simp only [Act.put, List.setIfInBounds_toArray, List.set_cons_zero, List.set_cons_succ, List.getElem_toArray, List.getElem_cons_zero, List.getElem_cons_succ]
      refine wpAnyH_take (i := 6) (v := ?_) (by rfl) (by kernel_rfl) (by kernel_rfl) (by kernel_rfl) (by exact fun _ _ _ h => h) (Or.inl ⟨by rfl, ?_⟩) hHeld ?_
      rotate_left 1
      · intro w' hSw
        (try dsimp only at hSw)
        go_simp
        try with_reducible rfl
      try simp only [Act.put, List.setIfInBounds_toArray, List.set_cons_zero, List.set_cons_succ, List.getElem_toArray, List.getElem_cons_zero, List.getElem_cons_succ]
      refine wpAnyH_ready (rs := [8]) (by kernel_rfl) (by simp) ?_
      refine AllReadyH.cons (by rfl) (fun K hK => ?_) AllReadyH.nil
      go_simp
      with_reducible refine (HB3.out).mono ?_
      rintro en w' ⟨rfl, rfl⟩
      refine hK.out _ _ ?_ (fun hHeld => ?_)
      · trivial
      clear hK K
      try simp only [Act.put, List.setIfInBounds_toArray, List.set_cons_zero, List.set_cons_succ, List.getElem_toArray, List.getElem_cons_zero, List.getElem_cons_succ]
      refine wpAnyH_take (i := 9) (v := ?_) (by rfl) (by kernel_rfl) (by kernel_rfl) (by kernel_rfl) (by exact fun _ _ _ h => h) (Or.inl ⟨by rfl, ?_⟩) hHeld ?_
      rotate_left 1
      · intro w' hSw
        (try dsimp only at hSw)
        go_simp
        try with_reducible rfl
      try simp only [Act.put, List.setIfInBounds_toArray, List.set_cons_zero, List.set_cons_succ, List.getElem_toArray, List.getElem_cons_zero, List.getElem_cons_succ]
      refine wpAnyH_take (i := 10) (v := ?_) (by rfl) (by kernel_rfl) (by kernel_rfl) (by kernel_rfl) (by exact fun _ _ _ h => h) (Or.inl ⟨by rfl, ?_⟩) hHeld ?_
      rotate_left 1
      · intro w' hSw
        (try dsimp only at hSw)
        go_simp
        try with_reducible rfl
      try simp only [Act.put, List.setIfInBounds_toArray, List.set_cons_zero, List.set_cons_succ, List.getElem_toArray, List.getElem_cons_zero, List.getElem_cons_succ]
      refine wpAnyH_ready (rs := [12]) (by kernel_rfl) (by simp) ?_
      refine AllReadyH.cons (by rfl) (fun K hK => ?_) AllReadyH.nil
      refine Rg.step_store_new rfl 52 (.tmp 4) (.tmp 15) rfl W0.drew #[Value.int .u64 0, .int .u64 0, .int .u32 0, .int .u32 0] V.toArray (by rw [HZ0.out]; rfl) (by rw [HV.out]; rfl) rfl hsv hsz0 hall ?_
      refine hK.out _ _ ?_ (fun hHeld => ?_)
      · trivial
      clear hK K
      try simp only [Act.put, List.setIfInBounds_toArray, List.set_cons_zero, List.set_cons_succ, List.getElem_toArray, List.getElem_cons_zero, List.getElem_cons_succ]
      refine wpAnyH_done (by kernel_rfl) ?_ _
      exact Rg.Only.mk' rfl HW1.out
    exact AllReadyH.nil
  case hq =>
    rintro w' rfl
    have k0 : W1.drew.cell? ⟨w.heap.size + 1 + 1, 0, none⟩ = some (.int .u64 (hE S)) := by
      have h := HP1.out.v
      rw [HV.out] at h
      simp [World.cell?, h]
    have r0 : W1.drew.rangeAt w.heap.size 0 (bys S) := by
      have := rangeAt_blk HP1.out.s 0 64
      rwa [List.drop_zero, List.take_of_length_le (by rw [bys_len, HS.out]; exact Nat.le_refl _)] at this
    have rv : W1.drew.rangeAt (w.heap.size + 1 + 1) 0 V := by
      have := rangeAt_blk HP1.out.v 0 4
      rwa [List.drop_zero, List.take_of_length_le (by rw [HP1.out.n]; exact Nat.le_refl _)] at this
    have HK2 : Hid (∀ W, Below W1.drew.heap.size W1.drew W → W.cell? ⟨w.heap.size + 1 + 1, 0, none⟩ = some (.int .u64 (hE S))) := Lib.hid fun W h => (h.cell (World.block_lt_of_cell? _ _ k0)).trans k0
    have HR2 : Hid (∀ W, Below W1.drew.heap.size W1.drew W → W.rangeAt w.heap.size 0 (bys S)) := Lib.hid fun W h j u hu => (h.cell (p := ⟨w.heap.size, 0 + j, none⟩) (World.block_lt_of_cell? _ _ (r0 j u hu))).trans (r0 j u hu)
    have HV2 : Hid (∀ W, Below W1.drew.heap.size W1.drew W → W.rangeAt (w.heap.size + 1 + 1) 0 V) := Lib.hid fun W h j u hu => (h.cell (p := ⟨w.heap.size + 1 + 1, 0 + j, none⟩) (World.block_lt_of_cell? _ _ (rv j u hu))).trans (rv j u hu)
    have hsS : (Try.prog.info? 57).map (·.size) = some (bys S).length := by rw [bys_len, HS.out]; exact size_sector
    have hsV : (Try.prog.info? 52).map (·.size) = some V.length := by rw [HP1.out.n]; exact size_header
    have HV4 := Lib.hid HP1.out.n
    have hEr := hE_range S
    clear hV HA0 HA1 HA2 HA3 HB0 HB1 HB2 HB3 HW0 HW1 HZ0 hsz0
    go_wp2_with fail
    by_cases hlo : hE S < 1
    · have HNO := Lib.hid (isHdr_no (.inl hlo))
      have hl := decide_eq_true hlo
      clear hlo HK2 HR2 HV2
      refine wp_region_held_drew (S := (fun w' => w'.cell? ⟨w.heap.size + 1 + 1, 0, none⟩ = some (.int .u64 (hE S)) ∧ w'.rangeAt w.heap.size 0 (bys S) ∧ w'.rangeAt (w.heap.size + 1 + 1) 0 V)) (by kernel_rfl) ?_ (fun hHeld => ?_)
      · exact ⟨k0, r0, rv⟩
      refine wpAnyH_take (i := 0) (v := ?_) (by rfl) (by kernel_rfl) (by kernel_rfl) (by kernel_rfl) (by exact fun _ _ _ h => h) (Or.inl ⟨by rfl, ?_⟩) hHeld ?_
      rotate_left 1
      · intro w' hSw
        (try dsimp only at hSw)
        go_simp
        try with_reducible rfl
      try simp only [Act.put, List.setIfInBounds_toArray, List.set_cons_zero, List.set_cons_succ, List.getElem_toArray, List.getElem_cons_zero, List.getElem_cons_succ]
      refine wpAnyH_take (i := 1) (v := ?_) (by rfl) (by kernel_rfl) (by kernel_rfl) (by kernel_rfl) (by exact fun _ _ _ h => h) (Or.inl ⟨by rfl, ?_⟩) hHeld ?_
      rotate_left 1
      · intro w' hSw
        (try dsimp only at hSw)
        go_simp
        try with_reducible rfl
      try simp only [Act.put, List.setIfInBounds_toArray, List.set_cons_zero, List.set_cons_succ, List.getElem_toArray, List.getElem_cons_zero, List.getElem_cons_succ]
      refine wpAnyH_take (i := 2) (v := ?_) (by rfl) (by kernel_rfl) (by kernel_rfl) (by kernel_rfl) (by exact fun _ _ _ h => h) (Or.inl ⟨by rfl, ?_⟩) hHeld ?_
      rotate_left 1
      · intro w' hSw
        (try dsimp only at hSw)
        go_simp
        try with_reducible rfl
      try simp only [Act.put, List.setIfInBounds_toArray, List.set_cons_zero, List.set_cons_succ, List.getElem_toArray, List.getElem_cons_zero, List.getElem_cons_succ]
      refine wpAnyH_take (i := 3) (v := ?_) (by rfl) (by kernel_rfl) (by kernel_rfl) (by kernel_rfl) (by exact fun _ _ _ h => h) (Or.inl ⟨by rfl, ?_⟩) hHeld ?_
      rotate_left 1
      · intro w' hSw
        (try dsimp only at hSw)
        go_simp
        try with_reducible rfl
      try simp only [Act.put, List.setIfInBounds_toArray, List.set_cons_zero, List.set_cons_succ, List.getElem_toArray, List.getElem_cons_zero, List.getElem_cons_succ]
      refine wpAnyH_take (i := 4) (v := undef) (by rfl) (by kernel_rfl) (by kernel_rfl) (by kernel_rfl) (by exact fun _ _ _ h => h) (Or.inr ⟨by rfl, rfl⟩) hHeld ?_
      try simp only [Act.put, List.setIfInBounds_toArray, List.set_cons_zero, List.set_cons_succ, List.getElem_toArray, List.getElem_cons_zero, List.getElem_cons_succ]
      refine wpAnyH_take (i := 5) (v := undef) (by rfl) (by kernel_rfl) (by kernel_rfl) (by kernel_rfl) (by exact fun _ _ _ h => h) (Or.inr ⟨by rfl, rfl⟩) hHeld ?_
      try simp only [Act.put, List.setIfInBounds_toArray, List.set_cons_zero, List.set_cons_succ, List.getElem_toArray, List.getElem_cons_zero, List.getElem_cons_succ]
      refine wpAnyH_take (i := 6) (v := undef) (by rfl) (by kernel_rfl) (by kernel_rfl) (by kernel_rfl) (by exact fun _ _ _ h => h) (Or.inr ⟨by rfl, rfl⟩) hHeld ?_
      try simp only [Act.put, List.setIfInBounds_toArray, List.set_cons_zero, List.set_cons_succ, List.getElem_toArray, List.getElem_cons_zero, List.getElem_cons_succ]
      refine wpAnyH_take (i := 7) (v := ?_) (by rfl) (by kernel_rfl) (by kernel_rfl) (by kernel_rfl) (by exact fun _ _ _ h => h) (Or.inl ⟨by rfl, ?_⟩) hHeld ?_
      rotate_left 1
      · intro w' hSw
        (try dsimp only at hSw)
        go_simp
        try with_reducible rfl
      try simp only [Act.put, List.setIfInBounds_toArray, List.set_cons_zero, List.set_cons_succ, List.getElem_toArray, List.getElem_cons_zero, List.getElem_cons_succ]
      refine wpAnyH_take (i := 8) (v := ?_) (by rfl) (by kernel_rfl) (by kernel_rfl) (by kernel_rfl) (by exact fun _ _ _ h => h) (Or.inl ⟨by rfl, ?_⟩) hHeld ?_
      rotate_left 1
      · intro w' hSw
        (try dsimp only at hSw)
        go_simp
        try with_reducible rfl
      try simp only [Act.put, List.setIfInBounds_toArray, List.set_cons_zero, List.set_cons_succ, List.getElem_toArray, List.getElem_cons_zero, List.getElem_cons_succ]
      refine wpAnyH_take (i := 9) (v := undef) (by rfl) (by kernel_rfl) (by kernel_rfl) (by kernel_rfl) (by exact fun _ _ _ h => h) (Or.inr ⟨by rfl, rfl⟩) hHeld ?_
      try simp only [Act.put, List.setIfInBounds_toArray, List.set_cons_zero, List.set_cons_succ, List.getElem_toArray, List.getElem_cons_zero, List.getElem_cons_succ]
      refine wpAnyH_take (i := 10) (v := undef) (by rfl) (by kernel_rfl) (by kernel_rfl) (by kernel_rfl) (by exact fun _ _ _ h => h) (Or.inr ⟨by rfl, rfl⟩) hHeld ?_
      try simp only [Act.put, List.setIfInBounds_toArray, List.set_cons_zero, List.set_cons_succ, List.getElem_toArray, List.getElem_cons_zero, List.getElem_cons_succ]
      refine wpAnyH_take (i := 11) (v := undef) (by rfl) (by kernel_rfl) (by kernel_rfl) (by kernel_rfl) (by exact fun _ _ _ h => h) (Or.inr ⟨by rfl, rfl⟩) hHeld ?_
      try simp only [Act.put, List.setIfInBounds_toArray, List.set_cons_zero, List.set_cons_succ, List.getElem_toArray, List.getElem_cons_zero, List.getElem_cons_succ]
      refine wpAnyH_take (i := 12) (v := undef) (by rfl) (by kernel_rfl) (by kernel_rfl) (by kernel_rfl) (by exact fun _ _ _ h => h) (Or.inr ⟨by rfl, rfl⟩) hHeld ?_
      try simp only [Act.put, List.setIfInBounds_toArray, List.set_cons_zero, List.set_cons_succ, List.getElem_toArray, List.getElem_cons_zero, List.getElem_cons_succ]
      refine wpAnyH_take (i := 13) (v := ?_) (by rfl) (by kernel_rfl) (by kernel_rfl) (by kernel_rfl) (by exact fun _ _ _ h => h) (Or.inl ⟨by rfl, ?_⟩) hHeld ?_
      rotate_left 1
      · intro w' hSw
        (try dsimp only at hSw)
        go_simp
        try with_reducible rfl
      try simp only [Act.put, List.setIfInBounds_toArray, List.set_cons_zero, List.set_cons_succ, List.getElem_toArray, List.getElem_cons_zero, List.getElem_cons_succ]
      refine wpAnyH_done (by kernel_rfl) ?_ _
      clear hHeld
      have HE := Lib.hid (PsAt.ends (V' := [.int .u64 0, .int .u64 0, .int .u32 0, .int .u32 0]) HP1.out rfl)
      have hthz : World.there _ _ _ (#[Value.int .u64 0, .int .u64 0, .int .u32 0, .int .u32 0] : Array Value).size := HE.out.2.1
      have hszz : (Try.prog.info? 52).map (·.size) = some (#[Value.int .u64 0, .int .u64 0, .int .u32 0, .int .u32 0] : Array Value).size := size_header
      have hallz : (#[Value.int .u64 0, .int .u64 0, .int .u32 0, .int .u32 0] : Array Value).all (·.oneCell') = true := by simp [Value.oneCell']
      go_wp2_with (first | (with_reducible refine wpList_store_mid rfl 52 (.tmp 2) (.tmp 30) rfl (w.heap.size + 1) 0 #[.int .u64 0, .int .u64 0, .int .u32 0, .int .u32 0] rfl rfl hthz hszz hallz ?_) | (refine wpList_val (.agg #[.int .u64 0, .int .u64 0, .int .u32 0, .int .u32 0]) (run_build_nohdr (by with_reducible rfl)) (by rfl) ?_))
      refine bodyPost_ret (v := .tuple #[.agg #[.int .u64 0, .int .u64 0, .int .u32 0, .int .u32 0], .bool false]) ?_ rfl ⟨by rw [HNO.out]; rfl, HE.out.1⟩
      have := HE.out.2.2
      simp [results, Try.results36, asAddr, Act.put] at this ⊢
      simp [this]
    · have hl : decide (hE S < 1) = false := by simpa using hlo
      by_cases hhi : 4611686018427387904 < hE S
      · have HNO := Lib.hid (isHdr_no (.inr hhi))
        clear hlo HK2 HR2 HV2
        refine wp_region_held_drew (S := (fun w' => w'.cell? ⟨w.heap.size + 1 + 1, 0, none⟩ = some (.int .u64 (hE S)) ∧ w'.rangeAt w.heap.size 0 (bys S) ∧ w'.rangeAt (w.heap.size + 1 + 1) 0 V)) (by kernel_rfl) ?_ (fun hHeld => ?_)
        · exact ⟨k0, r0, rv⟩
        refine wpAnyH_take (i := 0) (v := ?_) (by rfl) (by kernel_rfl) (by kernel_rfl) (by kernel_rfl) (by exact fun _ _ _ h => h) (Or.inl ⟨by rfl, ?_⟩) hHeld ?_
        rotate_left 1
        · intro w' hSw
          (try dsimp only at hSw)
          go_simp
          try with_reducible rfl
        try simp only [Act.put, List.setIfInBounds_toArray, List.set_cons_zero, List.set_cons_succ, List.getElem_toArray, List.getElem_cons_zero, List.getElem_cons_succ]
        refine wpAnyH_take (i := 1) (v := ?_) (by rfl) (by kernel_rfl) (by kernel_rfl) (by kernel_rfl) (by exact fun _ _ _ h => h) (Or.inl ⟨by rfl, ?_⟩) hHeld ?_
        rotate_left 1
        · intro w' hSw
          (try dsimp only at hSw)
          go_simp
          try with_reducible rfl
        try simp only [Act.put, List.setIfInBounds_toArray, List.set_cons_zero, List.set_cons_succ, List.getElem_toArray, List.getElem_cons_zero, List.getElem_cons_succ]
        refine wpAnyH_take (i := 2) (v := ?_) (by rfl) (by kernel_rfl) (by kernel_rfl) (by kernel_rfl) (by exact fun _ _ _ h => h) (Or.inl ⟨by rfl, ?_⟩) hHeld ?_
        rotate_left 1
        · intro w' hSw
          (try dsimp only at hSw)
          go_simp
          try with_reducible rfl
        try simp only [Act.put, List.setIfInBounds_toArray, List.set_cons_zero, List.set_cons_succ, List.getElem_toArray, List.getElem_cons_zero, List.getElem_cons_succ]
        refine wpAnyH_take (i := 3) (v := ?_) (by rfl) (by kernel_rfl) (by kernel_rfl) (by kernel_rfl) (by exact fun _ _ _ h => h) (Or.inl ⟨by rfl, ?_⟩) hHeld ?_
        rotate_left 1
        · intro w' hSw
          (try dsimp only at hSw)
          go_simp
          try with_reducible rfl
        try simp only [Act.put, List.setIfInBounds_toArray, List.set_cons_zero, List.set_cons_succ, List.getElem_toArray, List.getElem_cons_zero, List.getElem_cons_succ]
        refine wpAnyH_take (i := 4) (v := ?_) (by rfl) (by kernel_rfl) (by kernel_rfl) (by kernel_rfl) (by exact fun _ _ _ h => h) (Or.inl ⟨by rfl, ?_⟩) hHeld ?_
        rotate_left 1
        · intro w' hSw
          (try dsimp only at hSw)
          go_simp
          try with_reducible rfl
        try simp only [Act.put, List.setIfInBounds_toArray, List.set_cons_zero, List.set_cons_succ, List.getElem_toArray, List.getElem_cons_zero, List.getElem_cons_succ]
        refine wpAnyH_take (i := 5) (v := ?_) (by rfl) (by kernel_rfl) (by kernel_rfl) (by kernel_rfl) (by exact fun _ _ _ h => h) (Or.inl ⟨by rfl, ?_⟩) hHeld ?_
        rotate_left 1
        · intro w' hSw
          (try dsimp only at hSw)
          go_simp
          try with_reducible rfl
        try simp only [Act.put, List.setIfInBounds_toArray, List.set_cons_zero, List.set_cons_succ, List.getElem_toArray, List.getElem_cons_zero, List.getElem_cons_succ]
        refine wpAnyH_take (i := 6) (v := ?_) (by rfl) (by kernel_rfl) (by kernel_rfl) (by kernel_rfl) (by exact fun _ _ _ h => h) (Or.inl ⟨by rfl, ?_⟩) hHeld ?_
        rotate_left 1
        · intro w' hSw
          (try dsimp only at hSw)
          go_simp
          try with_reducible rfl
        try simp only [Act.put, List.setIfInBounds_toArray, List.set_cons_zero, List.set_cons_succ, List.getElem_toArray, List.getElem_cons_zero, List.getElem_cons_succ]
        refine wpAnyH_take (i := 7) (v := ?_) (by rfl) (by kernel_rfl) (by kernel_rfl) (by kernel_rfl) (by exact fun _ _ _ h => h) (Or.inl ⟨by rfl, ?_⟩) hHeld ?_
        rotate_left 1
        · intro w' hSw
          (try dsimp only at hSw)
          go_simp
          try with_reducible rfl
        try simp only [Act.put, List.setIfInBounds_toArray, List.set_cons_zero, List.set_cons_succ, List.getElem_toArray, List.getElem_cons_zero, List.getElem_cons_succ]
        refine wpAnyH_take (i := 8) (v := ?_) (by rfl) (by kernel_rfl) (by kernel_rfl) (by kernel_rfl) (by exact fun _ _ _ h => h) (Or.inl ⟨by rfl, ?_⟩) hHeld ?_
        rotate_left 1
        · intro w' hSw
          (try dsimp only at hSw)
          go_simp
          try with_reducible rfl
        try simp only [Act.put, List.setIfInBounds_toArray, List.set_cons_zero, List.set_cons_succ, List.getElem_toArray, List.getElem_cons_zero, List.getElem_cons_succ]
        refine wpAnyH_take (i := 9) (v := undef) (by rfl) (by kernel_rfl) (by kernel_rfl) (by kernel_rfl) (by exact fun _ _ _ h => h) (Or.inr ⟨by rfl, rfl⟩) hHeld ?_
        try simp only [Act.put, List.setIfInBounds_toArray, List.set_cons_zero, List.set_cons_succ, List.getElem_toArray, List.getElem_cons_zero, List.getElem_cons_succ]
        refine wpAnyH_take (i := 10) (v := undef) (by rfl) (by kernel_rfl) (by kernel_rfl) (by kernel_rfl) (by exact fun _ _ _ h => h) (Or.inr ⟨by rfl, rfl⟩) hHeld ?_
        try simp only [Act.put, List.setIfInBounds_toArray, List.set_cons_zero, List.set_cons_succ, List.getElem_toArray, List.getElem_cons_zero, List.getElem_cons_succ]
        refine wpAnyH_take (i := 11) (v := undef) (by rfl) (by kernel_rfl) (by kernel_rfl) (by kernel_rfl) (by exact fun _ _ _ h => h) (Or.inr ⟨by rfl, rfl⟩) hHeld ?_
        try simp only [Act.put, List.setIfInBounds_toArray, List.set_cons_zero, List.set_cons_succ, List.getElem_toArray, List.getElem_cons_zero, List.getElem_cons_succ]
        refine wpAnyH_take (i := 12) (v := undef) (by rfl) (by kernel_rfl) (by kernel_rfl) (by kernel_rfl) (by exact fun _ _ _ h => h) (Or.inr ⟨by rfl, rfl⟩) hHeld ?_
        try simp only [Act.put, List.setIfInBounds_toArray, List.set_cons_zero, List.set_cons_succ, List.getElem_toArray, List.getElem_cons_zero, List.getElem_cons_succ]
        refine wpAnyH_take (i := 13) (v := ?_) (by rfl) (by kernel_rfl) (by kernel_rfl) (by kernel_rfl) (by exact fun _ _ _ h => h) (Or.inl ⟨by rfl, ?_⟩) hHeld ?_
        rotate_left 1
        · intro w' hSw
          (try dsimp only at hSw)
          go_simp
          try with_reducible rfl
        try simp only [Act.put, List.setIfInBounds_toArray, List.set_cons_zero, List.set_cons_succ, List.getElem_toArray, List.getElem_cons_zero, List.getElem_cons_succ]
        refine wpAnyH_done (by kernel_rfl) ?_ _
        clear hHeld
        have HE := Lib.hid (PsAt.ends (V' := [.int .u64 0, .int .u64 0, .int .u32 0, .int .u32 0]) HP1.out rfl)
        have hthz : World.there _ _ _ (#[Value.int .u64 0, .int .u64 0, .int .u32 0, .int .u32 0] : Array Value).size := HE.out.2.1
        have hszz : (Try.prog.info? 52).map (·.size) = some (#[Value.int .u64 0, .int .u64 0, .int .u32 0, .int .u32 0] : Array Value).size := size_header
        have hallz : (#[Value.int .u64 0, .int .u64 0, .int .u32 0, .int .u32 0] : Array Value).all (·.oneCell') = true := by simp [Value.oneCell']
        go_wp2_with (first | (with_reducible refine wpList_store_mid rfl 52 (.tmp 2) (.tmp 30) rfl (w.heap.size + 1) 0 #[.int .u64 0, .int .u64 0, .int .u32 0, .int .u32 0] rfl rfl hthz hszz hallz ?_) | (refine wpList_val (.agg #[.int .u64 0, .int .u64 0, .int .u32 0, .int .u32 0]) (run_build_nohdr (by with_reducible rfl)) (by rfl) ?_))
        refine bodyPost_ret (v := .tuple #[.agg #[.int .u64 0, .int .u64 0, .int .u32 0, .int .u32 0], .bool false]) ?_ rfl ⟨by rw [HNO.out]; rfl, HE.out.1⟩
        have := HE.out.2.2
        simp [results, Try.results36, asAddr, Act.put] at this ⊢
        simp [this]
      · have hhi' : decide (4611686018427387904 < hE S) = false := by simpa using hhi
        have HIN := Lib.hid (isHdr_in (show 1 ≤ hE S by omega) (show hE S ≤ 4611686018427387904 by omega))
        have HSC : Hid (Calls Try.prog 23 #[.agg V.toArray] W1.drew fun en w' => en = .returned (.agg (bys (hdrL (hE S).toNat (hZ S).toNat (hF S).toNat (hS S).toNat)).toArray) ∧ Below W1.drew.heap.size W1.drew w') := Lib.hid (by
          have h1 := hE_range S
          have h2 := hZ_range S
          have h3 := hF_range S
          have h4 := hS_range S
          have := sector_any W1.drew (hE S).toNat (hZ S).toNat (hF S).toNat (hS S).toNat (by omega) (by omega) (by omega) (by omega)
          rw [HV.out]
          simp only [Int.toNat_of_nonneg h1.1, Int.toNat_of_nonneg h2.1, Int.toNat_of_nonneg h3.1, Int.toNat_of_nonneg h4.1] at this
          exact this)
        clear hhi
        have hl' := hlo
        clear hlo
        obtain ⟨q, hq⟩ : ∃ q, decide (S = hdrL (hE S).toNat (hZ S).toNat (hF S).toNat (hS S).toNat) = q := ⟨_, rfl⟩
        have HNO := Lib.hid (HIN.out.trans hq)
        have HQ := Lib.hid hq
        clear hq HIN
        refine wp_region_held_drew (S := (fun w' => w'.cell? ⟨w.heap.size + 1 + 1, 0, none⟩ = some (.int .u64 (hE S)) ∧ w'.rangeAt w.heap.size 0 (bys S) ∧ w'.rangeAt (w.heap.size + 1 + 1) 0 V)) (by kernel_rfl) ?_ (fun hHeld => ?_)
        · exact ⟨k0, r0, rv⟩
        refine wpAnyH_take (i := 0) (v := ?_) (by rfl) (by kernel_rfl) (by kernel_rfl) (by kernel_rfl) (by exact fun _ _ _ h => h) (Or.inl ⟨by rfl, ?_⟩) hHeld ?_
        rotate_left 1
        · intro w' hSw
          (try dsimp only at hSw)
          go_simp
          try with_reducible rfl
        try simp only [Act.put, List.setIfInBounds_toArray, List.set_cons_zero, List.set_cons_succ, List.getElem_toArray, List.getElem_cons_zero, List.getElem_cons_succ]
        refine wpAnyH_take (i := 1) (v := ?_) (by rfl) (by kernel_rfl) (by kernel_rfl) (by kernel_rfl) (by exact fun _ _ _ h => h) (Or.inl ⟨by rfl, ?_⟩) hHeld ?_
        rotate_left 1
        · intro w' hSw
          (try dsimp only at hSw)
          go_simp
          try with_reducible rfl
        try simp only [Act.put, List.setIfInBounds_toArray, List.set_cons_zero, List.set_cons_succ, List.getElem_toArray, List.getElem_cons_zero, List.getElem_cons_succ]
        refine wpAnyH_take (i := 2) (v := ?_) (by rfl) (by kernel_rfl) (by kernel_rfl) (by kernel_rfl) (by exact fun _ _ _ h => h) (Or.inl ⟨by rfl, ?_⟩) hHeld ?_
        rotate_left 1
        · intro w' hSw
          (try dsimp only at hSw)
          go_simp
          try with_reducible rfl
        try simp only [Act.put, List.setIfInBounds_toArray, List.set_cons_zero, List.set_cons_succ, List.getElem_toArray, List.getElem_cons_zero, List.getElem_cons_succ]
        refine wpAnyH_take (i := 3) (v := ?_) (by rfl) (by kernel_rfl) (by kernel_rfl) (by kernel_rfl) (by exact fun _ _ _ h => h) (Or.inl ⟨by rfl, ?_⟩) hHeld ?_
        rotate_left 1
        · intro w' hSw
          (try dsimp only at hSw)
          go_simp
          try with_reducible rfl
        try simp only [Act.put, List.setIfInBounds_toArray, List.set_cons_zero, List.set_cons_succ, List.getElem_toArray, List.getElem_cons_zero, List.getElem_cons_succ]
        refine wpAnyH_take (i := 4) (v := ?_) (by rfl) (by kernel_rfl) (by kernel_rfl) (by kernel_rfl) (by exact fun _ _ _ h => h) (Or.inl ⟨by rfl, ?_⟩) hHeld ?_
        rotate_left 1
        · intro w' hSw
          (try dsimp only at hSw)
          go_simp
          try with_reducible rfl
        try simp only [Act.put, List.setIfInBounds_toArray, List.set_cons_zero, List.set_cons_succ, List.getElem_toArray, List.getElem_cons_zero, List.getElem_cons_succ]
        refine wpAnyH_take (i := 5) (v := ?_) (by rfl) (by kernel_rfl) (by kernel_rfl) (by kernel_rfl) (by exact fun _ _ _ h => h) (Or.inl ⟨by rfl, ?_⟩) hHeld ?_
        rotate_left 1
        · intro w' hSw
          (try dsimp only at hSw)
          go_simp
          try with_reducible rfl
        try simp only [Act.put, List.setIfInBounds_toArray, List.set_cons_zero, List.set_cons_succ, List.getElem_toArray, List.getElem_cons_zero, List.getElem_cons_succ]
        refine wpAnyH_take (i := 6) (v := ?_) (by rfl) (by kernel_rfl) (by kernel_rfl) (by kernel_rfl) (by exact fun _ _ _ h => h) (Or.inl ⟨by rfl, ?_⟩) hHeld ?_
        rotate_left 1
        · intro w' hSw
          (try dsimp only at hSw)
          go_simp
          try with_reducible rfl
        try simp only [Act.put, List.setIfInBounds_toArray, List.set_cons_zero, List.set_cons_succ, List.getElem_toArray, List.getElem_cons_zero, List.getElem_cons_succ]
        refine wpAnyH_take (i := 7) (v := ?_) (by rfl) (by kernel_rfl) (by kernel_rfl) (by kernel_rfl) (by exact fun _ _ _ h => h) (Or.inl ⟨by rfl, ?_⟩) hHeld ?_
        rotate_left 1
        · intro w' hSw
          (try dsimp only at hSw)
          go_simp
          try with_reducible rfl
        try simp only [Act.put, List.setIfInBounds_toArray, List.set_cons_zero, List.set_cons_succ, List.getElem_toArray, List.getElem_cons_zero, List.getElem_cons_succ]
        refine wpAnyH_take (i := 8) (v := ?_) (by rfl) (by kernel_rfl) (by kernel_rfl) (by kernel_rfl) (by exact fun _ _ _ h => h) (Or.inl ⟨by rfl, ?_⟩) hHeld ?_
        rotate_left 1
        · intro w' hSw
          (try dsimp only at hSw)
          go_simp
          try with_reducible rfl
        try simp only [Act.put, List.setIfInBounds_toArray, List.set_cons_zero, List.set_cons_succ, List.getElem_toArray, List.getElem_cons_zero, List.getElem_cons_succ]
        refine wpAnyH_take (i := 9) (v := .agg (bys S).toArray) (by rfl) (by kernel_rfl) (by kernel_rfl) (by kernel_rfl) (by exact fun _ _ _ h => h) (Or.inl ⟨by rfl, ?_⟩) hHeld ?_
        · intro w' hSw
          exact run_load_op 57 (.tmp 1) rfl w.heap.size 0 rfl (bys S) _ hSw.2.1 Try.underlying57 rfl hsS
        try simp only [Act.put, List.setIfInBounds_toArray, List.set_cons_zero, List.set_cons_succ, List.getElem_toArray, List.getElem_cons_zero, List.getElem_cons_succ]
        refine wpAnyH_take (i := 10) (v := .agg V.toArray) (by rfl) (by kernel_rfl) (by kernel_rfl) (by kernel_rfl) (by exact fun _ _ _ h => h) (Or.inl ⟨by rfl, ?_⟩) hHeld ?_
        · intro w' hSw
          exact run_load_op 52 (.tmp 4) rfl (w.heap.size + 1 + 1) 0 rfl V _ hSw.2.2 Try.underlying52 rfl hsV
        try simp only [Act.put, List.setIfInBounds_toArray, List.set_cons_zero, List.set_cons_succ, List.getElem_toArray, List.getElem_cons_zero, List.getElem_cons_succ]
        refine wpAnyH_ready (rs := [11]) (by kernel_rfl) (by simp) ?_
        refine AllReadyH.cons (by rfl) (fun K hK => ?_) AllReadyH.nil
        go_simp
        with_reducible refine (HSC.out).mono ?_
        rintro en w2 ⟨rfl, hb2⟩
        refine hK.out _ _ ?_ (fun hHeld => ?_)
        · exact ⟨HK2.out _ hb2, HR2.out _ hb2, HV2.out _ hb2⟩
        clear hK K
        try simp only [Act.put, List.setIfInBounds_toArray, List.set_cons_zero, List.set_cons_succ, List.getElem_toArray, List.getElem_cons_zero, List.getElem_cons_succ]
        refine wpAnyH_take (i := 12) (v := .bool (!q)) (by rfl) (by kernel_rfl) (by kernel_rfl) (by kernel_rfl) (by exact fun _ _ _ h => h) (Or.inl ⟨by rfl, ?_⟩) hHeld ?_
        · intro w' hSw
          rw [← HQ.out]
          exact run_neq_op _ (.tmp 25) (.tmp 27) rfl _ _ rfl rfl HS.out (hdrL_len _ _ _ _)
        try simp only [Act.put, List.setIfInBounds_toArray, List.set_cons_zero, List.set_cons_succ, List.getElem_toArray, List.getElem_cons_zero, List.getElem_cons_succ]
        refine wpAnyH_take (i := 13) (v := ?_) (by rfl) (by kernel_rfl) (by kernel_rfl) (by kernel_rfl) (by exact fun _ _ _ h => h) (Or.inl ⟨by rfl, ?_⟩) hHeld ?_
        rotate_left 1
        · intro w' hSw
          (try dsimp only at hSw)
          go_simp
          try with_reducible rfl
        try simp only [Act.put, List.setIfInBounds_toArray, List.set_cons_zero, List.set_cons_succ, List.getElem_toArray, List.getElem_cons_zero, List.getElem_cons_succ]
        refine wpAnyH_done (by kernel_rfl) ?_ _
        clear hHeld
        have HP2 := Lib.hid (HP1.out.past hb2)
        have r2 := HV2.out _ hb2
        clear hb2 HK2 HR2 HV2 HSC k0 r0 rv hl'
        clear HQ hHeld
        cases q
        · skip
          have HE := Lib.hid (PsAt.ends (V' := [.int .u64 0, .int .u64 0, .int .u32 0, .int .u32 0]) HP2.out rfl)
          have hthz : World.there _ _ _ (#[Value.int .u64 0, .int .u64 0, .int .u32 0, .int .u32 0] : Array Value).size := HE.out.2.1
          have hszz : (Try.prog.info? 52).map (·.size) = some (#[Value.int .u64 0, .int .u64 0, .int .u32 0, .int .u32 0] : Array Value).size := size_header
          have hallz : (#[Value.int .u64 0, .int .u64 0, .int .u32 0, .int .u32 0] : Array Value).all (·.oneCell') = true := by simp [Value.oneCell']
          go_wp2_with (first | (with_reducible refine wpList_store_mid rfl 52 (.tmp 2) (.tmp 30) rfl (w.heap.size + 1) 0 #[.int .u64 0, .int .u64 0, .int .u32 0, .int .u32 0] rfl rfl hthz hszz hallz ?_) | (refine wpList_val (.agg #[.int .u64 0, .int .u64 0, .int .u32 0, .int .u32 0]) (run_build_nohdr (by with_reducible rfl)) (by rfl) ?_))
          refine bodyPost_ret (v := .tuple #[.agg #[.int .u64 0, .int .u64 0, .int .u32 0, .int .u32 0], .bool false]) ?_ rfl ⟨by rw [HNO.out]; rfl, HE.out.1⟩
          have := HE.out.2.2
          simp [results, Try.results36, asAddr, Act.put] at this ⊢
          simp [this]
        · skip
          have HE := Lib.hid (PsAt.ends (V' := V) HP2.out HV4.out)
          have hthz : w2.there (w.heap.size + 1) 0 V.toArray.size := by rw [show V.toArray.size = 4 by rw [← HV4.out]; rfl]; exact HE.out.2.1
          go_wp2_with (first | (with_reducible refine wpList_load_mid rfl 52 (.tmp 4) rfl (w.heap.size + 1 + 1) 0 rfl V _ r2 Try.underlying52 rfl hsV ?_) | (with_reducible refine wpList_store_mid rfl 52 (.tmp 2) (.tmp 31) rfl (w.heap.size + 1) 0 V.toArray rfl rfl hthz hsv hall ?_))
          refine bodyPost_ret (v := .tuple #[.agg V.toArray, .bool true]) ?_ rfl ⟨by rw [HNO.out, HV.out]; rfl, HE.out.1⟩
          have := HE.out.2.2
          simp [results, Try.results36, asAddr, Act.put, this]
end Go.Proofs.Ytienhidbgohhcaa
