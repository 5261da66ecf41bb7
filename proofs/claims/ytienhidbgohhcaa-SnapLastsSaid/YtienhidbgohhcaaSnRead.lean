/-
  Layer 6: the bytes of a slot are read.
-/
import Derived.Test.YtienhidbgohhcaaSnWrite
set_option linter.unusedVariables false
set_option linter.unusedSimpArgs false
namespace Go.Proofs.Ytienhidbgohhcaa
open Go.RowKit Rf
attribute [local go_sem] Oper.semAt_some

/-- So many bytes from a sector on. -/
def dataOf (R : List Int) (at' size : Nat) : List Int := (R.drop (64 * (at' + 1))).take size
theorem dataOf_len {R : List Int} {at' size n : Nat} (h : R.length = 64 * n) (hs : 64 * (at' + 1) + size ≤ 64 * n) : (dataOf R at' size).length = size := by simp [dataOf]; omega
theorem run_store_new_op {P : Program} {o : Oper} {a : Act} (w0 : World) (ty : TypeId) (x y : Operand) (ho : o.op = .store ty x y) (C C' : Array Value) (hx : a.eval x = .pointer (some ⟨w0.heap.size, 0, none⟩)) (hy : a.eval y = .agg C')
    (hi : (P.info? ty).map (·.size) = some C'.size) (hs : C.size = C'.size) (h1 : C'.all (·.oneCell') = true) : (execOp a.eval o).run P (w0.alloc (.cells C ty)) = .ok .skip (w0.alloc (.cells C' ty)) := by
  have hr := run_storeAt_new (P := P) w0 ty C C' hi hs h1
  unfold execOp
  simp only [ho, hx, hy, Sem.run_bind, hr, Result.andThen_ok, Sem.run_pure]
/-- What is read so far. -/
def sofar (D : List Int) (k : Nat) : List Int := D.take (64 * k) ++ List.replicate (D.length - 64 * k) 0
theorem sofar_len (D : List Int) (k : Nat) : (sofar D k).length = D.length := by simp [sofar]; omega
theorem sofar_zero (D : List Int) : sofar D 0 = List.replicate D.length 0 := by simp [sofar]
theorem sofar_all {D : List Int} {k : Nat} (h : D.length ≤ 64 * k) : sofar D k = D := by
  simp [sofar, List.take_of_length_le h, Nat.sub_eq_zero_of_le h]
theorem sofar_next {D : List Int} {k : Nat} (h : 64 * k < D.length) : splice (sofar D k) (64 * k) ((D.drop (64 * k)).take 64) = sofar D (k + 1) := by
  have h1 : (D.take (64 * k)).length = 64 * k := by simp; omega
  have h2 : ((D.drop (64 * k)).take 64).length = min 64 (D.length - 64 * k) := by simp
  have h3 : D.take (64 * (k + 1)) = D.take (64 * k) ++ (D.drop (64 * k)).take 64 := by
    rw [show 64 * (k + 1) = 64 * k + 64 by omega, List.take_add]
  have h5 : sofar D (k + 1) = D.take (64 * (k + 1)) ++ List.replicate (D.length - 64 * (k + 1)) 0 := rfl
  rw [h5, h3]
  generalize (D.drop (64 * k)).take 64 = X at *
  unfold splice sofar
  rw [h2, List.take_left' h1, List.drop_append, List.drop_eq_nil_of_le (by omega), List.nil_append, h1, List.drop_replicate]
  try rw [← List.append_assoc]
  congr 2
  omega
section
variable {w : World} {d s l : Nat} {v : Value} {n : Nat} {A : Dk.DV}
/-- Behind so many pieces. -/
structure RdAt (w : World) (d : Nat) (D : List Int) (at' : Nat) (pre : List (Nat × Nat)) (W : World) : Prop where
  below : Below w.heap.size w W
  box : W.heap[w.heap.size]? = some (.cells #[.pointer (some ⟨d, 0, none⟩)] 25 (0, 0))
  row : W.heap[w.heap.size + 1]? = some (.cells (bys (sofar D pre.length)).toArray 5 (0, 0))
  at' : W.heap[w.heap.size + 1 + 1]? = some (.cells #[.int .i64 ((at' + pre.length : Nat) : Int)] 3 (0, 0))
  c1 : W.heap[w.heap.size + 1 + 1 + 1]? = some (.cells #[.slice (some ⟨w.heap.size + 1, 0, none⟩) D.length D.length] 29 (0, 0))
  c2 : W.heap[w.heap.size + 1 + 1 + 1 + 1]? = some (.cells #[.int .i64 64] 3 (0, 0))
theorem RdAt.own {D : List Int} {at' : Nat} (B0 : Nat) (hB : w.heap.size + 1 + 1 + 1 + 1 + 1 ≤ B0) : OwnFrom B0 (RdAt w d D at') := by
  intro pre W W' row h hg hr
  have kc : ∀ {b : Nat} {c : Array Value} {e : TypeId} {z : Nat × Nat}, W.heap[b]? = some (.cells c e z) → W'.heap[b]? = some (.cells c e z) :=
    fun hb => (grownBy_keeps_cells hg (fun r e => (hr r e).2) hb rfl).trans hb
  refine ⟨?_, kc h.box, kc h.row, kc h.at', kc h.c1, kc h.c2⟩
  have hchg : Chg (fun j => row = some j) W W' := Chg.of_grown hg (fun k hk => hk)
  exact h.below.trans (hchg.below (fun k hk => by have := (hr k hk).1; omega) h.below.size)
theorem info_u8 : (Try.prog.info? 5).map (fun i => (i.zero, i.size, i.bytes)) = some (some (.int .u8 0), 1, 1) := by kernel_rfl
theorem run_make_bytes (w : World) (n : Nat) (hn : n ≤ 1000000) : (Instr.makeSlice 29 (.int .i64 (n : Int)) (.int .i64 (n : Int))).run Try.prog w = .ok (.slice (some ⟨w.heap.size, 0, none⟩) n n) (w.alloc (.cells (bys (List.replicate n 0)).toArray 5)) := by
  have hi := info_u8
  obtain ⟨i, h1, h2, h3, h4⟩ : ∃ i, Try.prog.info? 5 = some i ∧ i.zero = some (.int .u8 0) ∧ i.size = 1 ∧ i.bytes = 1 := by
    cases hq : Try.prog.info? 5 with
    | none => rw [hq] at hi; cases hi
    | some q =>
      rw [hq] at hi
      simp only [Option.map_some, Option.some.injEq, Prod.mk.injEq] at hi
      exact ⟨q, rfl, hi.1, hi.2.1, hi.2.2⟩
  have := run_makeSlice (P := Try.prog) w 29 5 i _ Try.underlying29 h1 h2 .i64 .i64 (n : Int) (n : Int) (by omega) (Int.le_refl _) (by rw [h3]; simp; omega) (by rw [h4]; omega) (by omega)
  rw [this, h3]
  simp only [Int.toNat_natCast]
  congr 3
  apply Array.ext
  · simp [madeCells, bys_len]
  · intro i h1 h2
    have h5 : i % 1 = 0 := Nat.mod_one i
    simp [madeCells, bys, b8, Value.cells, h5]
theorem run_make_op {o : Oper} {a : Act} {w : World} (x : Operand) (ho : o.op = .makeSlice 29 x x) (n : Nat) (hn : n ≤ 1000000) (hx : a.eval x = .int .i64 (n : Int)) :
    (execOp a.eval o).run Try.prog w = .ok (.value (.slice (some ⟨w.heap.size, 0, none⟩) n n)) (w.alloc (.cells (bys (List.replicate n 0)).toArray 5)) := by
  have := run_make_bytes w n hn
  unfold execOp
  simp only [ho, hx, Sem.run_bind, this, Result.andThen_ok, Sem.run_pure]
/-- What read answers. -/
def GivesBytes (D : List Int) (w : World) (e : Ending) (w' : World) : Prop := e = .returned (.slice (some ⟨w.heap.size + 1, 0, none⟩) D.length D.length) ∧ w'.heap[w.heap.size + 1]? = some (.cells (bys D).toArray 5 (0, 0)) ∧ Below w.heap.size w w'
/-- What one round does. -/
theorem RdAt.step {D : List Int} {at' m B : Nat} {pre : List (Nat × Nat)} {W : World} (h0 : DkAt w d s l v n A) (h : RdAt w d D at' pre W) (hk : 64 * pre.length < D.length) (hm : m = min 64 (D.length - 64 * pre.length)) (hi : at' + pre.length + 1 < n)
    (hDs : (D.drop (64 * pre.length)).take 64 = (Dk.sec A.seen (at' + 1 + pre.length)).take m) (hB : w.heap.size + 1 + 1 + 1 + 1 + 1 ≤ B) :
    ∃ W1 : World, W1 = W.setCell ⟨w.heap.size + 1 + 1, 0, none⟩ (.int .i64 ((at' : Int) + (pre.length : Int) + 1)) ∧
      W.cell? ⟨w.heap.size + 1 + 1, 0, none⟩ = some (.int .i64 ((at' : Int) + (pre.length : Int))) ∧ W.frozen? ⟨w.heap.size + 1 + 1, 0, none⟩ = false ∧
      W1.cell? ⟨w.heap.size, 0, none⟩ = some (.pointer (some ⟨d, 0, none⟩)) ∧ W1.cell? ⟨w.heap.size + 1 + 1, 0, none⟩ = some (.int .i64 ((at' : Int) + (pre.length : Int) + 1)) ∧
      Calls Try.prog 35 #[.pointer (some ⟨d, 0, none⟩), .int .i64 ((at' : Int) + (pre.length : Int) + 1)] W1 fun e w2 => e = .returned (.tuple #[.agg (bys (Dk.sec A.seen (at' + 1 + pre.length))).toArray, .int .i64 0]) ∧
        ∃ W3 : World, W3 = w2.alloc (.cells (bys (Dk.sec A.seen (at' + 1 + pre.length))).toArray 57) ∧ (∀ j u, (bys ((Dk.sec A.seen (at' + 1 + pre.length)).take m))[j]? = some u → W3.cell? ((⟨w2.heap.size, 0, none⟩ : Addr).add j) = some u) ∧
          W3.there (w.heap.size + 1) (64 * pre.length) m ∧ KeepsFrom B W (W3.setCells (w.heap.size + 1) (64 * pre.length) (bys ((Dk.sec A.seen (at' + 1 + pre.length)).take m))) ∧
          RdAt w d D at' (pre ++ [(pre.length, m)]) (W3.setCells (w.heap.size + 1) (64 * pre.length) (bys ((Dk.sec A.seen (at' + 1 + pre.length)).take m))) := by
  obtain ⟨W1, hW1⟩ : ∃ W1, W1 = W.setCell ⟨w.heap.size + 1 + 1, 0, none⟩ (.int .i64 ((at' : Int) + (pre.length : Int) + 1)) := ⟨_, rfl⟩
  have hwW := (Array.getElem?_eq_some_iff.1 h.c2).1
  have q1 : Chg (fun j => j = w.heap.size + 1 + 1) W W1 := by rw [hW1]; exact chg_setCell (S := fun j => j = w.heap.size + 1 + 1) rfl _ _ _
  have hd1 : W1.heap[w.heap.size + 1 + 1]? = some (.cells #[.int .i64 ((at' : Int) + (pre.length : Int) + 1)] 3 (0, 0)) := by
    rw [hW1, heap_setCell_same W (w.heap.size + 1 + 1) 0 _ _ _ h.at']
    rfl
  have hb1 : Below w.heap.size w W1 := h.below.trans (q1.below (fun k hk => by omega) h.below.size)
  have hx1 : W1.heap[w.heap.size]? = some (.cells #[.pointer (some ⟨d, 0, none⟩)] 25 (0, 0)) := (q1.block _ (by omega) (by omega)).trans h.box
  have hR := Read_yes (h0.kept hb1) (at' + pre.length + 1) hi
  have hsl : (Dk.sec A.seen (at' + 1 + pre.length)).length = 64 := Dk.sec_len h0.fits.seen (by omega)
  rw [show at' + pre.length + 1 = at' + 1 + pre.length by omega] at hR
  have hm64 : m ≤ 64 := by omega
  refine ⟨W1, hW1, by simp [World.cell?, h.at'], by simp [World.frozen?, h.at'], by simp [World.cell?, hx1], by simp [World.cell?, hd1], ?_⟩
  rw [show (at' : Int) + (pre.length : Int) + 1 = ((at' + 1 + pre.length : Nat) : Int) by omega]
  refine hR.mono ?_
  rintro e w2 ⟨rfl, hb2⟩
  generalize Dk.sec A.seen (at' + 1 + pre.length) = S at *
  obtain ⟨W3, hW3⟩ : ∃ W3, W3 = w2.alloc (.cells (bys S).toArray 57) := ⟨_, rfl⟩
  have hb3 : Below W1.heap.size W1 W3 := by rw [hW3]; exact hb2.alloc hb2.size _
  have hz1 : W1.heap.size = W.heap.size := by rw [hW1]; simp [World.setCell]
  have hrow3 : W3.heap[w.heap.size + 1]? = some (.cells (bys (sofar D pre.length)).toArray 5 (0, 0)) := (hb3.block _ (by omega)).trans ((q1.block _ (by omega) (by omega)).trans h.row)
  have hth : W3.there (w.heap.size + 1) (64 * pre.length) m := there_blk hrow3 _ _ (by rw [bys_len, sofar_len]; omega)
  have htl : (S.take m).length = m := by simp; omega
  have q3 : Chg (fun j => j = w.heap.size + 1 + 1) W W3 := q1.trans (Chg.of_below hb3)
  obtain ⟨W4, hW4⟩ : ∃ W4, W4 = W3.setCells (w.heap.size + 1) (64 * pre.length) (bys (S.take m)) := ⟨_, rfl⟩
  have q4 : Chg (fun j => j = w.heap.size + 1) W3 W4 := by rw [hW4]; exact chg_setCells (S := fun j => j = w.heap.size + 1) rfl _ _ _
  have q5 : Chg (fun j => j = w.heap.size + 1 ∨ j = w.heap.size + 1 + 1) W W4 := (q3.mono fun k _ hk => .inr hk).step (q4.mono fun k _ hk => .inl hk)
  have hz3 : W.heap.size ≤ W3.heap.size := q3.size
  have kp : ∀ {k : Nat} {o : Obj}, k ≠ w.heap.size + 1 → k ≠ w.heap.size + 1 + 1 → W.heap[k]? = some o → W4.heap[k]? = some o := fun h1 h2 hk => (q5.block _ (Array.getElem?_eq_some_iff.1 hk).1 (by omega)).trans hk
  refine ⟨rfl, W3, hW3, ?_, hth, ?_, ?_⟩
  · intro j u hu
    rw [Addr.add_mid, Nat.zero_add, hW3]
    have hu' : (bys S)[j]? = some u := by
      rw [bys, List.map_take, List.getElem?_take] at hu
      split at hu
      · exact hu
      · cases hu
    have hbz : (w2.alloc (.cells (bys S).toArray 57)).heap[w2.heap.size]? = some (.cells (bys S).toArray 57 (0, 0)) := heap_alloc_last _ _
    simp only [World.cell?, hbz]
    simpa using hu'
  · rw [← hW4]
    refine KeepsFrom.of_chg q5 fun k hBk hk hlk => ?_
    omega
  · rw [← hW4]
    refine ⟨h.below.trans (q5.below (fun k hk => by omega) h.below.size), kp (by omega) (by omega) h.box, ?_, ?_, kp (by omega) (by omega) h.c1, kp (by omega) (by omega) h.c2⟩
    · rw [hW4, heap_setCells_same _ _ _ _ _ _ hrow3 (by rw [bys_len, bys_len, sofar_len, htl]; omega), bys_splice', List.length_append, List.length_singleton, ← sofar_next hk, hDs]
    · rw [List.length_append, List.length_singleton]
      have : W3.heap[w.heap.size + 1 + 1]? = some (.cells #[.int .i64 ((at' : Int) + (pre.length : Int) + 1)] 3 (0, 0)) := (hb3.block _ (by omega)).trans hd1
      rw [show ((at' + (pre.length + 1) : Nat) : Int) = (at' : Int) + (pre.length : Int) + 1 by omega]
      exact (q4.block _ (by omega) (by omega)).trans this
set_option maxRecDepth 100000 in
set_option maxHeartbeats 4000000 in
theorem read_any (h : DkAt w d s l v n A) {slot size : Nat} (hs : slot < 2) (hl : size ≤ 64 * (n / 2 - 1)) (h2 : 2 ≤ n) :
    Calls Try.prog 37 #[.pointer (some ⟨d, 0, none⟩), .int .i64 (slot : Int), .int .i64 (size : Int)] w (GivesBytes (dataOf A.seen (slot * (n / 2)) size) w) := by
  refine (callsIn_wide (n := 3)).1 ?_
  refine callsIn_of_wp_marks Try.func37 rfl trivial ?_ rfl
  simp only [Try.ntmps37, List.size_toArray, List.length_cons, List.length_nil, Nat.reduceAdd, Nat.reduceSub, Array.replicate_succ, Array.replicate_zero, List.push_toArray, List.append_toArray, List.nil_append, List.cons_append]
  have hns := h.fits.small
  have hat : slot * (n / 2) ≤ 500 := by
    have : slot = 0 ∨ slot = 1 := by omega
    rcases this with rfl | rfl <;> omega
  have hat2 : slot * (n / 2) + 1 + (n / 2 - 1) ≤ n := by
    have : slot = 0 ∨ slot = 1 := by omega
    rcases this with rfl | rfl <;> omega
  have hDl := dataOf_len (size := size) (at' := slot * (n / 2)) h.fits.seen (by omega)
  obtain ⟨D, hD⟩ : ∃ D, dataOf A.seen (slot * (n / 2)) size = D := ⟨_, rfl⟩
  rw [hD] at hDl ⊢
  have hDs : ∀ k, 64 * k < D.length → (D.drop (64 * k)).take 64 = (Dk.sec A.seen (slot * (n / 2) + 1 + k)).take (min 64 (D.length - 64 * k)) := by
    intro k hk
    rw [← hD]
    unfold dataOf Dk.sec
    rw [List.drop_take, List.drop_drop, List.take_take, List.take_take]
    rw [show 64 * (slot * (n / 2) + 1) + 64 * k = 64 * (slot * (n / 2) + 1 + k) by omega]
    congr 1
    have : (dataOf A.seen (slot * (n / 2)) size).length = size := by rw [hD]; exact hDl
    unfold dataOf at this
    rw [this]
    omega
  subst hDl
  obtain ⟨w2, hw2⟩ : ∃ w2, w2 = (w.alloc (.cells #[.pointer (some ⟨d, 0, none⟩)] 25)).alloc (.cells (bys (List.replicate D.length 0)).toArray 5) := ⟨_, rfl⟩
  have hB2 : Below w.heap.size w w2 := by rw [hw2]; exact ((Below.refl _ _).alloc (Nat.le_refl _) _).alloc (by simp) _
  have HH := Lib.hid (headerAt_any (h.kept hB2) slot hs)
  obtain ⟨at', hat'⟩ : ∃ x, x = slot * (n / 2) := ⟨_, rfl⟩
  rw [← hat'] at hat hat2 hDs HH
  obtain ⟨W0, hW0⟩ : ∃ W0, W0 = ((w2.alloc (.cells #[.int .i64 (at' : Int)] 3)).alloc (.cells #[.slice (some ⟨w.heap.size + 1, 0, none⟩) D.length D.length] 29)).alloc (.cells #[.int .i64 64] 3) := ⟨_, rfl⟩
  have hz2 : w2.heap.size = w.heap.size + 1 + 1 := by rw [hw2]; simp
  have hz0 : W0.heap.size = w.heap.size + 1 + 1 + 1 + 1 + 1 := by rw [hW0]; simp [hz2]
  have h0 : RdAt w d D at' [] W0 := by
    refine ⟨?_, ?_, ?_, ?_, ?_, ?_⟩
    · rw [hW0]
      exact ((hB2.alloc hB2.size _).alloc (by simp; omega) _).alloc (by simp; omega) _
    · rw [hW0, Below.heap_alloc _ _ _ (by simp; omega), Below.heap_alloc _ _ _ (by simp; omega), Below.heap_alloc _ _ _ (by omega), hw2, Below.heap_alloc _ _ _ (by simp)]
      exact heap_alloc_last w _
    · rw [hW0, Below.heap_alloc _ _ _ (by simp; omega), Below.heap_alloc _ _ _ (by simp; omega), Below.heap_alloc _ _ _ (by omega), hw2, List.length_nil, sofar_zero]
      have := heap_alloc_last (w.alloc (.cells #[.pointer (some ⟨d, 0, none⟩)] 25)) (.cells (bys (List.replicate D.length 0)).toArray 5)
      rw [show (w.alloc (.cells #[.pointer (some ⟨d, 0, none⟩)] 25)).heap.size = w.heap.size + 1 by simp] at this
      exact this
    · rw [hW0, Below.heap_alloc _ _ _ (by simp; omega), Below.heap_alloc _ _ _ (by simp; omega), ← hz2]
      exact heap_alloc_last w2 _
    · rw [hW0, Below.heap_alloc _ _ _ (by simp; omega)]
      have := heap_alloc_last (w2.alloc (.cells #[.int .i64 (at' : Int)] 3)) (.cells #[.slice (some ⟨w.heap.size + 1, 0, none⟩) D.length D.length] 29)
      rw [show (w2.alloc (.cells #[.int .i64 (at' : Int)] 3)).heap.size = w.heap.size + 1 + 1 + 1 by simp [hz2]] at this
      exact this
    · rw [hW0]
      have := heap_alloc_last ((w2.alloc (.cells #[.int .i64 (at' : Int)] 3)).alloc (.cells #[.slice (some ⟨w.heap.size + 1, 0, none⟩) D.length D.length] 29)) (.cells #[.int .i64 64] 3)
      rw [show ((w2.alloc (.cells #[.int .i64 (at' : Int)] 3)).alloc (.cells #[.slice (some ⟨w.heap.size + 1, 0, none⟩) D.length D.length] 29)).heap.size = w.heap.size + 1 + 1 + 1 + 1 by simp [hz2]] at this
      exact this
  have HW2 := Lib.hid hw2
  have HW0 := Lib.hid hW0
  have H0 := Lib.hid h0
  have HZ0 := Lib.hid hz0
  have HOLD := Lib.hid h
  have HDS := Lib.hid hDs
  have HL : Hid (D.length ≤ 64 * (n / 2 - 1)) := Lib.hid hl
  have HAT2 := Lib.hid hat2
  have hlen : D.length ≤ 32000 := by omega
  clear hw2 hB2 hW0 hz0 hD hDs h0 h hl hat' hs hat2
  gi_wp2_with (refine Rf.listW_run _ _ (run_make_op (.tmp 12) (by with_reducible rfl) D.length (by omega) (by rfl)) (by rfl) ?_)
  rw [← HW2.out]
  refine ⟨trivial, (callsIn_wide.2 HH.out).mono ?_⟩
  rintro e w' ⟨rfl, rfl⟩
  clear HH
  gi_wp2_with fail
  refine ⟨trivial, (callsIn_wide.2 (chunk_maker _ _ _ _)).mono ?_⟩
  rintro e w' ⟨rfl, rfl⟩
  gi_wp2_with fail
  rw [← HW0.out]
  have hIe : Hid (∀ pre W, RdAt w d D at' pre W → W.cell? ⟨w.heap.size + 1 + 1 + 1, 0, none⟩ = some (.slice (some ⟨w.heap.size + 1, 0, none⟩) D.length D.length) ∧ W.cell? ⟨w.heap.size + 1 + 1 + 1 + 1, 0, none⟩ = some (.int .i64 64)) := Lib.hid fun pre W h => by
    simp [World.cell?, h.c1, h.c2]
  have hId : Hid (∀ pre W, RdAt w d D at' pre W → RdAt w d D at' pre W.drew) := Lib.hid fun pre W h => ⟨h.below.drew, h.box, h.row, h.at', h.c1, h.c2⟩
  refine range_wideD (n := 3) (by omega) (gf := 38) (lb := #[.pointer (some ⟨w.heap.size + 1 + 1 + 1, 0, none⟩), .pointer (some ⟨w.heap.size + 1 + 1 + 1 + 1, 0, none⟩)]) (by simp [Act.eval]) enters_chunk (encs := encPiece (w.heap.size + 1) 0) (fun _ => rfl)
    (Piece D.length) (fun pre => D.length ≤ 64 * pre.length ∧ 64 * pre.length < D.length + 64) (fun _ => True) (RdAt w d D at') (fun _ _ _ => False)
    (chunk_iter _ (by omega) (w.heap.size + 1 + 1 + 1) (w.heap.size + 1 + 1 + 1 + 1) (w.heap.size + 1) 0 D.length D.length (some ⟨w.heap.size + 1, 0, none⟩) (by omega) (Nat.le_refl _) (fun h => rfl) _ hIe.out) hId.out (RdAt.own _ (by rw [HZ0.out]; exact Nat.le_refl _)) (fun _ _ _ _ _ hs _ _ => hs) H0.out
    (fun x => { tmps := #[.pointer (some ⟨d, 0, none⟩), .int .i64 (slot : Int), .int .i64 (D.length : Int), .pointer (some ⟨w.heap.size, 0, none⟩), undef, undef, .slice none 0 0, .slice (some ⟨w.heap.size + 1, 0, none⟩) D.length D.length, .pointer (some ⟨w.heap.size + 1 + 1, 0, none⟩), .slice (some ⟨w.heap.size + 1, 0 + 64 * x.1, none⟩) x.2 x.2, undef, undef, .int .i64 (D.length : Int), .slice (some ⟨w.heap.size + 1, 0, none⟩) D.length D.length, .pointer (some ⟨d, 0, none⟩), .int .i64 (slot : Int), .int .i64 (at' : Int), .slice (some ⟨w.heap.size + 1, 0, none⟩) D.length D.length, .func (.func 38) #[] #[.pointer (some ⟨w.heap.size + 1 + 1 + 1, 0, none⟩), .pointer (some ⟨w.heap.size + 1 + 1 + 1 + 1, 0, none⟩)], .slice (some ⟨w.heap.size + 1, 0 + 64 * x.1, none⟩) x.2 x.2, undef, undef, undef, undef, undef, undef, undef, undef, undef, undef, undef, undef], defers := [] }) ?assign ?body ?done ?stop
  case assign =>
    rintro l0 ⟨i, m⟩ W K hK
    dsimp only [encPiece] at hK ⊢
    simp only [Nat.zero_add] at hK ⊢
    gi_wp2
    exact hK
  case stop =>
    rintro D cc pre W hD hSp hIx
    exact hIx.elim
  case done =>
    intro B ys W hB hys hN hK
    have hBs : w.heap.size + 1 + 1 + 1 + 1 + 1 ≤ B := by have := HZ0.out; omega
    have hrow := hN.row
    rw [sofar_all hys.1] at hrow
    have HEN : Hid (GivesBytes D w (.returned (.slice (some ⟨w.heap.size + 1, 0, none⟩) D.length D.length)) (W.putObj B (.deferred none))) := Lib.hid ⟨rfl, (World.putObj_heap_other (by omega)).trans hrow, ⟨hN.below.os, hN.below.tape, hN.below.output, by rw [World.putObj_size]; exact hN.below.size, fun k hk => (World.putObj_heap_other (by omega)).trans (hN.below.block k hk)⟩⟩
    have HK := Lib.hid hK
    clear hN hrow hys hIe hId hK
    gi_wp2
    refine ⟨by simp, .inl ⟨_, _, rfl, run_takeDeferred (w := W) HK.out, ?_⟩⟩
    refine ⟨.slice (some ⟨w.heap.size + 1, 0, none⟩) D.length D.length, by simp [results, Try.results37], ?_⟩
    exact HEN.out
  case body =>
    rintro l0 pre ⟨i, m⟩ W hN ⟨hT1, hT2, hT3⟩
    dsimp only at hT2 hT3
    subst hT2
    obtain ⟨Z, hZ⟩ : ∃ Z, Z = bys (List.replicate 64 0) := ⟨_, rfl⟩
    have zs := fun w => (zero_of_info zero_sector).1 w
    rw [← hZ] at zs
    have hZl : Z.length = 64 := by rw [hZ]; simp [bys_len]
    have hi : at' + pre.length + 1 < n := by have := HL.out; have := HAT2.out; omega
    obtain ⟨W1, hW1, c6, f6, cd, cat, hR⟩ := hN.step (B := W0.heap.size) (m := m) HOLD.out hT1 hT3 hi (by rw [hT3]; exact HDS.out _ hT1) (by rw [HZ0.out]; exact Nat.le_refl _)
    have HR := Lib.hid hR
    have HW1 := Lib.hid hW1
    have hat2 : (at' : Int) ≤ 500 := by omega
    have hpre : (pre.length : Int) ≤ 100000 := by omega
    have hsl : (Dk.sec A.seen (at' + 1 + pre.length)).length = 64 := Dk.sec_len HOLD.out.fits.seen (by omega)
    have HM : Hid (m ≤ 64 ∧ 0 < m ∧ m ≤ D.length) := Lib.hid (by omega)
    have HZL := Lib.hid hZl
    have HSL := Lib.hid hsl
    clear hN hT3 hW1 hR hZ hi hIe hId hsl hZl
    generalize Dk.sec A.seen (at' + 1 + pre.length) = S at *
    gi_wp2_with (first | (rw [← HW1.out]))
    refine ⟨trivial, CallsIn.inRound l0 (callsIn_wide.2 (HR.out.mono ?_))⟩
    rintro e w5 ⟨rfl, W3, hW3, hsrc, hth, hkf, hrd⟩
    have HW3 := Lib.hid hW3
    have HF := Lib.hid (And.intro hkf hrd)
    have HSRC := Lib.hid (And.intro hsrc hth)
    have hcp : Hid (∀ (o : Oper) (aa : Act) (x y : Operand), o.op = .call { callee := .builtin .copy, args := #[x, y], argTypes := #[29, 29] } → aa.eval x = .slice (some ⟨w.heap.size + 1, 64 * pre.length, none⟩) m m → aa.eval y = .slice (some ⟨w5.heap.size, 0, none⟩) 64 64 →
        (execOp aa.eval o).run Try.prog W3 = .ok (.value (goInt (bys (S.take m)).length)) (W3.setCells (w.heap.size + 1) (64 * pre.length) (bys (S.take m)))) := Lib.hid (by
      intro o aa x y ho hx hy
      have hbl : (bys (S.take m)).length = m := by have := HM.out; rw [bys_len]; simp [HSL.out]; omega
      have hr := run_copy_cells (P := Try.prog) W3 29 29 o.type 5 (w.heap.size + 1) (64 * pre.length) m m ⟨w5.heap.size, 0, none⟩ 64 64 _ Try.underlying29 size_byte (by have := HM.out; rw [hbl]; show m = min 64 m; omega) hsrc (fun j hj => (hth j (by rw [hbl] at hj; omega)).1) (fun j hj => (hth j (by rw [hbl] at hj; omega)).2) (bys_one _)
      unfold execOp
      simp only [ho, resolve, invoke, builtin, Sem.run_bind, Sem.run_pure, Result.andThen_ok, List.map_toArray, List.map_cons, List.map_nil, hx, hy, hr])
    have hsv : (Try.prog.info? 57).map (·.size) = some (bys S).toArray.size := by rw [List.size_toArray, bys_len, HSL.out]; exact size_sector
    have hsz : Z.toArray.size = (bys S).toArray.size := by rw [List.size_toArray, List.size_toArray, bys_len, HSL.out, HZL.out]
    have hall : (bys S).toArray.all (·.oneCell') = true := all_oneCell_toArray (bys_one S)
    clear hW3 hsrc hth hkf hrd HR
    gi_wp2_with (first | (refine Rf.listIn_do _ (by intro c hc; cases hc) (run_store_new_op w5 57 (.tmp 10) (.tmp 26) (by with_reducible rfl) Z.toArray (bys S).toArray (by rfl) (by rfl) hsv hsz hall) (by rfl) ?_) | (rw [← HW3.out]; refine Rf.listIn_run _ _ (by intro c hc; cases hc) (hcp.out _ _ (.tmp 28) (.tmp 29) (by with_reducible rfl) (by rfl) (by rfl)) (by rfl) ?_))
    exact HF.out
end
end Go.Proofs.Ytienhidbgohhcaa
