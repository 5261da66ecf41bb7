/-
  Layer 8: read (a token); newReader.
-/
import Derived.Test.YtgojipnhnmigpaaSxA
set_option linter.unusedVariables false
set_option linter.unusedSimpArgs false
namespace Go.Proofs.Ytgojipnhnmigpaa
open Go.RowKit Sx

theorem zero_sexp : (Try.prog.info? 38).map (fun i => (i.zero, i.size)) = some (some (.agg #[.bool false, .int .i64 0, .string { data := #[] }, .int .i64 0, .slice none 0 0]), 5) := by kernel_rfl
theorem size_of {P : Program} {t : TypeId} {n : Nat} (h : (P.info? t).map (·.size) = some n) (w : World) : (sizeOf t).run P w = .ok n w := by
  obtain ⟨i, h1, h2⟩ := Option.map_eq_some_iff.1 h
  simp [sizeOf, typeInfo, h1, h2]
theorem build_leaf {o : Oper} {a : Act} {w : World} {x : Operand} {K P : Int} {T : ByteArray} (ho : o.op = .build 38 #[(1, x)]) (hx : a.eval x = .agg #[.int .i64 K, .string T, .int .i64 P]) :
    (execOp a.eval o).run Try.prog w = .ok (.value (.agg #[.bool false, .int .i64 K, .string T, .int .i64 P, .slice none 0 0])) w := by
  have hz := (zero_of_info zero_sexp).1 w
  have e1 : ∀ w, (sizeOf 4).run Try.prog w = .ok 1 w := fun w => size_of (by kernel_rfl) w
  have e3 : ∀ w, (sizeOf 35).run Try.prog w = .ok 3 w := fun w => size_of (by kernel_rfl) w
  have e4 : ∀ w, (sizeOf 24).run Try.prog w = .ok 1 w := fun w => size_of (by kernel_rfl) w
  have : (Instr.build 38 #[(1, .agg #[.int .i64 K, .string T, .int .i64 P])]).run Try.prog w = .ok (.agg #[.bool false, .int .i64 K, .string T, .int .i64 P, .slice none 0 0]) w := by
    simp [Instr.build, hz, run_underlying Try.underlying38, e1, e3, e4, Instr.fill, Value.cells]
  unfold execOp
  simp [ho, hx, this]
theorem build_list {o : Oper} {a : Act} {w : World} {x : Operand} {K P : Int} {T : ByteArray} (ho : o.op = .build 38 #[(0, .const (.bool true)), (1, x)]) (hx : a.eval x = .agg #[.int .i64 K, .string T, .int .i64 P]) :
    (execOp a.eval o).run Try.prog w = .ok (.value (.agg #[.bool true, .int .i64 K, .string T, .int .i64 P, .slice none 0 0])) w := by
  have hz := (zero_of_info zero_sexp).1 w
  have e1 : ∀ w, (sizeOf 4).run Try.prog w = .ok 1 w := fun w => size_of (by kernel_rfl) w
  have e3 : ∀ w, (sizeOf 35).run Try.prog w = .ok 3 w := fun w => size_of (by kernel_rfl) w
  have e4 : ∀ w, (sizeOf 24).run Try.prog w = .ok 1 w := fun w => size_of (by kernel_rfl) w
  have : (Instr.build 38 #[(0, .bool true), (1, .agg #[.int .i64 K, .string T, .int .i64 P])]).run Try.prog w = .ok (.agg #[.bool true, .int .i64 K, .string T, .int .i64 P, .slice none 0 0]) w := by
    simp [Instr.build, hz, run_underlying Try.underlying38, e1, e3, e4, Instr.fill, Value.cells]
  have hc : a.eval (.const (.bool true)) = .bool true := rfl
  unfold execOp
  simp [ho, hx, this, hc]
section
variable {w0 W W5 : World} {R N : Nat} {fs : List Fr} {sv v : Value} {vs : List Value} {f : Fr} {g n c g' c' : Nat} {K P : Int} {T : ByteArray}
/-- Behind the append of a new list. -/
theorem open_fin {t : Tk} (h : RSt w0 R N W fs (.slice (some ⟨g, 0, none⟩) (n + 1) c) vs) (hn : fs.length = n + 1) (hd : fs.length ≤ 1000)
    (hown : W5.ownsRow w0.heap.size 38 5 (.slice (some ⟨g', 0, none⟩) (n + 1 + 1) c') (n + 1 + 1) (stackC fs vs ++ z5)) (hg : W.grownBy W5 (some g)) (hnew : some g = some g' ∨ W.heap.size ≤ g') :
    R ≠ g' ∧ W5.there g' ((n + 1) * 5) 5 ∧ (W5.setCell ⟨R, 0, none⟩ (.slice (some ⟨g', 0, none⟩) (n + 1 + 1) c')).there g' ((n + 1) * 5) 5 ∧
    (W5.cell? ⟨R, 0, none⟩ = some (.slice (some ⟨g, 0, none⟩) (n + 1) c) ∧ W5.frozen? ⟨R, 0, none⟩ = false) ∧
    ((W5.setCells g' ((n + 1) * 5) (sx5 true t (.slice none 0 0))).cell? ⟨R, 0, none⟩ = some (.slice (some ⟨g, 0, none⟩) (n + 1) c) ∧ (W5.setCells g' ((n + 1) * 5) (sx5 true t (.slice none 0 0))).frozen? ⟨R, 0, none⟩ = false) ∧
    RSt w0 R N ((W5.setCells g' ((n + 1) * 5) (sx5 true t (.slice none 0 0))).setCell ⟨R, 0, none⟩ (.slice (some ⟨g', 0, none⟩) (n + 1 + 1) c')) (⟨true, t, .nil⟩ :: fs) (.slice (some ⟨g', 0, none⟩) (n + 1 + 1) c') (.slice none 0 0 :: vs) ∧
    RSt w0 R N ((W5.setCell ⟨R, 0, none⟩ (.slice (some ⟨g', 0, none⟩) (n + 1 + 1) c')).setCells g' ((n + 1) * 5) (sx5 true t (.slice none 0 0))) (⟨true, t, .nil⟩ :: fs) (.slice (some ⟨g', 0, none⟩) (n + 1 + 1) c') (.slice none 0 0 :: vs) := by
  have hRl := h.Rlt
  have hgR : g ≠ R := by
    have := (List.pairwise_cons.1 h.apart).1 (.slice (some ⟨g, 0, none⟩) (n + 1) c) (by simp)
    rintro rfl
    exact this g rfl rfl
  have hne : R ≠ g' := by
    rintro rfl
    rcases hnew with e | e
    · cases e; exact hgR rfl
    · omega
  have hsc := stackC_len h.rows
  rw [hn] at hsc
  have th1 : W5.there g' ((n + 1) * 5) 5 := fun j hj => by
    rw [hown.cellAt _ (by omega), hown.frozenAt]
    refine ⟨?_, rfl⟩
    rw [← hsc, List.getElem?_append_right (by omega), Nat.add_sub_cancel_left]
    match j, hj with
    | 0, _ => rfl
    | 1, _ => rfl
    | 2, _ => rfl
    | 3, _ => rfl
    | 4, _ => rfl
  have hhead : W5.heap[R]? = some (.cells #[.slice (some ⟨g, 0, none⟩) (n + 1) c] 66 (0, 0)) := (hg.block R hRl (by intro e; cases e; exact hgR rfl)).trans h.head
  have hcell : W5.cell? ⟨R, 0, none⟩ = some (.slice (some ⟨g, 0, none⟩) (n + 1) c) ∧ W5.frozen? ⟨R, 0, none⟩ = false := by simp [World.cell?, World.frozen?, hhead]
  obtain ⟨sw, hsw⟩ : ∃ sw, Value.slice (some ⟨g', 0, none⟩) (n + 1 + 1) c' = sw := ⟨_, rfl⟩
  have hs1 : ∀ X : World, X.ownsRow w0.heap.size 38 5 (.slice (some ⟨g', 0, none⟩) (n + 1 + 1) c') (n + 1 + 1) (stackC fs vs ++ z5) → (X.setCells g' ((n + 1) * 5) (sx5 true t (.slice none 0 0))).ownsRow w0.heap.size 38 5 (.slice (some ⟨g', 0, none⟩) (n + 1 + 1) c') (n + 1 + 1) (stackC fs vs ++ sx5 true t (.slice none 0 0)) := by
    intro X hX
    have := ownsRow_cells (sx5 true t (.slice none 0 0)) (stackC fs vs) z5 [] rfl (by simpa using hX)
    rw [hsc] at this
    simpa using this
  have k1 : ∀ X : World, Chg (fun j => j = g') X (X.setCells g' ((n + 1) * 5) (sx5 true t (.slice none 0 0))) := fun X => chg_setCells (S := fun j => j = g') rfl _ _ _
  have k2 : ∀ X : World, Chg (fun j => j = R) X (X.setCell ⟨R, 0, none⟩ sw) := fun X => chg_setCell (S := fun j => j = R) rfl _ _ _
  have hcA : ∀ X' : World, (∀ k, k ≠ g' → k ≠ R → X'.heap[k]? = W5.heap[k]?) → X'.os = W5.os ∧ X'.tape = W5.tape ∧ X'.output = W5.output ∧ X'.heap.size = W5.heap.size → Chg (fun j => some j = (Value.slice (some ⟨g, 0, none⟩) (n + 1) c).ownBlock ∨ j = R) W X' := by
    intro X' hX ho
    have := chg_two (b := some R) hg (fun k hk hn1 hn2 => hX k (by
      rintro rfl
      rcases hnew with e | e
      · exact hn1 e.symm
      · omega) (by rintro rfl; exact hn2 rfl)) ho
    exact this.mono (fun k _ hk => hk.imp id (fun e => by cases e; rfl))
  have hsz : ∀ (X : World) (b o : Nat) (vs : List Value), (X.setCells b o vs).heap.size = X.heap.size := fun X b o vs => size_setCells b vs o X
  have hsz1 : ∀ (X : World) (p : Addr) (u : Value), (X.setCell p u).heap.size = X.heap.size := fun X p u => by simp [World.setCell]
  have hnw : ∀ j, sw.ownBlock = some j → (Value.slice (some ⟨g, 0, none⟩) (n + 1) c).ownBlock = some j ∨ W.heap.size ≤ j := fun j hj => by
    rw [← hsw] at hj
    cases hj
    exact hnew
  refine ⟨hne, th1, ?_, hcell, ⟨?_, ?_⟩, ?_, ?_⟩
  · intro j hj
    obtain ⟨q1, q2⟩ := th1 j hj
    have hb := (k2 W5).block g' (World.block_lt_of_cell? _ _ (Option.eq_some_of_isSome q1)) (fun e => hne e.symm)
    rw [hsw]
    rw [World.cell?_of_block (w := W5) (a := ⟨g', (n + 1) * 5 + j, none⟩) hb, World.frozen?_of_block (w := W5) (a := ⟨g', (n + 1) * 5 + j, none⟩) hb]
    exact ⟨q1, q2⟩
  · rw [World.cell?_of_block (w := W5) (a := ⟨R, 0, none⟩) (heap_setCells_other g' _ _ _ _ hne)]
    exact hcell.1
  · rw [World.frozen?_of_block (w := W5) (a := ⟨R, 0, none⟩) (heap_setCells_other g' _ _ _ _ hne)]
    exact hcell.2
  · rw [hsw]
    refine h.openEnd (hcA _ (fun k h1 h2 => ?_) ⟨(k2 _).os.trans (k1 _).os, (k2 _).tape.trans (k1 _).tape, (k2 _).output.trans (k1 _).output, by rw [hsz1, hsz]⟩) hnw ?_ ?_ hd
    · rw [heap_setCell_other _ _ _ _ h2, heap_setCells_other g' _ _ _ _ h1]
    · have := ownsRow_turn (hs1 W5 hown) (k2 _) (fun k hk e => hne (by cases hk; exact e.symm))
      rw [hsw] at this
      rw [hn]
      exact this
    · rw [heap_setCell_same _ R 0 _ _ _ ((heap_setCells_other g' _ _ _ _ hne).trans hhead)]
      rfl
  · rw [hsw]
    refine h.openEnd (hcA _ (fun k h1 h2 => ?_) ⟨(k1 _).os.trans (k2 _).os, (k1 _).tape.trans (k2 _).tape, (k1 _).output.trans (k2 _).output, by rw [hsz, hsz1]⟩) hnw ?_ ?_ hd
    · rw [heap_setCells_other g' _ _ _ _ h1, heap_setCell_other _ _ _ _ h2]
    · have := hs1 _ (ownsRow_turn hown (k2 _) (fun k hk e => hne (by cases hk; exact e.symm)))
      rw [hsw] at this
      rw [hn]
      exact this
    · rw [heap_setCells_other g' _ _ _ _ hne, heap_setCell_same _ R 0 _ _ _ hhead]
      rfl
set_option maxRecDepth 100000 in
set_option maxHeartbeats 4000000 in
theorem read_leaf (h : RSt w0 R N W (f :: fs) sv (v :: vs)) (hN : N + 1 ≤ 1000000) (h1 : K ≠ 1) (h2 : K ≠ 2) :
    Calls Try.prog 13 #[.pointer (some ⟨R, 0, none⟩), .agg #[.int .i64 K, .string T, .int .i64 P]] W (fun e w' => e = .returned (.int .i64 0) ∧ ∃ v', RSt w0 R (N + 1) w' (f.put (.one false ⟨K, T, P⟩ .nil) :: fs) sv (v' :: vs)) := by
  have b1 : Below W.heap.size W (W.alloc (.cells #[.int .i64 K, .string T, .int .i64 P] 35)) := (Below.refl _ _).alloc (Nat.le_refl _) _
  have HPUT := Lib.hid (put_any (l := false) (t := ⟨K, T, P⟩) (h.kept b1) (SlAt.nil _ _) hN)
  have e1 : (K == 1) = false := by simpa using h1
  have e2 : (K == 2) = false := by simpa using h2
  have hr := rangeAt_new W [.int .i64 K, .string T, .int .i64 P] 35
  clear h h1 h2 hN b1
  go_enter Try.func13, Try.ntmps13
  go_wp2_with (first | (refine wpList_val (.agg #[.int .i64 K, .string T, .int .i64 P]) (run_load_op 35 (.tmp 3) (by with_reducible rfl) W.heap.size 0 (by rfl) [.int .i64 K, .string T, .int .i64 P] _ hr Try.underlying35 rfl (by rw [size_token]; rfl)) (by rfl) ?_) | (refine wpList_val (.agg #[.bool false, .int .i64 K, .string T, .int .i64 P, .slice none 0 0]) (build_leaf (by with_reducible rfl) (by rfl)) (by rfl) ?_))
  refine HPUT.out.mono ?_
  rintro e w2 ⟨rfl, hp⟩
  have HP := Lib.hid hp
  clear hp
  go_wp2_with fail
  go_ret
  exact ⟨rfl, HP.out⟩
set_option maxRecDepth 100000 in
set_option maxHeartbeats 4000000 in
theorem read_none (h : RSt w0 R N W [f] sv vs) (h2 : K = 2) :
    Calls Try.prog 13 #[.pointer (some ⟨R, 0, none⟩), .agg #[.int .i64 K, .string T, .int .i64 P]] W (fun e w' => e = .returned (.int .i64 11) ∧ Below W.heap.size W w') := by
  have b1 : Below W.heap.size W (W.alloc (.cells #[.int .i64 K, .string T, .int .i64 P] 35)) := (Below.refl _ _).alloc (Nat.le_refl _) _
  have HWI := Lib.hid (within_any (h.kept b1) rfl)
  have HB := Lib.hid b1
  subst h2
  clear h b1
  go_enter Try.func13, Try.ntmps13
  go_wp2_with (first | (go_at_call 14; refine HWI.out.mono ?_; rintro e w' ⟨rfl, rfl⟩))
  go_ret
  exact ⟨rfl, HB.out⟩
set_option maxRecDepth 100000 in
set_option maxHeartbeats 4000000 in
theorem read_deep (h : RSt w0 R N W fs sv vs) (h1 : K = 1) (hd : 1001 ≤ fs.length) :
    Calls Try.prog 13 #[.pointer (some ⟨R, 0, none⟩), .agg #[.int .i64 K, .string T, .int .i64 P]] W (fun e w' => e = .returned (.int .i64 18) ∧ Below W.heap.size W w') := by
  have b1 : Below W.heap.size W (W.alloc (.cells #[.int .i64 K, .string T, .int .i64 P] 35)) := (Below.refl _ _).alloc (Nat.le_refl _) _
  have hdp := h.deep
  have HWI := Lib.hid (within_any (n := 1000) (h.kept b1) (by omega))
  have HB := Lib.hid b1
  subst h1
  clear h b1 hd hdp
  go_enter Try.func13, Try.ntmps13
  go_wp2_with (first | (go_at_call 14; refine HWI.out.mono ?_; rintro e w' ⟨rfl, rfl⟩))
  go_ret
  exact ⟨rfl, HB.out⟩
end
end Go.Proofs.Ytgojipnhnmigpaa

