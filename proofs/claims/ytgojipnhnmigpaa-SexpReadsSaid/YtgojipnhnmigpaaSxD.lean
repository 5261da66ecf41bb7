/-
  Layer 8: newReader, Read.
-/
import Derived.Test.YtgojipnhnmigpaaSxC
set_option linter.unusedVariables false
set_option linter.unusedSimpArgs false
namespace Go.Proofs.Ytgojipnhnmigpaa
open Go.RowKit Sx

theorem run_make_one (w : World) : (Instr.makeSlice 24 (.int .i64 1) (.int .i64 1)).run Try.prog w = .ok (.slice (some ⟨w.heap.size, 0, none⟩) 1 1) (w.alloc (.cells z5.toArray 38)) := by
  obtain ⟨i, h1, h2, h3, h4⟩ := info_sexp'
  have := run_makeSlice (P := Try.prog) w 24 38 i _ Try.underlying24 h1 h2 .i64 .i64 1 1 (by omega) (Int.le_refl _) (by rw [h3]; simp [Value.cells]) (by rw [h4]; omega) (by omega)
  rw [this, h3]
  have e : madeCells (Value.agg #[.bool false, .int .i64 0, .string { data := #[] }, .int .i64 0, .slice none 0 0]).cells (Int.toNat 1 * 5) = z5.toArray := by kernel_rfl
  rw [e]
  rfl
theorem make_op {o : Oper} {a : Act} {w : World} (ho : o.op = .makeSlice 24 (.const (.int .i64 1)) (.const (.int .i64 1))) :
    (execOp a.eval o).run Try.prog w = .ok (.value (.slice (some ⟨w.heap.size, 0, none⟩) 1 1)) (w.alloc (.cells z5.toArray 38)) := by
  have := run_make_one w
  have hc : a.eval (.const (.int .i64 1)) = .int .i64 1 := rfl
  unfold execOp
  simp only [ho, hc, Sem.run_bind, this, Result.andThen_ok, Sem.run_pure]
theorem wpList_run {P : Program} {ops : Array Oper} {Q : Exit → Act → World → Prop} {a : Act} {w : World} {rest : List Oper} {o : Oper} (v : Value) (w' : World) (hr : (execOp a.eval o).run P w = .ok (.value v) w') (hw : Region.wanted o (yielded ops a.tmps) = true)
    (h : wpList P ops Q rest (a.put o.dst v) w') : wpList P ops Q (o :: rest) a w :=
  wpList_step fun K hK => by
    rw [if_pos hw]
    unfold Oper.wp
    rw [hr]
    exact hK _ _ h
theorem zero_reader : (Try.prog.info? 66).map (fun i => (i.zero, i.size)) = some (some (.agg #[.slice none 0 0]), 1) := by kernel_rfl
theorem build_reader {o : Oper} {a : Act} {w : World} {x : Operand} {A : Option Addr} {n c : Nat} (ho : o.op = .build 66 #[(0, x)]) (hx : a.eval x = .slice A n c) :
    (execOp a.eval o).run Try.prog w = .ok (.value (.agg #[.slice A n c])) w := by
  have hz := (zero_of_info zero_reader).1 w
  have e4 : ∀ w, (sizeOf 24).run Try.prog w = .ok 1 w := fun w => size_of (by kernel_rfl) w
  have : (Instr.build 66 #[(0, .slice A n c)]).run Try.prog w = .ok (.agg #[.slice A n c]) w := by
    simp [Instr.build, hz, run_underlying Try.underlying66, e4, Instr.fill, Value.cells]
  unfold execOp
  simp [ho, hx, this]
section
variable {w W : World}
/-- A new reader. -/
theorem new_st (w : World) : RSt w (w.heap.size + 1) 0 ((w.alloc (.cells z5.toArray 38)).alloc (.cells #[.slice (some ⟨w.heap.size, 0, none⟩) 1 1] 66)) [base] (.slice (some ⟨w.heap.size, 0, none⟩) 1 1) [.slice none 0 0] := by
  have b : Below w.heap.size w ((w.alloc (.cells z5.toArray 38)).alloc (.cells #[.slice (some ⟨w.heap.size, 0, none⟩) 1 1] 66)) := ((Below.refl _ _).alloc (Nat.le_refl _) _).alloc (by simp) _
  refine ⟨?_, ?_, ⟨RowS.nil _ _ _, trivial⟩, ?_, b, by omega, by simp, by simp, by simp [base, Fo.len], by omega⟩
  · have := heap_alloc_last (w.alloc (.cells z5.toArray 38)) (.cells #[.slice (some ⟨w.heap.size, 0, none⟩) 1 1] 66)
    simpa using this
  · have h := World.ownsRow_lit (e := 38) (size := 5) w z5.toArray 1 (Nat.le_refl _) (by unfold maxLen; omega) rfl
    exact h.alloc _
  · simp only [List.pairwise_cons, List.mem_cons, forall_eq_or_imp, List.not_mem_nil, false_implies, implies_true, List.Pairwise.nil, and_true]
    refine ⟨⟨?_, ?_⟩, ?_⟩
    · intro k hk hk'
      simp [rv, Value.ownBlock] at hk hk'
      omega
    · intro k _ h
      simp [Value.ownBlock] at h
    · intro k _ h
      simp [Value.ownBlock] at h
set_option maxRecDepth 100000 in
set_option maxHeartbeats 4000000 in
theorem new_any (w : World) : Calls Try.prog 12 #[] w (fun e w' => e = .returned (.pointer (some ⟨w.heap.size + 1, 0, none⟩)) ∧ RSt w (w.heap.size + 1) 0 w' [base] (.slice (some ⟨w.heap.size, 0, none⟩) 1 1) [.slice none 0 0]) := by
  have HST := Lib.hid (new_st w)
  go_enter Try.func12, Try.ntmps12
  go_wp2_with (first | (refine wpList_run _ _ (make_op (by with_reducible rfl)) (by rfl) ?_) | (refine wpList_val _ (build_reader (by with_reducible rfl) (by rfl)) (by rfl) ?_))
  go_ret
  exact ⟨rfl, HST.out⟩
end
/-- Any token. -/
theorem read_any {w0 W : World} {R N : Nat} {fs : List Fr} {sv : Value} {vs : List Value} {K P : Int} {T : ByteArray} (h : RSt w0 R N W fs sv vs) (hN : N + 1 ≤ 1000000) :
    Calls Try.prog 13 #[.pointer (some ⟨R, 0, none⟩), .agg #[.int .i64 K, .string T, .int .i64 P]] W (fun e w' => match stepF fs ⟨K, T, P⟩ with
      | .error x => e = .returned (.int .i64 x.1) ∧ x.1 ≠ 0 ∧ x.2 = P ∧ Below W.heap.size W w'
      | .ok gs => e = .returned (.int .i64 0) ∧ ∃ sv' vs', RSt w0 R (N + 1) w' gs sv' vs') := by
  by_cases h1 : K = 1
  · by_cases hd : fs.length ≤ 1000
    · rw [step_open h1 hd]
      refine (read_open h h1 hd).mono ?_
      rintro e w' ⟨rfl, sv', vs', hr⟩
      exact ⟨rfl, sv', vs', hr.more (by omega) hN⟩
    · rw [step_deep h1 (by omega)]
      refine (read_deep h h1 (by omega)).mono ?_
      rintro e w' ⟨rfl, hb⟩
      exact ⟨rfl, by simp, rfl, hb⟩
  · match fs, h with
    | [], h => exact absurd rfl h.some_
    | [f], h =>
      by_cases h2 : K = 2
      · rw [step_none h2]
        refine (read_none h h2).mono ?_
        rintro e w' ⟨rfl, hb⟩
        exact ⟨rfl, by simp, rfl, hb⟩
      · obtain ⟨v, rfl⟩ : ∃ v, vs = [v] := by
          have := h.rows
          match vs, this with
          | [], t => exact t.elim
          | [v], _ => exact ⟨v, rfl⟩
          | v :: u :: r, t => exact t.2.elim
        rw [step_leaf h1 h2]
        refine (read_leaf h hN h1 h2).mono ?_
        rintro e w' ⟨rfl, v', hr⟩
        exact ⟨rfl, _, _, hr⟩
    | f :: f2 :: r, h =>
      obtain ⟨v, vs', rfl⟩ : ∃ v vs', vs = v :: vs' := by
        have := h.rows
        match vs, this with
        | [], t => exact t.elim
        | v :: r, _ => exact ⟨v, r, rfl⟩
      by_cases h2 : K = 2
      · rw [step_close h2]
        refine (read_close h h2 hN).mono ?_
        rintro e w' ⟨rfl, sv', vs', hr⟩
        exact ⟨rfl, _, _, hr⟩
      · rw [step_leaf h1 h2]
        refine (read_leaf h hN h1 h2).mono ?_
        rintro e w' ⟨rfl, v', hr⟩
        exact ⟨rfl, _, _, hr⟩
end Go.Proofs.Ytgojipnhnmigpaa

