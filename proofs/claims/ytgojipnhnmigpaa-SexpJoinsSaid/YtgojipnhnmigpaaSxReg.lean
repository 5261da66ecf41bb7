/-
  Operations in regions: one less; rows and stores.
-/
import Derived.Test.YtgojipnhnmigpaaSxSt
set_option linter.unusedVariables false
set_option linter.unusedSimpArgs false
namespace Go.Proofs.Ytgojipnhnmigpaa
open Go.RowKit Sx

theorem sub_one {o : Oper} {a : Act} {w : World} {x : Operand} {k n : Nat} (ho : o.op = .binOp .sub 3 x (.const (.int .i64 1)) 3) (hx : a.eval x = .int .i64 (k : Int)) (hk : k = n + 1) (h : n ≤ 1000000000) :
    (execOp a.eval o).run Try.prog w = .ok (.value (.int .i64 (n : Int))) w := by
  subst hk
  unfold execOp
  simp only [ho, hx]
  go_simp
  exact IntWalk.i64_in _ (by omega)
theorem idx_sexp {o : Oper} {a : Act} {w : World} {x i : Operand} {g n c k : Nat} (ho : o.op = .indexAddr 24 x i) (hx : a.eval x = .slice (some ⟨g, 0, none⟩) n c) (hi : a.eval i = .int .i64 (k : Int)) (hk : k < n) :
    (execOp a.eval o).run Try.prog w = .ok (.value (.pointer (some ⟨g, k * 5, none⟩))) w := by
  have h : (k : Int) < (n : Int) := by omega
  unfold execOp
  simp only [ho, hx, hi]
  go_simp
section
variable {ops : Array Oper} {o : Oper} {a : Act} {w : World} {K : Act → World → Prop} {Q : Exit → Act → World → Prop} {E : Prop}
/-- append of one expression to a row of the call's own. -/
theorem wp_app_sexp (s x : Operand) (ho : o.op = .call { callee := .builtin .append, args := #[s, x], argTypes := #[24, 24] }) (B : Nat) (v : Value) (n : Nat) (xs : List Value) (hv : a.eval s = v) (hown : w.ownsRow B 38 5 v n xs)
    (ad : Addr) (m c : Nat) (news : List Value) (hx : a.eval x = .slice (some ad) m c) (hl : news.length = m * 5) (hnews : ∀ j u, news[j]? = some u → w.cell? (ad.add j) = some u) (h1 : ∀ u ∈ news, u.oneCell' = true) (hn : n + m ≤ 2000000) (hB : B ≤ w.heap.size)
    (h : ∀ v' w', w'.ownsRow B 38 5 v' (n + m) (xs ++ news) → w.grownBy w' v.ownBlock → (∀ j, v'.ownBlock = some j → v.ownBlock = some j ∨ w.heap.size ≤ j) → K (a.put o.dst v') w') : o.wp Try.prog a w K Q := by
  obtain ⟨i, i1, i2, i3, i4⟩ := info_sexp'
  obtain ⟨v', w', q1, q2, q3, q4⟩ := run_append_mine (P := Try.prog) (w := w) (base := B) 24 o.type 38 i _ 5 64 Try.underlying24 i1 i2 i3 i4 rfl (by omega) v n xs hown ad m c news hl hnews h1 (by unfold maxLen; omega) (by omega) hB
  unfold Oper.wp execOp
  simp only [ho, resolve, invoke, builtin, Sem.run_bind, Sem.run_pure, Result.andThen_ok, List.map_toArray, List.map_cons, List.map_nil, hv, hx, q1]
  exact h v' w' q2 q3 q4
theorem step_app_sexp (hgd : o.guard = none) (s x : Operand) (ho : o.op = .call { callee := .builtin .append, args := #[s, x], argTypes := #[24, 24] }) (B : Nat) (v : Value) (n : Nat) (xs : List Value) (hv : a.eval s = v) (hown : w.ownsRow B 38 5 v n xs)
    (ad : Addr) (m c : Nat) (news : List Value) (hx : a.eval x = .slice (some ad) m c) (hl : news.length = m * 5) (hnews : ∀ j u, news[j]? = some u → w.cell? (ad.add j) = some u) (h1 : ∀ u ∈ news, u.oneCell' = true) (hn : n + m ≤ 2000000) (hB : B ≤ w.heap.size)
    (h : ∀ v' w', w'.ownsRow B 38 5 v' (n + m) (xs ++ news) → w.grownBy w' v.ownBlock → (∀ j, v'.ownBlock = some j → v.ownBlock = some j ∨ w.heap.size ≤ j) → K (a.put o.dst v') w') :
    if Region.wanted o (yielded ops a.tmps) = true then Oper.wp Try.prog o a w K Q else E := by
  have hw : Region.wanted o (yielded ops a.tmps) = true := by simp [Region.wanted, hgd]
  rw [if_pos hw]
  exact wp_app_sexp s x ho B v n xs hv hown ad m c news hx hl hnews h1 hn hB h
theorem wpList_app_sexp {rest : List Oper} (hgd : o.guard = none) (s x : Operand) (ho : o.op = .call { callee := .builtin .append, args := #[s, x], argTypes := #[24, 24] }) (B : Nat) (v : Value) (n : Nat) (xs : List Value) (hv : a.eval s = v) (hown : w.ownsRow B 38 5 v n xs)
    (ad : Addr) (m c : Nat) (news : List Value) (hx : a.eval x = .slice (some ad) m c) (hl : news.length = m * 5) (hnews : ∀ j u, news[j]? = some u → w.cell? (ad.add j) = some u) (h1 : ∀ u ∈ news, u.oneCell' = true) (hn : n + m ≤ 2000000) (hB : B ≤ w.heap.size)
    (h : ∀ v' w', w'.ownsRow B 38 5 v' (n + m) (xs ++ news) → w.grownBy w' v.ownBlock → (∀ j, v'.ownBlock = some j → v.ownBlock = some j ∨ w.heap.size ≤ j) → wpList Try.prog ops Q rest (a.put o.dst v') w') : wpList Try.prog ops Q (o :: rest) a w :=
  wpList_plain hgd fun _ hK => wp_app_sexp s x ho B v n xs hv hown ad m c news hx hl hnews h1 hn hB fun v' w' k1 k2 k3 => hK _ _ (h v' w' k1 k2 k3)
/-- Many cells into a block that is known, in a region. -/
theorem step_store_cells (hgd : o.guard = none) (ty : TypeId) (x y : Operand) (ho : o.op = .store ty x y) (b off : Nat) (C : Array Value) (hx : a.eval x = .pointer (some ⟨b, off, none⟩)) (hy : a.eval y = .agg C)
    (ht : w.there b off C.size) (hi : (Try.prog.info? ty).map (·.size) = some C.size) (h1 : C.all (·.oneCell') = true)
    (h : K (a.put o.dst undef) (w.setCells b off C.toList)) : if Region.wanted o (yielded ops a.tmps) = true then Oper.wp Try.prog o a w K Q else E := by
  have hwt : Region.wanted o (yielded ops a.tmps) = true := by simp [Region.wanted, hgd]
  rw [if_pos hwt]
  exact wp_store_mid ty x y ho b off C hx hy ht hi h1 h
end
/-- A slice out of memory, in a region. -/
theorem load_sl {o : Oper} {a : Act} {w : World} (x : Operand) (ho : o.op = .load 24 x) {b off : Nat} (hx : a.eval x = .pointer (some ⟨b, off, none⟩)) {v : Value} (hc : w.cell? ⟨b, off, none⟩ = some v) : (execOp a.eval o).run Try.prog w = .ok (.value v) w := by
  unfold execOp
  simp only [ho, hx]
  go_simp
theorem step_val {o : Oper} {a : Act} {w : World} {ops : Array Oper} {K : Act → World → Prop} {Q : Exit → Act → World → Prop} {E : Prop} (v : Value) (hr : (execOp a.eval o).run Try.prog w = .ok (.value v) w) (hw : Region.wanted o (yielded ops a.tmps) = true) (h : K (a.put o.dst v) w) :
    if Region.wanted o (yielded ops a.tmps) = true then Oper.wp Try.prog o a w K Q else E := by
  rw [if_pos hw]
  unfold Oper.wp
  rw [hr]
  exact h
theorem size_sexp : (Try.prog.info? 38).map (·.size) = some 5 := by kernel_rfl
theorem sx5_one (l : Bool) (t : Tk) {v : Value} (hv : v.oneCell' = true) : (sx5 l t v).toArray.all (·.oneCell') = true := by
  refine all_oneCell_toArray ?_
  intro u hu
  simp only [sx5, List.mem_cons, List.not_mem_nil, or_false] at hu
  rcases hu with rfl | rfl | rfl | rfl | rfl
  · rfl
  · rfl
  · rfl
  · rfl
  · exact hv
/-- An expression of nothing. -/
def z5 : List Value := [.bool false, .int .i64 0, .string { data := #[] }, .int .i64 0, .slice none 0 0]
section
variable {w0 W W5 : World} {R N : Nat} {fs : List Fr} {sv v v' kv : Value} {vs : List Value} {f : Fr} {C : List Value} {g n c g' c' : Nat} {l : Bool} {t : Tk} {k : Fo}
/-- Behind the append: where the two stores go, and what stands there in the end, in either order. -/
theorem put_fin (h : RSt w0 R N W (f :: fs) (.slice (some ⟨g, 0, none⟩) (n + 1) c) (v :: vs)) (hn : fs.length = n) (hC : FoAt W (Free w0.heap.size (rv R :: .slice (some ⟨g, 0, none⟩) (n + 1) c :: v :: vs)) f.acc C)
    (hk : SlAt W (Free w0.heap.size (rv R :: .slice (some ⟨g, 0, none⟩) (n + 1) c :: v :: vs)) kv k) (hN : N + 1 ≤ 1000000)
    (hown : W5.ownsRow w0.heap.size 38 5 (.slice (some ⟨g', 0, none⟩) (f.acc.len + 1) c') (f.acc.len + 1) (C ++ z5)) (hg : W.grownBy W5 v.ownBlock) (hnew : v.ownBlock = some g' ∨ W.heap.size ≤ g') :
    g ≠ g' ∧ W5.there g' (f.acc.len * 5) 5 ∧ (W5.setCell ⟨g, n * 5 + 4, none⟩ (.slice (some ⟨g', 0, none⟩) (f.acc.len + 1) c')).there g' (f.acc.len * 5) 5 ∧
    (W5.cell? ⟨g, n * 5 + 4, none⟩ = some v ∧ W5.frozen? ⟨g, n * 5 + 4, none⟩ = false) ∧
    ((W5.setCells g' (f.acc.len * 5) (sx5 l t kv)).cell? ⟨g, n * 5 + 4, none⟩ = some v ∧ (W5.setCells g' (f.acc.len * 5) (sx5 l t kv)).frozen? ⟨g, n * 5 + 4, none⟩ = false) ∧
    RSt w0 R (N + 1) ((W5.setCells g' (f.acc.len * 5) (sx5 l t kv)).setCell ⟨g, n * 5 + 4, none⟩ (.slice (some ⟨g', 0, none⟩) (f.acc.len + 1) c')) (f.put (.one l t k) :: fs) (.slice (some ⟨g, 0, none⟩) (n + 1) c) (.slice (some ⟨g', 0, none⟩) (f.acc.len + 1) c' :: vs) ∧
    RSt w0 R (N + 1) ((W5.setCell ⟨g, n * 5 + 4, none⟩ (.slice (some ⟨g', 0, none⟩) (f.acc.len + 1) c')).setCells g' (f.acc.len * 5) (sx5 l t kv)) (f.put (.one l t k) :: fs) (.slice (some ⟨g, 0, none⟩) (n + 1) c) (.slice (some ⟨g', 0, none⟩) (f.acc.len + 1) c' :: vs) := by
  have hgl := h.own (.slice (some ⟨g, 0, none⟩) (n + 1) c) (by simp) g rfl
  have hgv : v.ownBlock ≠ some g := by
    have := h.apart
    simp only [List.pairwise_cons, List.mem_cons, forall_eq_or_imp] at this
    exact this.2.1.1 g rfl
  have hne : g ≠ g' := by
    rintro rfl
    rcases hnew with e | e
    · exact hgv e
    · omega
  obtain ⟨sv, hsv⟩ : ∃ sv, Value.slice (some ⟨g, 0, none⟩) (n + 1) c = sv := ⟨_, rfl⟩
  obtain ⟨v', hv'⟩ : ∃ v', Value.slice (some ⟨g', 0, none⟩) (f.acc.len + 1) c' = v' := ⟨_, rfl⟩
  have hlen : C.length = f.acc.len * 5 := hC.len
  have hsc := stackC_len h.rows.2
  rw [hn] at hsc
  -- the list's row
  have th1 : W5.there g' (f.acc.len * 5) 5 := fun j hj => by
    rw [hown.cellAt _ (by omega), hown.frozenAt]
    refine ⟨?_, rfl⟩
    rw [← hlen, List.getElem?_append_right (by omega), Nat.add_sub_cancel_left]
    match j, hj with
    | 0, _ => rfl
    | 1, _ => rfl
    | 2, _ => rfl
    | 3, _ => rfl
    | 4, _ => rfl
  -- the stack
  have hst := h.stack
  rw [List.length_cons, hn] at hst
  have hst5 : W5.ownsRow w0.heap.size 38 5 (.slice (some ⟨g, 0, none⟩) (n + 1) c) (n + 1) (stackC (f :: fs) (v :: vs)) := hst.kept hg (.inr (by simpa [Value.ownBlock] using fun e => hgv e.symm))
  have hcell : W5.cell? ⟨g, n * 5 + 4, none⟩ = some v := by
    rw [hst5.cellAt _ (by omega), stackC, List.getElem?_append_right (by omega), hsc, Nat.add_sub_cancel_left]
    rfl
  have hfz := hst5.frozenAt (n * 5 + 4)
  -- the two stores
  have hs1 : ∀ X : World, X.ownsRow w0.heap.size 38 5 (.slice (some ⟨g', 0, none⟩) (f.acc.len + 1) c') (f.acc.len + 1) (C ++ z5) → (X.setCells g' (f.acc.len * 5) (sx5 l t kv)).ownsRow w0.heap.size 38 5 (.slice (some ⟨g', 0, none⟩) (f.acc.len + 1) c') (f.acc.len + 1) (C ++ sx5 l t kv) := by
    intro X hX
    have := ownsRow_cells (sx5 l t kv) C z5 [] rfl (by simpa using hX)
    rw [hlen] at this
    simpa using this
  have hs2 : ∀ X : World, X.ownsRow w0.heap.size 38 5 (.slice (some ⟨g, 0, none⟩) (n + 1) c) (n + 1) (stackC (f :: fs) (v :: vs)) → (X.setCell ⟨g, n * 5 + 4, none⟩ v').ownsRow w0.heap.size 38 5 (.slice (some ⟨g, 0, none⟩) (n + 1) c) (n + 1) (stackC fs vs ++ sx5 f.l f.t v') := by
    intro X hX
    have h1 := (hX.stored (n * 5 + 4) v').1
    rw [stackC, List.set_append_right _ _ (by omega), hsc, Nat.add_sub_cancel_left] at h1
    exact h1
  have k1 : ∀ X : World, Chg (fun j => j = g') X (X.setCells g' (f.acc.len * 5) (sx5 l t kv)) := fun X => chg_setCells (S := fun j => j = g') rfl _ _ _
  have k2 : ∀ X : World, Chg (fun j => j = g) X (X.setCell ⟨g, n * 5 + 4, none⟩ v') := fun X => chg_setCell (S := fun j => j = g) rfl _ _ _
  have hob : ∀ k, v'.ownBlock = some k → k = g' := by rintro k hk; rw [← hv'] at hk; cases hk; rfl
  have hnw : ∀ j, v'.ownBlock = some j → v.ownBlock = some j ∨ W.heap.size ≤ j := fun j hj => by rw [hob j hj]; exact hnew
  have hcA : ∀ X' : World, (∀ k, k ≠ g' → k ≠ g → X'.heap[k]? = W5.heap[k]?) → X'.os = W5.os ∧ X'.tape = W5.tape ∧ X'.output = W5.output ∧ X'.heap.size = W5.heap.size → Chg (fun j => some j = v.ownBlock ∨ some j = sv.ownBlock) W X' := by
    intro X' hX ho
    refine chg_two hg (fun k hk hn1 hn2 => hX k ?_ ?_) ho
    · rintro rfl
      rcases hnew with e | e
      · exact hn1 e.symm
      · omega
    · rintro rfl
      exact hn2 (by rw [← hsv]; rfl)
  have hsz : ∀ (X : World) (b o : Nat) (vs : List Value), (X.setCells b o vs).heap.size = X.heap.size := fun X b o vs => size_setCells b vs o X
  have hsz1 : ∀ (X : World) (p : Addr) (u : Value), (X.setCell p u).heap.size = X.heap.size := fun X p u => by simp [World.setCell]
  refine ⟨hne, th1, ?_, ⟨hcell, hfz⟩, ⟨?_, ?_⟩, ?_, ?_⟩
  · intro j hj
    obtain ⟨q1, q2⟩ := th1 j hj
    have hb := (k2 W5).block g' (by
      have := World.block_lt_of_cell? _ _ (Option.eq_some_of_isSome q1)
      exact this) (fun e => hne e.symm)
    rw [hv']
    rw [World.cell?_of_block (w := W5) (a := ⟨g', f.acc.len * 5 + j, none⟩) hb, World.frozen?_of_block (w := W5) (a := ⟨g', f.acc.len * 5 + j, none⟩) hb]
    exact ⟨q1, q2⟩
  · rw [World.cell?_of_block (w := W5) (a := ⟨g, n * 5 + 4, none⟩) (heap_setCells_other g' _ _ _ _ hne)]
    exact hcell
  · rw [World.frozen?_of_block (w := W5) (a := ⟨g, n * 5 + 4, none⟩) (heap_setCells_other g' _ _ _ _ hne)]
    exact hfz
  · rw [hv', hsv]
    rw [hsv] at h hC hk
    refine h.putEnd (hcA _ (fun k h1 h2 => ?_) ⟨(k2 _).os.trans (k1 _).os, (k2 _).tape.trans (k1 _).tape, (k2 _).output.trans (k1 _).output, by rw [hsz1, hsz]⟩) hnw hC hk ?_ ?_ hN
    · rw [heap_setCell_other _ _ _ _ h2, heap_setCells_other g' _ _ _ _ h1]
    · have := ownsRow_turn (hs1 W5 hown) (k2 _) (fun k hk e => hne (by cases hk; exact e.symm))
      rw [hv'] at this
      exact this
    · have := hs2 _ (ownsRow_turn hst5 (k1 W5) (fun k hk e => hne (by cases hk; exact e)))
      rw [hsv] at this
      rw [hn]
      exact this
  · rw [hv', hsv]
    rw [hsv] at h hC hk
    refine h.putEnd (hcA _ (fun k h1 h2 => ?_) ⟨(k1 _).os.trans (k2 _).os, (k1 _).tape.trans (k2 _).tape, (k1 _).output.trans (k2 _).output, by rw [hsz, hsz1]⟩) hnw hC hk ?_ ?_ hN
    · rw [heap_setCells_other g' _ _ _ _ h1, heap_setCell_other _ _ _ _ h2]
    · have := hs1 _ (ownsRow_turn hown (k2 _) (fun k hk e => hne (by cases hk; exact e.symm)))
      rw [hv'] at this
      exact this
    · have := ownsRow_turn (hs2 W5 hst5) (k1 _) (fun k hk e => hne (by cases hk; exact e))
      rw [hsv] at this
      rw [hn]
      exact this
end
end Go.Proofs.Ytgojipnhnmigpaa

