/-
  Layer 8: the walk: placeOf, within, put.
-/
import Derived.Test.YtgojipnhnmigpaaSxW
set_option linter.unusedVariables false
set_option linter.unusedSimpArgs false
namespace Go.Proofs.Ytgojipnhnmigpaa
open Go.RowKit Sx

theorem idx_step {o : Oper} {a : Act} {w : World} {x i : Operand} {g n c k : Nat} (ho : o.op = .indexAddr 70 x i) (hx : a.eval x = .slice (some ⟨g, 0, none⟩) n c) (hi : a.eval i = .int .i64 (k : Int)) (hk : k < n) :
    (execOp a.eval o).run Try.prog w = .ok (.value (.pointer (some ⟨g, k * 3, none⟩))) w := by
  have h : (k : Int) < (n : Int) := by omega
  unfold execOp
  simp only [ho, hx, hi]
  go_simp
theorem load_way {o : Oper} {a : Act} {w : World} (x : Operand) (ho : o.op = .load 70 x) {b off : Nat} (hx : a.eval x = .pointer (some ⟨b, off, none⟩)) {v : Value} (hc : w.cell? ⟨b, off, none⟩ = some v) : (execOp a.eval o).run Try.prog w = .ok (.value v) w := by
  unfold execOp
  simp only [ho, hx]
  go_simp
theorem load_map {o : Oper} {a : Act} {w : World} (x : Operand) (ho : o.op = .load 69 x) {b off : Nat} (hx : a.eval x = .pointer (some ⟨b, off, none⟩)) {v : Value} (hc : w.cell? ⟨b, off, none⟩ = some v) : (execOp a.eval o).run Try.prog w = .ok (.value v) w := by
  unfold execOp
  simp only [ho, hx]
  go_simp
theorem zero_place : (Try.prog.info? 82).map (fun i => (i.zero, i.size)) = some (some (.agg #[.pointer none, .int .i64 0]), 2) := by kernel_rfl
theorem size_place : (Try.prog.info? 82).map (·.size) = some 2 := by kernel_rfl
theorem build_pl {o : Oper} {a : Act} {w : World} {x y : Operand} {p : Option Addr} {q : Int} (ho : o.op = .build 82 #[(0, x), (1, y)]) (hx : a.eval x = .pointer p) (hy : a.eval y = .int .i64 q) :
    (execOp a.eval o).run Try.prog w = .ok (.value (.agg #[.pointer p, .int .i64 q])) w := by
  have hz := (zero_of_info zero_place).1 w
  have e1 : ∀ w, (sizeOf 48).run Try.prog w = .ok 1 w := fun w => size_of (by kernel_rfl) w
  have e3 : ∀ w, (sizeOf 3).run Try.prog w = .ok 1 w := fun w => size_of (by kernel_rfl) w
  have : (Instr.build 82 #[(0, .pointer p), (1, .int .i64 q)]).run Try.prog w = .ok (.agg #[.pointer p, .int .i64 q]) w := by
    simp [Instr.build, hz, run_underlying Try.underlying82, e1, e3, Instr.fill, Value.cells]
  unfold execOp
  simp [ho, hx, hy, this]
theorem load_place {w : World} {b : Nat} {x y : Value} (hc : w.rangeAt b 0 [x, y]) : (loadVar 82 ⟨b, 0, none⟩).run Try.prog w = .ok (.agg #[x, y]) w :=
  run_loadVar_mid (P := Try.prog) w b 0 82 [x, y] _ hc Try.underlying82 rfl (by rw [size_place]; rfl)
set_option maxRecDepth 100000 in
set_option maxHeartbeats 4000000 in
theorem placeOf_any {w : World} {g n c : Nat} (hn : 0 < n) : Calls Try.prog 41 #[.slice (some ⟨g, 0, none⟩) n c] w (fun e w' => e = .returned (pk (g, n)) ∧ Below w.heap.size w w') := by
  have hn' : (0 : Int) < (n : Int) := by omega
  have HN := Lib.hid hn
  have zt := fun w => (zero_of_info zero_place).1 w
  have hone : (#[Value.pointer (some ⟨g, 0, none⟩), .int .i64 (n : Int)] : Array Value).all (·.oneCell') = true := by simp [Value.oneCell']
  have HB : Hid (Below w.heap.size w (w.alloc (.cells #[.pointer (some ⟨g, 0, none⟩), .int .i64 (n : Int)] 82))) := Lib.hid ((Below.refl _ _).alloc (Nat.le_refl _) _)
  have HL := Lib.hid (load_place (rangeAt_new w [.pointer (some ⟨g, 0, none⟩), .int .i64 (n : Int)] 82))
  clear hn
  go_enter Try.func41, Try.ntmps41
  go_wp2_with (first | (with_reducible refine wpList_alloc_agg rfl 82 rfl _ zt ?_) | (refine wpList_val (.agg #[.pointer (some ⟨g, 0, none⟩), .int .i64 (n : Int)]) (build_pl (by with_reducible rfl) (by rfl) (by rfl)) (by rfl) ?_) | (with_reducible refine wpList_store_new rfl 82 (.tmp 2) (.tmp 7) rfl w _ #[.pointer (some ⟨g, 0, none⟩), .int .i64 (n : Int)] rfl rfl rfl size_place rfl hone ?_))
  refine bodyPost_ret (v := pk (g, n)) ?_ rfl ⟨rfl, HB.out⟩
  have := HL.out
  simp [results, Try.results41, asAddr, Act.put, this, pk]
set_option maxRecDepth 100000 in
set_option maxHeartbeats 4000000 in
theorem wth_any {w : World} {d : Nat} (hd : d ≤ 10000000) : Calls Try.prog 28 #[.int .i64 (d : Int)] w (fun e w' => e = .returned (.int .i64 ((d + 1 : Nat) : Int)) ∧ w' = w) := by
  have hne : ((d : Int) == 9223372036854775807) = false := by simp; omega
  have hw : wrap64 ((d : Int) + 1) = (d : Int) + 1 := IntWalk.wrap64_in _ (by omega)
  go_enter Try.func28, Try.ntmps28
  go_wp2_with fail
  go_ret
  exact ⟨by simp [hw], rfl⟩
section
variable {B R m : Nat} {W W' : World} {path : List Sp} {pv : Value} {M : List ((Nat × Nat) × Int)} {s : Sp}
theorem int_max (x y : Nat) : (if (y : Int) < (x : Int) then (x : Int) else (y : Int)) = ((max x y : Nat) : Int) := by
  split <;> omega
set_option maxRecDepth 100000 in
set_option maxHeartbeats 4000000 in
theorem wput_any (h : WSt B R m W (s :: path) pv M) (hp : path.length ≤ 2000000) {d : Nat} (hd : d ≤ 10000000) (hi : s.i < 9223372036854775807) :
    Calls Try.prog 27 #[.pointer (some ⟨R, 0, none⟩), .int .i64 (d : Int)] W (fun e w' => e = .returned (.tuple #[]) ∧ WSt B R m w' (⟨s.v, s.k, s.i + 1, max s.d d⟩ :: path) pv M ∧ Chg (Own8 B R m) W w') := by
  obtain ⟨n, hn⟩ : ∃ n, path.length = n := ⟨_, rfl⟩
  obtain ⟨g, c, rfl, hB, hg, hnc⟩ := h.value (n := n) (by rw [List.length_cons, hn])
  have h' := h.kept ((Below.refl _ _).drew)
  obtain ⟨l1, l2⟩ := h.last hn
  obtain ⟨c0, _, _⟩ := h.cells
  obtain ⟨v, k, i, d0⟩ := s
  have x1 : W.cell? ⟨g, n * 3 + 1, none⟩ = some (.int .i64 (i : Int)) := l1 1 _ rfl
  have x2 : W.cell? ⟨g, n * 3 + 2, none⟩ = some (.int .i64 (d0 : Int)) := l1 2 _ rfl
  have f1 := l2 (n * 3 + 1)
  have f2 := l2 (n * 3 + 2)
  obtain ⟨p1, p2⟩ := h'.putEnd hn hB (i + 1) (max d0 d)
  have HE := Lib.hid (And.intro p1 (Chg.drew.step p2))
  have HP : Hid (n ≤ 2000000) := Lib.hid (by omega)
  have hiw : wrap64 ((i : Int) + 1) = ((i + 1 : Nat) : Int) := by rw [IntWalk.wrap64_in _ (by dsimp only at hi; omega)]; omega
  have hmx : max (d0 : Int) (d : Int) = ((max d0 d : Nat) : Int) := by omega
  obtain ⟨q, hq⟩ : ∃ q, max d0 d = q := ⟨_, rfl⟩
  rw [hq] at HE hmx ⊢
  obtain ⟨i1, hi1⟩ : ∃ i1, i + 1 = i1 := ⟨_, rfl⟩
  dsimp only at hi ⊢
  rw [hi1] at HE hiw ⊢
  clear h h' hn hg hnc l1 l2 p1 p2 hp hd hB hi hq hi1
  go_enter Try.func27, Try.ntmps27
  go_wp2_with fail
  refine wp_region_held_drew (S := (fun w' => w'.cell? ⟨R, 0, none⟩ = some (.slice (some ⟨g, 0, none⟩) (n + 1) c))) (by kernel_rfl) ?_ (fun hHeld => ?_)
  · exact c0
  refine wpAnyH_take (i := 0) (v := ?_) (by rfl) (by kernel_rfl) (by kernel_rfl) (by kernel_rfl) (by exact fun _ _ _ h => h) (Or.inl ⟨by rfl, ?_⟩) hHeld ?_
  rotate_left 1
  · intro w' hSw
    (try dsimp only at hSw)
    go_simp
    try with_reducible rfl
  try simp only [Act.put, List.setIfInBounds_toArray, List.set_cons_zero, List.set_cons_succ, List.getElem_toArray, List.getElem_cons_zero, List.getElem_cons_succ]
  refine wpAnyH_take (i := 1) (v := ?_) (by rfl) (by kernel_rfl) (by kernel_rfl) (by kernel_rfl) (by exact fun _ _ _ h => h) (Or.inl ⟨by rfl, ?_⟩) hHeld ?_
  rotate_left 1
  · intro w' hSw
    (try dsimp only at hSw)
    go_simp
    try with_reducible rfl
  try simp only [Act.put, List.setIfInBounds_toArray, List.set_cons_zero, List.set_cons_succ, List.getElem_toArray, List.getElem_cons_zero, List.getElem_cons_succ]
  refine wpAnyH_take (i := 2) (v := ?_) (by rfl) (by kernel_rfl) (by kernel_rfl) (by kernel_rfl) (by exact fun _ _ _ h => h) (Or.inl ⟨by rfl, ?_⟩) hHeld ?_
  rotate_left 1
  · intro w' hSw
    (try dsimp only at hSw)
    go_simp
    try with_reducible rfl
  try simp only [Act.put, List.setIfInBounds_toArray, List.set_cons_zero, List.set_cons_succ, List.getElem_toArray, List.getElem_cons_zero, List.getElem_cons_succ]
  refine wpAnyH_take (i := 3) (v := .slice (some ⟨g, 0, none⟩) (n + 1) c) (by rfl) (by kernel_rfl) (by kernel_rfl) (by kernel_rfl) (by exact fun _ _ _ h => h) (Or.inl ⟨by rfl, ?_⟩) hHeld ?_
  · intro w' hSw
    exact load_way (.tmp 7) rfl rfl hSw
  try simp only [Act.put, List.setIfInBounds_toArray, List.set_cons_zero, List.set_cons_succ, List.getElem_toArray, List.getElem_cons_zero, List.getElem_cons_succ]
  refine wpAnyH_take (i := 4) (v := ?_) (by rfl) (by kernel_rfl) (by kernel_rfl) (by kernel_rfl) (by exact fun _ _ _ h => h) (Or.inl ⟨by rfl, ?_⟩) hHeld ?_
  rotate_left 1
  · intro w' hSw
    (try dsimp only at hSw)
    go_simp
    try with_reducible rfl
  try simp only [Act.put, List.setIfInBounds_toArray, List.set_cons_zero, List.set_cons_succ, List.getElem_toArray, List.getElem_cons_zero, List.getElem_cons_succ]
  refine wpAnyH_take (i := 5) (v := ?_) (by rfl) (by kernel_rfl) (by kernel_rfl) (by kernel_rfl) (by exact fun _ _ _ h => h) (Or.inl ⟨by rfl, ?_⟩) hHeld ?_
  rotate_left 1
  · intro w' hSw
    (try dsimp only at hSw)
    go_simp
    try with_reducible rfl
  try simp only [Act.put, List.setIfInBounds_toArray, List.set_cons_zero, List.set_cons_succ, List.getElem_toArray, List.getElem_cons_zero, List.getElem_cons_succ]
  refine wpAnyH_take (i := 6) (v := ?_) (by rfl) (by kernel_rfl) (by kernel_rfl) (by kernel_rfl) (by exact fun _ _ _ h => h) (Or.inl ⟨by rfl, ?_⟩) hHeld ?_
  rotate_left 1
  · intro w' hSw
    (try dsimp only at hSw)
    go_simp
    try with_reducible rfl
  try simp only [Act.put, List.setIfInBounds_toArray, List.set_cons_zero, List.set_cons_succ, List.getElem_toArray, List.getElem_cons_zero, List.getElem_cons_succ]
  refine wpAnyH_take (i := 7) (v := .slice (some ⟨g, 0, none⟩) (n + 1) c) (by rfl) (by kernel_rfl) (by kernel_rfl) (by kernel_rfl) (by exact fun _ _ _ h => h) (Or.inl ⟨by rfl, ?_⟩) hHeld ?_
  · intro w' hSw
    exact load_way (.tmp 11) rfl rfl hSw
  try simp only [Act.put, List.setIfInBounds_toArray, List.set_cons_zero, List.set_cons_succ, List.getElem_toArray, List.getElem_cons_zero, List.getElem_cons_succ]
  refine wpAnyH_take (i := 8) (v := ?_) (by rfl) (by kernel_rfl) (by kernel_rfl) (by kernel_rfl) (by exact fun _ _ _ h => h) (Or.inl ⟨by rfl, ?_⟩) hHeld ?_
  rotate_left 1
  · intro w' hSw
    (try dsimp only at hSw)
    go_simp
    try with_reducible rfl
  try simp only [Act.put, List.setIfInBounds_toArray, List.set_cons_zero, List.set_cons_succ, List.getElem_toArray, List.getElem_cons_zero, List.getElem_cons_succ]
  refine wpAnyH_take (i := 9) (v := .int .i64 (n : Int)) (by rfl) (by kernel_rfl) (by kernel_rfl) (by kernel_rfl) (by exact fun _ _ _ h => h) (Or.inl ⟨by rfl, ?_⟩) hHeld ?_
  · intro w' hSw
    exact sub_one rfl rfl rfl (by have := HP.out; omega)
  try simp only [Act.put, List.setIfInBounds_toArray, List.set_cons_zero, List.set_cons_succ, List.getElem_toArray, List.getElem_cons_zero, List.getElem_cons_succ]
  refine wpAnyH_take (i := 10) (v := .pointer (some ⟨g, n * 3, none⟩)) (by rfl) (by kernel_rfl) (by kernel_rfl) (by kernel_rfl) (by exact fun _ _ _ h => h) (Or.inl ⟨by rfl, ?_⟩) hHeld ?_
  · intro w' hSw
    exact idx_step rfl rfl rfl (by omega)
  try simp only [Act.put, List.setIfInBounds_toArray, List.set_cons_zero, List.set_cons_succ, List.getElem_toArray, List.getElem_cons_zero, List.getElem_cons_succ]
  refine wpAnyH_take (i := 11) (v := ?_) (by rfl) (by kernel_rfl) (by kernel_rfl) (by kernel_rfl) (by exact fun _ _ _ h => h) (Or.inl ⟨by rfl, ?_⟩) hHeld ?_
  rotate_left 1
  · intro w' hSw
    (try dsimp only at hSw)
    go_simp
    try with_reducible rfl
  try simp only [Act.put, List.setIfInBounds_toArray, List.set_cons_zero, List.set_cons_succ, List.getElem_toArray, List.getElem_cons_zero, List.getElem_cons_succ]
  refine wpAnyH_done (by kernel_rfl) ?_ _
  clear hHeld
  go_wp2_with fail
  go_end0
  exact ⟨rfl, HE.out⟩
end
end Go.Proofs.Ytgojipnhnmigpaa
