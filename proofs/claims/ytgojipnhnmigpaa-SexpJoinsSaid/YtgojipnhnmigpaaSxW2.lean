/-
  Layer 8: the walk: enter, leave.
-/
import Derived.Test.YtgojipnhnmigpaaSxW1
set_option linter.unusedVariables false
set_option linter.unusedSimpArgs false
namespace Go.Proofs.Ytgojipnhnmigpaa
open Go.RowKit Sx

theorem zero_step : (Try.prog.info? 76).map (fun i => (i.zero, i.size)) = some (some (.agg #[.slice none 0 0, .int .i64 0, .int .i64 0]), 3) := by kernel_rfl
theorem size_step : (Try.prog.info? 76).map (·.size) = some 3 := by kernel_rfl
theorem info_step : (Try.prog.info? 76).map (fun i => (i.zero, i.size, i.bytes)) = some (some (.agg #[.slice none 0 0, .int .i64 0, .int .i64 0]), 3, 40) := by kernel_rfl
theorem info_step' : ∃ i, Try.prog.info? 76 = some i ∧ i.zero = some (.agg #[.slice none 0 0, .int .i64 0, .int .i64 0]) ∧ i.size = 3 ∧ i.bytes = 40 := by
  have hi := info_step
  cases hq : Try.prog.info? 76 with
  | none => rw [hq] at hi; cases hi
  | some q => rw [hq] at hi; simp at hi; exact ⟨q, rfl, hi.1, hi.2.1, hi.2.2⟩
theorem build_step {o : Oper} {a : Act} {w : World} {x : Operand} {A : Option Addr} {n c : Nat} (ho : o.op = .build 76 #[(0, x)]) (hx : a.eval x = .slice A n c) :
    (execOp a.eval o).run Try.prog w = .ok (.value (.agg #[.slice A n c, .int .i64 0, .int .i64 0])) w := by
  have hz := (zero_of_info zero_step).1 w
  have e1 : ∀ w, (sizeOf 24).run Try.prog w = .ok 1 w := fun w => size_of (by kernel_rfl) w
  have e3 : ∀ w, (sizeOf 3).run Try.prog w = .ok 1 w := fun w => size_of (by kernel_rfl) w
  have : (Instr.build 76 #[(0, .slice A n c)]).run Try.prog w = .ok (.agg #[.slice A n c, .int .i64 0, .int .i64 0]) w := by
    simp [Instr.build, hz, run_underlying Try.underlying76, e1, e3, Instr.fill, Value.cells]
  unfold execOp
  simp [ho, hx, this]
theorem head_step {o : Oper} {aa : Act} {w : World} {x hi : Operand} (ho : o.op = .slice 70 x none (some hi) none) {A : Option Addr} {n c j : Nat} (hx : aa.eval x = .slice A n c) (hhi : aa.eval hi = .int .i64 (j : Int)) (h2 : j ≤ c) :
    (execOp aa.eval o).run Try.prog w = .ok (.value (.slice A j c)) w := by
  have hsz : (sizeOf (Try.prog.elem 70)).run Try.prog w = .ok 3 w := by kernel_rfl
  have h := run_slice_h (P := Try.prog) w 70 A n c Try.underlying70 .i64 (j : Int) (by omega) (by omega)
  rw [hsz] at h
  have he : (if c = 0 then A else A.map (fun x => x.add (0 * 3))) = A := by
    split
    · rfl
    · cases A with
      | none => rfl
      | some x => simp [Addr.add_zero']
  simp only [Result.andThen_ok, sliced, Int.toNat_natCast, Nat.sub_zero] at h
  rw [he] at h
  unfold execOp
  simp only [ho, hx, hhi, Option.map_some, Option.map_none]
  simp only [Sem.run_bind, run_sliceAt_slice (P := Try.prog) w 70 _ _ _ _ Try.underlying70, h, Result.andThen_ok, Sem.run_pure]
section
variable {ops : Array Oper} {o : Oper} {a : Act} {w : World} {K : Act → World → Prop} {Q : Exit → Act → World → Prop} {E : Prop}
/-- append of one step to a row of the call's own. -/
theorem wpList_app_step {rest : List Oper} (hgd : o.guard = none) (s x : Operand) (ho : o.op = .call { callee := .builtin .append, args := #[s, x], argTypes := #[70, 70] }) (B : Nat) (v : Value) (n : Nat) (xs : List Value) (hv : a.eval s = v) (hown : w.ownsRow B 76 3 v n xs)
    (ad : Addr) (m c : Nat) (news : List Value) (hx : a.eval x = .slice (some ad) m c) (hl : news.length = m * 3) (hnews : ∀ j u, news[j]? = some u → w.cell? (ad.add j) = some u) (h1 : ∀ u ∈ news, u.oneCell' = true) (hn : n + m ≤ 2000000) (hB : B ≤ w.heap.size)
    (h : ∀ v' w', w'.ownsRow B 76 3 v' (n + m) (xs ++ news) → w.grownBy w' v.ownBlock → (∀ j, v'.ownBlock = some j → v.ownBlock = some j ∨ w.heap.size ≤ j) → wpList Try.prog ops Q rest (a.put o.dst v') w') : wpList Try.prog ops Q (o :: rest) a w := by
  refine wpList_plain hgd fun _ hK => ?_
  obtain ⟨i, i1, i2, i3, i4⟩ := info_step'
  obtain ⟨v', w', q1, q2, q3, q4⟩ := run_append_mine (P := Try.prog) (w := w) (base := B) 70 o.type 76 i _ 3 40 Try.underlying70 i1 i2 i3 i4 rfl (by omega) v n xs hown ad m c news hl hnews h1 (by unfold maxLen; omega) (by omega) hB
  unfold Oper.wp execOp
  simp only [ho, resolve, invoke, builtin, Sem.run_bind, Sem.run_pure, Result.andThen_ok, List.map_toArray, List.map_cons, List.map_nil, hv, hx, q1]
  exact hK _ _ (h v' w' q2 q3 q4)
/-- Something known of a place, in a region. -/
theorem step_map_put (hgd : o.guard = none) (x y v : Operand) (ho : o.op = .mapUpdate 69 x y v) {m : Nat} {p : Nat × Nat} {d : Int} (hx : a.eval x = .map (some m)) (hy : a.eval y = pk p) (hv : a.eval v = .int .i64 d)
    {M : List ((Nat × Nat) × Int)} (hm : PMap w m M) (hb : Blk w p.1) (h : ∀ w', PMap w' m (upd M p d) → Chg (fun j => j = m) w w' → K (a.put o.dst undef) w') : if Region.wanted o (yielded ops a.tmps) = true then Oper.wp Try.prog o a w K Q else E := by
  have hw : Region.wanted o (yielded ops a.tmps) = true := by simp [Region.wanted, hgd]
  rw [if_pos hw]
  obtain ⟨w', h1, h2, h3⟩ := hm.update hb d
  unfold Oper.wp
  simp [execOp, ho, hx, hy, hv, h1, Result.andThen]
  exact h w' h2 h3
/-- A variable of many cells is made, in a region. -/
theorem step_alloc_many (hgd : o.guard = none) (ty : TypeId) (ho : o.op = .alloc ty) (Z : Array Value) (hz : ∀ w, (zeroValue ty).run Try.prog w = .ok (.agg Z) w)
    (h : K (a.put o.dst (.pointer (some ⟨w.heap.size, 0, none⟩))) (w.alloc (.cells Z ty))) : if Region.wanted o (yielded ops a.tmps) = true then Oper.wp Try.prog o a w K Q else E := by
  have hw : Region.wanted o (yielded ops a.tmps) = true := by simp [Region.wanted, hgd]
  rw [if_pos hw]
  have hr : (Instr.alloc ty true (.tuple #[])).run Try.prog w = .ok (.pointer (some ⟨w.heap.size, 0, none⟩)) (w.alloc (.cells Z ty)) := by
    simp [Instr.alloc, hz, newVar, newRow, Value.cells]
  unfold Oper.wp execOp
  simp only [ho, Sem.run_bind, hr, Result.andThen_ok, Sem.run_pure]
  exact h
/-- Many cells into the block that was made last, in a region. -/
theorem step_store_last (hgd : o.guard = none) (ty : TypeId) (x y : Operand) (ho : o.op = .store ty x y) (w0 : World) (C C' : Array Value) (hx : a.eval x = .pointer (some ⟨w0.heap.size, 0, none⟩)) (hy : a.eval y = .agg C')
    (hw : w = w0.alloc (.cells C ty)) (hi : (Try.prog.info? ty).map (·.size) = some C'.size) (hs : C.size = C'.size) (h1 : C'.all (·.oneCell') = true)
    (h : K (a.put o.dst undef) (w0.alloc (.cells C' ty))) : if Region.wanted o (yielded ops a.tmps) = true then Oper.wp Try.prog o a w K Q else E := by
  have hwt : Region.wanted o (yielded ops a.tmps) = true := by simp [Region.wanted, hgd]
  rw [if_pos hwt]
  subst hw
  have hr := run_storeAt_new (P := Try.prog) w0 ty C C' hi hs h1
  unfold Oper.wp execOp
  simp only [ho, hx, hy, Sem.run_bind, hr, Result.andThen_ok, Sem.run_pure]
  exact h
end
section
variable {B R m : Nat} {W W' : World} {path : List Sp} {pv : Value} {M : List ((Nat × Nat) × Int)} {s : Sp}
theorem SlAt.blk {F : Nat → Prop} {g n c : Nat} {k : Fo} (h : SlAt W F (.slice (some ⟨g, 0, none⟩) n c) k) (hn : 0 < n) : F g ∧ Blk W g ∧ k.len = n := by
  obtain ⟨a, c', D, e, h2, h3, h4, h5, h6⟩ := h
  cases e
  rcases h5 with e | ⟨g', cur, e, hF, hb, _⟩
  · omega
  · cases e
    exact ⟨hF, ⟨cur, hb⟩, rfl⟩
theorem Blk.kept {g : Nat} (h : Blk W g) (hb : Below W.heap.size W W') : Blk W' g := by
  obtain ⟨cur, hc⟩ := h
  exact ⟨cur, (hb.block g (Array.getElem?_eq_some_iff.1 hc).1).trans hc⟩
set_option maxRecDepth 100000 in
set_option maxHeartbeats 8000000 in
theorem enter_any {g n c : Nat} {k : Fo} (h : WSt B R m W path pv M) (hs : SlAt W (Old B R m) (.slice (some ⟨g, 0, none⟩) n c) k) (hn : 0 < n) (hp : path.length ≤ 1900000) :
    Calls Try.prog 24 #[.pointer (some ⟨R, 0, none⟩), .slice (some ⟨g, 0, none⟩) n c] W (fun e w' => e = .returned (.tuple #[]) ∧ ∃ pv', WSt B R m w' (⟨.slice (some ⟨g, 0, none⟩) n c, k, 0, 0⟩ :: path) pv' (upd M (g, n) 9223372036854775807) ∧ Chg (Own8 B R m) W w') := by
  obtain ⟨hOg, hBg, hk⟩ := hs.blk hn
  have HPL := Lib.hid (placeOf_any (w := W.drew) (g := g) (c := c) hn)
  obtain ⟨c0, c1, f0⟩ := h.cells
  have HH := Lib.hid (And.intro h (And.intro hs (And.intro hOg hBg)))
  have HP := Lib.hid hp
  have HC1 := Lib.hid c1
  have HN := Lib.hid hn
  clear h hs hOg hBg hk c0 c1 f0 hp hn
  go_enter Try.func24, Try.ntmps24
  go_wp2_with fail
  refine wp_region_held_drew (S := (fun w' => w'.cell? ⟨R, 1, none⟩ = some (.map (some m)))) (by kernel_rfl) ?_ (fun hHeld => ?_)
  · exact HC1.out
  refine wpAnyH_take (i := 0) (v := ?_) (by rfl) (by kernel_rfl) (by kernel_rfl) (by kernel_rfl) (by exact fun _ _ _ h => h) (Or.inl ⟨by rfl, ?_⟩) hHeld ?_
  rotate_left 1
  · intro w' hSw
    (try dsimp only at hSw)
    go_simp
    try with_reducible rfl
  try simp only [Act.put, List.setIfInBounds_toArray, List.set_cons_zero, List.set_cons_succ, List.getElem_toArray, List.getElem_cons_zero, List.getElem_cons_succ]
  refine wpAnyH_take (i := 1) (v := ?_) (by rfl) (by kernel_rfl) (by kernel_rfl) (by kernel_rfl) (by exact fun _ _ _ h => h) (Or.inl ⟨by rfl, ?_⟩) hHeld ?_
  rotate_left 1
  · intro w' hSw
    (try dsimp only at hSw)
    go_simp
    try with_reducible rfl
  try simp only [Act.put, List.setIfInBounds_toArray, List.set_cons_zero, List.set_cons_succ, List.getElem_toArray, List.getElem_cons_zero, List.getElem_cons_succ]
  refine wpAnyH_take (i := 2) (v := ?_) (by rfl) (by kernel_rfl) (by kernel_rfl) (by kernel_rfl) (by exact fun _ _ _ h => h) (Or.inl ⟨by rfl, ?_⟩) hHeld ?_
  rotate_left 1
  · intro w' hSw
    (try dsimp only at hSw)
    go_simp
    try with_reducible rfl
  try simp only [Act.put, List.setIfInBounds_toArray, List.set_cons_zero, List.set_cons_succ, List.getElem_toArray, List.getElem_cons_zero, List.getElem_cons_succ]
  refine wpAnyH_take (i := 3) (v := .map (some m)) (by rfl) (by kernel_rfl) (by kernel_rfl) (by kernel_rfl) (by exact fun _ _ _ h => h) (Or.inl ⟨by rfl, ?_⟩) hHeld ?_
  · intro w' hSw
    exact load_map (.tmp 6) rfl rfl hSw
  try simp only [Act.put, List.setIfInBounds_toArray, List.set_cons_zero, List.set_cons_succ, List.getElem_toArray, List.getElem_cons_zero, List.getElem_cons_succ]
  refine wpAnyH_take (i := 4) (v := ?_) (by rfl) (by kernel_rfl) (by kernel_rfl) (by kernel_rfl) (by exact fun _ _ _ h => h) (Or.inl ⟨by rfl, ?_⟩) hHeld ?_
  rotate_left 1
  · intro w' hSw
    (try dsimp only at hSw)
    go_simp
    try with_reducible rfl
  try simp only [Act.put, List.setIfInBounds_toArray, List.set_cons_zero, List.set_cons_succ, List.getElem_toArray, List.getElem_cons_zero, List.getElem_cons_succ]
  refine wpAnyH_ready (rs := [5]) (by kernel_rfl) (by simp) ?_
  refine AllReadyH.cons (by rfl) (fun K hK => ?_) AllReadyH.nil
  go_simp
  refine HPL.out.mono ?_
  rintro e w5 ⟨rfl, hb5⟩
  refine hK.out _ _ ?_ (fun hHeld => ?_)
  · exact (hb5.cell (p := ⟨R, 1, none⟩) (World.block_lt_of_cell? _ _ HC1.out)).trans HC1.out
  clear hK K
  try simp only [Act.put, List.setIfInBounds_toArray, List.set_cons_zero, List.set_cons_succ, List.getElem_toArray, List.getElem_cons_zero, List.getElem_cons_succ]
  refine wpAnyH_ready (rs := [6]) (by kernel_rfl) (by simp) ?_
  refine AllReadyH.cons (by rfl) (fun K hK => ?_) AllReadyH.nil
  have hh5 := (HH.out.1.kept ((Below.refl _ _).drew)).kept hb5
  refine step_map_put rfl (.tmp 7) (.tmp 9) _ rfl (p := (g, n)) rfl rfl rfl hh5.map ((HH.out.2.2.2.kept ((Below.refl _ _).drew)).kept hb5) ?_
  intro w6 hpm hcm
  have hold6 : ∀ e ∈ upd M (g, n) 9223372036854775807, Old B R m e.1.1 := fun e he => by
    rcases mem_upd he with he | rfl
    · exact hh5.old e he
    · exact HH.out.2.2.1
  refine hK.out _ _ ?_ (fun hHeld => ?_)
  · exact (hh5.mapEnd hcm hpm hold6).1.cells.2.1
  clear hK K
  try simp only [Act.put, List.setIfInBounds_toArray, List.set_cons_zero, List.set_cons_succ, List.getElem_toArray, List.getElem_cons_zero, List.getElem_cons_succ]
  refine wpAnyH_done (by kernel_rfl) ?_ _
  clear hHeld
  have h6 := (hh5.mapEnd hcm hpm hold6)
  have HC6 := Lib.hid ((Chg.drew.step (Chg.of_below hb5)).step h6.2)
  have b7 : Below w6.heap.size w6 (w6.alloc (.cells #[.slice (some ⟨g, 0, none⟩) n c, .int .i64 0, .int .i64 0] 76)) := (Below.refl _ _).alloc (Nat.le_refl _) _
  have h7 := h6.1.kept b7
  have HH7 := Lib.hid h7
  have HROW := Lib.hid h7.row
  have HC0 := Lib.hid (And.intro h6.1.cells.1 h7.cells.1)
  have HSZ : Hid (path.length + 1 ≤ 2000000 ∧ B ≤ (w6.alloc (.cells #[.slice (some ⟨g, 0, none⟩) n c, .int .i64 0, .int .i64 0] 76)).heap.size) := Lib.hid ⟨by have := HP.out; omega, h7.size⟩
  have HNEW : Hid (∀ j u, ([.slice (some ⟨g, 0, none⟩) n c, .int .i64 0, .int .i64 0] : List Value)[j]? = some u → (w6.alloc (.cells #[.slice (some ⟨g, 0, none⟩) n c, .int .i64 0, .int .i64 0] 76)).cell? ((⟨w6.heap.size, 0, none⟩ : Addr).add j) = some u) := Lib.hid fun j u hu => by
    rw [Addr.add_mid]
    exact rangeAt_new w6 [.slice (some ⟨g, 0, none⟩) n c, .int .i64 0, .int .i64 0] 76 j u hu
  have HONE : Hid (∀ u ∈ ([.slice (some ⟨g, 0, none⟩) n c, .int .i64 0, .int .i64 0] : List Value), u.oneCell' = true) := Lib.hid (by
    intro u hu
    simp only [List.mem_cons, List.not_mem_nil, or_false] at hu
    rcases hu with rfl | rfl | rfl <;> rfl)
  have HS7 := Lib.hid (((HH.out.2.1.kept ((Below.refl _ _).drew)).kept hb5).turn (G := Old B R m) h6.2 (fun _ h _ => old_own h) (fun _ h _ => h))
  have HS8 := Lib.hid (HS7.out.kept b7)
  have HB7 := Lib.hid b7
  clear hh5 hcm hpm hold6 h6 b7 h7 hb5
  go_wp2_with (first | (refine wpList_val pv (load_way (.tmp 13) (by with_reducible rfl) (by rfl) HC0.out.1) (by rfl) ?_) | (refine wpList_val (.agg #[.slice (some ⟨g, 0, none⟩) n c, .int .i64 0, .int .i64 0]) (build_step (by with_reducible rfl) (by rfl)) (by rfl) ?_) | (refine wpList_app_step rfl (.tmp 14) (.tmp 17) rfl B pv path.length (spC path) rfl HROW.out ⟨w6.heap.size, 0, none⟩ 1 1 [.slice (some ⟨g, 0, none⟩) n c, .int .i64 0, .int .i64 0] rfl rfl HNEW.out HONE.out HSZ.out.1 HSZ.out.2 ?_; intro v' w8 hown hgrw hnew; obtain ⟨g8, c8, rfl⟩ := ownsRow_form' hown; have HE := Lib.hid (HH7.out.pushEnd HS8.out hgrw hown rfl); have gc : w8.cell? ⟨R, 0, none⟩ = some pv := hgrw.cell HC0.out.2 (fun e => absurd (World.ownsRow.lt HROW.out R e.symm).1 (Nat.not_le.2 HH7.out.ne.2.1)); have gf : w8.frozen? ⟨R, 0, none⟩ = false := (World.frozen?_of_block (a := ⟨R, 0, none⟩) (hgrw.block R (World.block_lt_of_cell? _ _ HC0.out.2) (fun e => absurd (World.ownsRow.lt HROW.out R e.symm).1 (Nat.not_le.2 HH7.out.ne.2.1)))).trans (HH7.out.cells.2.2 0); clear hown hgrw hnew))
  go_end0
  exact ⟨rfl, _, HE.out.1, (HC6.out.step (Chg.of_below HB7.out)).step HE.out.2⟩
set_option maxRecDepth 100000 in
set_option maxHeartbeats 8000000 in
theorem leave_any {g n c : Nat} {k : Fo} {i d : Nat} (h : WSt B R m W (⟨.slice (some ⟨g, 0, none⟩) n c, k, i, d⟩ :: path) pv M) (hn : 0 < n) (hp : path.length ≤ 1900000) :
    Calls Try.prog 26 #[.pointer (some ⟨R, 0, none⟩)] W (fun e w' => e = .returned (.int .i64 (d : Int)) ∧ ∃ pv', WSt B R m w' path pv' (upd M (g, n) (d : Int)) ∧ Chg (Own8 B R m) W w') := by
  obtain ⟨q, hq⟩ : ∃ q, path.length = q := ⟨_, rfl⟩
  obtain ⟨pg, pc, rfl, hB, hg, hnc⟩ := h.value (n := q) (by rw [List.length_cons, hq])
  have hs := h.kids _ List.mem_cons_self
  obtain ⟨hOg, hBg, hk⟩ := hs.blk hn
  obtain ⟨l1, l2⟩ := h.last hq
  obtain ⟨c0, c1, f0⟩ := h.cells
  have hl1 : W.rangeAt pg (q * 3) [.slice (some ⟨g, 0, none⟩) n c, .int .i64 (i : Int), .int .i64 (d : Int)] := l1
  obtain ⟨W3, hW3⟩ : ∃ W3, W3 = W.drew.alloc (.cells #[.slice (some ⟨g, 0, none⟩) n c, .int .i64 (i : Int), .int .i64 (d : Int)] 76) := ⟨_, rfl⟩
  have b3 : Below W.heap.size W W3 := by rw [hW3]; exact ((Below.refl _ _).drew).alloc (Nat.le_refl _) _
  have hbox3 : W3.rangeAt W.heap.size 0 [.slice (some ⟨g, 0, none⟩) n c, .int .i64 (i : Int), .int .i64 (d : Int)] := by rw [hW3]; exact rangeAt_new W.drew [.slice (some ⟨g, 0, none⟩) n c, .int .i64 (i : Int), .int .i64 (d : Int)] 76
  have h3 := h.kept b3
  have h3d := h3.kept ((Below.refl _ _).drew)
  obtain ⟨d0, d1, e0⟩ := h3.cells
  obtain ⟨p1, p2⟩ := h3d.popEnd hq
  have HRb : Hid (R ≠ W.heap.size) := Lib.hid (Nat.ne_of_lt h.Rlt)
  have HL1 := Lib.hid (And.intro c0 hl1)
  have HP : Hid (q ≤ 1900000 ∧ q ≤ pc) := Lib.hid ⟨by omega, by omega⟩
  have hbx : (W3.drew.setCell ⟨R, 0, none⟩ (.slice (some ⟨pg, 0, none⟩) q pc)).rangeAt W.heap.size 0 [.slice (some ⟨g, 0, none⟩) n c, .int .i64 (i : Int), .int .i64 (d : Int)] :=
    rangeAt_blk (w' := W3.drew.setCell ⟨R, 0, none⟩ (.slice (some ⟨pg, 0, none⟩) q pc)) hbox3 (heap_setCell_other _ _ _ _ (fun e => HRb.out e.symm))
  obtain ⟨W4, hW4⟩ : ∃ W4, W4 = (W3.setCell ⟨R, 0, none⟩ (.slice (some ⟨pg, 0, none⟩) q pc)).drew := ⟨_, rfl⟩
  have hW4' : W3.drew.setCell ⟨R, 0, none⟩ (.slice (some ⟨pg, 0, none⟩) q pc) = W4 := by rw [hW4]; rfl
  have hd3 : W3.drew.cell? ⟨R, 0, none⟩ = some (.slice (some ⟨pg, 0, none⟩) (q + 1) pc) := d0
  have hf3 : W3.drew.frozen? ⟨R, 0, none⟩ = false := e0 0
  rw [hW4'] at p1 p2 hbx
  have HC4 := Lib.hid (And.intro p1.cells.2.1 (And.intro (hbx 0 _ rfl) (hbx 2 _ rfl)))
  have hBg4 : Blk W4 g := by
    obtain ⟨cur, hc⟩ := hBg.kept b3
    exact ⟨cur, (p2.block g (Array.getElem?_eq_some_iff.1 hc).1 (old_own hOg)).trans hc⟩
  have HPL := Lib.hid (placeOf_any (w := W4.drew) (g := g) (c := c) hn)
  have HH := Lib.hid (And.intro p1 (And.intro (((Chg.of_below b3).step Chg.drew).step p2) (And.intro hOg hBg4)))
  have HD3 := Lib.hid hd3
  have HBX : Hid (W.heap.size < W4.heap.size) := Lib.hid (World.block_lt_of_cell? _ _ (hbx 0 _ rfl))
  have hone : (#[Value.slice (some ⟨g, 0, none⟩) n c, .int .i64 (i : Int), .int .i64 (d : Int)] : Array Value).all (·.oneCell') = true := by simp [Value.oneCell']
  have zs := fun w => (zero_of_info zero_step).1 w
  have HQ := Lib.hid (And.intro hq hone)
  have HB0 : Hid (B ≤ W.heap.size) := Lib.hid h.size
  clear hW4' h h3 h3d hq hB hg hnc hs hOg hBg hBg4 hk l1 l2 c0 c1 f0 hl1 b3 hbox3 d0 d1 e0 p1 p2 hbx hn hp hd3 hone
  go_enter Try.func26, Try.ntmps26
  go_wp2_with fail
  refine wp_region_held_drew (S := (fun w' => w'.cell? ⟨R, 0, none⟩ = some (.slice (some ⟨pg, 0, none⟩) (q + 1) pc) ∧ w'.rangeAt pg (q * 3) [.slice (some ⟨g, 0, none⟩) n c, .int .i64 (i : Int), .int .i64 (d : Int)])) (by kernel_rfl) ?_ (fun hHeld => ?_)
  · exact HL1.out
  refine wpAnyH_take (i := 0) (v := ?_) (by rfl) (by kernel_rfl) (by kernel_rfl) (by kernel_rfl) (by exact fun _ _ _ h => h) (Or.inl ⟨by rfl, ?_⟩) hHeld ?_
  rotate_left 1
  · intro w' hSw
    (try dsimp only at hSw)
    go_simp
    try with_reducible rfl
  try simp only [Act.put, List.setIfInBounds_toArray, List.set_cons_zero, List.set_cons_succ, List.getElem_toArray, List.getElem_cons_zero, List.getElem_cons_succ]
  refine wpAnyH_take (i := 1) (v := ?_) (by rfl) (by kernel_rfl) (by kernel_rfl) (by kernel_rfl) (by exact fun _ _ _ h => h) (Or.inl ⟨by rfl, ?_⟩) hHeld ?_
  rotate_left 1
  · intro w' hSw
    (try dsimp only at hSw)
    go_simp
    try with_reducible rfl
  try simp only [Act.put, List.setIfInBounds_toArray, List.set_cons_zero, List.set_cons_succ, List.getElem_toArray, List.getElem_cons_zero, List.getElem_cons_succ]
  refine wpAnyH_take (i := 2) (v := ?_) (by rfl) (by kernel_rfl) (by kernel_rfl) (by kernel_rfl) (by exact fun _ _ _ h => h) (Or.inl ⟨by rfl, ?_⟩) hHeld ?_
  rotate_left 1
  · intro w' hSw
    (try dsimp only at hSw)
    go_simp
    try with_reducible rfl
  try simp only [Act.put, List.setIfInBounds_toArray, List.set_cons_zero, List.set_cons_succ, List.getElem_toArray, List.getElem_cons_zero, List.getElem_cons_succ]
  refine wpAnyH_take (i := 3) (v := .slice (some ⟨pg, 0, none⟩) (q + 1) pc) (by rfl) (by kernel_rfl) (by kernel_rfl) (by kernel_rfl) (by exact fun _ _ _ h => h) (Or.inl ⟨by rfl, ?_⟩) hHeld ?_
  · intro w' hSw
    exact load_way (.tmp 6) rfl rfl hSw.1
  try simp only [Act.put, List.setIfInBounds_toArray, List.set_cons_zero, List.set_cons_succ, List.getElem_toArray, List.getElem_cons_zero, List.getElem_cons_succ]
  refine wpAnyH_take (i := 4) (v := ?_) (by rfl) (by kernel_rfl) (by kernel_rfl) (by kernel_rfl) (by exact fun _ _ _ h => h) (Or.inl ⟨by rfl, ?_⟩) hHeld ?_
  rotate_left 1
  · intro w' hSw
    (try dsimp only at hSw)
    go_simp
    try with_reducible rfl
  try simp only [Act.put, List.setIfInBounds_toArray, List.set_cons_zero, List.set_cons_succ, List.getElem_toArray, List.getElem_cons_zero, List.getElem_cons_succ]
  refine wpAnyH_take (i := 5) (v := ?_) (by rfl) (by kernel_rfl) (by kernel_rfl) (by kernel_rfl) (by exact fun _ _ _ h => h) (Or.inl ⟨by rfl, ?_⟩) hHeld ?_
  rotate_left 1
  · intro w' hSw
    (try dsimp only at hSw)
    go_simp
    try with_reducible rfl
  try simp only [Act.put, List.setIfInBounds_toArray, List.set_cons_zero, List.set_cons_succ, List.getElem_toArray, List.getElem_cons_zero, List.getElem_cons_succ]
  refine wpAnyH_take (i := 6) (v := ?_) (by rfl) (by kernel_rfl) (by kernel_rfl) (by kernel_rfl) (by exact fun _ _ _ h => h) (Or.inl ⟨by rfl, ?_⟩) hHeld ?_
  rotate_left 1
  · intro w' hSw
    (try dsimp only at hSw)
    go_simp
    try with_reducible rfl
  try simp only [Act.put, List.setIfInBounds_toArray, List.set_cons_zero, List.set_cons_succ, List.getElem_toArray, List.getElem_cons_zero, List.getElem_cons_succ]
  refine wpAnyH_take (i := 7) (v := .slice (some ⟨pg, 0, none⟩) (q + 1) pc) (by rfl) (by kernel_rfl) (by kernel_rfl) (by kernel_rfl) (by exact fun _ _ _ h => h) (Or.inl ⟨by rfl, ?_⟩) hHeld ?_
  · intro w' hSw
    exact load_way (.tmp 10) rfl rfl hSw.1
  try simp only [Act.put, List.setIfInBounds_toArray, List.set_cons_zero, List.set_cons_succ, List.getElem_toArray, List.getElem_cons_zero, List.getElem_cons_succ]
  refine wpAnyH_take (i := 8) (v := ?_) (by rfl) (by kernel_rfl) (by kernel_rfl) (by kernel_rfl) (by exact fun _ _ _ h => h) (Or.inl ⟨by rfl, ?_⟩) hHeld ?_
  rotate_left 1
  · intro w' hSw
    (try dsimp only at hSw)
    go_simp
    try with_reducible rfl
  try simp only [Act.put, List.setIfInBounds_toArray, List.set_cons_zero, List.set_cons_succ, List.getElem_toArray, List.getElem_cons_zero, List.getElem_cons_succ]
  refine wpAnyH_take (i := 9) (v := .int .i64 (q : Int)) (by rfl) (by kernel_rfl) (by kernel_rfl) (by kernel_rfl) (by exact fun _ _ _ h => h) (Or.inl ⟨by rfl, ?_⟩) hHeld ?_
  · intro w' hSw
    exact sub_one rfl rfl rfl (by have := HP.out; omega)
  try simp only [Act.put, List.setIfInBounds_toArray, List.set_cons_zero, List.set_cons_succ, List.getElem_toArray, List.getElem_cons_zero, List.getElem_cons_succ]
  refine wpAnyH_take (i := 10) (v := .pointer (some ⟨pg, q * 3, none⟩)) (by rfl) (by kernel_rfl) (by kernel_rfl) (by kernel_rfl) (by exact fun _ _ _ h => h) (Or.inl ⟨by rfl, ?_⟩) hHeld ?_
  · intro w' hSw
    exact idx_step rfl rfl rfl (by omega)
  try simp only [Act.put, List.setIfInBounds_toArray, List.set_cons_zero, List.set_cons_succ, List.getElem_toArray, List.getElem_cons_zero, List.getElem_cons_succ]
  refine wpAnyH_take (i := 11) (v := .agg #[.slice (some ⟨g, 0, none⟩) n c, .int .i64 (i : Int), .int .i64 (d : Int)]) (by rfl) (by kernel_rfl) (by kernel_rfl) (by kernel_rfl) (by exact fun _ _ _ h => h) (Or.inl ⟨by rfl, ?_⟩) hHeld ?_
  · intro w' hSw
    exact run_load_op 76 (.tmp 14) rfl pg (q * 3) rfl [.slice (some ⟨g, 0, none⟩) n c, .int .i64 (i : Int), .int .i64 (d : Int)] _ hSw.2 Try.underlying76 rfl (by rw [size_step]; rfl)
  try simp only [Act.put, List.setIfInBounds_toArray, List.set_cons_zero, List.set_cons_succ, List.getElem_toArray, List.getElem_cons_zero, List.getElem_cons_succ]
  refine wpAnyH_ready (rs := [12]) (by kernel_rfl) (by simp) ?_
  refine AllReadyH.cons (by rfl) (fun K hK => ?_) AllReadyH.nil
  refine step_alloc_many rfl 76 rfl _ zs ?_
  refine hK.out _ _ ?_ (fun hHeld => ?_)
  · exact ⟨(World.cell?_alloc_lt W.drew _ _ (World.block_lt_of_cell? _ _ HL1.out.1)).trans HL1.out.1, World.rangeAt_alloc (w := W.drew) HL1.out.2 _⟩
  clear hK K
  try simp only [Act.put, List.setIfInBounds_toArray, List.set_cons_zero, List.set_cons_succ, List.getElem_toArray, List.getElem_cons_zero, List.getElem_cons_succ]
  refine wpAnyH_ready (rs := [13]) (by kernel_rfl) (by simp) ?_
  refine AllReadyH.cons (by rfl) (fun K hK => ?_) AllReadyH.nil
  refine step_store_last rfl 76 (.tmp 3) (.tmp 15) rfl W.drew _ #[.slice (some ⟨g, 0, none⟩) n c, .int .i64 (i : Int), .int .i64 (d : Int)] rfl rfl rfl size_step rfl HQ.out.2 ?_
  rw [← hW3]
  refine hK.out _ _ ?_ (fun hHeld => ?_)
  · rw [hW3]; exact ⟨(World.cell?_alloc_lt W.drew _ _ (World.block_lt_of_cell? _ _ HL1.out.1)).trans HL1.out.1, World.rangeAt_alloc (w := W.drew) HL1.out.2 _⟩
  clear hK K
  try simp only [Act.put, List.setIfInBounds_toArray, List.set_cons_zero, List.set_cons_succ, List.getElem_toArray, List.getElem_cons_zero, List.getElem_cons_succ]
  refine wpAnyH_done (by kernel_rfl) ?_ _
  clear hHeld
  have HH0 : Hid (B ≤ W.heap.size) := HB0
  clear HB0 zs hW3
  go_wp2_with fail
  refine wp_region_held_drew (S := (fun _ => True)) (by kernel_rfl) ?_ (fun hHeld => ?_)
  · trivial
  refine wpAnyH_take (i := 0) (v := ?_) (by rfl) (by kernel_rfl) (by kernel_rfl) (by kernel_rfl) (by exact fun _ _ _ h => h) (Or.inl ⟨by rfl, ?_⟩) hHeld ?_
  rotate_left 1
  · intro w' hSw
    (try dsimp only at hSw)
    go_simp
    try with_reducible rfl
  try simp only [Act.put, List.setIfInBounds_toArray, List.set_cons_zero, List.set_cons_succ, List.getElem_toArray, List.getElem_cons_zero, List.getElem_cons_succ]
  refine wpAnyH_take (i := 1) (v := ?_) (by rfl) (by kernel_rfl) (by kernel_rfl) (by kernel_rfl) (by exact fun _ _ _ h => h) (Or.inl ⟨by rfl, ?_⟩) hHeld ?_
  rotate_left 1
  · intro w' hSw
    (try dsimp only at hSw)
    go_simp
    try with_reducible rfl
  try simp only [Act.put, List.setIfInBounds_toArray, List.set_cons_zero, List.set_cons_succ, List.getElem_toArray, List.getElem_cons_zero, List.getElem_cons_succ]
  refine wpAnyH_take (i := 2) (v := ?_) (by rfl) (by kernel_rfl) (by kernel_rfl) (by kernel_rfl) (by exact fun _ _ _ h => h) (Or.inl ⟨by rfl, ?_⟩) hHeld ?_
  rotate_left 1
  · intro w' hSw
    (try dsimp only at hSw)
    go_simp
    try with_reducible rfl
  try simp only [Act.put, List.setIfInBounds_toArray, List.set_cons_zero, List.set_cons_succ, List.getElem_toArray, List.getElem_cons_zero, List.getElem_cons_succ]
  refine wpAnyH_take (i := 3) (v := ?_) (by rfl) (by kernel_rfl) (by kernel_rfl) (by kernel_rfl) (by exact fun _ _ _ h => h) (Or.inl ⟨by rfl, ?_⟩) hHeld ?_
  rotate_left 1
  · intro w' hSw
    (try dsimp only at hSw)
    go_simp
    try with_reducible rfl
  try simp only [Act.put, List.setIfInBounds_toArray, List.set_cons_zero, List.set_cons_succ, List.getElem_toArray, List.getElem_cons_zero, List.getElem_cons_succ]
  refine wpAnyH_take (i := 5) (v := ?_) (by rfl) (by kernel_rfl) (by kernel_rfl) (by kernel_rfl) (by exact fun _ _ _ h => h) (Or.inl ⟨by rfl, ?_⟩) hHeld ?_
  rotate_left 1
  · intro w' hSw
    (try dsimp only at hSw)
    go_simp
    try with_reducible rfl
  try simp only [Act.put, List.setIfInBounds_toArray, List.set_cons_zero, List.set_cons_succ, List.getElem_toArray, List.getElem_cons_zero, List.getElem_cons_succ]
  refine wpAnyH_take (i := 6) (v := ?_) (by rfl) (by kernel_rfl) (by kernel_rfl) (by kernel_rfl) (by exact fun _ _ _ h => h) (Or.inl ⟨by rfl, ?_⟩) hHeld ?_
  rotate_left 1
  · intro w' hSw
    (try dsimp only at hSw)
    go_simp
    try with_reducible rfl
  try simp only [Act.put, List.setIfInBounds_toArray, List.set_cons_zero, List.set_cons_succ, List.getElem_toArray, List.getElem_cons_zero, List.getElem_cons_succ]
  refine wpAnyH_take (i := 7) (v := ?_) (by rfl) (by kernel_rfl) (by kernel_rfl) (by kernel_rfl) (by exact fun _ _ _ h => h) (Or.inl ⟨by rfl, ?_⟩) hHeld ?_
  rotate_left 1
  · intro w' hSw
    (try dsimp only at hSw)
    go_simp
    try with_reducible rfl
  try simp only [Act.put, List.setIfInBounds_toArray, List.set_cons_zero, List.set_cons_succ, List.getElem_toArray, List.getElem_cons_zero, List.getElem_cons_succ]
  refine wpAnyH_ready (rs := [4, 8]) (by kernel_rfl) (by simp) ?_
  refine AllReadyH.cons (by rfl) (fun K hK => ?_) ?_
  · refine step_val _ (load_way (.tmp 19) rfl rfl HD3.out) rfl ?_
    refine hK.out _ _ ?_ (fun hHeld => ?_)
    · trivial
    clear hK K
    try simp only [Act.put, List.setIfInBounds_toArray, List.set_cons_zero, List.set_cons_succ, List.getElem_toArray, List.getElem_cons_zero, List.getElem_cons_succ]
    refine wpAnyH_ready (rs := [8]) (by kernel_rfl) (by simp) ?_
    refine AllReadyH.cons (by rfl) (fun K hK => ?_) AllReadyH.nil
    refine step_val _ (load_way (.tmp 23) rfl rfl HD3.out) rfl ?_
    refine hK.out _ _ ?_ (fun hHeld => ?_)
    · trivial
    clear hK K
    try simp only [Act.put, List.setIfInBounds_toArray, List.set_cons_zero, List.set_cons_succ, List.getElem_toArray, List.getElem_cons_zero, List.getElem_cons_succ]
    refine wpAnyH_take (i := 9) (v := ?_) (by rfl) (by kernel_rfl) (by kernel_rfl) (by kernel_rfl) (by exact fun _ _ _ h => h) (Or.inl ⟨by rfl, ?_⟩) hHeld ?_
    rotate_left 1
    · intro w' hSw
      (try dsimp only at hSw)
      go_simp
      try with_reducible rfl
    try simp only [Act.put, List.setIfInBounds_toArray, List.set_cons_zero, List.set_cons_succ, List.getElem_toArray, List.getElem_cons_zero, List.getElem_cons_succ]
    refine wpAnyH_take (i := 10) (v := .int .i64 (q : Int)) (by rfl) (by kernel_rfl) (by kernel_rfl) (by kernel_rfl) (by exact fun _ _ _ h => h) (Or.inl ⟨by rfl, ?_⟩) hHeld ?_
    · intro w' hSw
      exact sub_one rfl rfl rfl (by have := HP.out; omega)
    try simp only [Act.put, List.setIfInBounds_toArray, List.set_cons_zero, List.set_cons_succ, List.getElem_toArray, List.getElem_cons_zero, List.getElem_cons_succ]
    refine wpAnyH_take (i := 11) (v := .slice (some ⟨pg, 0, none⟩) q pc) (by rfl) (by kernel_rfl) (by kernel_rfl) (by kernel_rfl) (by exact fun _ _ _ h => h) (Or.inl ⟨by rfl, ?_⟩) hHeld ?_
    · intro w' hSw
      exact head_step rfl rfl rfl HP.out.2
    try simp only [Act.put, List.setIfInBounds_toArray, List.set_cons_zero, List.set_cons_succ, List.getElem_toArray, List.getElem_cons_zero, List.getElem_cons_succ]
    refine wpAnyH_take (i := 12) (v := ?_) (by rfl) (by kernel_rfl) (by kernel_rfl) (by kernel_rfl) (by exact fun _ _ _ h => h) (Or.inl ⟨by rfl, ?_⟩) hHeld ?_
    rotate_left 1
    · intro w' hSw
      (try dsimp only at hSw)
      go_simp
      try with_reducible rfl
    try simp only [Act.put, List.setIfInBounds_toArray, List.set_cons_zero, List.set_cons_succ, List.getElem_toArray, List.getElem_cons_zero, List.getElem_cons_succ]
    refine wpAnyH_take (i := 13) (v := ?_) (by rfl) (by kernel_rfl) (by kernel_rfl) (by kernel_rfl) (by exact fun _ _ _ h => h) (Or.inl ⟨by rfl, ?_⟩) hHeld ?_
    rotate_left 1
    · intro w' hSw
      (try dsimp only at hSw)
      go_simp
      try with_reducible rfl
    try simp only [Act.put, List.setIfInBounds_toArray, List.set_cons_zero, List.set_cons_succ, List.getElem_toArray, List.getElem_cons_zero, List.getElem_cons_succ]
    refine wpAnyH_ready (rs := [14]) (by kernel_rfl) (by simp) ?_
    refine AllReadyH.cons (by rfl) (fun K hK => ?_) AllReadyH.nil
    have hd3 := HD3.out
    go_simp
    refine hK.out _ _ ?_ (fun hHeld => ?_)
    · trivial
    clear hK K
    try simp only [Act.put, List.setIfInBounds_toArray, List.set_cons_zero, List.set_cons_succ, List.getElem_toArray, List.getElem_cons_zero, List.getElem_cons_succ]
    refine wpAnyH_done (by kernel_rfl) ?_ _
    clear hHeld
    rw [← hW4]
    clear hW4 hf3
    go_wp2_with fail
    refine wp_region_held_drew (S := (fun w' => w'.cell? ⟨R, 1, none⟩ = some (.map (some m)) ∧ w'.cell? ⟨W.heap.size, 0, none⟩ = some (.slice (some ⟨g, 0, none⟩) n c) ∧ w'.cell? ⟨W.heap.size, 2, none⟩ = some (.int .i64 (d : Int)))) (by kernel_rfl) ?_ (fun hHeld => ?_)
    · exact HC4.out
    refine wpAnyH_take (i := 0) (v := ?_) (by rfl) (by kernel_rfl) (by kernel_rfl) (by kernel_rfl) (by exact fun _ _ _ h => h) (Or.inl ⟨by rfl, ?_⟩) hHeld ?_
    rotate_left 1
    · intro w' hSw
      (try dsimp only at hSw)
      go_simp
      try with_reducible rfl
    try simp only [Act.put, List.setIfInBounds_toArray, List.set_cons_zero, List.set_cons_succ, List.getElem_toArray, List.getElem_cons_zero, List.getElem_cons_succ]
    refine wpAnyH_take (i := 1) (v := ?_) (by rfl) (by kernel_rfl) (by kernel_rfl) (by kernel_rfl) (by exact fun _ _ _ h => h) (Or.inl ⟨by rfl, ?_⟩) hHeld ?_
    rotate_left 1
    · intro w' hSw
      (try dsimp only at hSw)
      go_simp
      try with_reducible rfl
    try simp only [Act.put, List.setIfInBounds_toArray, List.set_cons_zero, List.set_cons_succ, List.getElem_toArray, List.getElem_cons_zero, List.getElem_cons_succ]
    refine wpAnyH_take (i := 2) (v := ?_) (by rfl) (by kernel_rfl) (by kernel_rfl) (by kernel_rfl) (by exact fun _ _ _ h => h) (Or.inl ⟨by rfl, ?_⟩) hHeld ?_
    rotate_left 1
    · intro w' hSw
      (try dsimp only at hSw)
      go_simp
      try with_reducible rfl
    try simp only [Act.put, List.setIfInBounds_toArray, List.set_cons_zero, List.set_cons_succ, List.getElem_toArray, List.getElem_cons_zero, List.getElem_cons_succ]
    refine wpAnyH_take (i := 3) (v := .map (some m)) (by rfl) (by kernel_rfl) (by kernel_rfl) (by kernel_rfl) (by exact fun _ _ _ h => h) (Or.inl ⟨by rfl, ?_⟩) hHeld ?_
    · intro w' hSw
      exact load_map (.tmp 32) rfl rfl hSw.1
    try simp only [Act.put, List.setIfInBounds_toArray, List.set_cons_zero, List.set_cons_succ, List.getElem_toArray, List.getElem_cons_zero, List.getElem_cons_succ]
    refine wpAnyH_take (i := 4) (v := ?_) (by rfl) (by kernel_rfl) (by kernel_rfl) (by kernel_rfl) (by exact fun _ _ _ h => h) (Or.inl ⟨by rfl, ?_⟩) hHeld ?_
    rotate_left 1
    · intro w' hSw
      (try dsimp only at hSw)
      go_simp
      try with_reducible rfl
    try simp only [Act.put, List.setIfInBounds_toArray, List.set_cons_zero, List.set_cons_succ, List.getElem_toArray, List.getElem_cons_zero, List.getElem_cons_succ]
    refine wpAnyH_take (i := 5) (v := .slice (some ⟨g, 0, none⟩) n c) (by rfl) (by kernel_rfl) (by kernel_rfl) (by kernel_rfl) (by exact fun _ _ _ h => h) (Or.inl ⟨by rfl, ?_⟩) hHeld ?_
    · intro w' hSw
      exact load_sl (.tmp 34) rfl rfl hSw.2.1
    try simp only [Act.put, List.setIfInBounds_toArray, List.set_cons_zero, List.set_cons_succ, List.getElem_toArray, List.getElem_cons_zero, List.getElem_cons_succ]
    refine wpAnyH_take (i := 7) (v := ?_) (by rfl) (by kernel_rfl) (by kernel_rfl) (by kernel_rfl) (by exact fun _ _ _ h => h) (Or.inl ⟨by rfl, ?_⟩) hHeld ?_
    rotate_left 1
    · intro w' hSw
      (try dsimp only at hSw)
      go_simp
      try with_reducible rfl
    try simp only [Act.put, List.setIfInBounds_toArray, List.set_cons_zero, List.set_cons_succ, List.getElem_toArray, List.getElem_cons_zero, List.getElem_cons_succ]
    refine wpAnyH_take (i := 8) (v := .int .i64 (d : Int)) (by rfl) (by kernel_rfl) (by kernel_rfl) (by kernel_rfl) (by exact fun _ _ _ h => h) (Or.inl ⟨by rfl, ?_⟩) hHeld ?_
    · intro w' hSw
      have h := hSw.2.2
      go_simp
    try simp only [Act.put, List.setIfInBounds_toArray, List.set_cons_zero, List.set_cons_succ, List.getElem_toArray, List.getElem_cons_zero, List.getElem_cons_succ]
    refine wpAnyH_ready (rs := [6]) (by kernel_rfl) (by simp) ?_
    refine AllReadyH.cons (by rfl) (fun K hK => ?_) AllReadyH.nil
    go_simp
    refine HPL.out.mono ?_
    rintro e w5 ⟨rfl, hb5⟩
    refine hK.out _ _ ?_ (fun hHeld => ?_)
    · exact ⟨(hb5.cell (p := ⟨R, 1, none⟩) (World.block_lt_of_cell? _ _ HC4.out.1)).trans HC4.out.1, (hb5.cell (p := ⟨W.heap.size, 0, none⟩) HBX.out).trans HC4.out.2.1, (hb5.cell (p := ⟨W.heap.size, 2, none⟩) HBX.out).trans HC4.out.2.2⟩
    clear hK K
    try simp only [Act.put, List.setIfInBounds_toArray, List.set_cons_zero, List.set_cons_succ, List.getElem_toArray, List.getElem_cons_zero, List.getElem_cons_succ]
    refine wpAnyH_ready (rs := [9]) (by kernel_rfl) (by simp) ?_
    refine AllReadyH.cons (by rfl) (fun K hK => ?_) AllReadyH.nil
    have hh5 := (HH.out.1.kept ((Below.refl _ _).drew)).kept hb5
    refine step_map_put rfl (.tmp 33) (.tmp 36) (.tmp 38) rfl (p := (g, n)) rfl rfl rfl hh5.map ((HH.out.2.2.2.kept ((Below.refl _ _).drew)).kept hb5) ?_
    intro w6 hpm hcm
    have hold6 : ∀ e ∈ upd M (g, n) (d : Int), Old B R m e.1.1 := fun e he => by
      rcases mem_upd he with he | rfl
      · exact hh5.old e he
      · exact HH.out.2.2.1
    have HBM : Hid (W.heap.size ≠ m) := Lib.hid (by have := HH.out.1.ne.2.2; have := HH0.out; omega)
    refine hK.out _ _ ?_ (fun hHeld => ?_)
    · exact ⟨(hh5.mapEnd hcm hpm hold6).1.cells.2.1, (World.cell?_of_block (a := ⟨W.heap.size, 0, none⟩) (hcm.block _ (Nat.lt_of_lt_of_le HBX.out hb5.size) (fun e => HBM.out e))).trans ((hb5.cell (p := ⟨W.heap.size, 0, none⟩) HBX.out).trans HC4.out.2.1), (World.cell?_of_block (a := ⟨W.heap.size, 2, none⟩) (hcm.block _ (Nat.lt_of_lt_of_le HBX.out hb5.size) (fun e => HBM.out e))).trans ((hb5.cell (p := ⟨W.heap.size, 2, none⟩) HBX.out).trans HC4.out.2.2)⟩
    clear hK K
    try simp only [Act.put, List.setIfInBounds_toArray, List.set_cons_zero, List.set_cons_succ, List.getElem_toArray, List.getElem_cons_zero, List.getElem_cons_succ]
    refine wpAnyH_done (by kernel_rfl) ?_ _
    clear hHeld
    have h6 := (hh5.mapEnd hcm hpm hold6)
    have hd6 : w6.cell? ⟨W.heap.size, 2, none⟩ = some (.int .i64 (d : Int)) := (World.cell?_of_block (a := ⟨W.heap.size, 2, none⟩) (hcm.block _ (Nat.lt_of_lt_of_le HBX.out hb5.size) (fun e => HBM.out e))).trans ((hb5.cell (p := ⟨W.heap.size, 2, none⟩) HBX.out).trans HC4.out.2.2)
    have HE : Hid (WSt B R m w6 path (.slice (some ⟨pg, 0, none⟩) q pc) (upd M (g, n) (d : Int)) ∧ Chg (Own8 B R m) W w6) := Lib.hid ⟨h6.1, ((HH.out.2.1.step Chg.drew).step (Chg.of_below hb5)).step h6.2⟩
    clear hh5 hcm hpm hold6 h6 hb5
    go_wp2_with fail
    go_ret
    exact ⟨rfl, _, HE.out⟩
  refine AllReadyH.cons (by rfl) (fun K hK => ?_) ?_
  · refine step_val _ (load_way (.tmp 23) rfl rfl HD3.out) rfl ?_
    refine hK.out _ _ ?_ (fun hHeld => ?_)
    · trivial
    clear hK K
    try simp only [Act.put, List.setIfInBounds_toArray, List.set_cons_zero, List.set_cons_succ, List.getElem_toArray, List.getElem_cons_zero, List.getElem_cons_succ]
    refine wpAnyH_take (i := 9) (v := ?_) (by rfl) (by kernel_rfl) (by kernel_rfl) (by kernel_rfl) (by exact fun _ _ _ h => h) (Or.inl ⟨by rfl, ?_⟩) hHeld ?_
    rotate_left 1
    · intro w' hSw
      (try dsimp only at hSw)
      go_simp
      try with_reducible rfl
    try simp only [Act.put, List.setIfInBounds_toArray, List.set_cons_zero, List.set_cons_succ, List.getElem_toArray, List.getElem_cons_zero, List.getElem_cons_succ]
    refine wpAnyH_take (i := 10) (v := .int .i64 (q : Int)) (by rfl) (by kernel_rfl) (by kernel_rfl) (by kernel_rfl) (by exact fun _ _ _ h => h) (Or.inl ⟨by rfl, ?_⟩) hHeld ?_
    · intro w' hSw
      exact sub_one rfl rfl rfl (by have := HP.out; omega)
    try simp only [Act.put, List.setIfInBounds_toArray, List.set_cons_zero, List.set_cons_succ, List.getElem_toArray, List.getElem_cons_zero, List.getElem_cons_succ]
    refine wpAnyH_ready (rs := [4]) (by kernel_rfl) (by simp) ?_
    refine AllReadyH.cons (by rfl) (fun K hK => ?_) AllReadyH.nil
    refine step_val _ (load_way (.tmp 19) rfl rfl HD3.out) rfl ?_
    refine hK.out _ _ ?_ (fun hHeld => ?_)
    · trivial
    clear hK K
    try simp only [Act.put, List.setIfInBounds_toArray, List.set_cons_zero, List.set_cons_succ, List.getElem_toArray, List.getElem_cons_zero, List.getElem_cons_succ]
    refine wpAnyH_take (i := 11) (v := .slice (some ⟨pg, 0, none⟩) q pc) (by rfl) (by kernel_rfl) (by kernel_rfl) (by kernel_rfl) (by exact fun _ _ _ h => h) (Or.inl ⟨by rfl, ?_⟩) hHeld ?_
    · intro w' hSw
      exact head_step rfl rfl rfl HP.out.2
    try simp only [Act.put, List.setIfInBounds_toArray, List.set_cons_zero, List.set_cons_succ, List.getElem_toArray, List.getElem_cons_zero, List.getElem_cons_succ]
    refine wpAnyH_take (i := 12) (v := ?_) (by rfl) (by kernel_rfl) (by kernel_rfl) (by kernel_rfl) (by exact fun _ _ _ h => h) (Or.inl ⟨by rfl, ?_⟩) hHeld ?_
    rotate_left 1
    · intro w' hSw
      (try dsimp only at hSw)
      go_simp
      try with_reducible rfl
    try simp only [Act.put, List.setIfInBounds_toArray, List.set_cons_zero, List.set_cons_succ, List.getElem_toArray, List.getElem_cons_zero, List.getElem_cons_succ]
    refine wpAnyH_take (i := 13) (v := ?_) (by rfl) (by kernel_rfl) (by kernel_rfl) (by kernel_rfl) (by exact fun _ _ _ h => h) (Or.inl ⟨by rfl, ?_⟩) hHeld ?_
    rotate_left 1
    · intro w' hSw
      (try dsimp only at hSw)
      go_simp
      try with_reducible rfl
    try simp only [Act.put, List.setIfInBounds_toArray, List.set_cons_zero, List.set_cons_succ, List.getElem_toArray, List.getElem_cons_zero, List.getElem_cons_succ]
    refine wpAnyH_ready (rs := [14]) (by kernel_rfl) (by simp) ?_
    refine AllReadyH.cons (by rfl) (fun K hK => ?_) AllReadyH.nil
    have hd3 := HD3.out
    go_simp
    refine hK.out _ _ ?_ (fun hHeld => ?_)
    · trivial
    clear hK K
    try simp only [Act.put, List.setIfInBounds_toArray, List.set_cons_zero, List.set_cons_succ, List.getElem_toArray, List.getElem_cons_zero, List.getElem_cons_succ]
    refine wpAnyH_done (by kernel_rfl) ?_ _
    clear hHeld
    rw [← hW4]
    clear hW4 hf3
    go_wp2_with fail
    refine wp_region_held_drew (S := (fun w' => w'.cell? ⟨R, 1, none⟩ = some (.map (some m)) ∧ w'.cell? ⟨W.heap.size, 0, none⟩ = some (.slice (some ⟨g, 0, none⟩) n c) ∧ w'.cell? ⟨W.heap.size, 2, none⟩ = some (.int .i64 (d : Int)))) (by kernel_rfl) ?_ (fun hHeld => ?_)
    · exact HC4.out
    refine wpAnyH_take (i := 0) (v := ?_) (by rfl) (by kernel_rfl) (by kernel_rfl) (by kernel_rfl) (by exact fun _ _ _ h => h) (Or.inl ⟨by rfl, ?_⟩) hHeld ?_
    rotate_left 1
    · intro w' hSw
      (try dsimp only at hSw)
      go_simp
      try with_reducible rfl
    try simp only [Act.put, List.setIfInBounds_toArray, List.set_cons_zero, List.set_cons_succ, List.getElem_toArray, List.getElem_cons_zero, List.getElem_cons_succ]
    refine wpAnyH_take (i := 1) (v := ?_) (by rfl) (by kernel_rfl) (by kernel_rfl) (by kernel_rfl) (by exact fun _ _ _ h => h) (Or.inl ⟨by rfl, ?_⟩) hHeld ?_
    rotate_left 1
    · intro w' hSw
      (try dsimp only at hSw)
      go_simp
      try with_reducible rfl
    try simp only [Act.put, List.setIfInBounds_toArray, List.set_cons_zero, List.set_cons_succ, List.getElem_toArray, List.getElem_cons_zero, List.getElem_cons_succ]
    refine wpAnyH_take (i := 2) (v := ?_) (by rfl) (by kernel_rfl) (by kernel_rfl) (by kernel_rfl) (by exact fun _ _ _ h => h) (Or.inl ⟨by rfl, ?_⟩) hHeld ?_
    rotate_left 1
    · intro w' hSw
      (try dsimp only at hSw)
      go_simp
      try with_reducible rfl
    try simp only [Act.put, List.setIfInBounds_toArray, List.set_cons_zero, List.set_cons_succ, List.getElem_toArray, List.getElem_cons_zero, List.getElem_cons_succ]
    refine wpAnyH_take (i := 3) (v := .map (some m)) (by rfl) (by kernel_rfl) (by kernel_rfl) (by kernel_rfl) (by exact fun _ _ _ h => h) (Or.inl ⟨by rfl, ?_⟩) hHeld ?_
    · intro w' hSw
      exact load_map (.tmp 32) rfl rfl hSw.1
    try simp only [Act.put, List.setIfInBounds_toArray, List.set_cons_zero, List.set_cons_succ, List.getElem_toArray, List.getElem_cons_zero, List.getElem_cons_succ]
    refine wpAnyH_take (i := 4) (v := ?_) (by rfl) (by kernel_rfl) (by kernel_rfl) (by kernel_rfl) (by exact fun _ _ _ h => h) (Or.inl ⟨by rfl, ?_⟩) hHeld ?_
    rotate_left 1
    · intro w' hSw
      (try dsimp only at hSw)
      go_simp
      try with_reducible rfl
    try simp only [Act.put, List.setIfInBounds_toArray, List.set_cons_zero, List.set_cons_succ, List.getElem_toArray, List.getElem_cons_zero, List.getElem_cons_succ]
    refine wpAnyH_take (i := 5) (v := .slice (some ⟨g, 0, none⟩) n c) (by rfl) (by kernel_rfl) (by kernel_rfl) (by kernel_rfl) (by exact fun _ _ _ h => h) (Or.inl ⟨by rfl, ?_⟩) hHeld ?_
    · intro w' hSw
      exact load_sl (.tmp 34) rfl rfl hSw.2.1
    try simp only [Act.put, List.setIfInBounds_toArray, List.set_cons_zero, List.set_cons_succ, List.getElem_toArray, List.getElem_cons_zero, List.getElem_cons_succ]
    refine wpAnyH_take (i := 7) (v := ?_) (by rfl) (by kernel_rfl) (by kernel_rfl) (by kernel_rfl) (by exact fun _ _ _ h => h) (Or.inl ⟨by rfl, ?_⟩) hHeld ?_
    rotate_left 1
    · intro w' hSw
      (try dsimp only at hSw)
      go_simp
      try with_reducible rfl
    try simp only [Act.put, List.setIfInBounds_toArray, List.set_cons_zero, List.set_cons_succ, List.getElem_toArray, List.getElem_cons_zero, List.getElem_cons_succ]
    refine wpAnyH_take (i := 8) (v := .int .i64 (d : Int)) (by rfl) (by kernel_rfl) (by kernel_rfl) (by kernel_rfl) (by exact fun _ _ _ h => h) (Or.inl ⟨by rfl, ?_⟩) hHeld ?_
    · intro w' hSw
      have h := hSw.2.2
      go_simp
    try simp only [Act.put, List.setIfInBounds_toArray, List.set_cons_zero, List.set_cons_succ, List.getElem_toArray, List.getElem_cons_zero, List.getElem_cons_succ]
    refine wpAnyH_ready (rs := [6]) (by kernel_rfl) (by simp) ?_
    refine AllReadyH.cons (by rfl) (fun K hK => ?_) AllReadyH.nil
    go_simp
    refine HPL.out.mono ?_
    rintro e w5 ⟨rfl, hb5⟩
    refine hK.out _ _ ?_ (fun hHeld => ?_)
    · exact ⟨(hb5.cell (p := ⟨R, 1, none⟩) (World.block_lt_of_cell? _ _ HC4.out.1)).trans HC4.out.1, (hb5.cell (p := ⟨W.heap.size, 0, none⟩) HBX.out).trans HC4.out.2.1, (hb5.cell (p := ⟨W.heap.size, 2, none⟩) HBX.out).trans HC4.out.2.2⟩
    clear hK K
    try simp only [Act.put, List.setIfInBounds_toArray, List.set_cons_zero, List.set_cons_succ, List.getElem_toArray, List.getElem_cons_zero, List.getElem_cons_succ]
    refine wpAnyH_ready (rs := [9]) (by kernel_rfl) (by simp) ?_
    refine AllReadyH.cons (by rfl) (fun K hK => ?_) AllReadyH.nil
    have hh5 := (HH.out.1.kept ((Below.refl _ _).drew)).kept hb5
    refine step_map_put rfl (.tmp 33) (.tmp 36) (.tmp 38) rfl (p := (g, n)) rfl rfl rfl hh5.map ((HH.out.2.2.2.kept ((Below.refl _ _).drew)).kept hb5) ?_
    intro w6 hpm hcm
    have hold6 : ∀ e ∈ upd M (g, n) (d : Int), Old B R m e.1.1 := fun e he => by
      rcases mem_upd he with he | rfl
      · exact hh5.old e he
      · exact HH.out.2.2.1
    have HBM : Hid (W.heap.size ≠ m) := Lib.hid (by have := HH.out.1.ne.2.2; have := HH0.out; omega)
    refine hK.out _ _ ?_ (fun hHeld => ?_)
    · exact ⟨(hh5.mapEnd hcm hpm hold6).1.cells.2.1, (World.cell?_of_block (a := ⟨W.heap.size, 0, none⟩) (hcm.block _ (Nat.lt_of_lt_of_le HBX.out hb5.size) (fun e => HBM.out e))).trans ((hb5.cell (p := ⟨W.heap.size, 0, none⟩) HBX.out).trans HC4.out.2.1), (World.cell?_of_block (a := ⟨W.heap.size, 2, none⟩) (hcm.block _ (Nat.lt_of_lt_of_le HBX.out hb5.size) (fun e => HBM.out e))).trans ((hb5.cell (p := ⟨W.heap.size, 2, none⟩) HBX.out).trans HC4.out.2.2)⟩
    clear hK K
    try simp only [Act.put, List.setIfInBounds_toArray, List.set_cons_zero, List.set_cons_succ, List.getElem_toArray, List.getElem_cons_zero, List.getElem_cons_succ]
    refine wpAnyH_done (by kernel_rfl) ?_ _
    clear hHeld
    have h6 := (hh5.mapEnd hcm hpm hold6)
    have hd6 : w6.cell? ⟨W.heap.size, 2, none⟩ = some (.int .i64 (d : Int)) := (World.cell?_of_block (a := ⟨W.heap.size, 2, none⟩) (hcm.block _ (Nat.lt_of_lt_of_le HBX.out hb5.size) (fun e => HBM.out e))).trans ((hb5.cell (p := ⟨W.heap.size, 2, none⟩) HBX.out).trans HC4.out.2.2)
    have HE : Hid (WSt B R m w6 path (.slice (some ⟨pg, 0, none⟩) q pc) (upd M (g, n) (d : Int)) ∧ Chg (Own8 B R m) W w6) := Lib.hid ⟨h6.1, ((HH.out.2.1.step Chg.drew).step (Chg.of_below hb5)).step h6.2⟩
    clear hh5 hcm hpm hold6 h6 hb5
    go_wp2_with fail
    go_ret
    exact ⟨rfl, _, HE.out⟩
  exact AllReadyH.nil
end
end Go.Proofs.Ytgojipnhnmigpaa
