/-
  Layer 5: Stop, Crash, Sectors, Read, New, and two rows of sectors held against one another.
-/
import Derived.Test.YtienhidbgohhcaaDkWrite
set_option linter.unusedVariables false
set_option linter.unusedSimpArgs false
namespace Go.Proofs.Ytienhidbgohhcaa
open Go.RowKit

section
variable {w : World} {d s l : Nat} {v : Value} {n : Nat} {A : Dk.DV}

/-- The power goes when so many were done. -/
def Dk.DV.stops (k : Int) (A : Dk.DV) : Dk.DV := { A with stop := k }
theorem DkAt.set4 (h : DkAt w d s l v n A) (k : Int) : DkAt (w.setCell ⟨d, 4, none⟩ (.int .i64 k)) d s l v n (A.stops k) := by
  have hnd := h.nds
  have q : Chg (fun j => j = d) w (w.setCell ⟨d, 4, none⟩ (.int .i64 k)) := chg_setCell (S := fun j => j = d) rfl _ _ _
  refine ⟨?_, ?_, ?_, ?_, ⟨h.fits.seen, h.fits.last, h.fits.wait, h.fits.small⟩, h.ne, h.nv⟩
  · rw [heap_setCell_same w d 4 _ _ _ h.head]
    rfl
  · exact (q.block s (h.lt s (.inr (.inl rfl))) (by omega)).trans h.seen
  · exact (q.block l (h.lt l (.inr (.inr (.inl rfl)))) (by omega)).trans h.last
  · obtain ⟨z1, z2 | ⟨g, cap, cur, hv, hg, hh, r⟩⟩ := h.wait
    · exact ⟨z1, .inl z2⟩
    · have hng := h.nv g (by rw [hv]; rfl)
      exact ⟨z1, .inr ⟨g, cap, cur, hv, hg, (q.block g (h.lt g (.inr (.inr (.inr (by rw [hv]; rfl))))) (by omega)).trans hh, r⟩⟩
theorem Stop_any (h : DkAt w d s l v n A) (k : Nat) : Calls Try.prog 9 #[.pointer (some ⟨d, 0, none⟩), .int .i64 (k : Int)] w (Did d s l v n (A.stops (k : Int)) w) := by
  obtain ⟨c0, c1, c2, c3, c4, f⟩ := h.cells
  have hk0 : (0 : Int) ≤ (k : Int) := by omega
  have HP : Hid (Did d s l v n (A.stops (k : Int)) w (.returned (.tuple #[])) (w.setCell ⟨d, 4, none⟩ (.int .i64 (k : Int)))) :=
    Lib.hid ⟨rfl, v, h.set4 k, chg_setCell (S := Foot d s l v) (.inl rfl) _ _ _, fun j hj => .inl hj⟩
  have hmx : max (k : Int) 0 = (k : Int) := by omega
  clear h
  go_enter Try.func9, Try.ntmps9
  go_wp2
  go_end0
  exact HP.out

/-- What a crash is told. -/
structure CrashArg (w : World) (d s l : Nat) (v : Value) (a : Option Addr) (ks : List Bool) (tear : Int) : Prop where
  keep : Truths w a ks
  small : ks.length ≤ 1000
  lo : -9223372036854775808 ≤ tear
  hi : tear ≤ 9223372036854775807
  apart : ks = [] ∨ ∀ x, a = some x → ¬ Foot d s l v x.block
theorem Crash_end {w' W3 : World} {m : Nat → Nat} {e : Ending} (hc : Chg (fun _ => False) w W3) (h : Settled d s l n A m W3 e w') :
    Did d s l v n (A.crash m) w (.returned (.tuple #[])) (w'.setCell ⟨d, 4, none⟩ (.int .i64 9223372036854775807)) := by
  obtain ⟨_, h1, h2⟩ := h
  refine ⟨rfl, _, h1.set4 _, ((hc.mono fun _ _ h => h.elim).step (h2.mono fun _ _ hk => ?_)).step (chg_setCell (S := Foot d s l v) (.inl rfl) _ _ _), fun k hk => by cases hk⟩
  rcases hk with hk | hk | hk
  · exact .inl hk
  · exact .inr (.inl hk)
  · exact .inr (.inr (.inl hk))
set_option maxHeartbeats 1000000 in
theorem Crash_any (h : DkAt w d s l v n A) {a : Option Addr} {ks : List Bool} {c : Nat} {torn tear : Int} (hk : CrashArg w d s l v a ks tear) :
    Calls Try.prog 12 #[.pointer (some ⟨d, 0, none⟩), .slice a ks.length c, .int .i64 torn, .int .i64 tear] w (Did d s l v n (A.crash (muchN ks torn tear)) w) := by
  obtain ⟨W3, hW3⟩ : ∃ W3, W3 = ((w.alloc (.cells #[.slice a ks.length c] 23)).alloc (.cells #[.int .i64 torn] 3)).alloc (.cells #[.int .i64 tear] 3) := ⟨_, rfl⟩
  have hc3 : Chg (fun _ => False) w W3 := by rw [hW3]; exact ((chg_alloc _ _).step (chg_alloc _ _)).step (chg_alloc _ _)
  have h3 := h.apart hc3 (fun _ _ h => h)
  have hz3 : W3.heap.size = w.heap.size + 1 + 1 + 1 := by rw [hW3]; simp
  have hb : Below w.heap.size w W3 := ⟨hc3.os, hc3.tape, hc3.output, hc3.size, fun k hk => hc3.block k hk (fun h => h)⟩
  have hma : MuchAt W3 (w.heap.size + 1) (w.heap.size + 1 + 1) w.heap.size a c ks torn tear := by
    refine ⟨?_, ?_, ?_, hk.keep.kept hb⟩
    · have : W3.heap[w.heap.size + 1]? = some (.cells #[.int .i64 torn] 3 (0, 0)) := by
        rw [hW3, Below.heap_alloc _ _ _ (by simp)]
        have := heap_alloc_last (w.alloc (.cells #[.slice a ks.length c] 23)) (.cells #[.int .i64 torn] 3)
        simpa using this
      simp [World.cell?, this]
    · have : W3.heap[w.heap.size + 1 + 1]? = some (.cells #[.int .i64 tear] 3 (0, 0)) := by
        rw [hW3]
        have := heap_alloc_last ((w.alloc (.cells #[.slice a ks.length c] 23)).alloc (.cells #[.int .i64 torn] 3)) (.cells #[.int .i64 tear] 3)
        simpa using this
      simp [World.cell?, this]
    · have : W3.heap[w.heap.size]? = some (.cells #[.slice a ks.length c] 23 (0, 0)) := by
        rw [hW3, Below.heap_alloc _ _ _ (by simp; omega), Below.heap_alloc _ _ _ (by simp)]
        exact heap_alloc_last w _
      simp [World.cell?, this]
  have hss : ∀ k, k = s ∨ k = l → k < w.heap.size := fun k hk => h.lt k (by rcases hk with rfl | rfl; exact .inr (.inl rfl); exact .inr (.inr (.inl rfl)))
  have HS := Lib.hid (settle_any h3 25 #[.pointer (some ⟨w.heap.size + 1, 0, none⟩), .pointer (some ⟨w.heap.size + 1 + 1, 0, none⟩), .pointer (some ⟨w.heap.size, 0, none⟩)] (muchN ks torn tear) (muchN_le ks torn tear) enters_much
    (fun W k hc _ => much_any (hma.past fun j hj => by
      have hjs : ¬ (j = s ∨ j = l) := fun e => by
        rcases hj with rfl | rfl | rfl | ⟨hne, x, rfl, hxj⟩
        · have := hss _ e; omega
        · have := hss _ e; omega
        · have := hss _ e; omega
        · rcases hk.apart with h1 | h1
          · exact hne h1
          · refine h1 x rfl ?_
            rw [hxj]
            rcases e with rfl | rfl
            · exact .inr (.inl rfl)
            · exact .inr (.inr (.inl rfl))
      refine hc.block j ?_ hjs
      rcases hj with rfl | rfl | rfl | ⟨hne, x, rfl, hxj⟩
      · omega
      · omega
      · omega
      · rcases hma.keep with h1 | ⟨g, off, e, h1⟩
        · exact absurd h1 hne
        · cases e
          cases ks with
          | nil => exact absurd rfl hne
          | cons b t =>
            have := World.block_lt_of_cell? _ _ (h1 0 b rfl)
            dsimp only at this hxj
            omega) hk.lo hk.hi hk.small k))
  have HC3 := Lib.hid hc3
  have HW3 := Lib.hid hW3
  clear h h3 hc3 hz3 hb hma hss hk hW3
  generalize muchN ks torn tear = m at *
  go_enter Try.func12, Try.ntmps12
  go_wp2_with fail
  rw [← HW3.out]
  refine HS.out.mono ?_
  intro e w1 hp
  have HPP := Lib.hid hp
  obtain ⟨c0, c1, c2, c3, c4, f⟩ := hp.2.1.cells
  obtain ⟨rfl, _⟩ := hp
  have HEND := Lib.hid (Crash_end (v := v) HC3.out HPP.out)
  clear HS
  go_wp2_with fail
  go_end0
  exact HEND.out
/-- Sectors in a block of their own. -/
def Copied (R : List Int) (n : Nat) (w : World) (e : Ending) (w' : World) : Prop :=
  ∃ g c, e = .returned (.slice (some ⟨g, 0, none⟩) n c) ∧ w'.rangeAt g 0 (bys R) ∧ w.heap.size ≤ g ∧ g < w'.heap.size ∧ Below w.heap.size w w'
theorem info_sector : (Try.prog.info? 57).map (fun i => (i.zero, i.size, i.bytes)) = some (some (.agg (bys (List.replicate 64 0)).toArray), 64, 64) := by kernel_rfl
theorem wpList_append_new {P : Program} {ops : Array Oper} {o : Oper} {a : Act} {w : World} {Q : Exit → Act → World → Prop} {rest : List Oper} (hgd : o.guard = none) (s x : Operand) (t : TypeId)
    (ho : o.op = .call { callee := .builtin .append, args := #[s, x], argTypes := #[t, t] }) (e : TypeId) (z : Value) (size bts : Nat) (ht : P.underlying t = some (.slice e))
    (hi : (P.info? e).map (fun i => (i.zero, i.size, i.bytes)) = some (some z, size, bts)) (hz1 : z.cells.size = size) (hsz : 0 < size)
    (v : Value) (n : Nat) (xs : List Value) (hs : a.eval s = v) (hown : w.ownsRow 0 e size v n xs)
    (ad : Addr) (m c : Nat) (news : List Value) (hx : a.eval x = .slice (some ad) m c) (hl : news.length = m * size) (hnews : ∀ j u, news[j]? = some u → w.cell? (ad.add j) = some u) (h1 : ∀ u ∈ news, u.oneCell' = true)
    (hmax : n + m ≤ maxLen) (hb : (n + m) * bts ≤ 140737488355328)
    (h : ∀ v' w', w'.ownsRow 0 e size v' (n + m) (xs ++ news) → w.grownBy w' v.ownBlock → (∀ j, v'.ownBlock = some j → v.ownBlock = some j ∨ w.heap.size ≤ j) → wpList P ops Q rest (a.put o.dst v') w') :
    wpList P ops Q (o :: rest) a w :=
  wpList_plain hgd fun K hK => by
    obtain ⟨v', w', q1, q2, q3, q4⟩ := run_append_new (P := P) w t o.type e z size bts ht hi hz1 hsz v n xs hown ad m c news hl hnews h1 hmax hb
    unfold Oper.wp execOp
    simp only [ho, resolve, invoke, builtin, Sem.run_bind, Sem.run_pure, Result.andThen_ok, List.map_toArray, List.map_cons, List.map_nil, hs, hx, q1]
    exact hK _ _ (h v' w' q2 q3 q4)
theorem run_row_none (w : World) : (Instr.buildSlice 40 0 #[]).run Try.prog w = .ok (.slice (some ⟨w.heap.size, 0, none⟩) 0 0) (w.alloc (.cells #[] 57)) := by
  have s38 := fun w => size_of size_sector w
  simp [Instr.buildSlice, run_underlying Try.underlying40, s38, Instr.fill, newRow]
  have h0 : ∀ (f : Nat → Value), (Array.range 0).map f = #[] := fun f => by
    apply Array.ext
    · simp
    · intro i h; simp at h
  rw [h0]
/-- Two sectors are held against one another, in a region. -/
theorem run_neq_op {o : Oper} {a : Act} {w : World} (t2 : TypeId) (x y : Operand) (ho : o.op = .binOp .neq 57 x y t2) (xs ys : List Int) (hx : a.eval x = .agg (bys xs).toArray) (hy : a.eval y = .agg (bys ys).toArray) (h1 : xs.length = 64) (h2 : ys.length = 64) :
    (execOp a.eval o).run Try.prog w = .ok (.value (.bool (!decide (xs = ys)))) w := by
  have hg := run_eqGuard_agg (P := Try.prog) w .neq 57 x y (bys xs).toArray (bys ys).toArray (by kernel_rfl)
  have hr := run_neq_row (P := Try.prog) w 57 5 64 Try.underlying57 Try.underlying5 (fun w => size_of size_byte w) xs ys h1 h2
  unfold execOp
  simp [ho, hx, hy, hg, hr]
end
end Go.Proofs.Ytienhidbgohhcaa

