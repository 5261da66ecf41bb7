/-
  Layer 6: the bytes of a slot are written.
-/
import Derived.Test.YtienhidbgohhcaaSnSmall
set_option linter.unusedVariables false
set_option linter.unusedSimpArgs false
namespace Go.Proofs.Ytienhidbgohhcaa
open Go.RowKit Rf
attribute [local go_sem] Oper.semAt_some

/-- The k-th sector of bytes, filled up with noughts. -/
def part (bs : List Int) (k : Nat) : List Int := splice (List.replicate 64 0) 0 ((bs.drop (64 * k)).take 64)
theorem part_len (bs : List Int) (k : Nat) : (part bs k).length = 64 := by
  unfold part
  rw [length_splice _ _ _ (by simp; omega)]
  simp
/-- The disk's state behind so many sectors of bytes. -/
def Dk.DV.putsTo (at' : Nat) (bs : List Int) : Nat → Dk.DV → Dk.DV
  | 0, A => A
  | k + 1, A => Dk.DV.writes (at' + 1 + k) (part bs k) (Dk.DV.putsTo at' bs k A)
theorem putsTo_bounds (at' : Nat) (bs : List Int) : ∀ (k : Nat) (A : Dk.DV), (A.putsTo at' bs k).ops ≤ A.ops + k ∧ (A.putsTo at' bs k).wait.length ≤ A.wait.length + k ∧ (A.putsTo at' bs k).stop = A.stop
  | 0, A => ⟨Nat.le_refl _, Nat.le_refl _, rfl⟩
  | k + 1, A => by
    obtain ⟨h1, h2, h3⟩ := putsTo_bounds at' bs k A
    simp only [Dk.DV.putsTo, Dk.DV.writes]
    split
    · exact ⟨by omega, by omega, h3⟩
    · exact ⟨by simp [Dk.DV.write]; omega, by simp [Dk.DV.write]; omega, h3⟩
section
variable {w : World} {d s l : Nat} {v : Value} {n : Nat} {A : Dk.DV}
/-- Behind so many pieces: the disk, and the box that says where. -/
def WrAt (w : World) (d s l : Nat) (v : Value) (n : Nat) (A : Dk.DV) (at' : Nat) (bs : List Int) (a : Option Addr) (c : Nat) (pre : List (Nat × Nat)) (W : World) : Prop :=
  ∃ v', DkAt W d s l v' n (A.putsTo at' bs pre.length) ∧ Chg (Foot d s l v) w W ∧ (∀ k, v'.ownBlock = some k → v.ownBlock = some k ∨ w.heap.size ≤ k) ∧ (∀ k, v'.ownBlock = some k → k ≠ w.heap.size ∧ k ≠ w.heap.size + 1 ∧ k ≠ w.heap.size + 1 + 1 ∧ k ≠ w.heap.size + 1 + 1 + 1) ∧
    W.heap[w.heap.size]? = some (.cells #[.pointer (some ⟨d, 0, none⟩)] 25 (0, 0)) ∧ W.heap[w.heap.size + 1]? = some (.cells #[.int .i64 ((at' + pre.length : Nat) : Int)] 3 (0, 0)) ∧
    W.heap[w.heap.size + 1 + 1]? = some (.cells #[.slice a bs.length c] 29 (0, 0)) ∧ W.heap[w.heap.size + 1 + 1 + 1]? = some (.cells #[.int .i64 64] 3 (0, 0))
theorem WrAt.own {at' c : Nat} {bs : List Int} {a : Option Addr} (B0 : Nat) (hB : w.heap.size + 1 + 1 + 1 + 1 ≤ B0) : OwnFrom B0 (WrAt w d s l v n A at' bs a c) := by
  intro pre W W' row h hg hr
  obtain ⟨v', h1, h2, h3, h3', h4, h5, h6, h7⟩ := h
  have kc : ∀ {b : Nat} {c : Array Value} {e : TypeId} {z : Nat × Nat}, W.heap[b]? = some (.cells c e z) → W'.heap[b]? = some (.cells c e z) :=
    fun hb => (grownBy_keeps_cells hg (fun r e => (hr r e).2) hb rfl).trans hb
  have hchg : Chg (fun j => row = some j) W W' := Chg.of_grown hg (fun k hk => hk)
  refine ⟨v', h1.past fun k hk => ?_, h2.trans (hchg.mono fun k hk hr' => .inr (by have := (hr k hr').1; omega)), h3, h3', kc h4, kc h5, kc h6, kc h7⟩
  exact hchg.block k (h1.lt k hk) (fun e => by
    obtain ⟨_, o, ho, hoc⟩ := hr k e
    have : ∃ c t z, W.heap[k]? = some (.cells c t z) := by
      rcases hk with rfl | rfl | rfl | hk
      · exact ⟨_, _, _, h1.head⟩
      · exact ⟨_, _, _, h1.seen⟩
      · exact ⟨_, _, _, h1.last⟩
      · obtain ⟨_, ⟨rfl, _⟩ | ⟨g, cap, cur, hv, _, hh, _⟩⟩ := h1.wait
        · cases hk
        · rw [hv] at hk
          cases hk
          exact ⟨_, _, _, hh⟩
    obtain ⟨c, t, z, hc⟩ := this
    rw [hc] at ho
    cases ho
    cases hoc)
theorem enters_chunk (args : Array Value) (w : World) : (callFunc 38 args).run Try.prog w = .ok (.enter 38 args) w := by
  have := Try.func38
  go_simp
/-- A disk's blocks are cells. -/
theorem DkAt.isCells (h : DkAt w d s l v n A) (k : Nat) (hk : Foot d s l v k) : ∃ c t z, w.heap[k]? = some (.cells c t z) := by
  rcases hk with rfl | rfl | rfl | hk
  · exact ⟨_, _, _, h.head⟩
  · exact ⟨_, _, _, h.seen⟩
  · exact ⟨_, _, _, h.last⟩
  · obtain ⟨_, ⟨rfl, _⟩ | ⟨g, cap, cur, hv, _, hh, _⟩⟩ := h.wait
    · cases hk
    · rw [hv] at hk
      cases hk
      exact ⟨_, _, _, hh⟩
theorem WrAt.done {at' c D : Nat} {bs : List Int} {a : Option Addr} {pre : List (Nat × Nat)} {W : World} {y x : Obj} (h : WrAt w d s l v n A at' bs a c pre W) (hD : W.heap[D]? = some x) (hx : x.isCells = false) (hDs : w.heap.size ≤ D) :
    Did d s l v n (A.putsTo at' bs pre.length) w (.returned (.tuple #[])) (W.putObj D y) := by
  obtain ⟨v', h1, h2, h3, h3', _⟩ := h
  refine ⟨rfl, v', h1.past fun k hk => World.putObj_heap_other fun e => ?_, ⟨h2.os, h2.tape, h2.output, by rw [World.putObj_size]; exact h2.size, fun k hk hS => ?_⟩, h3⟩
  · obtain ⟨c, t, z, hc⟩ := h1.isCells k hk
    rw [e, hD] at hc
    cases hc
    cases hx
  · rw [World.putObj_heap_other (by omega)]
    exact h2.block k hk hS
theorem KeepsFrom.of_chg {S : Nat → Prop} {B : Nat} {W W' : World} (h : Chg S W W') (hS : ∀ k, B ≤ k → S k → k < W.heap.size → ∃ c t z, W.heap[k]? = some (.cells c t z)) : KeepsFrom B W W' :=
  ⟨h.size, fun k o hB hk ho => by
    have hlt := (Array.getElem?_eq_some_iff.1 hk).1
    by_cases hs : S k
    · obtain ⟨c, t, z, hc⟩ := hS k hB hs hlt
      rw [hk] at hc
      cases hc
      cases ho
    · exact (h.block k hlt hs).trans hk⟩
/-- What one round does. -/
theorem WrAt.step {at' c g off m B : Nat} {bs : List Int} {a : Option Addr} {pre : List (Nat × Nat)} {W : World} {Z : List Value} (h : WrAt w d s l v n A at' bs a c pre W) (hZ : Z = bys (List.replicate 64 0)) (hk : 64 * pre.length < bs.length)
    (hm : m = min 64 (bs.length - 64 * pre.length)) (hr : w.rangeAt g off (bys bs)) (hg : ¬ Foot d s l v g) (hi : at' + pre.length + 1 < n) (hb1 : A.wait.length + pre.length ≤ 1000000) (hb2 : A.ops + pre.length ≤ 1000000) (hB : w.heap.size + 1 + 1 + 1 + 1 ≤ B) (hds : ∀ k, k = d ∨ k = s ∨ k = l → k < w.heap.size) :
    ∃ W1 W3 : World, W1 = W.setCell ⟨w.heap.size + 1, 0, none⟩ (.int .i64 ((at' : Int) + (pre.length : Int) + 1)) ∧ W3 = (W1.alloc (.cells Z.toArray 57)).setCells W1.heap.size 0 (bys ((bs.drop (64 * pre.length)).take 64)) ∧
      W.cell? ⟨w.heap.size + 1, 0, none⟩ = some (.int .i64 ((at' : Int) + (pre.length : Int))) ∧ W.frozen? ⟨w.heap.size + 1, 0, none⟩ = false ∧
      (∀ j u, (bys ((bs.drop (64 * pre.length)).take 64))[j]? = some u → (W1.alloc (.cells Z.toArray 57)).cell? ((⟨g, off + 64 * pre.length, none⟩ : Addr).add j) = some u) ∧
      (W1.alloc (.cells Z.toArray 57)).there W1.heap.size 0 64 ∧ (bys ((bs.drop (64 * pre.length)).take 64)).length = m ∧
      W3.cell? ⟨w.heap.size, 0, none⟩ = some (.pointer (some ⟨d, 0, none⟩)) ∧ W3.cell? ⟨w.heap.size + 1, 0, none⟩ = some (.int .i64 ((at' : Int) + (pre.length : Int) + 1)) ∧ W3.rangeAt W1.heap.size 0 (bys (part bs pre.length)) ∧
      Calls Try.prog 21 #[.pointer (some ⟨d, 0, none⟩), .int .i64 ((at' : Int) + (pre.length : Int) + 1), .agg (bys (part bs pre.length)).toArray] W3 fun e w4 => e = .returned (.int .i64 0) ∧ KeepsFrom B W w4 ∧ WrAt w d s l v n A at' bs a c (pre ++ [(pre.length, m)]) w4 := by
  obtain ⟨v', h1, h2, h3, h3', b1, b2, b3, b4⟩ := h
  have hZl : Z.length = 64 := by rw [hZ]; simp [bys_len]
  have hlt := h1.lt
  have hwW := (Array.getElem?_eq_some_iff.1 b4).1
  obtain ⟨W1, hW1⟩ : ∃ W1, W1 = W.setCell ⟨w.heap.size + 1, 0, none⟩ (.int .i64 ((at' : Int) + (pre.length : Int) + 1)) := ⟨_, rfl⟩
  have q1 : Chg (fun j => j = w.heap.size + 1) W W1 := by rw [hW1]; exact chg_setCell (S := fun j => j = w.heap.size + 1) rfl _ _ _
  have z1 : W1.heap.size = W.heap.size := by rw [hW1]; simp [World.setCell]
  have q2 : Chg (fun j => j = w.heap.size + 1) W (W1.alloc (.cells Z.toArray 57)) := q1.step (chg_alloc _ _)
  have hbz : (W1.alloc (.cells Z.toArray 57)).heap[W1.heap.size]? = some (.cells Z.toArray 57 (0, 0)) := heap_alloc_last _ _
  obtain ⟨W3, hW3⟩ : ∃ W3, W3 = (W1.alloc (.cells Z.toArray 57)).setCells W1.heap.size 0 (bys ((bs.drop (64 * pre.length)).take 64)) := ⟨_, rfl⟩
  have q3 : Chg (fun j => j = w.heap.size + 1) W W3 := by
    rw [hW3]
    refine q2.trans (chg_setCells (S := fun j => j = w.heap.size + 1 ∨ W.heap.size ≤ j) (.inr (by omega)) _ _ _)
  have hpl : ((bs.drop (64 * pre.length)).take 64).length = m := by simp; omega
  have hm64 : m ≤ 64 := by omega
  have hpart : splice Z 0 (bys ((bs.drop (64 * pre.length)).take 64)) = bys (part bs pre.length) := by rw [hZ, bys_splice']; rfl
  have hb3 : W3.heap[W1.heap.size]? = some (.cells (bys (part bs pre.length)).toArray 57 (0, 0)) := by
    rw [hW3, heap_setCells_same _ _ _ _ _ _ hbz (by rw [bys_len, hpl, hZl]; omega), hpart]
  have hd1 : W1.heap[w.heap.size + 1]? = some (.cells #[.int .i64 ((at' : Int) + (pre.length : Int) + 1)] 3 (0, 0)) := by
    rw [hW1, heap_setCell_same W (w.heap.size + 1) 0 _ _ _ b2]
    rfl
  have hn1 : ∀ k, Foot d s l v' k → k ≠ w.heap.size + 1 := fun k hk => by
    rcases hk with hk | hk | hk | hk
    · have := hds k (.inl hk); omega
    · have := hds k (.inr (.inl hk)); omega
    · have := hds k (.inr (.inr hk)); omega
    · exact (h3' k hk).2.1
  have hd3 : DkAt W3 d s l v' n (A.putsTo at' bs pre.length) := h1.apart q3 fun k hk => hn1 k hk
  obtain ⟨p1, p2, p3⟩ := putsTo_bounds at' bs pre.length A
  have hWr := Write_yes hd3 (i := at' + pre.length + 1) (S := part bs pre.length) hi (part_len _ _) (by omega) (by omega)
  have hgW : g < w.heap.size := by
    have := hr 0 (b8 (bs.getD 0 0)) (by simp [bys]; exact ⟨bs.getD 0 0, by simp [show 0 < bs.length by omega], rfl⟩)
    exact World.block_lt_of_cell? _ _ this
  refine ⟨W1, W3, hW1, hW3, ?_, ?_, ?_, ?_, ?_, ?_, ?_, ?_, ?_⟩
  · simp [World.cell?, b2]
  · simp [World.frozen?, b2]
  · intro j u hu
    rw [Addr.add_mid]
    have hj : j < m := by
      have := (List.getElem?_eq_some_iff.1 hu).1
      rw [bys_len, hpl] at this
      exact this
    have hu2 : (bys bs)[64 * pre.length + j]? = some u := by
      rw [bys_sec, List.getElem?_take, List.getElem?_drop] at hu
      split at hu
      · exact hu
      · cases hu
    have hcw := hr (64 * pre.length + j) u hu2
    rw [← Nat.add_assoc] at hcw
    rw [← hcw]
    have e1 : W.heap[g]? = w.heap[g]? := h2.block g hgW hg
    have e2 : (W1.alloc (.cells Z.toArray 57)).heap[g]? = W.heap[g]? := q2.block g (Nat.lt_of_lt_of_le hgW h2.size) (by omega)
    exact World.cell?_of_block (e2.trans e1)
  · exact there_blk hbz 0 64 (by omega)
  · rw [bys_len, hpl]
  · have : W3.heap[w.heap.size]? = some (.cells #[.pointer (some ⟨d, 0, none⟩)] 25 (0, 0)) := (q3.block _ (by omega) (by omega)).trans b1
    simp [World.cell?, this]
  · have : W3.heap[w.heap.size + 1]? = some (.cells #[.int .i64 ((at' : Int) + (pre.length : Int) + 1)] 3 (0, 0)) := by
      rw [hW3, heap_setCells_other _ _ _ _ _ (by omega), Below.heap_alloc _ _ _ (by omega)]
      exact hd1
    simp [World.cell?, this]
  · have := rangeAt_blk hb3 0 64
    rwa [List.drop_zero, List.take_of_length_le (by rw [bys_len, part_len]; exact Nat.le_refl _)] at this
  · have e : ((at' + pre.length + 1 : Nat) : Int) = (at' : Int) + (pre.length : Int) + 1 := by omega
    rw [e] at hWr
    refine hWr.mono ?_
    rintro en w4 ⟨rfl, _, v'', g1, g2, g3⟩
    have q4 : Chg (fun j => Foot d s l v j ∨ w.heap.size ≤ j) W w4 := (q3.mono fun k _ hk => .inr (by omega)).trans (g2.mono fun k _ hk => by
      rcases hk with hk | hk | hk | hk
      · exact .inl (.inl (.inl hk))
      · exact .inl (.inl (.inr (.inl hk)))
      · exact .inl (.inl (.inr (.inr (.inl hk))))
      · rcases h3 k hk with h | h
        · exact .inl (.inl (.inr (.inr (.inr h))))
        · exact .inl (.inr h))
    have hz3 : W.heap.size ≤ W3.heap.size := q3.size
    have hne : ∀ k, v''.ownBlock = some k → k ≠ w.heap.size ∧ k ≠ w.heap.size + 1 ∧ k ≠ w.heap.size + 1 + 1 ∧ k ≠ w.heap.size + 1 + 1 + 1 := fun k hk => by
      rcases g3 k hk with h | h
      · exact h3' k h
      · omega
    have hnf : ∀ k, k = w.heap.size ∨ k = w.heap.size + 1 ∨ k = w.heap.size + 1 + 1 ∨ k = w.heap.size + 1 + 1 + 1 → ¬ Foot d s l v' k := fun k hk hf => by
      rcases hf with hf | hf | hf | hf
      · have := hds k (.inl hf); omega
      · have := hds k (.inr (.inl hf)); omega
      · have := hds k (.inr (.inr hf)); omega
      · have := h3' k hf; omega
    refine ⟨rfl, KeepsFrom.of_chg (S := fun j => j = w.heap.size + 1 ∨ Foot d s l v' j) ?_ ?_, v'', ?_, ?_, ?_, hne, ?_, ?_, ?_, ?_⟩
    · exact (q3.mono fun k _ hk => .inl hk).trans (g2.mono fun k _ hk => .inl (.inr hk))
    · intro k hBk hk hlk
      rcases hk with hk | hk
      · omega
      · exact h1.isCells k hk
    · rw [List.length_append, List.length_singleton]
      have e2 : A.putsTo at' bs (pre.length + 1) = Dk.DV.writes (at' + pre.length + 1) (part bs pre.length) (A.putsTo at' bs pre.length) := by
        show Dk.DV.writes (at' + 1 + pre.length) _ _ = _
        rw [show at' + 1 + pre.length = at' + pre.length + 1 by omega]
      rw [e2]
      exact g1
    · exact h2.trans q4
    · intro k hk
      rcases g3 k hk with h | h
      · exact h3 k h
      · exact .inr (by have := h2.size; omega)
    · exact (g2.block _ (by omega) (hnf _ (.inl rfl))).trans ((q3.block _ (by omega) (by omega)).trans b1)
    · rw [List.length_append, List.length_singleton]
      have : W3.heap[w.heap.size + 1]? = some (.cells #[.int .i64 ((at' : Int) + (pre.length : Int) + 1)] 3 (0, 0)) := by
        rw [hW3, heap_setCells_other _ _ _ _ _ (by omega), Below.heap_alloc _ _ _ (by omega)]
        exact hd1
      rw [show ((at' + (pre.length + 1) : Nat) : Int) = (at' : Int) + (pre.length : Int) + 1 by omega]
      exact (g2.block _ (by omega) (hnf _ (.inr (.inl rfl)))).trans this
    · exact (g2.block _ (by omega) (hnf _ (.inr (.inr (.inl rfl))))).trans ((q3.block _ (by omega) (by omega)).trans b3)
    · exact (g2.block _ (by omega) (hnf _ (.inr (.inr (.inr rfl))))).trans ((q3.block _ (by omega) (by omega)).trans b4)
set_option maxRecDepth 100000 in
set_option maxHeartbeats 4000000 in
theorem write_any (h : DkAt w d s l v n A) {slot c : Nat} {a : Option Addr} {bs : List Int} (hs : slot < 2) (hb : BytesAt w a bs) (hl : bs.length ≤ 64 * (n / 2 - 1)) (hc : bs.length ≤ c) (hfo : ∀ x, 0 < bs.length → a = some x → ¬ Foot d s l v x.block) (hw : A.wait.length ≤ 100000) (ho : A.ops ≤ 100000) :
    Calls Try.prog 19 #[.pointer (some ⟨d, 0, none⟩), .int .i64 (slot : Int), .slice a bs.length c] w (Did d s l v n (A.putsTo (slot * (n / 2)) bs ((bs.length + 63) / 64)) w) := by
  refine (callsIn_wide (n := 3)).1 ?_
  refine callsIn_of_wp_marks Try.func19 rfl trivial ?_ rfl
  simp only [Try.ntmps19, List.size_toArray, List.length_cons, List.length_nil, Nat.reduceAdd, Nat.reduceSub, Array.replicate_succ, Array.replicate_zero, List.push_toArray, List.append_toArray, List.nil_append, List.cons_append]
  obtain ⟨w1, hw1⟩ : ∃ w1, w1 = w.alloc (.cells #[.pointer (some ⟨d, 0, none⟩)] 25) := ⟨_, rfl⟩
  have hc1 : Chg (fun _ => False) w w1 := by rw [hw1]; exact chg_alloc _ _
  have h1 := h.apart hc1 (fun _ _ h => h)
  have HH := Lib.hid (headerAt_any h1 slot hs)
  have hns := h.fits.small
  have hat : slot * (n / 2) ≤ 500 := by
    have : slot = 0 ∨ slot = 1 := by omega
    rcases this with rfl | rfl <;> omega
  have HAT2 : Hid (slot * (n / 2) + 1 + (n / 2 - 1) ≤ n ∨ n / 2 = 0) := Lib.hid (by
    have : slot = 0 ∨ slot = 1 := by omega
    rcases this with rfl | rfl <;> omega)
  have hL2 : bs.length ≤ 64 * 500 := by omega
  obtain ⟨at', hat'⟩ : ∃ x, x = slot * (n / 2) := ⟨_, rfl⟩
  rw [← hat'] at hat HH HAT2 ⊢
  obtain ⟨W0, hW0⟩ : ∃ W0, W0 = ((w1.alloc (.cells #[.int .i64 (at' : Int)] 3)).alloc (.cells #[.slice a bs.length c] 29)).alloc (.cells #[.int .i64 64] 3) := ⟨_, rfl⟩
  have hz0 : W0.heap.size = w.heap.size + 1 + 1 + 1 + 1 := by rw [hW0, hw1]; simp
  have hcW : Chg (fun _ => False) w W0 := by rw [hW0]; exact ((hc1.step (chg_alloc _ _)).step (chg_alloc _ _)).step (chg_alloc _ _)
  have h0 : WrAt w d s l v n A at' bs a c [] W0 := by
    refine ⟨v, h.apart hcW (fun _ _ h => h), hcW.mono fun _ _ h => h.elim, fun k hk => .inl hk, fun k hk => ?_, ?_, ?_, ?_, ?_⟩
    · have := h.lt k (.inr (.inr (.inr hk)))
      omega
    · rw [hW0, Below.heap_alloc _ _ _ (by rw [hw1]; simp <;> omega), Below.heap_alloc _ _ _ (by rw [hw1]; simp <;> omega), Below.heap_alloc _ _ _ (by rw [hw1]; simp <;> omega), hw1]
      exact heap_alloc_last w _
    · rw [hW0, Below.heap_alloc _ _ _ (by rw [hw1]; simp <;> omega), Below.heap_alloc _ _ _ (by rw [hw1]; simp <;> omega)]
      have := heap_alloc_last w1 (.cells #[.int .i64 (at' : Int)] 3)
      rw [show w1.heap.size = w.heap.size + 1 by rw [hw1]; simp] at this
      exact this
    · rw [hW0, Below.heap_alloc _ _ _ (by rw [hw1]; simp <;> omega)]
      have := heap_alloc_last (w1.alloc (.cells #[.int .i64 (at' : Int)] 3)) (.cells #[.slice a bs.length c] 29)
      rw [show (w1.alloc (.cells #[.int .i64 (at' : Int)] 3)).heap.size = w.heap.size + 1 + 1 by rw [hw1]; simp] at this
      exact this
    · rw [hW0]
      have := heap_alloc_last ((w1.alloc (.cells #[.int .i64 (at' : Int)] 3)).alloc (.cells #[.slice a bs.length c] 29)) (.cells #[.int .i64 64] 3)
      rw [show ((w1.alloc (.cells #[.int .i64 (at' : Int)] 3)).alloc (.cells #[.slice a bs.length c] 29)).heap.size = w.heap.size + 1 + 1 + 1 by rw [hw1]; simp] at this
      exact this
  have HW1 := Lib.hid hw1
  have HW0 := Lib.hid hW0
  have H0 := Lib.hid h0
  have HZ0 := Lib.hid hz0
  have HBT := Lib.hid hb
  have HOLD := Lib.hid h
  have HBD := Lib.hid (And.intro hw ho)
  obtain ⟨g, off, hga⟩ : ∃ g off, 0 < bs.length → a = some ⟨g, off, none⟩ ∧ w.rangeAt g off (bys bs) ∧ ¬ Foot d s l v g := by
    rcases hb with rfl | ⟨g, off, h1, h2⟩
    · exact ⟨0, 0, fun h => by simp at h⟩
    · exact ⟨g, off, fun h => ⟨h1, h2, hfo _ h h1⟩⟩
  have HGA := Lib.hid hga
  have HL := Lib.hid hl
  have HC := Lib.hid hc
  clear hw1 hc1 h1 hs hW0 hz0 hcW h0 hb h hw ho hga hl hat' hc hfo
  gi_wp2_with fail
  rw [← HW1.out]
  refine ⟨trivial, (callsIn_wide.2 HH.out).mono ?_⟩
  rintro e w' ⟨rfl, rfl⟩
  clear HH
  gi_wp2_with fail
  refine ⟨trivial, (callsIn_wide.2 (chunk_maker _ _ _ _)).mono ?_⟩
  rintro e w' ⟨rfl, rfl⟩
  have hs1 : w1.heap.size = w.heap.size + 1 := by rw [HW1.out]; simp
  gi_wp2_with fail
  rw [← HW0.out]
  have hIe : Hid (∀ pre W, WrAt w d s l v n A at' bs a c pre W → W.cell? ⟨w.heap.size + 1 + 1, 0, none⟩ = some (.slice a bs.length c) ∧ W.cell? ⟨w.heap.size + 1 + 1 + 1, 0, none⟩ = some (.int .i64 64)) := Lib.hid fun pre W h => by
    obtain ⟨v', h1, h2, h3, h3', b1, b2, b3, b4⟩ := h
    simp [World.cell?, b3, b4]
  have hId : Hid (∀ pre W, WrAt w d s l v n A at' bs a c pre W → WrAt w d s l v n A at' bs a c pre W.drew) := Lib.hid fun pre W h => by
    obtain ⟨v', h1, h2, h3, h3', b⟩ := h
    exact ⟨v', h1.apart Chg.drew (fun _ _ h => h), h2.step Chg.drew, h3, h3', b⟩
  refine range_wideD (n := 3) (by omega) (gf := 38) (lb := #[.pointer (some ⟨w.heap.size + 1 + 1, 0, none⟩), .pointer (some ⟨w.heap.size + 1 + 1 + 1, 0, none⟩)]) (by simp [Act.eval]) enters_chunk (encs := encPiece g off) (fun _ => rfl)
    (Piece bs.length) (fun pre => bs.length ≤ 64 * pre.length ∧ 64 * pre.length < bs.length + 64) (fun _ => True) (WrAt w d s l v n A at' bs a c) (fun _ _ _ => False)
    (chunk_iter _ (by omega) (w.heap.size + 1 + 1) (w.heap.size + 1 + 1 + 1) g off bs.length c a (by omega) HC.out (fun h => (HGA.out h).1) _ hIe.out) hId.out (WrAt.own _ (by rw [HZ0.out]; exact Nat.le_refl _)) (fun _ _ _ _ _ hs _ _ => hs) H0.out
    (fun x => { tmps := #[.pointer (some ⟨d, 0, none⟩), .int .i64 (slot : Int), .slice a bs.length c, .pointer (some ⟨w.heap.size, 0, none⟩), undef, undef, .pointer (some ⟨w.heap.size + 1, 0, none⟩), .slice (some ⟨g, off + 64 * x.1, none⟩) x.2 x.2, undef, .pointer (some ⟨d, 0, none⟩), .int .i64 (slot : Int), .int .i64 (at' : Int), .slice a bs.length c, .func (.func 38) #[] #[.pointer (some ⟨w.heap.size + 1 + 1, 0, none⟩), .pointer (some ⟨w.heap.size + 1 + 1 + 1, 0, none⟩)], .slice (some ⟨g, off + 64 * x.1, none⟩) x.2 x.2, undef, undef, undef, undef, undef, undef, undef, undef, undef], defers := [] }) ?assign ?body ?done ?stop
  case assign =>
    rintro l0 ⟨i, m⟩ W K hK
    dsimp only [encPiece] at hK ⊢
    gi_wp2
    exact hK
  case stop =>
    rintro D cc pre W hD hSp hIx
    exact hIx.elim
  case done =>
    intro D ys W hD hys hN hK
    have hlen : ys.length = (bs.length + 63) / 64 := by omega
    have HEN := Lib.hid (hN.done (y := .deferred none) hK rfl (by have := HZ0.out; omega))
    rw [hlen] at HEN
    gi_wp2
    refine ⟨by simp, .inl ⟨_, _, rfl, run_takeDeferred (w := W) hK, ?_⟩⟩
    refine ⟨_, results_none rfl _ _ _, ?_⟩
    exact HEN.out
  case body =>
    rintro l0 pre ⟨i, m⟩ W hN ⟨hT1, hT2, hT3⟩
    dsimp only at hT2 hT3
    subst hT2
    obtain ⟨Z, hZ⟩ : ∃ Z, Z = bys (List.replicate 64 0) := ⟨_, rfl⟩
    have zs := fun w => (zero_of_info zero_sector).1 w
    rw [← hZ] at zs
    have hga := HGA.out (by omega)
    have hdb := HBD.out
    obtain ⟨W1, W3, hW1, hW3, c6, f6, hsrc, hth, hpl, cd, cat, rz, hWR⟩ := hN.step (B := W0.heap.size) (g := g) (off := off) (m := m) hZ hT1 hT3 hga.2.1 hga.2.2 (by have := HL.out; have := HAT2.out; omega) (by omega) (by omega) (by rw [HZ0.out]; exact Nat.le_refl _) (fun k hk => HOLD.out.lt k (by rcases hk with h | h | h; exact .inl h; exact .inr (.inl h); exact .inr (.inr (.inl h))))
    have hz1 : W1.heap.size = W.heap.size := by rw [hW1]; simp [World.setCell]
    rw [hz1] at hth rz hW3
    have HW := Lib.hid hWR
    have HW1 := Lib.hid hW1
    have HW3 := Lib.hid hW3
    have hat2 : (at' : Int) ≤ 500 := by omega
    have hpre : (pre.length : Int) ≤ 100000 := by omega
    have hcp : Hid (∀ (o : Oper) (aa : Act) (x y : Operand), o.op = .call { callee := .builtin .copy, args := #[x, y], argTypes := #[29, 29] } → aa.eval x = .slice (some ⟨W.heap.size, 0, none⟩) 64 64 → aa.eval y = .slice (some ⟨g, off + 64 * pre.length, none⟩) m m →
        (execOp aa.eval o).run Try.prog (W1.alloc (.cells Z.toArray 57)) = .ok (.value (goInt (bys ((bs.drop (64 * pre.length)).take 64)).length)) W3) := Lib.hid (by
      intro o aa x y ho hx hy
      have hr := run_copy_cells (P := Try.prog) (W1.alloc (.cells Z.toArray 57)) 29 29 o.type 5 W.heap.size 0 64 64 ⟨g, off + 64 * pre.length, none⟩ m m _ Try.underlying29 size_byte (by rw [hpl]; show m = min m 64; omega) hsrc (fun j hj => (hth j (by rw [hpl] at hj; omega)).1) (fun j hj => (hth j (by rw [hpl] at hj; omega)).2) (bys_one _)
      unfold execOp
      simp only [ho, resolve, invoke, builtin, Sem.run_bind, Sem.run_pure, Result.andThen_ok, List.map_toArray, List.map_cons, List.map_nil, hx, hy, hr, hW3])
    have hsz : (Try.prog.info? 57).map (·.size) = some (bys (part bs pre.length)).length := by rw [bys_len, part_len]; exact size_sector
    clear hW1 hW3 hWR hN hT3 hga hdb hsrc hth hpl hZ hIe hId
    generalize bys (part bs pre.length) = PB at *
    gi_wp2_with (first | (rw [← HW1.out]; refine Rf.listIn_run (goInt (bys ((bs.drop (64 * pre.length)).take 64)).length) W3 (by intro c hc; cases hc) (hcp.out _ _ (.tmp 17) (.tmp 18) (by with_reducible rfl) (by rfl) (by rfl)) (by rfl) ?_) | (refine Rf.listIn_run (.agg PB.toArray) W3 (by intro c hc; cases hc) (run_load_op 57 (.tmp 8) (by with_reducible rfl) W.heap.size 0 (by rfl) PB _ rz Try.underlying57 (by rfl) hsz) (by rfl) ?_))
    refine ⟨trivial, CallsIn.inRound l0 (callsIn_wide.2 (HW.out.mono ?_))⟩
    rintro e w4 ⟨rfl, hkf, hwr⟩
    have HF := Lib.hid (And.intro hkf hwr)
    clear hkf hwr
    gi_wp2
    exact HF.out
end
end Go.Proofs.Ytienhidbgohhcaa
